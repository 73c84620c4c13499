/- Who speaks;the walk of only,whoever is asked. -/
import Derived.Test.YtolfleeidpeomaaGreatDoorM36
import Derived.Test.YtolfleeidpeomaaGreatDoorM3
set_option maxRecDepth 100000
set_option maxHeartbeats 4000000
namespace Go.Proofs.YtolfleeidpeomaaGreatDoor
open Go.RowKit
namespace Sm
abbrev oG (Tb L:Nat):Obj:=.cells #[.slice (some ⟨Tb,0,none⟩) L L] 69 (0,0)
abbrev nG (i:Nat):Obj:=.cells #[.int .i64 (i:Int)] 3 (0,0)
theorem acu (B:Nat)(Tb L V I k:Nat)(i:Nat)(cs:List Value)(ts:Nat→Tk)(w:World)(hT:Hid (gW B w Tb L cs ts))(hV:Hid (w.heap[V]?=some (oG Tb L)))(hI:Hid (w.heap[I]?=some (nG i)))(hk:k<L)(hf:Hid ((ts k).sends.length≤17000000000000)) :
  Calls Tryz.prog 43 #[.int .i64 (k:Int),.pointer (some ⟨V,0,none⟩),.pointer (some ⟨I,0,none⟩)] w fun e w'=>e=.returned (.bool (decide (i ∈ (ts k).sends)))∧w.grownBy w' none:=by
 obtain ⟨sn,rc,cl,z0,z1,z2,o1,o2,o3⟩:=hT.out.row k hk
 have HN:Hid (BH w (ts k).sends sn):=BI o1
 obtain ⟨sa,sc,hsn⟩:=il o1
 have c0:w.cell? ⟨V,0,none⟩=some (.slice (some ⟨Tb,0,none⟩) L L):=by simp [World.cell?,hV.out]
 have c1:w.cell? ⟨I,0,none⟩=some (.int .i64 (i:Int)):=by simp [World.cell?,hI.out]
 have c2:w.cell? ⟨Tb,k * 3,none⟩=some sn:=by simp [World.cell?,hT.out.blk,z0]
 rw [hsn] at c2 HN
 have hkp:(k:Int)<(L:Int):=by omega
 clear z0 z1 z2 o1 o2 o3 hsn
 go_enter Tryz.func43,Tryz.ntmps43
 go_wp2_with fail
 refine wp_region_held_drew (S:=fun w'=>w'.cell? ⟨V,0,none⟩=some (.slice (some ⟨Tb,0,none⟩) L L)∧w'.cell? ⟨I,0,none⟩=some (.int .i64 (i:Int))∧w'.cell? ⟨Tb,k * 3,none⟩=some (.slice sa (ts k).sends.length sc)) (by kernel_rfl) ⟨c0,c1,c2⟩ (fun hHeld=>?_)
 refine tk 0 (v:=?_) rfl ?_ (by assumption) ?_
 rotate_left
 ·intro w hSw
  (try dsimp only at hSw)
  go_simp
  (try with_reducible rfl)
 (try go_frame)
 refine tk 1 (v:=?_) rfl ?_ (by assumption) ?_
 rotate_left
 ·intro w hSw
  (try dsimp only at hSw)
  go_simp
  (try with_reducible rfl)
 (try go_frame)
 refine tk 2 (v:=?_) rfl ?_ (by assumption) ?_
 rotate_left
 ·intro w hSw
  (try dsimp only at hSw)
  go_simp
  (try with_reducible rfl)
 (try go_frame)
 refine tk 3 (v:=?_) rfl ?_ (by assumption) ?_
 rotate_left
 ·intro w hSw
  (try dsimp only at hSw)
  go_simp
  (try with_reducible rfl)
 (try go_frame)
 refine tk 4 (v:=?_) rfl ?_ (by assumption) ?_
 rotate_left
 ·intro w hSw
  (try dsimp only at hSw)
  go_simp
  (try with_reducible rfl)
 (try go_frame)
 refine tk 5 (v:=?_) rfl ?_ (by assumption) ?_
 rotate_left
 ·intro w hSw
  (try dsimp only at hSw)
  go_simp
  (try with_reducible rfl)
 (try go_frame)
 refine wpAnyH_ready (rs:=[6]) (by kernel_rfl) (by simp) ?_
 refine AllReadyH.cons (o:=_) rfl (fun K' hK=>?_) AllReadyH.nil
 go_simp
 refine (Kg (ts k).sends _ i w.drew (by obtain ⟨a,c,e,h⟩:=HN.out;exact ⟨a,c,e,h⟩) (by have:=hf.out;omega)).mono ?_
 rintro e w1 ⟨hw1,rfl⟩
 subst hw1
 refine hK.out _ _ ⟨c0,c1,c2⟩ (fun hHeld=>?_)
 clear hK
 refine tk 7 (v:=?_) rfl ?_ (by assumption) ?_
 rotate_left
 ·intro w hSw
  (try dsimp only at hSw)
  go_simp
  (try with_reducible rfl)
 (try go_frame)
 refine wpAnyH_done (by kernel_rfl) ?_ _
 dsimp only [List.getElem_toArray,List.getElem_cons_succ,List.getElem_cons_zero]
 go_wp2
 go_ret
 exact ⟨rfl,⟨rfl,rfl,rfl,Nat.le_refl _,fun _ _ _=>rfl⟩⟩
theorem acv (B:Nat)(Tb L V I k:Nat)(i:Nat)(cs:List Value)(ts:Nat→Tk)(w:World)(hT:Hid (gW B w Tb L cs ts))(hV:Hid (w.heap[V]?=some (oG Tb L)))(hI:Hid (w.heap[I]?=some (nG i)))(hk:k<L)(hf:Hid ((ts k).recvs.length≤17000000000000)) :
  Calls Tryz.prog 45 #[.int .i64 (k:Int),.pointer (some ⟨V,0,none⟩),.pointer (some ⟨I,0,none⟩)] w fun e w'=>e=.returned (.bool (decide (i ∈ (ts k).recvs)))∧w.grownBy w' none:=by
 obtain ⟨sn,rc,cl,z0,z1,z2,o1,o2,o3⟩:=hT.out.row k hk
 have HN:Hid (BH w (ts k).recvs rc):=BI o2
 obtain ⟨sa,sc,hsn⟩:=il o2
 have c0:w.cell? ⟨V,0,none⟩=some (.slice (some ⟨Tb,0,none⟩) L L):=by simp [World.cell?,hV.out]
 have c1:w.cell? ⟨I,0,none⟩=some (.int .i64 (i:Int)):=by simp [World.cell?,hI.out]
 have c2:w.cell? ⟨Tb,k * 3+1,none⟩=some rc:=by simp [World.cell?,hT.out.blk,z1]
 rw [hsn] at c2 HN
 have hkp:(k:Int)<(L:Int):=by omega
 clear z0 z1 z2 o1 o2 o3 hsn
 go_enter Tryz.func45,Tryz.ntmps45
 go_wp2_with fail
 refine wp_region_held_drew (S:=fun w'=>w'.cell? ⟨V,0,none⟩=some (.slice (some ⟨Tb,0,none⟩) L L)∧w'.cell? ⟨I,0,none⟩=some (.int .i64 (i:Int))∧w'.cell? ⟨Tb,k * 3+1,none⟩=some (.slice sa (ts k).recvs.length sc)) (by kernel_rfl) ⟨c0,c1,c2⟩ (fun hHeld=>?_)
 refine tk 0 (v:=?_) rfl ?_ (by assumption) ?_
 rotate_left
 ·intro w hSw
  (try dsimp only at hSw)
  go_simp
  (try with_reducible rfl)
 (try go_frame)
 refine tk 1 (v:=?_) rfl ?_ (by assumption) ?_
 rotate_left
 ·intro w hSw
  (try dsimp only at hSw)
  go_simp
  (try with_reducible rfl)
 (try go_frame)
 refine tk 2 (v:=?_) rfl ?_ (by assumption) ?_
 rotate_left
 ·intro w hSw
  (try dsimp only at hSw)
  go_simp
  (try with_reducible rfl)
 (try go_frame)
 refine tk 3 (v:=?_) rfl ?_ (by assumption) ?_
 rotate_left
 ·intro w hSw
  (try dsimp only at hSw)
  go_simp
  (try with_reducible rfl)
 (try go_frame)
 refine tk 4 (v:=?_) rfl ?_ (by assumption) ?_
 rotate_left
 ·intro w hSw
  (try dsimp only at hSw)
  go_simp
  (try with_reducible rfl)
 (try go_frame)
 refine tk 5 (v:=?_) rfl ?_ (by assumption) ?_
 rotate_left
 ·intro w hSw
  (try dsimp only at hSw)
  go_simp
  (try with_reducible rfl)
 (try go_frame)
 refine wpAnyH_ready (rs:=[6]) (by kernel_rfl) (by simp) ?_
 refine AllReadyH.cons (o:=_) rfl (fun K' hK=>?_) AllReadyH.nil
 go_simp
 refine (Kg (ts k).recvs _ i w.drew (by obtain ⟨a,c,e,h⟩:=HN.out;exact ⟨a,c,e,h⟩) (by have:=hf.out;omega)).mono ?_
 rintro e w1 ⟨hw1,rfl⟩
 subst hw1
 refine hK.out _ _ ⟨c0,c1,c2⟩ (fun hHeld=>?_)
 clear hK
 refine tk 7 (v:=?_) rfl ?_ (by assumption) ?_
 rotate_left
 ·intro w hSw
  (try dsimp only at hSw)
  go_simp
  (try with_reducible rfl)
 (try go_frame)
 refine wpAnyH_done (by kernel_rfl) ?_ _
 dsimp only [List.getElem_toArray,List.getElem_cons_succ,List.getElem_cons_zero]
 go_wp2
 go_ret
 exact ⟨rfl,⟨rfl,rfl,rfl,Nat.le_refl _,fun _ _ _=>rfl⟩⟩
theorem Si (s:ByteArray)(w:World)(hlim:s.size≤281474976710656) :
  Calls Tryz.prog 41 #[.string s] w fun e w'=>e=.returned (.string s)∧w.grownBy w' none:=by
 go_enter Tryz.func41,Tryz.ntmps41
 go_wp2_with (go_at_call 75;refine (Tryz.stringslite_Clone _ _ hlim).mono ?_;rintro e w1 ⟨rfl,hb⟩)
 go_ret
 exact ⟨rfl,⟨hb.os,hb.tape,hb.output,hb.size,fun k hk _=>hb.block k hk⟩⟩
def Found (l:List Sy.Df)(sp:Nat→Bool)(j:Nat)(nm:ByteArray):Prop:=((List.range j).filter sp=[]∧nm=⟨#[]⟩)∨∃ x,(List.range j).filter sp=[x]∧nm=(bJ l x).name∧x<j
theorem acw {sp:Nat→Bool}{x y:Nat}{j L:Nat}(h:(List.range j).filter sp=[x,y]∨∃ z t,(List.range j).filter sp=z :: t∧2≤(z :: t).length)(hj:j≤L):2≤((List.range L).filter sp).length:=by
 have hs:((List.range j).filter sp).length≤((List.range L).filter sp).length:=by
  have:(List.range j).Sublist (List.range L):=List.range_sublist.2 hj
  exact (this.filter _).length_le
 rcases h with h | ⟨z,t,h,h2⟩
 ·rw [h] at hs;simpa using hs
 ·rw [h] at hs;omega
theorem acx (B:Nat)(l:List Sy.Df)(a:Option Addr)(c M i:Nat)(g:FuncId)(mV:Array Value)(sp:Nat→Bool)(w:World)(r:Except Int Value)(hD:Hid (dS B w l a))(hB:B≤w.heap.size)(hN:Hid (∀ (k:Nat) (d:Sy.Df),l[k]?=some d→d.name≠⟨#[]⟩∧d.name.size≤12))(hl:l.length≤100000)
  (hcf:∀ (vs:Array Value) (w:World),(callFunc g vs).run Tryz.prog w=.ok (.enter g vs) w) (hS:Hid (∀ (k:Nat) (w':World),k<l.length→w.grownBy w' none→Calls Tryz.prog g (#[.int .i64 (k:Int)]++mV) w' fun e w''=>e=.returned (.bool (sp k))∧w'.grownBy w'' none))
  (hr:Hid (r=match Sm.only l sp with | .ok s=>.ok (.string s) | .error e=>.error e)) :
  Calls Tryz.prog 42 #[wT l.length a c M (i:Int),.func (.func g) #[] mV] w fun e w'=>Fe (i:Int) r w e w':=by
 obtain ⟨L,hL⟩:∃ L,L=l.length:=⟨_,rfl⟩
 have HL:Hid (L=l.length):=hL
 have hl':L≤100000:=by rw [hL];exact hl
 obtain ⟨W0,hW0⟩:∃ W0,W0=w.alloc (nC L a c M (i:Int)):=⟨_,rfl⟩
 have aY:Hid (w.grownBy W0 none):=by rw [hW0];exact bn _
 have jo:Hid (W0.heap[w.heap.size]?=some (nC L a c M (i:Int))):=by rw [hW0];exact heap_alloc_new _ _
 have HW0:Hid (W0=_):=hW0
 rw [← hL]
 clear hW0 hL hl
 go_enter Tryz.func42,Tryz.ntmps42
 go_wp2
 rw [← HW0.out]
 go_loopw [5,12] (fun s q wr=>∃ (j:Nat) (nm:ByteArray),s=.string nm∧q=.int .i64 j∧j≤L∧Hid (W0.grownBy wr none)∧Hid (Found l sp j nm)) (fun _ q _=>L - (intOf q).toNat)
 case atStart=>exact ⟨0,⟨#[]⟩,rfl,rfl,Nat.zero_le _,World.grownBy.refl _ _,.inl ⟨rfl,rfl⟩⟩
 case round =>
  obtain ⟨j,nm,rfl,rfl,hj,HG,HF⟩:=hrel
  have jQ:Hid (w.grownBy wr none):=aB aY.out HG.out
  have hP:wr.heap[w.heap.size]?=some (nC L a c M (i:Int)):=(HG.out.block _ (lt_of_block jo.out) (by simp)).trans jo.out
  by_cases hlt:j<L
  ·have hj1:j<l.length:=by rw [← HL.out];exact hlt
   obtain ⟨d,hd⟩:∃ d,l[j]?=some d:=⟨_,List.getElem?_eq_getElem hj1⟩
   obtain ⟨b,off,pa,pc,ba,bc,ha,hb,k0,k1,k2,k3,k4,k5,k6,k7,k8,_⟩:=(hD.out.same (dK jQ.out (by simp) hB)).2 j d hd
   have ik:bJ l j=d:=by simp [bJ,hd]
   have hbw:b<wr.heap.size:=by have:=jQ.out.size;omega
   have HJ:Hid (j+1≤L):=hlt
   have hjp:(j:Int)<(L:Int):=by omega
   have ax:Hid (w.grownBy (wr.alloc (aN d pa pc ba bc)) none):=aB jQ.out (bn _)
   have HC:=hid (hS.out j _ hj1 ax.out)
   have HNd:=hid (hN.out j d hd)
   have sH:=hid ik
   have xm:=lt_of_block hP
   have HP:=hid hP
   subst ha
   clear hd ik hP
   go_wp2_with fail
   refine HC.out.mono ?_
   rintro e w1 ⟨rfl,hg1⟩
   have ma:Hid (W0.grownBy w1 none):=aB (aB HG.out (bn _)) hg1
   have hb1:w1.heap[wr.heap.size]?=some (aN d pa pc ba bc):=(hg1.block _ (by simp) (by simp)).trans (heap_alloc_new _ _)
   have hp1:w1.heap[w.heap.size]?=some (nC L (some ⟨b,off,none⟩) c M (i:Int)):=(hg1.block _ (by simp;omega) (by simp)).trans ((Below.heap_alloc _ _ _ xm).trans HP.out)
   obtain ⟨_,n1,_⟩:=eF hb1
   obtain ⟨u0,u1,u2⟩:=gB hp1
   have hrs:(List.range (j+1)).filter sp=(List.range j).filter sp++(if sp j=true then [j] else []):=by rw [List.range_succ,List.filter_append];cases hsp:sp j <;> simp [hsp]
   cases hsp:sp j with
   | false =>
    have fK:Hid (Found l sp (j+1) nm):=by
     rw [hsp] at hrs
     simp at hrs
     rcases HF.out with ⟨h1,h2⟩ | ⟨x,h1,h2,h3⟩
     ·exact .inl ⟨by rw [hrs];exact h1,h2⟩
     ·exact .inr ⟨x,by rw [hrs];exact h1,h2,by omega⟩
    clear hg1 hb1 hp1 hrs hsp
    go_wp2
    go_roundw
    case rel=>exact ⟨j+1,nm,rfl,by go_num,HJ.out,ma,fK⟩
    case measure=>have:=HJ.out;simp [intOf];omega
   | true =>
    rw [hsp] at hrs
    simp only [if_true] at hrs
    rcases HF.out with ⟨h1,h2⟩ | ⟨x,h1,h2,h3⟩
    ·subst h2
     have fK:Hid (Found l sp (j+1) d.name):=.inr ⟨j,by rw [hrs,h1];rfl,by rw [sH.out],by omega⟩
     have hdn:d.name.size≤281474976710656:=by have:=HNd.out.2;omega
     clear hg1 hb1 hp1 hrs hsp h1 HF
     go_wp2_with (go_at_call 41;refine (Si d.name _ hdn).mono ?_;rintro e w2 ⟨rfl,hg2⟩;have HG2:Hid (W0.grownBy w2 none):=aB ma.out hg2;clear hg2)
     go_wp2
     go_roundw
     case rel=>exact ⟨j+1,d.name,rfl,by go_num,HJ.out,HG2,fK⟩
     case measure=>have:=HJ.out;simp [intOf];omega
    ·have hx:x<l.length:=by have:=HL.out;omega
     have hne:nm≠⟨#[]⟩:=by
      rw [h2]
      have:=hN.out x l[x] (List.getElem?_eq_getElem hx)
      simpa [bJ,List.getElem?_eq_getElem hx] using this.1
     have bX:Hid (r=.error 8):=by
      have h4:2≤((List.range l.length).filter sp).length:=acw (x:=0) (y:=0) (.inr ⟨x,[j],by rw [hrs,h1];rfl,by simp⟩) (by have:=HL.out;have:=HJ.out;omega)
      unfold Hid
      rw [hr.out,Sm.only]
      match hq:(List.range l.length).filter sp with
      | []=>rw [hq] at h4;simp at h4
      | [y]=>rw [hq] at h4;simp at h4
      | y :: z :: t=>rfl
     have hem:nm.toList.isEmpty=false:=by
      cases hq:nm.toList.isEmpty with
      | false=>rfl
      | true =>
       have h5:=Qr nm ⟨#[]⟩
       rw [List.isEmpty_iff.1 hq,show (⟨#[]⟩:ByteArray).toList=[] by kernel_rfl] at h5
       exact absurd (of_decide_eq_true h5.symm) hne
     clear hg1 hb1 hp1 hrs hsp h1 h2 h3 HF hx hne
     go_wp2_with fail
     refine (jy L (some ⟨b,off,none⟩) c M (i:Int) 8 _).mono ?_
     rintro e w9 ⟨rfl,gz⟩
     have HE:Hid (Fe (i:Int) r w (.panicked [aH 8 (i:Int)]) w9):=⟨aB (aB aY.out ma.out) gz,by rw [bX.out]⟩
     clear gz
     go_wp2
     exact ⟨rfl,HE.out⟩
  ·have bX:Hid (r=.ok (.string nm)):=by
    have h2:=HL.out
    unfold Hid
    rw [hr.out,Sm.only]
    rcases HF.out with ⟨h1,h3⟩ | ⟨x,h1,h3,_⟩
    ·rw [show l.length=j by omega,h1,h3]
    ·rw [show l.length=j by omega,h1,h3]
   have hjp:¬ (j:Int)<(L:Int):=by omega
   clear hP
   go_wp2
   go_ret
   exact ⟨jQ.out,by rw [bX.out];rfl⟩
end Sm
namespace Sm
theorem run_append_nothing {P:Program}{w:World}(base:Nat)(t ty e:TypeId)(i:TypeInfo)(size:Nat)(ht:P.underlying t=some (.slice e))(hi:P.info? e=some i)(v:Value)(n:Nat)(xs:List Value)(hown:w.ownsRow base e size v n xs)(ao:Option Addr)(c:Nat) :
  (Builtin.append_ #[t,t] ty #[v,.slice ao 0 c]).run P w=.ok v w:=by
 cases ao with
 | none =>
  rcases hown.2 with ⟨rfl,rfl⟩ | ⟨g,cap,cur,rfl,_,_,hnc,_⟩
  ·simp [Builtin.append_,run_underlying ht,sizeOf,typeInfo,hi,Builtin.lenOf,Builtin.firstCells]
  ·simp [Builtin.append_,run_underlying ht,sizeOf,typeInfo,hi,Builtin.lenOf,Builtin.firstCells,hnc,storeCells]
 | some ad =>
  rcases hown.2 with ⟨rfl,rfl⟩ | ⟨g,cap,cur,rfl,_,_,hnc,_⟩
  ·simp [Builtin.append_,run_underlying ht,sizeOf,typeInfo,hi,Builtin.lenOf,Builtin.firstCells,loadCells,loadCellsFrom]
  ·simp [Builtin.append_,run_underlying ht,sizeOf,typeInfo,hi,Builtin.lenOf,Builtin.firstCells,hnc,storeCells,loadCells,loadCellsFrom]
theorem acz {w:World}{o:Oper}{a:Act}{K:Act→World→Prop}{Q:Exit→Act→World→Prop}(s x:Operand)
  (ho:o.op=.call { callee:=.builtin .append,args:=#[s,x],argTypes:=#[98,98] }) (base:Nat) (v:Value) (xs ns:List Nat) (hs:a.eval s=v) (hown:w.ownsRow base 3 1 v xs.length (bF xs)) (vx:Value) (hx:a.eval x=vx) (hns:∃ Bx,w.ownsRow Bx 3 1 vx ns.length (bF ns)) (hn:xs.length+ns.length≤17000000000000) (hbase:base≤w.heap.size)
  (h:∀ v' w',w'.ownsRow base 3 1 v' (xs++ns).length (bF (xs++ns))→w.grownBy w' v.ownBlock→(∀ k,v'.ownBlock=some k→v.ownBlock=some k∨w.heap.size≤k)→K (a.put o.dst v') w'):o.wp Tryz.prog a w K Q:=by
 obtain ⟨i0,hi,hz0,hz1,hz2⟩:=info_parts Tryz.info3
 obtain ⟨Bx,hns⟩:=hns
 have el:(xs++ns).length=xs.length+ns.length:=by simp
 have en:bF (xs++ns)=bF xs++bF ns:=by simp
 by_cases h0:ns.length=0
 ·obtain ⟨ao,c,hv⟩:=il hns
  rw [h0] at hv
  subst hv
  have hnil:ns=[]:=List.eq_nil_of_length_eq_zero h0
  subst hnil
  have hrun:=run_append_nothing (P:=Tryz.prog) (w:=w) base 98 o.type 3 i0 1 Tryz.underlying98 hi v xs.length _ hown ao c
  unfold Oper.wp
  simp [execOp,ho,resolve,invoke,builtin,hs,hx,hrun,Result.andThen]
  exact (h v w (by simpa using hown) (World.grownBy.refl _ _) (fun k hk=>.inl hk))
 ·rcases hns.2 with ⟨rfl,h1⟩ | ⟨g,cap,cur,rfl,_,hh,hnc,_,hcs,ht⟩
  ·exact absurd h1 h0
  ·have hnews:∀ j u,(bF ns)[j]?=some u→w.cell? ((⟨g,0,none⟩:Addr).add j)=some u:=fun j u hu=>by
    rw [← ht,List.getElem?_take] at hu
    split at hu
    ·have ea:(⟨g,0,none⟩:Addr).add j=⟨g,j,none⟩:=by
      unfold Addr.add
      split
      ·subst_vars;rfl
      ·simp
     rw [ea]
     simp [World.cell?,hh]
     simpa using hu
    ·cases hu
   obtain ⟨v',w',hr,h2,h3,g',cap',hv',h4⟩:=xZ (P:=Tryz.prog) w base 98 o.type 3 i0 _ 1 8 Tryz.underlying98 hi hz0 hz1 hz2 rfl (by decide) v xs.length (bF xs) hown ⟨g,0,none⟩ ns.length cap (bF ns) (by simp) hnews (fun u hu=>by obtain ⟨y,_,rfl⟩:=List.mem_map.1 hu;rfl) (by omega) (by unfold maxLen;omega) (by omega) hbase
   unfold Oper.wp
   simp [execOp,ho,resolve,invoke,builtin,hs,hx,hr,Result.andThen]
   refine (h v' w' (by rw [el,en];exact h2) h3 (fun k hk=>?_))
   rw [hv'] at hk
   simp only [Value.ownBlock,Option.some.injEq] at hk
   subst hk
   rcases h4 with h5 | h5
   ·exact .inl h5
   ·exact .inr (by omega)
theorem Kh {w:World}{ops:Array Oper}{rest:List Oper}{o:Oper}{a:Act}{Q:Exit→Act→World→Prop}(hgd:o.guard=none)(s x:Operand)
  (ho:o.op=.call { callee:=.builtin .append,args:=#[s,x],argTypes:=#[98,98] }) (base:Nat) (v:Value) (xs ns:List Nat) (hs:a.eval s=v) (hown:w.ownsRow base 3 1 v xs.length (bF xs)) (vx:Value) (hx:a.eval x=vx) (hns:∃ Bx,w.ownsRow Bx 3 1 vx ns.length (bF ns)) (hn:xs.length+ns.length≤17000000000000) (hbase:base≤w.heap.size)
  (h:∀ v' w',w'.ownsRow base 3 1 v' (xs++ns).length (bF (xs++ns))→w.grownBy w' v.ownBlock→(∀ k,v'.ownBlock=some k→v.ownBlock=some k∨w.heap.size≤k)→wpList Tryz.prog ops Q rest (a.put o.dst v') w'):wpList Tryz.prog ops Q (o :: rest) a w :=
 wpList_plain hgd fun _ hK=>acz s x ho base v xs ns hs hown vx hx hns hn hbase fun v' w' h1 h2 h3=>hK _ _ (h v' w' h1 h2 h3)
structure Rc (w0 W:World) (Ob:Nat) (s r c:List Nat) (vs vr vc:Value):Prop where
 blk:W.heap[Ob]?=some (.cells #[vs,vr,vc] 100 (0,0))
 so:W.ownsRow w0.heap.size 3 1 vs s.length (bF s)
 ro:W.ownsRow w0.heap.size 3 1 vr r.length (bF r)
 co:W.ownsRow w0.heap.size 3 1 vc c.length (bF c)
 far:∀ k,(vs.ownBlock=some k→vr.ownBlock≠some k∧vc.ownBlock≠some k)∧(vr.ownBlock=some k→vc.ownBlock≠some k)
theorem Rc.app0 {w0 W W':World}{Ob:Nat}{s r c:List Nat}{vs vr vc v':Value}{ns:List Nat}(h:Rc w0 W Ob s r c vs vr vc)(hg:W.grownBy W' vs.ownBlock)(ho:W'.ownsRow w0.heap.size 3 1 v' (s++ns).length (bF (s++ns)))(hw:∀ k,v'.ownBlock=some k→vs.ownBlock=some k∨W.heap.size≤k) :
  Rc w0 (W'.setCell ⟨Ob,0,none⟩ v') Ob (s++ns) r c v' vr vc:=by
 have hsz:=hg.size
 have xu:=lt_of_block h.blk
 have hx:=h.so
 have ne:∀ {v:Value} {n:Nat} {xs:List Value} {X:World},X.heap[Ob]?=some (.cells #[vs,vr,vc] 100 (0,0))→X.ownsRow w0.heap.size 3 1 v n xs→v.ownBlock≠some Ob:=fun {v n xs X} hb ho' e=>by
  obtain ⟨_,_,cur,hc⟩:=bq ho' _ e
  rw [hb] at hc
  cases hc
 have hb':W'.heap[Ob]?=some (.cells #[vs,vr,vc] 100 (0,0)):=(hg.block _ xu (fun e=>ne h.blk hx e.symm)).trans h.blk
 have set:∀ k,k≠Ob→(W'.setCell ⟨Ob,0,none⟩ v').heap[k]?=W'.heap[k]?:=fun k hk=>Below.heap_setCell W' ⟨Ob,0,none⟩ v' k hk
 have other:∀ {v:Value} {n:Nat} {xs:List Value},W.ownsRow w0.heap.size 3 1 v n xs→(∀ k,vs.ownBlock=some k→v.ownBlock≠some k)→(W'.setCell ⟨Ob,0,none⟩ v').ownsRow w0.heap.size 3 1 v n xs:=fun {v n xs} ho' hf=>fF ho' fun k hk=>by
  have hlt:=(bq ho' k hk).2.1
  exact (set k (fun e=>ne h.blk ho' (by rw [← e];exact hk))).trans (hg.block k hlt (fun e=>hf k e.symm hk))
 have uX:∀ {v:Value} {n:Nat} {xs:List Value},W.ownsRow w0.heap.size 3 1 v n xs→(∀ k,vs.ownBlock=some k→v.ownBlock≠some k)→∀ k,v.ownBlock=some k→v'.ownBlock≠some k:=fun {v n xs} ho' hf k hk e=>by
  rcases hw k e with h1 | h1
  ·exact hf k h1 hk
  ·have:=(bq ho' k hk).2.1;omega
 have hn:(W'.setCell ⟨Ob,0,none⟩ v').ownsRow w0.heap.size 3 1 v' (s++ns).length (bF (s++ns)):=fF ho fun k hk=>set k (fun e=>ne hb' ho (by rw [← e];exact hk))
 have fr:=h.far
 have hb2:(W'.setCell ⟨Ob,0,none⟩ v').heap[Ob]?=some (.cells #[v',vr,vc] 100 (0,0)):=iN hb' 0 v'
 exact ⟨hb2,hn,other h.ro (fun k hk=>((fr k).1 hk).1),other h.co (fun k hk=>((fr k).1 hk).2),fun k=>⟨fun e=>⟨fun e2=>uX h.ro (fun k hk=>((fr k).1 hk).1) k e2 e,fun e2=>uX h.co (fun k hk=>((fr k).1 hk).2) k e2 e⟩,(fr k).2⟩⟩
theorem Rc.app1 {w0 W W':World}{Ob:Nat}{s r c:List Nat}{vs vr vc v':Value}{ns:List Nat}(h:Rc w0 W Ob s r c vs vr vc)(hg:W.grownBy W' vr.ownBlock)(ho:W'.ownsRow w0.heap.size 3 1 v' (r++ns).length (bF (r++ns)))(hw:∀ k,v'.ownBlock=some k→vr.ownBlock=some k∨W.heap.size≤k) :
  Rc w0 (W'.setCell ⟨Ob,1,none⟩ v') Ob s (r++ns) c vs v' vc:=by
 have hsz:=hg.size
 have xu:=lt_of_block h.blk
 have hx:=h.ro
 have ne:∀ {v:Value} {n:Nat} {xs:List Value} {X:World},X.heap[Ob]?=some (.cells #[vs,vr,vc] 100 (0,0))→X.ownsRow w0.heap.size 3 1 v n xs→v.ownBlock≠some Ob:=fun {v n xs X} hb ho' e=>by
  obtain ⟨_,_,cur,hc⟩:=bq ho' _ e
  rw [hb] at hc
  cases hc
 have hb':W'.heap[Ob]?=some (.cells #[vs,vr,vc] 100 (0,0)):=(hg.block _ xu (fun e=>ne h.blk hx e.symm)).trans h.blk
 have set:∀ k,k≠Ob→(W'.setCell ⟨Ob,1,none⟩ v').heap[k]?=W'.heap[k]?:=fun k hk=>Below.heap_setCell W' ⟨Ob,1,none⟩ v' k hk
 have other:∀ {v:Value} {n:Nat} {xs:List Value},W.ownsRow w0.heap.size 3 1 v n xs→(∀ k,vr.ownBlock=some k→v.ownBlock≠some k)→(W'.setCell ⟨Ob,1,none⟩ v').ownsRow w0.heap.size 3 1 v n xs:=fun {v n xs} ho' hf=>fF ho' fun k hk=>by
  have hlt:=(bq ho' k hk).2.1
  exact (set k (fun e=>ne h.blk ho' (by rw [← e];exact hk))).trans (hg.block k hlt (fun e=>hf k e.symm hk))
 have uX:∀ {v:Value} {n:Nat} {xs:List Value},W.ownsRow w0.heap.size 3 1 v n xs→(∀ k,vr.ownBlock=some k→v.ownBlock≠some k)→∀ k,v.ownBlock=some k→v'.ownBlock≠some k:=fun {v n xs} ho' hf k hk e=>by
  rcases hw k e with h1 | h1
  ·exact hf k h1 hk
  ·have:=(bq ho' k hk).2.1;omega
 have hn:(W'.setCell ⟨Ob,1,none⟩ v').ownsRow w0.heap.size 3 1 v' (r++ns).length (bF (r++ns)):=fF ho fun k hk=>set k (fun e=>ne hb' ho (by rw [← e];exact hk))
 have fr:=h.far
 have hb2:(W'.setCell ⟨Ob,1,none⟩ v').heap[Ob]?=some (.cells #[vs,v',vc] 100 (0,0)):=iN hb' 1 v'
 exact ⟨hb2,other h.so (fun k hk e=>((fr k).1 e).1 hk),hn,other h.co (fun k hk=>(fr k).2 hk),fun k=>⟨fun e=>⟨uX h.so (fun k hk e=>((fr k).1 e).1 hk) k e,((fr k).1 e).2⟩,fun e e2=>uX h.co (fun k hk=>(fr k).2 hk) k e2 e⟩⟩
theorem Rc.Ki {w0 W W':World}{Ob:Nat}{s r c:List Nat}{vs vr vc v':Value}{ns:List Nat}(h:Rc w0 W Ob s r c vs vr vc)(hg:W.grownBy W' vc.ownBlock)(ho:W'.ownsRow w0.heap.size 3 1 v' (c++ns).length (bF (c++ns)))(hw:∀ k,v'.ownBlock=some k→vc.ownBlock=some k∨W.heap.size≤k) :
  Rc w0 (W'.setCell ⟨Ob,2,none⟩ v') Ob s r (c++ns) vs vr v':=by
 have hsz:=hg.size
 have xu:=lt_of_block h.blk
 have hx:=h.co
 have ne:∀ {v:Value} {n:Nat} {xs:List Value} {X:World},X.heap[Ob]?=some (.cells #[vs,vr,vc] 100 (0,0))→X.ownsRow w0.heap.size 3 1 v n xs→v.ownBlock≠some Ob:=fun {v n xs X} hb ho' e=>by
  obtain ⟨_,_,cur,hc⟩:=bq ho' _ e
  rw [hb] at hc
  cases hc
 have hb':W'.heap[Ob]?=some (.cells #[vs,vr,vc] 100 (0,0)):=(hg.block _ xu (fun e=>ne h.blk hx e.symm)).trans h.blk
 have set:∀ k,k≠Ob→(W'.setCell ⟨Ob,2,none⟩ v').heap[k]?=W'.heap[k]?:=fun k hk=>Below.heap_setCell W' ⟨Ob,2,none⟩ v' k hk
 have other:∀ {v:Value} {n:Nat} {xs:List Value},W.ownsRow w0.heap.size 3 1 v n xs→(∀ k,vc.ownBlock=some k→v.ownBlock≠some k)→(W'.setCell ⟨Ob,2,none⟩ v').ownsRow w0.heap.size 3 1 v n xs:=fun {v n xs} ho' hf=>fF ho' fun k hk=>by
  have hlt:=(bq ho' k hk).2.1
  exact (set k (fun e=>ne h.blk ho' (by rw [← e];exact hk))).trans (hg.block k hlt (fun e=>hf k e.symm hk))
 have uX:∀ {v:Value} {n:Nat} {xs:List Value},W.ownsRow w0.heap.size 3 1 v n xs→(∀ k,vc.ownBlock=some k→v.ownBlock≠some k)→∀ k,v.ownBlock=some k→v'.ownBlock≠some k:=fun {v n xs} ho' hf k hk e=>by
  rcases hw k e with h1 | h1
  ·exact hf k h1 hk
  ·have:=(bq ho' k hk).2.1;omega
 have hn:(W'.setCell ⟨Ob,2,none⟩ v').ownsRow w0.heap.size 3 1 v' (c++ns).length (bF (c++ns)):=fF ho fun k hk=>set k (fun e=>ne hb' ho (by rw [← e];exact hk))
 have fr:=h.far
 have hb2:(W'.setCell ⟨Ob,2,none⟩ v').heap[Ob]?=some (.cells #[vs,vr,v'] 100 (0,0)):=iN hb' 2 v'
 exact ⟨hb2,other h.so (fun k hk e=>((fr k).1 e).2 hk),other h.ro (fun k hk e=>(fr k).2 e hk),hn,fun k=>⟨fun e=>⟨((fr k).1 e).1,uX h.so (fun k hk e=>((fr k).1 e).2 hk) k e⟩,fun e=>uX h.ro (fun k hk e=>(fr k).2 e hk) k e⟩⟩
end Sm
namespace Sm
theorem Sj:∀ (L:Nat) (l:List Nat),l.Nodup→(∀ x ∈ l,x<L)→l.length≤L
 | 0,[],_,_=>Nat.le_refl _
 | 0,x :: _,_,h=>absurd (h x List.mem_cons_self) (by omega)
 | L+1,l,hn,h=>by
  have h1:=Sj L (l.erase L) (hn.erase L) (fun x hx=>by
   have h2:=(hn.mem_erase_iff).1 hx
   have:=h x h2.2
   have:=h2.1
   omega)
  rw [List.length_erase] at h1
  split at h1 <;> omega
theorem Kj {f:Nat→List Nat}{M:Nat}:∀ (l:List Nat),(∀ x ∈ l,(f x).length≤M)→(l.flatMap f).length≤l.length * M
 | [],_=>by simp
 | x :: l,h=>by
  have h1:=Kj l (fun y hy=>h y (List.mem_cons_of_mem _ hy))
  have h2:=h x List.mem_cons_self
  rw [List.flatMap_cons,List.length_append,List.length_cons,Nat.add_mul]
  omega
abbrev bO (aG:List Tk) (n:Nat):Tk:=(aG[n]?).getD Tk.none
abbrev o5 (o:List Nat) (c:Nat):List Nat:=if c ∈ o then o else o++[c]
theorem acA (aG:List Tk){out:List Nat}{i:Nat}(h:out[i]?=none):∀ f,reach aG f i out=out
 | 0=>rfl
 | f+1=>by rw [reach,h]
theorem acB (aG:List Tk){out:List Nat}{i n:Nat}(h:out[i]?=some n)(f:Nat):reach aG (f+1) i out=reach aG f (i+1) ((bO aG n).calls.foldl o5 out):=by rw [reach,h]
theorem Sk (W:World)(y:Nat):(W.alloc (.cells #[.int .i64 (y:Int)] 3)).ownsRow W.heap.size 3 1 (.slice (some ⟨W.heap.size,0,none⟩) 1 1) [y].length (bF [y]) :=
 ⟨by simp,.inr ⟨W.heap.size,1,_,rfl,Nat.le_refl _,heap_alloc_new _ _,by simp,by unfold maxLen;decide,rfl,by simp⟩⟩
theorem tN {w:World}{B C e size n:Nat}{v:Value}{xs:List Value}(h:w.ownsRow C e size v n xs)(hB:B≤C):w.ownsRow B e size v n xs:=by
 refine ⟨h.1,?_⟩
 rcases h.2 with h2 | ⟨g',cap,cur,rfl,hb,hr⟩
 ·exact .inl h2
 ·exact .inr ⟨g',cap,cur,rfl,Nat.le_trans hB hb,hr⟩
theorem Eu {w:World}{b:Nat}{v0 v1 v2:Value}{t:TypeId}(h:w.heap[b]?=some (.cells #[v0,v1,v2] t (0,0))):w.frozen? ⟨b,0,none⟩=false∧w.frozen? ⟨b,1,none⟩=false∧w.frozen? ⟨b,2,none⟩=false:=by simp [World.frozen?,h]
theorem Ev {w W W':World}{Ob b c:Nat}{v v':Value}{n:Nat}{xs:List Value}{o:Array Value}(ho:W.ownsRow w.heap.size 3 1 v n xs)(hg:W.grownBy W' v.ownBlock)(hb:W.heap[b]?=some (.cells o 100 (0,0)))(hne:b≠Ob):(W'.setCell ⟨Ob,c,none⟩ v').heap[b]?=some (.cells o 100 (0,0)):=by
 refine (Below.heap_setCell W' ⟨Ob,c,none⟩ v' b hne).trans ((hg.block b (lt_of_block hb) (fun e=>?_)).trans hb)
 obtain ⟨_,_,cur,hc⟩:=bq ho b e.symm
 rw [hb] at hc
 cases hc
theorem Kk {w W W':World}{Ob c:Nat}{v v':Value}{n:Nat}{xs:List Value}(hgr:w.grownBy W none)(ho:W.ownsRow w.heap.size 3 1 v n xs)(hg:W.grownBy W' v.ownBlock)(hO:w.heap.size≤Ob):w.grownBy (W'.setCell ⟨Ob,c,none⟩ v') none :=
 ⟨hg.os.trans hgr.os,hg.tape.trans hgr.tape,hg.output.trans hgr.output,by have:=hg.size;have:=hgr.size;simp [World.setCell];omega,fun k hk _=>by
  refine (Below.heap_setCell W' ⟨Ob,c,none⟩ v' k (by show k≠Ob;omega)).trans ((hg.block k (by have:=hgr.size;omega) (fun e=>?_)).trans (hgr.block k hk (by simp)))
  have:=(bq ho k e.symm).1
  omega⟩
structure Rr (w W:World) (s r c:List Nat) (vs vr vc:Value):Prop where
 rc:Rc w W (w.heap.size+1+1) s r c vs vr vc
 res:W.heap[w.heap.size]?=some (.cells #[.slice none 0 0,.slice none 0 0,.slice none 0 0] 100 (0,0))
 gr:w.grownBy W none
theorem Rr.alloc {w W:World}{s r c:List Nat}{vs vr vc:Value}(h:Rr w W s r c vs vr vc)(o:Obj):Rr w (W.alloc o) s r c vs vr vc :=
 ⟨⟨(Below.heap_alloc _ _ _ (lt_of_block h.rc.blk)).trans h.rc.blk,h.rc.so.alloc _,h.rc.ro.alloc _,h.rc.co.alloc _,h.rc.far⟩,(Below.heap_alloc _ _ _ (lt_of_block h.res)).trans h.res,aB h.gr (bn _)⟩
theorem Rr.drew {w W:World}{s r c:List Nat}{vs vr vc:Value}(h:Rr w W s r c vs vr vc):Rr w W.drew s r c vs vr vc :=
 ⟨⟨h.rc.blk,h.rc.so,h.rc.ro,h.rc.co,h.rc.far⟩,h.res,⟨h.gr.os,h.gr.tape,h.gr.output,h.gr.size,h.gr.block⟩⟩
theorem Rr.app0 {w W W':World}{s r c:List Nat}{vs vr vc v':Value}{ns:List Nat}(h:Rr w W s r c vs vr vc)(hg:W.grownBy W' vs.ownBlock)(ho:W'.ownsRow w.heap.size 3 1 v' (s++ns).length (bF (s++ns)))(hw:∀ k,v'.ownBlock=some k→vs.ownBlock=some k∨W.heap.size≤k) :
  Rr w (W'.setCell ⟨w.heap.size+1+1,0,none⟩ v') (s++ns) r c v' vr vc :=
 ⟨h.rc.app0 hg ho hw,Ev h.rc.so hg h.res (by omega),Kk h.gr h.rc.so hg (by omega)⟩
theorem Rr.app1 {w W W':World}{s r c:List Nat}{vs vr vc v':Value}{ns:List Nat}(h:Rr w W s r c vs vr vc)(hg:W.grownBy W' vr.ownBlock)(ho:W'.ownsRow w.heap.size 3 1 v' (r++ns).length (bF (r++ns)))(hw:∀ k,v'.ownBlock=some k→vr.ownBlock=some k∨W.heap.size≤k) :
  Rr w (W'.setCell ⟨w.heap.size+1+1,1,none⟩ v') s (r++ns) c vs v' vc :=
 ⟨h.rc.app1 hg ho hw,Ev h.rc.ro hg h.res (by omega),Kk h.gr h.rc.ro hg (by omega)⟩
theorem Rr.Ki {w W W':World}{s r c:List Nat}{vs vr vc v':Value}{ns:List Nat}(h:Rr w W s r c vs vr vc)(hg:W.grownBy W' vc.ownBlock)(ho:W'.ownsRow w.heap.size 3 1 v' (c++ns).length (bF (c++ns)))(hw:∀ k,v'.ownBlock=some k→vc.ownBlock=some k∨W.heap.size≤k) :
  Rr w (W'.setCell ⟨w.heap.size+1+1,2,none⟩ v') s r (c++ns) vs vr v' :=
 ⟨h.rc.Ki hg ho hw,Ev h.rc.co hg h.res (by omega),Kk h.gr h.rc.co hg (by omega)⟩
theorem Rr.begin (w:World)(task:Nat):Rr w (((w.alloc (.cells #[.slice none 0 0,.slice none 0 0,.slice none 0 0] 100)).alloc (.cells #[.int .i64 (task:Int)] 3)).alloc (.cells #[.slice none 0 0,.slice none 0 0,.slice (some ⟨w.heap.size+1,0,none⟩) 1 1] 100)) [] [] [task] (.slice none 0 0) (.slice none 0 0) (.slice (some ⟨w.heap.size+1,0,none⟩) 1 1):=by
 refine ⟨⟨?_,⟨rfl,.inl ⟨rfl,rfl⟩⟩,⟨rfl,.inl ⟨rfl,rfl⟩⟩,?_,fun k=>⟨fun e=>by simp [Value.ownBlock] at e,fun e=>by simp [Value.ownBlock] at e⟩⟩,?_,aB (bu _ _) (bn _)⟩
 ·have:=heap_alloc_new ((w.alloc (.cells #[.slice none 0 0,.slice none 0 0,.slice none 0 0] 100)).alloc (.cells #[.int .i64 (task:Int)] 3)) (.cells #[.slice none 0 0,.slice none 0 0,.slice (some ⟨w.heap.size+1,0,none⟩) 1 1] 100)
  rw [World.size_alloc,World.size_alloc] at this
  exact this
 ·have:=Sk (w.alloc (.cells #[.slice none 0 0,.slice none 0 0,.slice none 0 0] 100)) task
  rw [World.size_alloc] at this
  exact (tN this (by omega)).alloc _
 ·exact (Below.heap_alloc _ _ _ (by simp;omega)).trans ((Below.heap_alloc _ _ _ (by simp)).trans (heap_alloc_new _ _))
def Tl (L:Nat)(t:Tk):Prop:=t.sends.length≤100000000∧t.recvs.length≤100000000∧t.calls.length≤100000000∧∀ c ∈ t.calls,c<L
structure qE (aG:List Tk) (w W:World) (k:Nat) (cs:List Nat) (vs vr vc:Value):Prop where
 row:Rr w W ((cs.take k).flatMap fun n=>(bO aG n).sends) ((cs.take k).flatMap fun n=>(bO aG n).recvs) cs vs vr vc
 nd:cs.Nodup
 lt:∀ x ∈ cs,x<aG.length
 kl:k≤cs.length
theorem qE.len {aG:List Tk}{w W:World}{k:Nat}{cs:List Nat}{vs vr vc:Value}(h:qE aG w W k cs vs vr vc):cs.length≤aG.length:=Sj _ _ h.nd h.lt
theorem qE.few {aG:List Tk}{w W:World}{k:Nat}{cs:List Nat}{vs vr vc:Value}(h:qE aG w W k cs vs vr vc)(hl:aG.length≤100000)(hb:∀ n,n<aG.length→Tl aG.length (bO aG n)):((cs.take k).flatMap fun n=>(bO aG n).sends).length≤10000000000000∧((cs.take k).flatMap fun n=>(bO aG n).recvs).length≤10000000000000:=by
 have h1:(cs.take k).length≤100000:=by have:=h.len;simp;omega
 have h2:∀ x ∈ cs.take k,x<aG.length:=fun x hx=>h.lt x (List.mem_of_mem_take hx)
 have h3:=Kj (f:=fun n=>(bO aG n).sends) (M:=100000000) (cs.take k) (fun x hx=>(hb x (h2 x hx)).1)
 have h4:=Kj (f:=fun n=>(bO aG n).recvs) (M:=100000000) (cs.take k) (fun x hx=>(hb x (h2 x hx)).2.1)
 have h5:(cs.take k).length * 100000000≤100000 * 100000000:=Nat.mul_le_mul_right _ h1
 exact ⟨by omega,by omega⟩
end Sm
namespace Sm
theorem Rr.fin {w W:World}{s r c:List Nat}{vs vr vc:Value}(h:Rr w W s r c vs vr vc):w.grownBy (((W.setCell ⟨w.heap.size,0,none⟩ vs).setCell ⟨w.heap.size,1,none⟩ vr).setCell ⟨w.heap.size,2,none⟩ vc) none∧(((W.setCell ⟨w.heap.size,0,none⟩ vs).setCell ⟨w.heap.size,1,none⟩ vr).setCell ⟨w.heap.size,2,none⟩ vc).ownsRow w.heap.size 3 1 vs s.length (bF s)∧(((W.setCell ⟨w.heap.size,0,none⟩ vs).setCell ⟨w.heap.size,1,none⟩ vr).setCell ⟨w.heap.size,2,none⟩ vc).ownsRow w.heap.size 3 1 vr r.length (bF r)∧(((W.setCell ⟨w.heap.size,0,none⟩ vs).setCell ⟨w.heap.size,1,none⟩ vr).setCell ⟨w.heap.size,2,none⟩ vc).ownsRow w.heap.size 3 1 vc c.length (bF c):=by
 have keep:∀ k,k≠w.heap.size→(((W.setCell ⟨w.heap.size,0,none⟩ vs).setCell ⟨w.heap.size,1,none⟩ vr).setCell ⟨w.heap.size,2,none⟩ vc).heap[k]?=W.heap[k]?:=fun k hk=>(Below.heap_setCell _ _ _ k hk).trans ((Below.heap_setCell _ _ _ k hk).trans (Below.heap_setCell _ _ _ k hk))
 have row:∀ {v:Value} {n:Nat} {xs:List Value},W.ownsRow w.heap.size 3 1 v n xs→(((W.setCell ⟨w.heap.size,0,none⟩ vs).setCell ⟨w.heap.size,1,none⟩ vr).setCell ⟨w.heap.size,2,none⟩ vc).ownsRow w.heap.size 3 1 v n xs:=fun {v n xs} ho=>fF ho fun k hk=>keep k (fun e=>by
  obtain ⟨_,_,cur,hc⟩:=bq ho k hk
  rw [e,h.res] at hc
  cases hc)
 refine ⟨⟨h.gr.os,h.gr.tape,h.gr.output,?_,fun k hk _=>(keep k (by omega)).trans (h.gr.block k hk (by simp))⟩,row h.rc.so,row h.rc.ro,row h.rc.co⟩
 have:=h.gr.size
 simp [World.setCell];omega
theorem mid {w W W':World}{b:Nat}{v:Value}{n:Nat}{xs:List Value}{o:Array Value}(ho:W.ownsRow w.heap.size 3 1 v n xs)(hg:W.grownBy W' v.ownBlock)(hb:W.heap[b]?=some (.cells o 100 (0,0))):W'.heap[b]?=some (.cells o 100 (0,0)):=by
 refine (hg.block b (lt_of_block hb) (fun e=>?_)).trans hb
 obtain ⟨_,_,cur,hc⟩:=bq ho b e.symm
 rw [hb] at hc
 cases hc
theorem Sl {f:Nat→List Nat}{cs:List Nat}{j x:Nat}(h:cs[j]?=some x):(cs.take (j+1)).flatMap f=(cs.take j).flatMap f++f x:=by
 obtain ⟨h1,h2⟩:=List.getElem?_eq_some_iff.1 h
 rw [List.take_succ_eq_append_getElem h1,List.flatMap_append,h2]
 simp
theorem qE.more {aG:List Tk}{w W W':World}{k y:Nat}{cs:List Nat}{vs vr vc v':Value}(h:qE aG w W k cs vs vr vc)(hy:y<aG.length)(hn:y ∉ cs)(hr:Rr w W' ((cs.take k).flatMap fun n=>(bO aG n).sends) ((cs.take k).flatMap fun n=>(bO aG n).recvs) (cs++[y]) vs vr v'):qE aG w W' k (cs++[y]) vs vr v':=by
 refine ⟨?_,?_,fun x hx=>?_,by have:=h.kl;simp;omega⟩
 ·rw [List.take_append_of_le_length h.kl];exact hr
 ·exact List.nodup_append.2 ⟨h.nd,by simp,fun a ha b hb e=>by simp at hb;rw [e,hb] at ha;exact hn ha⟩
 ·rcases List.mem_append.1 hx with h1 | h1
  ·exact h.lt x h1
  ·simp at h1;omega
theorem acC (B Tb L task:Nat)(yT:List Value)(aG:List Tk)(w:World)(hT:Hid (gW B w Tb L yT (fun i=>bO aG i)))(hL:Hid (aG.length=L))(hl:L≤100000)(ht:task<L)(hb:Hid (∀ n,n<L→Tl L (bO aG n))) :
  Calls Tryz.prog 40 #[.slice (some ⟨Tb,0,none⟩) L L,.int .i64 (task:Int)] w fun e w'=>∃ vs vr vc,e=.returned (.agg #[vs,vr,vc])∧w.grownBy w' none∧w'.ownsRow w.heap.size 3 1 vs (reached aG task).sends.length (bF (reached aG task).sends)∧w'.ownsRow w.heap.size 3 1 vr (reached aG task).recvs.length (bF (reached aG task).recvs)∧w'.ownsRow w.heap.size 3 1 vc (reached aG task).calls.length (bF (reached aG task).calls)∧(reached aG task).sends.length≤10000000000000∧(reached aG task).recvs.length≤10000000000000:=by
 obtain ⟨W0,hW0⟩:∃ W0,W0=(((w.alloc (.cells #[.slice none 0 0,.slice none 0 0,.slice none 0 0] 100)).alloc (.cells #[.int .i64 (task:Int)] 3)).alloc (.cells #[.slice none 0 0,.slice none 0 0,.slice (some ⟨w.heap.size+1,0,none⟩) 1 1] 100)):=⟨_,rfl⟩
 have HST:Hid (qE aG w W0 0 [task] (.slice none 0 0) (.slice none 0 0) (.slice (some ⟨w.heap.size+1,0,none⟩) 1 1)):=⟨by rw [hW0];exact Rr.begin w task,by simp,fun x hx=>by simp at hx;rw [hL.out];omega,by simp⟩
 have HW0:=hid hW0
 clear hW0
 go_enter Tryz.func40,Tryz.ntmps40
 go_wp2
 rw [← HW0.out]
 go_loopw [6] (fun q wr=>∃ (j:Nat) (cs:List Nat) (vs vr vc:Value),q=.int .i64 j∧qE aG w wr j cs vs vr vc∧reach aG (L+1 - j) j cs=reach aG (L+1) 0 [task]) (fun q _=>L+1 - (intOf q).toNat)
 case atStart=>exact ⟨0,[task],_,_,_,rfl,HST.out,rfl⟩
 case round =>
  clear HST HW0
  obtain ⟨j,cs,vs,vr,vc,rfl,hA,hR⟩:=hrel
  have HA:=hid hA
  have HR:=hid hR
  have hcl:cs.length≤L:=by have:=hA.len;have:=hL.out;omega
  obtain ⟨u0,u1,u2⟩:=gB hA.row.rc.blk
  obtain ⟨a,c,hvc,hcs⟩:=BI hA.row.rc.co
  subst hvc
  obtain ⟨sl,hsl⟩:∃ n,n=((cs.take j).flatMap fun n=>(bO aG n).sends).length:=⟨_,rfl⟩
  obtain ⟨rl,hrl⟩:∃ n,n=((cs.take j).flatMap fun n=>(bO aG n).recvs).length:=⟨_,rfl⟩
  obtain ⟨va,Ew,hvs⟩:=il hA.row.rc.so
  obtain ⟨vb,Kl,Sn⟩:=il hA.row.rc.ro
  rw [← hsl] at hvs
  rw [← hrl] at Sn
  subst hvs Sn
  clear hsl hrl
  clear hA hR
  by_cases hlt:j<cs.length
  ·obtain ⟨x,hx⟩:∃ x,cs[j]?=some x:=⟨_,List.getElem?_eq_getElem hlt⟩
   obtain ⟨b,off,ha,hcell⟩:=hcs j x hx
   subst ha
   have Sq:x<L:=by rw [← hL.out];exact HA.out.lt x (List.mem_of_getElem? hx)
   obtain ⟨sn,rc,cl,z0,z1,z2,o1,o2,o3⟩:=hT.out.row x Sq
   obtain ⟨ca,cc,rfl⟩:=il o3
   obtain ⟨sa,sc,rfl⟩:=il o1
   obtain ⟨ra,rc,rfl⟩:=il o2
   have BJ:wr.heap[Tb]?=some (.cells yT.toArray 100 (0,0)):=(HA.out.row.gr.block _ (lt_of_block hT.out.blk) (by simp)).trans hT.out.blk
   have t0:wr.cell? ⟨Tb,x * 3,none⟩=some (.slice sa (bO aG x).sends.length sc):=by simp [World.cell?,BJ,z0]
   have t1:wr.cell? ⟨Tb,x * 3+1,none⟩=some (.slice ra (bO aG x).recvs.length rc):=by simp [World.cell?,BJ,z1]
   have t2:wr.cell? ⟨Tb,x * 3+2,none⟩=some (.slice ca (bO aG x).calls.length cc):=by simp [World.cell?,BJ,z2]
   have O1:=hid o1
   have O2:=hid o2
   have O3:=hid o3
   have HX:=hid hx
   have yU:=hid (hb.out x Sq)
   have hjp:(j:Int)<(cs.length:Int):=by omega
   have hxp:(x:Int)<(L:Int):=by omega
   have hcm:(bO aG x).calls.length≤100000000:=yU.out.2.2.1
   have Km:=hid (HA.out.few (by rw [hL.out];exact hl) (by rw [hL.out];exact hb.out))
   have HR1:Hid _:=HA.out.row.alloc (.cells #[.slice sa (bO aG x).sends.length sc,.slice ra (bO aG x).recvs.length rc,.slice ca (bO aG x).calls.length cc] 100)
   have xu:=lt_of_block HA.out.row.rc.blk
   have uV:Hid ((wr.alloc (.cells #[.slice sa (bO aG x).sends.length sc,.slice ra (bO aG x).recvs.length rc,.slice ca (bO aG x).calls.length cc] 100)).heap[wr.heap.size]?=some (.cells #[.slice sa (bO aG x).sends.length sc,.slice ra (bO aG x).recvs.length rc,.slice ca (bO aG x).calls.length cc] 100 (0,0))):=heap_alloc_new _ _
   clear hx hcs o1 o2 o3 z0 z1 z2 BJ
   have Sr:Hid (∃ Bx,(wr.alloc (.cells #[.slice sa (bO aG x).sends.length sc,.slice ra (bO aG x).recvs.length rc,.slice ca (bO aG x).calls.length cc] 100)).ownsRow Bx 3 1 (.slice sa (bO aG x).sends.length sc) (bO aG x).sends.length (bF (bO aG x).sends)):=⟨B,fF O1.out (fun k hk=>HR1.out.gr.block k (bq O1.out k hk).2.1 (by simp))⟩
   have kN:Hid (((cs.take j).flatMap fun n=>(bO aG n).sends).length+(bO aG x).sends.length≤17000000000000):=by have:=Km.out.1;have:=yU.out.1;unfold Hid;omega
   have sV:Hid (((cs.take j).flatMap fun n=>(bO aG n).recvs).length+(bO aG x).recvs.length≤17000000000000):=by have:=Km.out.2;have:=yU.out.2.1;unfold Hid;omega
   go_wp2_with (first
    | (have hh:=Dk.out;at_builtin;refine Kh rfl _ _ rfl w.heap.size _ _ (bO aG x).recvs rfl HR2.out.rc.ro _ rfl ⟨B,fF O2.out (fun k hk=>HR2.out.gr.block k (bq O2.out k hk).2.1 (by simp))⟩ sV.out HR2.out.gr.size ?_;intro v2 w2 ho2 hg2 hw2;obtain ⟨g2,k2,hv2⟩:=il ho2;generalize List.length (α:=Nat) (_++_)=q2 at hv2;subst hv2;have HR3:=hid (HR2.out.app1 hg2 ho2 hw2);have aU:=mid HR2.out.rc.ro hg2 HT2.out;have hO2:=mid HR2.out.rc.ro hg2 HR2.out.rc.blk;obtain ⟨_,_,y2⟩:=gB aU;obtain ⟨_,y1,_⟩:=gB hO2;obtain ⟨_,y3,_⟩:=Eu hO2;clear ho2 hg2 hw2 aU hO2)
    | (at_builtin;refine Kh rfl _ _ rfl w.heap.size _ _ (bO aG x).sends rfl HR1.out.rc.so _ rfl Sr.out kN.out HR1.out.gr.size ?_;intro v1 w1 ho1 hg1 hw1;obtain ⟨g1,k1,hv1⟩:=il ho1;generalize List.length (α:=Nat) (_++_)=q1 at hv1;subst hv1;have HR2:=hid (HR1.out.app0 hg1 ho1 hw1);have ry:=mid HR1.out.rc.so hg1 uV.out;have Kn:=mid HR1.out.rc.so hg1 HR1.out.rc.blk;have HT2:=hid (Ev (Ob:=w.heap.size+1+1) (c:=0) (v':=.slice g1 q1 k1) HR1.out.rc.so hg1 uV.out (by omega));have Dk:Hid True:=trivial;obtain ⟨m0,m1,m2⟩:=gB ry;obtain ⟨s0,s1,s2⟩:=gB Kn;obtain ⟨f0,f1,f2⟩:=Eu Kn;clear ho1 hg1 hw1 ry Kn))
   have HI0:Hid (qE aG w (w2.setCell ⟨w.heap.size+1+1,1,none⟩ (.slice g2 q2 k2)) (j+1) cs (.slice g1 q1 k1) (.slice g2 q2 k2) (.slice (some ⟨b,off,none⟩) cs.length c)):=⟨by rw [Sl HX.out,Sl HX.out];exact HR3.out,HA.out.nd,HA.out.lt,hlt⟩
   clear HR1 uV Sr kN sV HR2 HT2 Dk HR3 Km
   go_loopw [43] (fun q wi=>∃ (m:Nat) (cs2:List Nat) (Su:Value),q=.int .i64 m∧m≤(bO aG x).calls.length∧qE aG w wi (j+1) cs2 (.slice g1 q1 k1) (.slice g2 q2 k2) Su∧((bO aG x).calls.drop m).foldl o5 cs2=(bO aG x).calls.foldl o5 cs) (fun q _=>(bO aG x).calls.length - (intOf q).toNat)
   case atStart=>exact ⟨0,cs,_,rfl,Nat.zero_le _,HI0.out,rfl⟩
   case round =>
    clear HI0
    obtain ⟨m,cs2,Su,rfl,hm,hI,hF⟩:=hrel
    have HI:=hid hI
    have HF:=hid hF
    have HN:=hid (BI hI.row.rc.co)
    obtain ⟨a2,c2,hv2⟩:=il hI.row.rc.co
    subst hv2
    obtain ⟨i0,i1,i2⟩:=gB hI.row.rc.blk
    have hO:=lt_of_block hI.row.rc.blk
    have ae0:cs2.length≤L:=by have:=hI.len;have:=hL.out;omega
    clear hI hF
    by_cases jk:m<(bO aG x).calls.length
    ·obtain ⟨y,hy⟩:∃ y,(bO aG x).calls[m]?=some y:=⟨_,List.getElem?_eq_getElem jk⟩
     have hyL:y<L:=yU.out.2.2.2 y (List.mem_of_getElem? hy)
     obtain ⟨_,_,hca,hcc⟩:=BI (fF (w':=wr) O3.out (fun k hk=>HI.out.row.gr.block k (bq O3.out k hk).2.1 (by simp)))
     obtain ⟨yb,yo,hya,hyc⟩:=hcc m y hy
     cases hca
     subst hya
     have hmp:(m:Int)<((bO aG x).calls.length:Int):=by omega
     have Ey:Hid (m+1≤(bO aG x).calls.length):=jk
     have HD:Hid (((bO aG x).calls.drop (m+1)).foldl o5 (o5 cs2 y)=(bO aG x).calls.foldl o5 cs):=by
      have h1:=HF.out
      rw [List.drop_eq_getElem_cons jk,(List.getElem?_eq_some_iff.1 hy).2] at h1
      exact h1
     clear hcc hy
     go_wp2_with fail
     refine (Kg cs2 _ y _ HN (by omega)).mono ?_
     rintro e w3 ⟨hw3,rfl⟩
     subst hw3
     by_cases hin:y ∈ cs2
     ·have HD1:Hid (((bO aG x).calls.drop (m+1)).foldl o5 cs2=(bO aG x).calls.foldl o5 cs):=by
       have h1:=HD.out
       rw [show o5 cs2 y=cs2 from if_pos hin] at h1
       exact h1
      have ed:decide (y ∈ cs2)=true:=by simp [hin]
      clear hin
      go_wp2
      go_roundw
      case rel=>exact ⟨m+1,cs2,_,by go_num,Ey.out,HI.out,HD1.out⟩
      case measure=>have:=Ey.out;simp [intOf];omega
     ·have HD1:Hid (((bO aG x).calls.drop (m+1)).foldl o5 (cs2++[y])=(bO aG x).calls.foldl o5 cs):=by
       have h1:=HD.out
       rw [show o5 cs2 y=cs2++[y] from if_neg hin] at h1
       exact h1
      have ed:decide (y ∈ cs2)=false:=by simp [hin]
      have HIN:=hid hin
      have BL:=hid (HI.out.row.alloc (.cells #[.int .i64 (y:Int)] 3))
      have HNl:Hid (cs2.length+[y].length≤17000000000000):=by unfold Hid;simp;omega
      clear hin
      go_wp2_with (at_builtin;refine Kh rfl _ _ rfl w.heap.size _ cs2 [y] rfl BL.out.rc.co _ rfl ⟨_,Sk _ y⟩ HNl.out BL.out.gr.size ?_;intro v5 w5 Ko hg5 yR;obtain ⟨g5,k5,hv5⟩:=il Ko;generalize List.length (α:=Nat) (_++_)=q5 at hv5;subst hv5;have lu:=hid (HI.out.more (by rw [hL.out];exact hyL) HIN.out (BL.out.Ki hg5 Ko yR));have Kq:=mid BL.out.rc.co hg5 BL.out.rc.blk;obtain ⟨_,_,z5⟩:=gB Kq;obtain ⟨_,_,f5⟩:=Eu Kq;clear Ko hg5 yR Kq)
      go_roundw
      case rel=>exact ⟨m+1,cs2++[y],_,by go_num,Ey.out,lu.out,HD1.out⟩
      case measure=>have:=Ey.out;simp [intOf];omega
    ·have hmp:¬ (m:Int)<((bO aG x).calls.length:Int):=by omega
     have bX:Hid (reach aG (L+1 - (j+1)) (j+1) cs2=reach aG (L+1) 0 [task]):=by
      have h1:=HR.out
      have h2:=HF.out
      rw [List.drop_eq_nil_of_le (by omega)] at h2
      rw [show L+1 - j=(L - j)+1 by omega,acB aG HX.out,← h2] at h1
      rw [show L+1 - (j+1)=L - j by omega]
      exact h1
     go_wp2
     go_roundw
     case rel=>exact ⟨j+1,cs2,_,_,_,by go_num,HI.out,bX.out⟩
     case measure=>simp [intOf];omega
  ·have hjp:¬ (j:Int)<(cs.length:Int):=by omega
   obtain ⟨r0,r1,r2⟩:=gB HA.out.row.res
   obtain ⟨e0,e1,e2⟩:=Eu HA.out.row.res
   have HE:Hid (reached aG task=⟨(cs.take j).flatMap fun n=>(bO aG n).sends,(cs.take j).flatMap fun n=>(bO aG n).recvs,cs⟩):=by
    have h1:=HR.out
    rw [acA aG (List.getElem?_eq_none (by omega))] at h1
    unfold Hid
    unfold reached
    rw [hL.out,← h1,List.take_of_length_le (by omega)]
   have HF:=hid HA.out.row.fin
   have xw:=hid (HA.out.few (by rw [hL.out];exact hl) (by rw [hL.out];exact hb.out))
   have xu:=lt_of_block HA.out.row.rc.blk
   have q0:=(gB (iN HA.out.row.res 0 (.slice va sl Ew))).1
   have q1:=(gB (iN (iN HA.out.row.res 0 (.slice va sl Ew)) 1 (.slice vb rl Kl))).2.1
   have q2:=(gB (iN (iN (iN HA.out.row.res 0 (.slice va sl Ew)) 1 (.slice vb rl Kl)) 2 (.slice a cs.length c))).2.2
   go_wp2
   refine bodyPost_ret (v:=.agg #[.slice va sl Ew,.slice vb rl Kl,.slice a cs.length c]) (by simp [results,Tryz.results40,go_sem,q0,q1,q2]) rfl ?_
   exact ⟨_,_,_,rfl,HF.out.1,by rw [HE.out];exact HF.out.2.1,by rw [HE.out];exact HF.out.2.2.1,by rw [HE.out];exact HF.out.2.2.2,by rw [HE.out];exact xw.out.1,by rw [HE.out];exact xw.out.2⟩
end Sm
end Go.Proofs.YtolfleeidpeomaaGreatDoor
