/- Who speaks; the walk of only,whoever is asked. -/
import Derived.Test.YtpnljpdpobbiiaaGreatDoorM23
import Derived.Test.YtpnljpdpobbiiaaGreatDoorM8
set_option maxRecDepth 100000
set_option maxHeartbeats 2000000
namespace Go.Proofs.YtpnljpdpobbiiaaGreatDoor
open Go.RowKit
namespace Sm
abbrev tvO (Tb L:Nat):Obj:=.cells #[.slice (some ⟨Tb,0,none⟩) L L] 53 (0,0)
abbrev ivO (i:Nat):Obj:=.cells #[.int .i64 (i:Int)] 3 (0,0)
theorem sends_any (B:Nat) (Tb L V I k:Nat) (i:Nat) (cs:List Value) (ts:Nat → Tk) (w:World) (hT:Hid (TaAt B w Tb L cs ts)) (hV:Hid (w.heap[V]? = some (tvO Tb L))) (hI:Hid (w.heap[I]? = some (ivO i))) (hk:k < L) (hf:Hid ((ts k).sends.length ≤ 17000000000000)) :
  Calls Tryz.prog 34 #[.int .i64 (k:Int),.pointer (some ⟨V,0,none⟩),.pointer (some ⟨I,0,none⟩)] w fun e w' => e = .returned (.bool (decide (i ∈ (ts k).sends))) ∧ w.grownBy w' none:=by
 obtain ⟨sn,rc,cl,z0,z1,z2,o1,o2,o3⟩:=hT.out.row k hk
 have HN:Hid (NsIn w (ts k).sends sn):=ns_own o1
 obtain ⟨sa,sc,hsn⟩:=own_form o1
 have c0:w.cell? ⟨V,0,none⟩ = some (.slice (some ⟨Tb,0,none⟩) L L):=by simp [World.cell?,hV.out]
 have c1:w.cell? ⟨I,0,none⟩ = some (.int .i64 (i:Int)):=by simp [World.cell?,hI.out]
 have c2:w.cell? ⟨Tb,k * 3,none⟩ = some sn:=by simp [World.cell?,hT.out.blk,z0]
 rw [hsn] at c2 HN
 have hkp:(k:Int) < (L:Int):=by omega
 clear z0 z1 z2 o1 o2 o3 hsn
 go_enter Tryz.func34,Tryz.ntmps34
 go_wp2_with fail
 refine wp_region_held_drew (S:=fun w' => w'.cell? ⟨V,0,none⟩ = some (.slice (some ⟨Tb,0,none⟩) L L) ∧ w'.cell? ⟨I,0,none⟩ = some (.int .i64 (i:Int)) ∧ w'.cell? ⟨Tb,k * 3,none⟩ = some (.slice sa (ts k).sends.length sc)) (by kernel_rfl) ⟨c0,c1,c2⟩ (fun hHeld => ?_)
 refine tk 0 (v:=?_) rfl ?_ (by assumption) ?_
 rotate_left
 ·intro w hSw
  (try dsimp only at hSw)
  go_simp
  (try with_reducible rfl)
 (try go_frame)
 refine tk 1 (v:=?_) rfl ?_ (by assumption) ?_
 rotate_left
 ·intro w hSw
  (try dsimp only at hSw)
  go_simp
  (try with_reducible rfl)
 (try go_frame)
 refine tk 2 (v:=?_) rfl ?_ (by assumption) ?_
 rotate_left
 ·intro w hSw
  (try dsimp only at hSw)
  go_simp
  (try with_reducible rfl)
 (try go_frame)
 refine tk 3 (v:=?_) rfl ?_ (by assumption) ?_
 rotate_left
 ·intro w hSw
  (try dsimp only at hSw)
  go_simp
  (try with_reducible rfl)
 (try go_frame)
 refine tk 4 (v:=?_) rfl ?_ (by assumption) ?_
 rotate_left
 ·intro w hSw
  (try dsimp only at hSw)
  go_simp
  (try with_reducible rfl)
 (try go_frame)
 refine tk 5 (v:=?_) rfl ?_ (by assumption) ?_
 rotate_left
 ·intro w hSw
  (try dsimp only at hSw)
  go_simp
  (try with_reducible rfl)
 (try go_frame)
 refine wpAnyH_ready (rs:=[6]) (by kernel_rfl) (by simp) ?_
 refine AllReadyH.cons (o:=_) rfl (fun K' hK => ?_) AllReadyH.nil
 go_simp
 refine (contains_any (ts k).sends _ i w.drew (by obtain ⟨a,c,e,h⟩:=HN.out; exact ⟨a,c,e,h⟩) (by have:=hf.out; omega)).mono ?_
 rintro e w1 ⟨hw1,rfl⟩
 subst hw1
 refine hK.out _ _ ⟨c0,c1,c2⟩ (fun hHeld => ?_)
 clear hK
 refine tk 7 (v:=?_) rfl ?_ (by assumption) ?_
 rotate_left
 ·intro w hSw
  (try dsimp only at hSw)
  go_simp
  (try with_reducible rfl)
 (try go_frame)
 refine wpAnyH_done (by kernel_rfl) ?_ _
 dsimp only [List.getElem_toArray,List.getElem_cons_succ,List.getElem_cons_zero]
 go_wp2
 go_ret
 exact ⟨rfl,⟨rfl,rfl,rfl,Nat.le_refl _,fun _ _ _ => rfl⟩⟩
theorem recvs_any (B:Nat) (Tb L V I k:Nat) (i:Nat) (cs:List Value) (ts:Nat → Tk) (w:World) (hT:Hid (TaAt B w Tb L cs ts)) (hV:Hid (w.heap[V]? = some (tvO Tb L))) (hI:Hid (w.heap[I]? = some (ivO i))) (hk:k < L) (hf:Hid ((ts k).recvs.length ≤ 17000000000000)) :
  Calls Tryz.prog 36 #[.int .i64 (k:Int),.pointer (some ⟨V,0,none⟩),.pointer (some ⟨I,0,none⟩)] w fun e w' => e = .returned (.bool (decide (i ∈ (ts k).recvs))) ∧ w.grownBy w' none:=by
 obtain ⟨sn,rc,cl,z0,z1,z2,o1,o2,o3⟩:=hT.out.row k hk
 have HN:Hid (NsIn w (ts k).recvs rc):=ns_own o2
 obtain ⟨sa,sc,hsn⟩:=own_form o2
 have c0:w.cell? ⟨V,0,none⟩ = some (.slice (some ⟨Tb,0,none⟩) L L):=by simp [World.cell?,hV.out]
 have c1:w.cell? ⟨I,0,none⟩ = some (.int .i64 (i:Int)):=by simp [World.cell?,hI.out]
 have c2:w.cell? ⟨Tb,k * 3 + 1,none⟩ = some rc:=by simp [World.cell?,hT.out.blk,z1]
 rw [hsn] at c2 HN
 have hkp:(k:Int) < (L:Int):=by omega
 clear z0 z1 z2 o1 o2 o3 hsn
 go_enter Tryz.func36,Tryz.ntmps36
 go_wp2_with fail
 refine wp_region_held_drew (S:=fun w' => w'.cell? ⟨V,0,none⟩ = some (.slice (some ⟨Tb,0,none⟩) L L) ∧ w'.cell? ⟨I,0,none⟩ = some (.int .i64 (i:Int)) ∧ w'.cell? ⟨Tb,k * 3 + 1,none⟩ = some (.slice sa (ts k).recvs.length sc)) (by kernel_rfl) ⟨c0,c1,c2⟩ (fun hHeld => ?_)
 refine tk 0 (v:=?_) rfl ?_ (by assumption) ?_
 rotate_left
 ·intro w hSw
  (try dsimp only at hSw)
  go_simp
  (try with_reducible rfl)
 (try go_frame)
 refine tk 1 (v:=?_) rfl ?_ (by assumption) ?_
 rotate_left
 ·intro w hSw
  (try dsimp only at hSw)
  go_simp
  (try with_reducible rfl)
 (try go_frame)
 refine tk 2 (v:=?_) rfl ?_ (by assumption) ?_
 rotate_left
 ·intro w hSw
  (try dsimp only at hSw)
  go_simp
  (try with_reducible rfl)
 (try go_frame)
 refine tk 3 (v:=?_) rfl ?_ (by assumption) ?_
 rotate_left
 ·intro w hSw
  (try dsimp only at hSw)
  go_simp
  (try with_reducible rfl)
 (try go_frame)
 refine tk 4 (v:=?_) rfl ?_ (by assumption) ?_
 rotate_left
 ·intro w hSw
  (try dsimp only at hSw)
  go_simp
  (try with_reducible rfl)
 (try go_frame)
 refine tk 5 (v:=?_) rfl ?_ (by assumption) ?_
 rotate_left
 ·intro w hSw
  (try dsimp only at hSw)
  go_simp
  (try with_reducible rfl)
 (try go_frame)
 refine wpAnyH_ready (rs:=[6]) (by kernel_rfl) (by simp) ?_
 refine AllReadyH.cons (o:=_) rfl (fun K' hK => ?_) AllReadyH.nil
 go_simp
 refine (contains_any (ts k).recvs _ i w.drew (by obtain ⟨a,c,e,h⟩:=HN.out; exact ⟨a,c,e,h⟩) (by have:=hf.out; omega)).mono ?_
 rintro e w1 ⟨hw1,rfl⟩
 subst hw1
 refine hK.out _ _ ⟨c0,c1,c2⟩ (fun hHeld => ?_)
 clear hK
 refine tk 7 (v:=?_) rfl ?_ (by assumption) ?_
 rotate_left
 ·intro w hSw
  (try dsimp only at hSw)
  go_simp
  (try with_reducible rfl)
 (try go_frame)
 refine wpAnyH_done (by kernel_rfl) ?_ _
 dsimp only [List.getElem_toArray,List.getElem_cons_succ,List.getElem_cons_zero]
 go_wp2
 go_ret
 exact ⟨rfl,⟨rfl,rfl,rfl,Nat.le_refl _,fun _ _ _ => rfl⟩⟩
theorem sclone_any (s:ByteArray) (w:World) (hlim:s.size ≤ 281474976710656) :
  Calls Tryz.prog 32 #[.string s] w fun e w' => e = .returned (.string s) ∧ w.grownBy w' none:=by
 go_enter Tryz.func32,Tryz.ntmps32
 go_wp2_with (go_at_call 54; refine (Tryz.stringslite_Clone _ _ hlim).mono ?_; rintro e w1 ⟨rfl,hb⟩)
 go_ret
 exact ⟨rfl,⟨hb.os,hb.tape,hb.output,hb.size,fun k hk _ => hb.block k hk⟩⟩
def Found (l:List Sy.Df) (sp:Nat → Bool) (j:Nat) (nm:ByteArray):Prop:=((List.range j).filter sp = [] ∧ nm = ⟨#[]⟩) ∨ ∃ x,(List.range j).filter sp = [x] ∧ nm = (defAt l x).name ∧ x < j
theorem filter_more {sp:Nat → Bool} {x y:Nat} {j L:Nat} (h:(List.range j).filter sp = [x,y] ∨ ∃ z t,(List.range j).filter sp = z :: t ∧ 2 ≤ (z :: t).length) (hj:j ≤ L):2 ≤ ((List.range L).filter sp).length:=by
 have hs:((List.range j).filter sp).length ≤ ((List.range L).filter sp).length:=by
  have:(List.range j).Sublist (List.range L):=List.range_sublist.2 hj
  exact (this.filter _).length_le
 rcases h with h | ⟨z,t,h,h2⟩
 ·rw [h] at hs; simpa using hs
 ·rw [h] at hs; omega
theorem only_any (B:Nat) (l:List Sy.Df) (a:Option Addr) (c M i:Nat) (g:FuncId) (caps:Array Value) (sp:Nat → Bool) (w:World) (r:Except Int Value) (hD:Hid (DfsIn B w l a)) (hB:B ≤ w.heap.size) (hN:Hid (∀ (k:Nat) (d:Sy.Df),l[k]? = some d → d.name ≠ ⟨#[]⟩ ∧ d.name.size ≤ 12)) (hl:l.length ≤ 100000)
  (hcf:∀ (vs:Array Value) (w:World),(callFunc g vs).run Tryz.prog w = .ok (.enter g vs) w) (hS:Hid (∀ (k:Nat) (w':World),k < l.length → w.grownBy w' none → Calls Tryz.prog g (#[.int .i64 (k:Int)] ++ caps) w' fun e w'' => e = .returned (.bool (sp k)) ∧ w'.grownBy w'' none))
  (hr:Hid (r = match Sm.only l sp with | .ok s => .ok (.string s) | .error e => .error e)) :
  Calls Tryz.prog 33 #[lkV l.length a c M (i:Int),.func (.func g) #[] caps] w fun e w' => Fe (i:Int) r w e w':=by
 obtain ⟨L,hL⟩:∃ L,L = l.length:=⟨_,rfl⟩
 have HL:Hid (L = l.length):=hL
 have hl':L ≤ 100000:=by rw [hL]; exact hl
 obtain ⟨W0,hW0⟩:∃ W0,W0 = w.alloc (lkB L a c M (i:Int)):=⟨_,rfl⟩
 have HG0:Hid (w.grownBy W0 none):=by rw [hW0]; exact grown_a _
 have HP0:Hid (W0.heap[w.heap.size]? = some (lkB L a c M (i:Int))):=by rw [hW0]; exact heap_alloc_new _ _
 have HW0:Hid (W0 = _):=hW0
 rw [← hL]
 clear hW0 hL hl
 go_enter Tryz.func33,Tryz.ntmps33
 go_wp2
 rw [← HW0.out]
 go_loopw [5,12] (fun s q wr => ∃ (j:Nat) (nm:ByteArray),s = .string nm ∧ q = .int .i64 j ∧ j ≤ L ∧ Hid (W0.grownBy wr none) ∧ Hid (Found l sp j nm)) (fun _ q _ => L - (intOf q).toNat)
 case atStart => exact ⟨0,⟨#[]⟩,rfl,rfl,Nat.zero_le _,World.grownBy.refl _ _,.inl ⟨rfl,rfl⟩⟩
 case round =>
  obtain ⟨j,nm,rfl,rfl,hj,HG,HF⟩:=hrel
  have HGw:Hid (w.grownBy wr none):=grown_trans HG0.out HG.out
  have hP:wr.heap[w.heap.size]? = some (lkB L a c M (i:Int)):=(HG.out.block _ (lt_of_block HP0.out) (by simp)).trans HP0.out
  by_cases hlt:j < L
  ·have hj1:j < l.length:=by rw [← HL.out]; exact hlt
   obtain ⟨d,hd⟩:∃ d,l[j]? = some d:=⟨_,List.getElem?_eq_getElem hj1⟩
   obtain ⟨b,off,pa,pc,ba,bc,ha,hb,k0,k1,k2,k3,k4,k5,k6,k7,k8,_⟩:=(hD.out.same (same_grown HGw.out (by simp) hB)).2 j d hd
   have hda:defAt l j = d:=by simp [defAt,hd]
   have hbw:b < wr.heap.size:=by have:=HGw.out.size; omega
   have HJ:Hid (j + 1 ≤ L):=hlt
   have hjp:(j:Int) < (L:Int):=by omega
   have HG1:Hid (w.grownBy (wr.alloc (dfB d pa pc ba bc)) none):=grown_trans HGw.out (grown_a _)
   have HC:=hid (hS.out j _ hj1 HG1.out)
   have HNd:=hid (hN.out j d hd)
   have HDA:=hid hda
   have hPl:=lt_of_block hP
   have HP:=hid hP
   subst ha
   clear hd hda hP
   go_wp2_with fail
   refine HC.out.mono ?_
   rintro e w1 ⟨rfl,hg1⟩
   have HGa:Hid (W0.grownBy w1 none):=grown_trans (grown_trans HG.out (grown_a _)) hg1
   have hb1:w1.heap[wr.heap.size]? = some (dfB d pa pc ba bc):=(hg1.block _ (by simp) (by simp)).trans (heap_alloc_new _ _)
   have hp1:w1.heap[w.heap.size]? = some (lkB L (some ⟨b,off,none⟩) c M (i:Int)):=(hg1.block _ (by simp; omega) (by simp)).trans ((Below.heap_alloc _ _ _ hPl).trans HP.out)
   obtain ⟨_,n1,_⟩:=nine_cell hb1
   obtain ⟨u0,u1,u2⟩:=three_cell hp1
   have hrs:(List.range (j + 1)).filter sp = (List.range j).filter sp ++ (if sp j = true then [j] else []):=by rw [List.range_succ,List.filter_append]; cases hsp:sp j <;> simp [hsp]
   cases hsp:sp j with
   | false =>
    have HF1:Hid (Found l sp (j + 1) nm):=by
     rw [hsp] at hrs
     simp at hrs
     rcases HF.out with ⟨h1,h2⟩ | ⟨x,h1,h2,h3⟩
     ·exact .inl ⟨by rw [hrs]; exact h1,h2⟩
     ·exact .inr ⟨x,by rw [hrs]; exact h1,h2,by omega⟩
    clear hg1 hb1 hp1 hrs hsp
    go_wp2
    go_roundw
    case rel => exact ⟨j + 1,nm,rfl,by go_num,HJ.out,HGa,HF1⟩
    case measure => have:=HJ.out; simp [intOf]; omega
   | true =>
    rw [hsp] at hrs
    simp only [if_true] at hrs
    rcases HF.out with ⟨h1,h2⟩ | ⟨x,h1,h2,h3⟩
    ·subst h2
     have HF1:Hid (Found l sp (j + 1) d.name):=.inr ⟨j,by rw [hrs,h1]; rfl,by rw [HDA.out],by omega⟩
     have hdn:d.name.size ≤ 281474976710656:=by have:=HNd.out.2; omega
     clear hg1 hb1 hp1 hrs hsp h1 HF
     go_wp2_with (go_at_call 32; refine (sclone_any d.name _ hdn).mono ?_; rintro e w2 ⟨rfl,hg2⟩; have HG2:Hid (W0.grownBy w2 none):=grown_trans HGa.out hg2; clear hg2)
     go_wp2
     go_roundw
     case rel => exact ⟨j + 1,d.name,rfl,by go_num,HJ.out,HG2,HF1⟩
     case measure => have:=HJ.out; simp [intOf]; omega
    ·have hx:x < l.length:=by have:=HL.out; omega
     have hne:nm ≠ ⟨#[]⟩:=by
      rw [h2]
      have:=hN.out x l[x] (List.getElem?_eq_getElem hx)
      simpa [defAt,List.getElem?_eq_getElem hx] using this.1
     have HRe:Hid (r = .error 8):=by
      have h4:2 ≤ ((List.range l.length).filter sp).length:=filter_more (x:=0) (y:=0) (.inr ⟨x,[j],by rw [hrs,h1]; rfl,by simp⟩) (by have:=HL.out; have:=HJ.out; omega)
      unfold Hid
      rw [hr.out,Sm.only]
      match hq:(List.range l.length).filter sp with
      | [] => rw [hq] at h4; simp at h4
      | [y] => rw [hq] at h4; simp at h4
      | y :: z :: t => rfl
     have hem:nm.toList.isEmpty = false:=by
      cases hq:nm.toList.isEmpty with
      | false => rfl
      | true =>
       have h5:=list_beq nm ⟨#[]⟩
       rw [List.isEmpty_iff.1 hq,show (⟨#[]⟩:ByteArray).toList = [] by kernel_rfl] at h5
       exact absurd (of_decide_eq_true h5.symm) hne
     clear hg1 hb1 hp1 hrs hsp h1 h2 h3 HF hx hne
     go_wp2_with fail
     refine (fail_any L (some ⟨b,off,none⟩) c M (i:Int) 8 _).mono ?_
     rintro e w9 ⟨rfl,hg9⟩
     have HE:Hid (Fe (i:Int) r w (.panicked [fltE 8 (i:Int)]) w9):=⟨grown_trans (grown_trans HG0.out HGa.out) hg9,by rw [HRe.out]⟩
     clear hg9
     go_wp2
     exact ⟨rfl,HE.out⟩
  ·have HRe:Hid (r = .ok (.string nm)):=by
    have h2:=HL.out
    unfold Hid
    rw [hr.out,Sm.only]
    rcases HF.out with ⟨h1,h3⟩ | ⟨x,h1,h3,_⟩
    ·rw [show l.length = j by omega,h1,h3]
    ·rw [show l.length = j by omega,h1,h3]
   have hjp:¬ (j:Int) < (L:Int):=by omega
   clear hP
   go_wp2
   go_ret
   exact ⟨HGw.out,by rw [HRe.out]; rfl⟩
end Sm
namespace Sm
theorem run_append_nothing {P:Program} {w:World} (base:Nat) (t ty e:TypeId) (i:TypeInfo) (size:Nat) (ht:P.underlying t = some (.slice e)) (hi:P.info? e = some i) (v:Value) (n:Nat) (xs:List Value) (hown:w.ownsRow base e size v n xs) (ao:Option Addr) (c:Nat) :
  (Builtin.append_ #[t,t] ty #[v,.slice ao 0 c]).run P w = .ok v w:=by
 cases ao with
 | none =>
  rcases hown.2 with ⟨rfl,rfl⟩ | ⟨g,cap,cur,rfl,_,_,hnc,_⟩
  ·simp [Builtin.append_,run_underlying ht,sizeOf,typeInfo,hi,Builtin.lenOf,Builtin.firstCells]
  ·simp [Builtin.append_,run_underlying ht,sizeOf,typeInfo,hi,Builtin.lenOf,Builtin.firstCells,hnc,storeCells]
 | some ad =>
  rcases hown.2 with ⟨rfl,rfl⟩ | ⟨g,cap,cur,rfl,_,_,hnc,_⟩
  ·simp [Builtin.append_,run_underlying ht,sizeOf,typeInfo,hi,Builtin.lenOf,Builtin.firstCells,loadCells,loadCellsFrom]
  ·simp [Builtin.append_,run_underlying ht,sizeOf,typeInfo,hi,Builtin.lenOf,Builtin.firstCells,hnc,storeCells,loadCells,loadCellsFrom]
theorem op_append_nums {w:World} {o:Oper} {a:Act} {K:Act → World → Prop} {Q:Exit → Act → World → Prop} (s x:Operand)
  (ho:o.op = .call { callee:=.builtin .append,args:=#[s,x],argTypes:=#[77,77] }) (base:Nat) (v:Value) (xs ns:List Nat) (hs:a.eval s = v) (hown:w.ownsRow base 3 1 v xs.length (nats xs)) (vx:Value) (hx:a.eval x = vx) (hns:∃ Bx,w.ownsRow Bx 3 1 vx ns.length (nats ns)) (hn:xs.length + ns.length ≤ 17000000000000) (hbase:base ≤ w.heap.size)
  (h:∀ v' w',w'.ownsRow base 3 1 v' (xs ++ ns).length (nats (xs ++ ns)) → w.grownBy w' v.ownBlock → (∀ k,v'.ownBlock = some k → v.ownBlock = some k ∨ w.heap.size ≤ k) → K (a.put o.dst v') w'):o.wp Tryz.prog a w K Q:=by
 obtain ⟨i0,hi,hz0,hz1,hz2⟩:=info_parts Tryz.info3
 obtain ⟨Bx,hns⟩:=hns
 have el:(xs ++ ns).length = xs.length + ns.length:=by simp
 have en:nats (xs ++ ns) = nats xs ++ nats ns:=by simp
 by_cases h0:ns.length = 0
 ·obtain ⟨ao,c,hv⟩:=own_form hns
  rw [h0] at hv
  subst hv
  have hnil:ns = []:=List.eq_nil_of_length_eq_zero h0
  subst hnil
  have hrun:=run_append_nothing (P:=Tryz.prog) (w:=w) base 77 o.type 3 i0 1 Tryz.underlying77 hi v xs.length _ hown ao c
  unfold Oper.wp
  simp [execOp,ho,resolve,invoke,builtin,hs,hx,hrun,Result.andThen]
  exact (h v w (by simpa using hown) (World.grownBy.refl _ _) (fun k hk => .inl hk))
 ·rcases hns.2 with ⟨rfl,h1⟩ | ⟨g,cap,cur,rfl,_,hh,hnc,_,hcs,ht⟩
  ·exact absurd h1 h0
  ·have hnews:∀ j u,(nats ns)[j]? = some u → w.cell? ((⟨g,0,none⟩:Addr).add j) = some u:=fun j u hu => by
    rw [← ht,List.getElem?_take] at hu
    split at hu
    ·have ea:(⟨g,0,none⟩:Addr).add j = ⟨g,j,none⟩:=by
      unfold Addr.add
      split
      ·subst_vars; rfl
      ·simp
     rw [ea]
     simp [World.cell?,hh]
     simpa using hu
    ·cases hu
   obtain ⟨v',w',hr,h2,h3,g',cap',hv',h4⟩:=run_append_where (P:=Tryz.prog) w base 77 o.type 3 i0 _ 1 8 Tryz.underlying77 hi hz0 hz1 hz2 rfl (by decide) v xs.length (nats xs) hown ⟨g,0,none⟩ ns.length cap (nats ns) (by simp) hnews (fun u hu => by obtain ⟨y,_,rfl⟩:=List.mem_map.1 hu; rfl) (by omega) (by unfold maxLen; omega) (by omega) hbase
   unfold Oper.wp
   simp [execOp,ho,resolve,invoke,builtin,hs,hx,hr,Result.andThen]
   refine (h v' w' (by rw [el,en]; exact h2) h3 (fun k hk => ?_))
   rw [hv'] at hk
   simp only [Value.ownBlock,Option.some.injEq] at hk
   subst hk
   rcases h4 with h5 | h5
   ·exact .inl h5
   ·exact .inr (by omega)
theorem wpList_append_nums {w:World} {ops:Array Oper} {rest:List Oper} {o:Oper} {a:Act} {Q:Exit → Act → World → Prop} (hgd:o.guard = none) (s x:Operand)
  (ho:o.op = .call { callee:=.builtin .append,args:=#[s,x],argTypes:=#[77,77] }) (base:Nat) (v:Value) (xs ns:List Nat) (hs:a.eval s = v) (hown:w.ownsRow base 3 1 v xs.length (nats xs)) (vx:Value) (hx:a.eval x = vx) (hns:∃ Bx,w.ownsRow Bx 3 1 vx ns.length (nats ns)) (hn:xs.length + ns.length ≤ 17000000000000) (hbase:base ≤ w.heap.size)
  (h:∀ v' w',w'.ownsRow base 3 1 v' (xs ++ ns).length (nats (xs ++ ns)) → w.grownBy w' v.ownBlock → (∀ k,v'.ownBlock = some k → v.ownBlock = some k ∨ w.heap.size ≤ k) → wpList Tryz.prog ops Q rest (a.put o.dst v') w'):wpList Tryz.prog ops Q (o :: rest) a w :=
 wpList_plain hgd fun _ hK => op_append_nums s x ho base v xs ns hs hown vx hx hns hn hbase fun v' w' h1 h2 h3 => hK _ _ (h v' w' h1 h2 h3)
structure Rc (w0 W:World) (Ob:Nat) (s r c:List Nat) (vs vr vc:Value):Prop where
 blk:W.heap[Ob]? = some (.cells #[vs,vr,vc] 79 (0,0))
 so:W.ownsRow w0.heap.size 3 1 vs s.length (nats s)
 ro:W.ownsRow w0.heap.size 3 1 vr r.length (nats r)
 co:W.ownsRow w0.heap.size 3 1 vc c.length (nats c)
 far:∀ k,(vs.ownBlock = some k → vr.ownBlock ≠ some k ∧ vc.ownBlock ≠ some k) ∧ (vr.ownBlock = some k → vc.ownBlock ≠ some k)
theorem Rc.app0 {w0 W W':World} {Ob:Nat} {s r c:List Nat} {vs vr vc v':Value} {ns:List Nat} (h:Rc w0 W Ob s r c vs vr vc) (hg:W.grownBy W' vs.ownBlock) (ho:W'.ownsRow w0.heap.size 3 1 v' (s ++ ns).length (nats (s ++ ns))) (hw:∀ k,v'.ownBlock = some k → vs.ownBlock = some k ∨ W.heap.size ≤ k) :
  Rc w0 (W'.setCell ⟨Ob,0,none⟩ v') Ob (s ++ ns) r c v' vr vc:=by
 have hsz:=hg.size
 have hOl:=lt_of_block h.blk
 have hx:=h.so
 have ne:∀ {v:Value} {n:Nat} {xs:List Value} {X:World},X.heap[Ob]? = some (.cells #[vs,vr,vc] 79 (0,0)) → X.ownsRow w0.heap.size 3 1 v n xs → v.ownBlock ≠ some Ob:=fun {v n xs X} hb ho' e => by
  obtain ⟨_,_,cur,hc⟩:=own_lt ho' _ e
  rw [hb] at hc
  cases hc
 have hb':W'.heap[Ob]? = some (.cells #[vs,vr,vc] 79 (0,0)):=(hg.block _ hOl (fun e => ne h.blk hx e.symm)).trans h.blk
 have set:∀ k,k ≠ Ob → (W'.setCell ⟨Ob,0,none⟩ v').heap[k]? = W'.heap[k]?:=fun k hk => Below.heap_setCell W' ⟨Ob,0,none⟩ v' k hk
 have other:∀ {v:Value} {n:Nat} {xs:List Value},W.ownsRow w0.heap.size 3 1 v n xs → (∀ k,vs.ownBlock = some k → v.ownBlock ≠ some k) → (W'.setCell ⟨Ob,0,none⟩ v').ownsRow w0.heap.size 3 1 v n xs:=fun {v n xs} ho' hf => own_keep ho' fun k hk => by
  have hlt:=(own_lt ho' k hk).2.1
  exact (set k (fun e => ne h.blk ho' (by rw [← e]; exact hk))).trans (hg.block k hlt (fun e => hf k e.symm hk))
 have newf:∀ {v:Value} {n:Nat} {xs:List Value},W.ownsRow w0.heap.size 3 1 v n xs → (∀ k,vs.ownBlock = some k → v.ownBlock ≠ some k) → ∀ k,v.ownBlock = some k → v'.ownBlock ≠ some k:=fun {v n xs} ho' hf k hk e => by
  rcases hw k e with h1 | h1
  ·exact hf k h1 hk
  ·have:=(own_lt ho' k hk).2.1; omega
 have hn:(W'.setCell ⟨Ob,0,none⟩ v').ownsRow w0.heap.size 3 1 v' (s ++ ns).length (nats (s ++ ns)):=own_keep ho fun k hk => set k (fun e => ne hb' ho (by rw [← e]; exact hk))
 have fr:=h.far
 have hb2:(W'.setCell ⟨Ob,0,none⟩ v').heap[Ob]? = some (.cells #[v',vr,vc] 79 (0,0)):=set_at hb' 0 v'
 exact ⟨hb2,hn,other h.ro (fun k hk => ((fr k).1 hk).1),other h.co (fun k hk => ((fr k).1 hk).2),fun k => ⟨fun e => ⟨fun e2 => newf h.ro (fun k hk => ((fr k).1 hk).1) k e2 e,fun e2 => newf h.co (fun k hk => ((fr k).1 hk).2) k e2 e⟩,(fr k).2⟩⟩
theorem Rc.app1 {w0 W W':World} {Ob:Nat} {s r c:List Nat} {vs vr vc v':Value} {ns:List Nat} (h:Rc w0 W Ob s r c vs vr vc) (hg:W.grownBy W' vr.ownBlock) (ho:W'.ownsRow w0.heap.size 3 1 v' (r ++ ns).length (nats (r ++ ns))) (hw:∀ k,v'.ownBlock = some k → vr.ownBlock = some k ∨ W.heap.size ≤ k) :
  Rc w0 (W'.setCell ⟨Ob,1,none⟩ v') Ob s (r ++ ns) c vs v' vc:=by
 have hsz:=hg.size
 have hOl:=lt_of_block h.blk
 have hx:=h.ro
 have ne:∀ {v:Value} {n:Nat} {xs:List Value} {X:World},X.heap[Ob]? = some (.cells #[vs,vr,vc] 79 (0,0)) → X.ownsRow w0.heap.size 3 1 v n xs → v.ownBlock ≠ some Ob:=fun {v n xs X} hb ho' e => by
  obtain ⟨_,_,cur,hc⟩:=own_lt ho' _ e
  rw [hb] at hc
  cases hc
 have hb':W'.heap[Ob]? = some (.cells #[vs,vr,vc] 79 (0,0)):=(hg.block _ hOl (fun e => ne h.blk hx e.symm)).trans h.blk
 have set:∀ k,k ≠ Ob → (W'.setCell ⟨Ob,1,none⟩ v').heap[k]? = W'.heap[k]?:=fun k hk => Below.heap_setCell W' ⟨Ob,1,none⟩ v' k hk
 have other:∀ {v:Value} {n:Nat} {xs:List Value},W.ownsRow w0.heap.size 3 1 v n xs → (∀ k,vr.ownBlock = some k → v.ownBlock ≠ some k) → (W'.setCell ⟨Ob,1,none⟩ v').ownsRow w0.heap.size 3 1 v n xs:=fun {v n xs} ho' hf => own_keep ho' fun k hk => by
  have hlt:=(own_lt ho' k hk).2.1
  exact (set k (fun e => ne h.blk ho' (by rw [← e]; exact hk))).trans (hg.block k hlt (fun e => hf k e.symm hk))
 have newf:∀ {v:Value} {n:Nat} {xs:List Value},W.ownsRow w0.heap.size 3 1 v n xs → (∀ k,vr.ownBlock = some k → v.ownBlock ≠ some k) → ∀ k,v.ownBlock = some k → v'.ownBlock ≠ some k:=fun {v n xs} ho' hf k hk e => by
  rcases hw k e with h1 | h1
  ·exact hf k h1 hk
  ·have:=(own_lt ho' k hk).2.1; omega
 have hn:(W'.setCell ⟨Ob,1,none⟩ v').ownsRow w0.heap.size 3 1 v' (r ++ ns).length (nats (r ++ ns)):=own_keep ho fun k hk => set k (fun e => ne hb' ho (by rw [← e]; exact hk))
 have fr:=h.far
 have hb2:(W'.setCell ⟨Ob,1,none⟩ v').heap[Ob]? = some (.cells #[vs,v',vc] 79 (0,0)):=set_at hb' 1 v'
 exact ⟨hb2,other h.so (fun k hk e => ((fr k).1 e).1 hk),hn,other h.co (fun k hk => (fr k).2 hk),fun k => ⟨fun e => ⟨newf h.so (fun k hk e => ((fr k).1 e).1 hk) k e,((fr k).1 e).2⟩,fun e e2 => newf h.co (fun k hk => (fr k).2 hk) k e2 e⟩⟩
theorem Rc.app2 {w0 W W':World} {Ob:Nat} {s r c:List Nat} {vs vr vc v':Value} {ns:List Nat} (h:Rc w0 W Ob s r c vs vr vc) (hg:W.grownBy W' vc.ownBlock) (ho:W'.ownsRow w0.heap.size 3 1 v' (c ++ ns).length (nats (c ++ ns))) (hw:∀ k,v'.ownBlock = some k → vc.ownBlock = some k ∨ W.heap.size ≤ k) :
  Rc w0 (W'.setCell ⟨Ob,2,none⟩ v') Ob s r (c ++ ns) vs vr v':=by
 have hsz:=hg.size
 have hOl:=lt_of_block h.blk
 have hx:=h.co
 have ne:∀ {v:Value} {n:Nat} {xs:List Value} {X:World},X.heap[Ob]? = some (.cells #[vs,vr,vc] 79 (0,0)) → X.ownsRow w0.heap.size 3 1 v n xs → v.ownBlock ≠ some Ob:=fun {v n xs X} hb ho' e => by
  obtain ⟨_,_,cur,hc⟩:=own_lt ho' _ e
  rw [hb] at hc
  cases hc
 have hb':W'.heap[Ob]? = some (.cells #[vs,vr,vc] 79 (0,0)):=(hg.block _ hOl (fun e => ne h.blk hx e.symm)).trans h.blk
 have set:∀ k,k ≠ Ob → (W'.setCell ⟨Ob,2,none⟩ v').heap[k]? = W'.heap[k]?:=fun k hk => Below.heap_setCell W' ⟨Ob,2,none⟩ v' k hk
 have other:∀ {v:Value} {n:Nat} {xs:List Value},W.ownsRow w0.heap.size 3 1 v n xs → (∀ k,vc.ownBlock = some k → v.ownBlock ≠ some k) → (W'.setCell ⟨Ob,2,none⟩ v').ownsRow w0.heap.size 3 1 v n xs:=fun {v n xs} ho' hf => own_keep ho' fun k hk => by
  have hlt:=(own_lt ho' k hk).2.1
  exact (set k (fun e => ne h.blk ho' (by rw [← e]; exact hk))).trans (hg.block k hlt (fun e => hf k e.symm hk))
 have newf:∀ {v:Value} {n:Nat} {xs:List Value},W.ownsRow w0.heap.size 3 1 v n xs → (∀ k,vc.ownBlock = some k → v.ownBlock ≠ some k) → ∀ k,v.ownBlock = some k → v'.ownBlock ≠ some k:=fun {v n xs} ho' hf k hk e => by
  rcases hw k e with h1 | h1
  ·exact hf k h1 hk
  ·have:=(own_lt ho' k hk).2.1; omega
 have hn:(W'.setCell ⟨Ob,2,none⟩ v').ownsRow w0.heap.size 3 1 v' (c ++ ns).length (nats (c ++ ns)):=own_keep ho fun k hk => set k (fun e => ne hb' ho (by rw [← e]; exact hk))
 have fr:=h.far
 have hb2:(W'.setCell ⟨Ob,2,none⟩ v').heap[Ob]? = some (.cells #[vs,vr,v'] 79 (0,0)):=set_at hb' 2 v'
 exact ⟨hb2,other h.so (fun k hk e => ((fr k).1 e).2 hk),other h.ro (fun k hk e => (fr k).2 e hk),hn,fun k => ⟨fun e => ⟨((fr k).1 e).1,newf h.so (fun k hk e => ((fr k).1 e).2 hk) k e⟩,fun e => newf h.ro (fun k hk e => (fr k).2 e hk) k e⟩⟩
end Sm
namespace Sm
theorem nodup_len:∀ (L:Nat) (l:List Nat),l.Nodup → (∀ x ∈ l,x < L) → l.length ≤ L
 | 0,[],_,_ => Nat.le_refl _
 | 0,x :: _,_,h => absurd (h x List.mem_cons_self) (by omega)
 | L + 1,l,hn,h => by
  have h1:=nodup_len L (l.erase L) (hn.erase L) (fun x hx => by
   have h2:=(hn.mem_erase_iff).1 hx
   have:=h x h2.2
   have:=h2.1
   omega)
  rw [List.length_erase] at h1
  split at h1 <;> omega
theorem fm_le {f:Nat → List Nat} {M:Nat}:∀ (l:List Nat),(∀ x ∈ l,(f x).length ≤ M) → (l.flatMap f).length ≤ l.length * M
 | [],_ => by simp
 | x :: l,h => by
  have h1:=fm_le l (fun y hy => h y (List.mem_cons_of_mem _ hy))
  have h2:=h x List.mem_cons_self
  rw [List.flatMap_cons,List.length_append,List.length_cons,Nat.add_mul]
  omega
abbrev tkAt (talks:List Tk) (n:Nat):Tk:=(talks[n]?).getD Tk.none
abbrev stp (o:List Nat) (c:Nat):List Nat:=if c ∈ o then o else o ++ [c]
theorem reach_end (talks:List Tk) {out:List Nat} {i:Nat} (h:out[i]? = none):∀ f,reach talks f i out = out
 | 0 => rfl
 | f + 1 => by rw [reach,h]
theorem reach_step (talks:List Tk) {out:List Nat} {i n:Nat} (h:out[i]? = some n) (f:Nat):reach talks (f + 1) i out = reach talks f (i + 1) ((tkAt talks n).calls.foldl stp out):=by rw [reach,h]
theorem own_new (W:World) (y:Nat):(W.alloc (.cells #[.int .i64 (y:Int)] 3)).ownsRow W.heap.size 3 1 (.slice (some ⟨W.heap.size,0,none⟩) 1 1) [y].length (nats [y]) :=
 ⟨by simp,.inr ⟨W.heap.size,1,_,rfl,Nat.le_refl _,heap_alloc_new _ _,by simp,by unfold maxLen; decide,rfl,by simp⟩⟩
theorem own_base {w:World} {B C e size n:Nat} {v:Value} {xs:List Value} (h:w.ownsRow C e size v n xs) (hB:B ≤ C):w.ownsRow B e size v n xs:=by
 refine ⟨h.1,?_⟩
 rcases h.2 with h2 | ⟨g',cap,cur,rfl,hb,hr⟩
 ·exact .inl h2
 ·exact .inr ⟨g',cap,cur,rfl,Nat.le_trans hB hb,hr⟩
theorem three_frozen {w:World} {b:Nat} {v0 v1 v2:Value} {t:TypeId} (h:w.heap[b]? = some (.cells #[v0,v1,v2] t (0,0))):w.frozen? ⟨b,0,none⟩ = false ∧ w.frozen? ⟨b,1,none⟩ = false ∧ w.frozen? ⟨b,2,none⟩ = false:=by simp [World.frozen?,h]
theorem keepT {w W W':World} {Ob b c:Nat} {v v':Value} {n:Nat} {xs:List Value} {o:Array Value} (ho:W.ownsRow w.heap.size 3 1 v n xs) (hg:W.grownBy W' v.ownBlock) (hb:W.heap[b]? = some (.cells o 79 (0,0))) (hne:b ≠ Ob):(W'.setCell ⟨Ob,c,none⟩ v').heap[b]? = some (.cells o 79 (0,0)):=by
 refine (Below.heap_setCell W' ⟨Ob,c,none⟩ v' b hne).trans ((hg.block b (lt_of_block hb) (fun e => ?_)).trans hb)
 obtain ⟨_,_,cur,hc⟩:=own_lt ho b e.symm
 rw [hb] at hc
 cases hc
theorem keepG {w W W':World} {Ob c:Nat} {v v':Value} {n:Nat} {xs:List Value} (hgr:w.grownBy W none) (ho:W.ownsRow w.heap.size 3 1 v n xs) (hg:W.grownBy W' v.ownBlock) (hO:w.heap.size ≤ Ob):w.grownBy (W'.setCell ⟨Ob,c,none⟩ v') none :=
 ⟨hg.os.trans hgr.os,hg.tape.trans hgr.tape,hg.output.trans hgr.output,by have:=hg.size; have:=hgr.size; simp [World.setCell]; omega,fun k hk _ => by
  refine (Below.heap_setCell W' ⟨Ob,c,none⟩ v' k (by show k ≠ Ob; omega)).trans ((hg.block k (by have:=hgr.size; omega) (fun e => ?_)).trans (hgr.block k hk (by simp)))
  have:=(own_lt ho k e.symm).1
  omega⟩
structure Rr (w W:World) (s r c:List Nat) (vs vr vc:Value):Prop where
 rc:Rc w W (w.heap.size + 1 + 1) s r c vs vr vc
 res:W.heap[w.heap.size]? = some (.cells #[.slice none 0 0,.slice none 0 0,.slice none 0 0] 79 (0,0))
 gr:w.grownBy W none
theorem Rr.alloc {w W:World} {s r c:List Nat} {vs vr vc:Value} (h:Rr w W s r c vs vr vc) (o:Obj):Rr w (W.alloc o) s r c vs vr vc :=
 ⟨⟨(Below.heap_alloc _ _ _ (lt_of_block h.rc.blk)).trans h.rc.blk,h.rc.so.alloc _,h.rc.ro.alloc _,h.rc.co.alloc _,h.rc.far⟩,(Below.heap_alloc _ _ _ (lt_of_block h.res)).trans h.res,grown_trans h.gr (grown_a _)⟩
theorem Rr.drew {w W:World} {s r c:List Nat} {vs vr vc:Value} (h:Rr w W s r c vs vr vc):Rr w W.drew s r c vs vr vc :=
 ⟨⟨h.rc.blk,h.rc.so,h.rc.ro,h.rc.co,h.rc.far⟩,h.res,⟨h.gr.os,h.gr.tape,h.gr.output,h.gr.size,h.gr.block⟩⟩
theorem Rr.app0 {w W W':World} {s r c:List Nat} {vs vr vc v':Value} {ns:List Nat} (h:Rr w W s r c vs vr vc) (hg:W.grownBy W' vs.ownBlock) (ho:W'.ownsRow w.heap.size 3 1 v' (s ++ ns).length (nats (s ++ ns))) (hw:∀ k,v'.ownBlock = some k → vs.ownBlock = some k ∨ W.heap.size ≤ k) :
  Rr w (W'.setCell ⟨w.heap.size + 1 + 1,0,none⟩ v') (s ++ ns) r c v' vr vc :=
 ⟨h.rc.app0 hg ho hw,keepT h.rc.so hg h.res (by omega),keepG h.gr h.rc.so hg (by omega)⟩
theorem Rr.app1 {w W W':World} {s r c:List Nat} {vs vr vc v':Value} {ns:List Nat} (h:Rr w W s r c vs vr vc) (hg:W.grownBy W' vr.ownBlock) (ho:W'.ownsRow w.heap.size 3 1 v' (r ++ ns).length (nats (r ++ ns))) (hw:∀ k,v'.ownBlock = some k → vr.ownBlock = some k ∨ W.heap.size ≤ k) :
  Rr w (W'.setCell ⟨w.heap.size + 1 + 1,1,none⟩ v') s (r ++ ns) c vs v' vc :=
 ⟨h.rc.app1 hg ho hw,keepT h.rc.ro hg h.res (by omega),keepG h.gr h.rc.ro hg (by omega)⟩
theorem Rr.app2 {w W W':World} {s r c:List Nat} {vs vr vc v':Value} {ns:List Nat} (h:Rr w W s r c vs vr vc) (hg:W.grownBy W' vc.ownBlock) (ho:W'.ownsRow w.heap.size 3 1 v' (c ++ ns).length (nats (c ++ ns))) (hw:∀ k,v'.ownBlock = some k → vc.ownBlock = some k ∨ W.heap.size ≤ k) :
  Rr w (W'.setCell ⟨w.heap.size + 1 + 1,2,none⟩ v') s r (c ++ ns) vs vr v' :=
 ⟨h.rc.app2 hg ho hw,keepT h.rc.co hg h.res (by omega),keepG h.gr h.rc.co hg (by omega)⟩
theorem Rr.begin (w:World) (task:Nat):Rr w (((w.alloc (.cells #[.slice none 0 0,.slice none 0 0,.slice none 0 0] 79)).alloc (.cells #[.int .i64 (task:Int)] 3)).alloc (.cells #[.slice none 0 0,.slice none 0 0,.slice (some ⟨w.heap.size + 1,0,none⟩) 1 1] 79)) [] [] [task] (.slice none 0 0) (.slice none 0 0) (.slice (some ⟨w.heap.size + 1,0,none⟩) 1 1):=by
 refine ⟨⟨?_,⟨rfl,.inl ⟨rfl,rfl⟩⟩,⟨rfl,.inl ⟨rfl,rfl⟩⟩,?_,fun k => ⟨fun e => by simp [Value.ownBlock] at e,fun e => by simp [Value.ownBlock] at e⟩⟩,?_,grown_trans (grown_a2 _ _) (grown_a _)⟩
 ·have:=heap_alloc_new ((w.alloc (.cells #[.slice none 0 0,.slice none 0 0,.slice none 0 0] 79)).alloc (.cells #[.int .i64 (task:Int)] 3)) (.cells #[.slice none 0 0,.slice none 0 0,.slice (some ⟨w.heap.size + 1,0,none⟩) 1 1] 79)
  rw [World.size_alloc,World.size_alloc] at this
  exact this
 ·have:=own_new (w.alloc (.cells #[.slice none 0 0,.slice none 0 0,.slice none 0 0] 79)) task
  rw [World.size_alloc] at this
  exact (own_base this (by omega)).alloc _
 ·exact (Below.heap_alloc _ _ _ (by simp; omega)).trans ((Below.heap_alloc _ _ _ (by simp)).trans (heap_alloc_new _ _))
def Tl (L:Nat) (t:Tk):Prop:=t.sends.length ≤ 100000000 ∧ t.recvs.length ≤ 100000000 ∧ t.calls.length ≤ 100000000 ∧ ∀ c ∈ t.calls,c < L
structure ReAt (talks:List Tk) (w W:World) (k:Nat) (cs:List Nat) (vs vr vc:Value):Prop where
 row:Rr w W ((cs.take k).flatMap fun n => (tkAt talks n).sends) ((cs.take k).flatMap fun n => (tkAt talks n).recvs) cs vs vr vc
 nd:cs.Nodup
 lt:∀ x ∈ cs,x < talks.length
 kl:k ≤ cs.length
theorem ReAt.len {talks:List Tk} {w W:World} {k:Nat} {cs:List Nat} {vs vr vc:Value} (h:ReAt talks w W k cs vs vr vc):cs.length ≤ talks.length:=nodup_len _ _ h.nd h.lt
theorem ReAt.few {talks:List Tk} {w W:World} {k:Nat} {cs:List Nat} {vs vr vc:Value} (h:ReAt talks w W k cs vs vr vc) (hl:talks.length ≤ 100000) (hb:∀ n,n < talks.length → Tl talks.length (tkAt talks n)):((cs.take k).flatMap fun n => (tkAt talks n).sends).length ≤ 10000000000000 ∧ ((cs.take k).flatMap fun n => (tkAt talks n).recvs).length ≤ 10000000000000:=by
 have h1:(cs.take k).length ≤ 100000:=by have:=h.len; simp; omega
 have h2:∀ x ∈ cs.take k,x < talks.length:=fun x hx => h.lt x (List.mem_of_mem_take hx)
 have h3:=fm_le (f:=fun n => (tkAt talks n).sends) (M:=100000000) (cs.take k) (fun x hx => (hb x (h2 x hx)).1)
 have h4:=fm_le (f:=fun n => (tkAt talks n).recvs) (M:=100000000) (cs.take k) (fun x hx => (hb x (h2 x hx)).2.1)
 have h5:(cs.take k).length * 100000000 ≤ 100000 * 100000000:=Nat.mul_le_mul_right _ h1
 exact ⟨by omega,by omega⟩
end Sm
end Go.Proofs.YtpnljpdpobbiiaaGreatDoor
