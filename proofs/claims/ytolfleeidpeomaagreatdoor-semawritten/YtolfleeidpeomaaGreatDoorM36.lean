/- The walk of whole. -/
import Derived.Test.YtolfleeidpeomaaGreatDoorM35
set_option maxRecDepth 100000
set_option maxHeartbeats 4000000
namespace Go.Proofs.YtolfleeidpeomaaGreatDoor
open Go.RowKit
namespace Sm
def sW (me:Sy.Df):Vars:=if me.kind=4 then [] else me.params.map (fun p=>(p.name,p.ty))
theorem ace {ps:List Sy.Pm}(hn:(ps.map (·.name)).Nodup){j:Nat}{p:Sy.Pm}(hp:ps[j]?=some p):Sm.look ((ps.take j).map (fun p=>(p.name,p.ty))) p.name=none:=by
 unfold Sm.look
 rw [Option.map_eq_none_iff,List.find?_eq_none]
 intro x hx
 obtain ⟨q,hq,rfl⟩:=List.mem_map.1 hx
 obtain ⟨k,hk,hqk⟩:=List.getElem_of_mem hq
 have hk':k<j:=by simp at hk;omega
 have h1:(ps.map (·.name))[k]?=some q.name:=by
  have:ps[k]?=some q:=by rw [← hqk];simp [List.getElem_take]
  rw [List.getElem?_map,this]
  rfl
 have h2:(ps.map (·.name))[j]?=some p.name:=by rw [List.getElem?_map,hp];rfl
 intro e
 have e':q.name=p.name:=by simpa using e
 rw [e'] at h1
 have:=(List.getElem?_inj (by have:=(List.getElem?_eq_some_iff.1 h1).1;exact this) hn).1 (h1.trans h2.symm)
 omega
theorem acf (K:BK)(me:Sy.Df)(i:Nat)(hi:Hid (K.num=(i:Int)))(dE:Hid (K.l[i]?=some me))(n m:Nat)(w:World)(r:Except Int (Value × Vars × Tk))(h:Hid (BW K w [] Tk.none))(hnd:Hid (me.kind≠4→(me.params.map (·.name)).Nodup∧me.params.length≤6))(hn:Hid (Sy.cO (Sy.aO 39) me.body n=.ok m))(h2:n≤2000)
  (hr:Hid (r=andThen (inner (stat K.l me 39) me.body (sW me) Tk.none) fun t=>.ok (.tuple #[],sW me,t))) :
  Calls Tryz.prog 46 #[.pointer (some ⟨K.F,0,none⟩)] w fun e w'=>Bf K w [] r e w':=by
 have hF:=h.out.lt
 obtain ⟨o,sn,rr,cc,h4⟩:=h.out.rows
 obtain ⟨c0,c1,c2,_⟩:=fE h4.blk
 rw [hi.out] at c2
 have hB0:K.B≤w.heap.size:=by have:=h.out.base;omega
 have HD0:Hid (dS K.B w K.l K.a):=h.out.fH
 clear h4
 go_enter Tryz.func46,Tryz.ntmps46
 go_wp2_with fail
 refine (nN K.B K.l K.a K.c K.M i me w HD0 hB0 dE).mono ?_
 rintro e w1 ⟨hg1,val,rfl,pa,pc,ba,bc,rfl,hdf⟩
 have HB1:Hid (BW K w1 [] Tk.none):=h.out.grown hg1
 have bP:Hid (af K w w1):=af.grown hg1 hF
 obtain ⟨W2,hW2⟩:∃ W2,W2=w1.alloc (aN me pa pc ba bc):=⟨_,rfl⟩
 have HW2:Hid (W2=_):=hW2
 have Bw:Hid (af K w1 W2):=by rw [hW2];exact af.alloc K w1 _ HB1.out.lt
 have bD:Hid (af K w W2):=bP.out.trans Bw.out
 have HB2:Hid (BW K W2 [] Tk.none):=by rw [hW2];exact HB1.out.grown (bn _)
 have R5:Hid (W2.heap[w1.heap.size]?=some (aN me pa pc ba bc)∧bA K W2 w1.heap.size):=by rw [hW2];exact HB1.out.new _
 have wX:Hid (jL K.B W2 me pa ba):=hdf.same (h.out.same bD.out)
 clear hg1 hdf hW2 c0 c1 c2
 by_cases h4:me.kind=4
 ·have e4:(me.kind != 4)=false:=by simp [h4]
  have Dq:Hid (sW me=[]):=by unfold Hid;unfold sW;rw [if_pos h4]
  have ae:Hid (r=andThen (inner (stat K.l me 39) me.body [] Tk.none) fun t=>.ok (.tuple #[],[],t)):=by unfold Hid;rw [hr.out,Dq.out]
  clear h4
  go_wp2_with fail
  rw [← HW2.out]
  obtain ⟨eb,mH⟩:∃ eb,eb=inner (stat K.l me 39) me.body ([]:Vars) Tk.none:=⟨_,rfl⟩
  have BG:Hid (eb=inner (stat K.l me 39) me.body ([]:Vars) Tk.none):=mH
  have qB:Hid (r=andThen eb fun t=>.ok (.tuple #[],([]:Vars),t)):=by unfold Hid;rw [ae.out,mH]
  have BA:Hid (∃ h,lJ K.B W2 (cu K.B W2 h) me.body ba):=by
   obtain ⟨hh,hR⟩:=wX.out.2.2.2.2
   have hsm:=HB2.out.same (af.refl K W2)
   exact ⟨hh,hR.2.same hsm (fun s x b e=>cu.same hsm hh s x b e)⟩
  obtain ⟨_,_,_,_,_,_,_,_,nb8⟩:=eF ((af.refl K W2).at R5.out).1
  clear mH
  refine ((JU K me 39 (hid (xJ K me i hi dE 39))) me.body ba bc ([]:Vars) Tk.none n m _ _ HB2 BA hn (hid ⟨Nat.zero_le _,Nat.zero_le _,Nat.zero_le _⟩) (hid (Nat.zero_le _)) h2 (by rw [← BG.out];exact rfl)).mono ?_
  rintro e w9 ⟨bM,dG⟩
  have bQ:Hid (af K w w9):=(bD.out.trans (af.refl K W2)).trans bM
  clear bM
  cases eb with
  | error y =>
   obtain ⟨rfl,v2,t2,hb2,hp2⟩:=dG
   have HE:Hid (Bf K w [] r (.panicked [aH y K.num]) w9):=by
    rw [qB.out]
    exact ⟨bQ.out,rfl,v2,t2,hb2,List.nil_prefix⟩
   clear hb2 hp2
   go_wp2
   exact ⟨rfl,HE.out⟩
  | ok t2 =>
   obtain ⟨rfl,dD⟩:=dG
   have HE:Hid (Bf K w [] r (.returned (.tuple #[])) w9):=by
    rw [qB.out]
    exact ⟨bQ.out,rfl,dD⟩
   clear dD
   go_wp2
   go_end0
   exact HE.out
 ·have e4:(me.kind != 4)=true:=by simpa using h4
  obtain ⟨hnn,rO⟩:=hnd.out h4
  have HNN:=hid hnn
  have Dq:Hid (sW me=me.params.map (fun p=>(p.name,p.ty))):=by unfold Hid;unfold sW;rw [if_neg h4]
  have ae:Hid (r=andThen (inner (stat K.l me 39) me.body (me.params.map (fun p=>(p.name,p.ty))) Tk.none) fun t=>.ok (.tuple #[],me.params.map (fun p=>(p.name,p.ty)),t)):=by unfold Hid;rw [hr.out,Dq.out]
  obtain ⟨np,om⟩:∃ np,np=me.params.length:=⟨_,rfl⟩
  have nz:Hid (np=me.params.length):=om
  have h6:np≤6:=by rw [om];exact rO
  clear h4 hnn rO om
  go_wp2
  rw [← HW2.out]
  go_loopw [16] (fun q wr=>∃ j:Nat,q=.int .i64 j∧j≤np∧Hid (BW K wr ((me.params.take j).map (fun p=>(p.name,p.ty))) Tk.none)∧Hid (af K W2 wr)) (fun q _=>np - (intOf q).toNat)
  case atStart=>exact ⟨0,rfl,Nat.zero_le _,HB2,af.refl _ _⟩
  case round =>
   obtain ⟨j,rfl,hj,HB,HK⟩:=hrel
   have rD:=HB.out.lt
   by_cases hlt:j<np
   ·have hj1:j<me.params.length:=by rw [← nz.out];exact hlt
    obtain ⟨p,hp⟩:∃ p,me.params[j]?=some p:=⟨_,List.getElem?_eq_getElem hj1⟩
    obtain ⟨pb,po,wU,hpb,p0,p1,p2,_⟩:=(wX.out.2.2.2.1.same (HB2.out.same HK.out)).2 j p hp
    have HLn:Hid (Sm.look ((me.params.take j).map (fun p=>(p.name,p.ty))) p.name=none):=ace HNN.out hp
    have HTk:Hid ((me.params.take j).map (fun p=>(p.name,p.ty))++[(p.name,p.ty)]=(me.params.take (j+1)).map (fun p=>(p.name,p.ty))):=by
     unfold Hid
     rw [List.take_succ_eq_append_getElem hj1,List.map_append,(List.getElem?_eq_some_iff.1 hp).2]
     rfl
    obtain ⟨W3,hW3⟩:∃ W3,W3=wr.alloc (jC p):=⟨_,rfl⟩
    have HW3:Hid (W3=_):=hW3
    have fe:Hid (af K wr W3):=by rw [hW3];exact af.alloc K wr _ rD
    have HB3:Hid (BW K W3 ((me.params.take j).map (fun p=>(p.name,p.ty))) Tk.none):=by rw [hW3];exact HB.out.grown (bn _)
    have j3:Hid (W3.heap[wr.heap.size]?=some (jC p)∧bA K W3 wr.heap.size):=by rw [hW3];exact HB.out.new _
    have HS:Hid (∀ w',af K W3 w'→w'.cell? ⟨wr.heap.size,0,none⟩=some (.string p.name)∧w'.cell? ⟨wr.heap.size,1,none⟩=some (.int .i64 p.ty.kind)∧w'.cell? ⟨wr.heap.size,2,none⟩=some (.string p.ty.gen)):=fun w' hk=>gB (hk.at j3.out).1
    have hbw:pb<wr.heap.size:=by have:=HB.out.base;omega
    have HJ:Hid (j+1≤np):=hlt
    have hjp:(j:Int)<(np:Int):=by omega
    subst wU
    clear hp hW3
    go_wp2_with fail
    rw [← HW3.out]
    refine wp_region_held_drew (S:=fun w'=>w'.cell? ⟨wr.heap.size,0,none⟩=some (.string p.name)∧w'.cell? ⟨wr.heap.size,1,none⟩=some (.int .i64 p.ty.kind)∧w'.cell? ⟨wr.heap.size,2,none⟩=some (.string p.ty.gen)) (by kernel_rfl) (HS.out W3 (af.refl _ _)) (fun hHeld=>?_)
    refine tk 0 (v:=?_) rfl ?_ (by assumption) ?_
    rotate_left
    ·intro w hSw
     (try dsimp only at hSw)
     go_simp
     (try with_reducible rfl)
    (try go_frame)
    refine tk 1 (v:=?_) rfl ?_ (by assumption) ?_
    rotate_left
    ·intro w hSw
     (try dsimp only at hSw)
     go_simp
     (try with_reducible rfl)
    (try go_frame)
    refine tk 2 (v:=?_) rfl ?_ (by assumption) ?_
    rotate_left
    ·intro w hSw
     (try dsimp only at hSw)
     go_simp
     (try with_reducible rfl)
    (try go_frame)
    refine tk 3 (v:=?_) rfl ?_ (by assumption) ?_
    rotate_left
    ·intro w hSw
     (try dsimp only at hSw)
     go_simp
     (try with_reducible rfl)
    (try go_frame)
    refine tk 4 (v:=?_) rfl ?_ (by assumption) ?_
    rotate_left
    ·intro w hSw
     (try dsimp only at hSw)
     go_simp
     (try with_reducible rfl)
    (try go_frame)
    refine tk 5 (v:=?_) rfl ?_ (by assumption) ?_
    rotate_left
    ·intro w hSw
     (try dsimp only at hSw)
     go_simp
     (try with_reducible rfl)
    (try go_frame)
    refine tk 6 (v:=?_) rfl ?_ (by assumption) ?_
    rotate_left
    ·intro w hSw
     (try dsimp only at hSw)
     go_simp
     (try with_reducible rfl)
    (try go_frame)
    refine wpAnyH_ready (rs:=[7]) (by kernel_rfl) (by simp) ?_
    refine AllReadyH.cons (o:=_) rfl (fun K' hK=>?_) AllReadyH.nil
    go_simp
    refine (Qx K _ Tk.none p.name p.ty W3.drew (by exact HB3.out.drew) HLn (by simp;omega)).mono ?_
    rintro e w4 ⟨rfl,hb4,R6⟩
    have ji:Hid (af K W3 w4):=R6.yL
    rw [HTk.out] at hb4
    have iy:Hid (BW K w4 ((me.params.take (j+1)).map (fun p=>(p.name,p.ty))) Tk.none):=hb4
    refine hK.out _ _ (HS.out w4 ji.out) (fun hHeld=>?_)
    clear hK hb4 R6 hHeld
    refine wpAnyH_done (by kernel_rfl) ?_ _
    go_wp2
    go_roundw
    case rel=>exact ⟨j+1,by go_num,HJ.out,iy,(HK.out.trans fe.out).trans ji.out⟩
    case measure=>have:=HJ.out;simp [intOf];omega
   ·have HBe:Hid (BW K wr (me.params.map (fun p=>(p.name,p.ty))) Tk.none):=by
     have h1:=HB.out
     have h2:=nz.out
     rw [List.take_of_length_le (by omega)] at h1
     exact h1
    have vC:Hid ((me.params.map (fun p=>(p.name,p.ty))).length≤n+10):=by have h2:=nz.out;unfold Hid;rw [List.length_map];omega
    have hjp:¬ (j:Int)<(me.params.length:Int):=by have h2:=nz.out;omega
    obtain ⟨eb,mH⟩:∃ eb,eb=inner (stat K.l me 39) me.body (me.params.map (fun p=>(p.name,p.ty))) Tk.none:=⟨_,rfl⟩
    have BG:Hid (eb=inner (stat K.l me 39) me.body (me.params.map (fun p=>(p.name,p.ty))) Tk.none):=mH
    have qB:Hid (r=andThen eb fun t=>.ok (.tuple #[],(me.params.map (fun p=>(p.name,p.ty))),t)):=by unfold Hid;rw [ae.out,mH]
    have BA:Hid (∃ h,lJ K.B wr (cu K.B wr h) me.body ba):=by
     obtain ⟨hh,hR⟩:=wX.out.2.2.2.2
     have hsm:=HB2.out.same HK.out
     exact ⟨hh,hR.2.same hsm (fun s x b e=>cu.same hsm hh s x b e)⟩
    obtain ⟨_,_,_,_,_,_,_,_,nb8⟩:=eF ((HK.out).at R5.out).1
    clear mH
    go_wp2_with fail
    refine ((JU K me 39 (hid (xJ K me i hi dE 39))) me.body ba bc (me.params.map (fun p=>(p.name,p.ty))) Tk.none n m _ _ HBe BA hn (hid ⟨Nat.zero_le _,Nat.zero_le _,Nat.zero_le _⟩) vC h2 (by rw [← BG.out];exact rfl)).mono ?_
    rintro e w9 ⟨bM,dG⟩
    have bQ:Hid (af K w w9):=(bD.out.trans HK.out).trans bM
    clear bM
    cases eb with
    | error y =>
     obtain ⟨rfl,v2,t2,hb2,hp2⟩:=dG
     have HE:Hid (Bf K w [] r (.panicked [aH y K.num]) w9):=by
      rw [qB.out]
      exact ⟨bQ.out,rfl,v2,t2,hb2,List.nil_prefix⟩
     clear hb2 hp2
     go_wp2
     exact ⟨rfl,HE.out⟩
    | ok t2 =>
     obtain ⟨rfl,dD⟩:=dG
     have HE:Hid (Bf K w [] r (.returned (.tuple #[])) w9):=by
      rw [qB.out]
      exact ⟨bQ.out,rfl,dD⟩
     clear dD
     go_wp2
     go_end0
     exact HE.out
end Sm
namespace Sm
structure Fit (l:List Sy.Df):Prop where
 heads:∀ (i:Nat) (d:Sy.Df),l[i]?=some d→Sm.head l d=.ok ()
 kinds:∀ (i:Nat) (d:Sy.Df),l[i]?=some d→1≤d.kind∧d.kind≤4
 forms:∀ (i:Nat) (d:Sy.Df),l[i]?=some d→d.kind≠1→((d.kind=2∨d.kind=3)→d.params.length≤6)∧∃ n m,n≤2000∧Sy.cO (Sy.aO 39) d.body n=.ok m
theorem Ka {l:List Sy.Df}:∀ {ps:List Sy.Pm} {seen:List ByteArray},Sm.params l ps seen=.ok ()→(∀ p ∈ ps,p.name ∉ seen)∧(ps.map (·.name)).Nodup
 | [],_,_=>⟨fun p hp=>(by cases hp),by simp⟩
 | p :: ps,seen,h=>by
  rw [Sm.params] at h
  split at h
  ·cases h
  ·rename_i hs
   have hns:p.name ∉ seen:=fun hm=>hs (by rw [List.any_eq_true];exact ⟨_,hm,by simp⟩)
   have h':Sm.params l ps (seen++[p.name])=.ok ():=by
    split at h
    ·obtain ⟨_,_,h2⟩:=aZ h
     exact h2
    ·exact h
   obtain ⟨h1,h2⟩:=Ka h'
   refine ⟨fun q hq=>?_,?_⟩
   ·rcases List.mem_cons.1 hq with rfl | hq
    ·exact hns
    ·exact fun hm=>h1 q hq (List.mem_append_left _ hm)
   ·rw [List.map_cons,List.nodup_cons]
    refine ⟨fun hm=>?_,h2⟩
    obtain ⟨q,hq,he⟩:=List.mem_map.1 hm
    exact h1 q hq (by rw [he];simp)
theorem Fit.params {l:List Sy.Df}(h:Fit l){i:Nat}{d:Sy.Df}(hd:l[i]?=some d)(h1:d.kind≠1)(h4:d.kind≠4):(d.params.map (·.name)).Nodup∧d.params.length≤6:=by
 have hk:=h.kinds i d hd
 have hh:=h.heads i d hd
 have h23:d.kind=2∨d.kind=3:=by omega
 refine ⟨?_,(h.forms i d hd h1).1 h23⟩
 unfold Sm.head at hh
 rw [if_neg h1] at hh
 rcases h23 with e | e
 ·rw [if_pos e] at hh
  obtain ⟨_,h2,_⟩:=aZ hh
  exact (Ka h2).2
 ·rw [if_neg (by omega),if_pos e] at hh
  obtain ⟨_,h2,_⟩:=aZ hh
  exact (Ka h2).2
structure gW (B:Nat) (w:World) (Tb n:Nat) (cs:List Value) (ts:Nat→Tk):Prop where
 blk:w.heap[Tb]?=some (.cells cs.toArray 100 (0,0))
 len:cs.length=n * 3
 row:∀ i,i<n→∃ sn rc cl,cs[i * 3]?=some sn∧cs[i * 3+1]?=some rc∧cs[i * 3+2]?=some cl∧w.ownsRow B 3 1 sn (ts i).sends.length (bF (ts i).sends)∧w.ownsRow B 3 1 rc (ts i).recvs.length (bF (ts i).recvs)∧w.ownsRow B 3 1 cl (ts i).calls.length (bF (ts i).calls)
theorem gW.keep {B:Nat}{w w':World}{Tb n:Nat}{cs:List Value}{ts:Nat→Tk}(h:gW B w Tb n cs ts)(hk:∀ (k:Nat) (o:Array Value) (e:TypeId),w.heap[k]?=some (.cells o e (0,0))→w'.heap[k]?=w.heap[k]?):gW B w' Tb n cs ts :=
 ⟨(hk _ _ _ h.blk).trans h.blk,h.len,fun i hi=>by
  obtain ⟨sn,rc,cl,c1,c2,c3,o1,o2,o3⟩:=h.row i hi
  exact ⟨sn,rc,cl,c1,c2,c3,fF o1 (fun k hb=>by obtain ⟨_,_,cur,hc⟩:=bq o1 k hb;exact hk _ _ _ hc),fF o2 (fun k hb=>by obtain ⟨_,_,cur,hc⟩:=bq o2 k hb;exact hk _ _ _ hc),fF o3 (fun k hb=>by obtain ⟨_,_,cur,hc⟩:=bq o3 k hb;exact hk _ _ _ hc)⟩⟩
theorem gW.put {B:Nat}{w:World}{Tb n i:Nat}{cs:List Value}{ts:Nat→Tk}{t:Tk}{sn rc cl:Value}(h:gW B w Tb n cs ts)(hi:i<n)(o1:w.ownsRow B 3 1 sn t.sends.length (bF t.sends))(o2:w.ownsRow B 3 1 rc t.recvs.length (bF t.recvs))(o3:w.ownsRow B 3 1 cl t.calls.length (bF t.calls)) :
  gW B (((w.setCell ⟨Tb,i * 3,none⟩ sn).setCell ⟨Tb,i * 3+1,none⟩ rc).setCell ⟨Tb,i * 3+2,none⟩ cl) Tb n (((cs.set (i * 3) sn).set (i * 3+1) rc).set (i * 3+2) cl) (fun k=>if k=i then t else ts k):=by
 have hlen:=h.len
 have far:∀ {v:Value} {m:Nat} {xs:List Value},w.ownsRow B 3 1 v m xs→(((w.setCell ⟨Tb,i * 3,none⟩ sn).setCell ⟨Tb,i * 3+1,none⟩ rc).setCell ⟨Tb,i * 3+2,none⟩ cl).ownsRow B 3 1 v m xs:=fun {v m xs} ho=>fF ho fun k hk=>by
  obtain ⟨_,_,cur,hc⟩:=bq ho k hk
  have hne:k≠Tb:=fun e=>by rw [e,h.blk] at hc;cases hc
  exact (Below.heap_setCell _ ⟨Tb,_,none⟩ _ k hne).trans ((Below.heap_setCell _ ⟨Tb,_,none⟩ _ k hne).trans (Below.heap_setCell _ ⟨Tb,_,none⟩ _ k hne))
 refine ⟨iN (iN (iN h.blk _ _) _ _) _ _,by simp [hlen],fun k hk=>?_⟩
 by_cases e:k=i
 ·subst e
  refine ⟨sn,rc,cl,?_,?_,?_,by simpa using far o1,by simpa using far o2,by simpa using far o3⟩
  ·rw [List.getElem?_set_ne (by omega),List.getElem?_set_ne (by omega),List.getElem?_set_self (by omega)]
  ·rw [List.getElem?_set_ne (by omega),List.getElem?_set_self (by simp;omega)]
  ·rw [List.getElem?_set_self (by simp;omega)]
 ·obtain ⟨s',r',c',c1,c2,c3,p1,p2,p3⟩:=h.row k hk
  simp only [if_neg e]
  refine ⟨s',r',c',?_,?_,?_,far p1,far p2,far p3⟩
  ·rw [List.getElem?_set_ne (by omega),List.getElem?_set_ne (by omega),List.getElem?_set_ne (by omega)];exact c1
  ·rw [List.getElem?_set_ne (by omega),List.getElem?_set_ne (by omega),List.getElem?_set_ne (by omega)];exact c2
  ·rw [List.getElem?_set_ne (by omega),List.getElem?_set_ne (by omega),List.getElem?_set_ne (by omega)];exact c3
theorem BW.begin {l:List Sy.Df}{a:Option Addr}{c M i B:Nat}{R:Ms.Row}{wr:World}(o:Obj)(hD:dS B wr l a)(hG:Gl B wr)(hB:B≤wr.heap.size)(hM:Ms.In wr M R)(Kb:B≤M)(hn:∀ s,Ms.val R s=(numOf l s).map (fun i=>.int .i64 (i:Int))) :
  BW ⟨l,a,c,M,i,wr.heap.size+1,wr.heap.size+1+1,B,R⟩ (((wr.alloc o).alloc (.map #[] 0)).alloc (nZ l.length a c M i (wr.heap.size+1) (.slice none 0 0) (.slice none 0 0) (.slice none 0 0) (.slice none 0 0))) [] Tk.none:=by
 obtain ⟨W,hW⟩:∃ W,W=((wr.alloc o).alloc (.map #[] 0)).alloc (nZ l.length a c M i (wr.heap.size+1) (.slice none 0 0) (.slice none 0 0) (.slice none 0 0) (.slice none 0 0)):=⟨_,rfl⟩
 have hg:wr.grownBy W none:=by rw [hW];exact aB (bu _ _) (bn _)
 have hF:W.heap[wr.heap.size+1+1]?=some (nZ l.length a c M i (wr.heap.size+1) (.slice none 0 0) (.slice none 0 0) (.slice none 0 0) (.slice none 0 0)):=by
  rw [hW]
  have:=heap_alloc_new ((wr.alloc o).alloc (.map #[] 0)) (nZ l.length a c M i (wr.heap.size+1) (.slice none 0 0) (.slice none 0 0) (.slice none 0 0) (.slice none 0 0))
  rw [World.size_alloc,World.size_alloc] at this
  exact this
 have hT:Ms.In W (wr.heap.size+1) []:=by
  rw [hW]
  have:=Ms.In.new (wr.alloc o)
  rw [World.size_alloc] at this
  exact this.grow (bn _)
 rw [← hW]
 have hs:=dK (B:=B) hg (by simp) hB
 have hMl:=hM.lt
 exact ⟨DG.same (K:=⟨l,a,c,M,i,wr.heap.size+1,wr.heap.size+1+1,B,R⟩) ⟨hD,hG⟩ hs,⟨Kb,by dsimp;omega,by dsimp;omega,by dsimp;omega⟩,hM.grow hg,hn,⟨_,_,_,_,hF,World.ownsRow_nil _ _ _ _,World.ownsRow_nil _ _ _ _,World.ownsRow_nil _ _ _ _,World.ownsRow_nil _ _ _ _,fun k=>⟨fun e=>by simp [Value.ownBlock] at e,fun e=>by simp [Value.ownBlock] at e⟩⟩,hT,by simp⟩
theorem acm {l:List Sy.Df}{a:Option Addr}{c M i B k:Nat}{R:Ms.Row}{wr W:World}(hF:W.heap[wr.heap.size+1+1]?=some (nZ l.length a c M i (wr.heap.size+1) (.slice none 0 0) (.slice none 0 0) (.slice none 0 0) (.slice none 0 0)))(hk:k≤wr.heap.size):bA ⟨l,a,c,M,i,wr.heap.size+1,wr.heap.size+1+1,B,R⟩ W k:=by
 refine ⟨by dsimp;omega,by dsimp;omega,fun o s r cl hb=>?_⟩
 have hb':=hF.symm.trans hb
 obtain ⟨rfl,rfl,rfl,rfl⟩:=uL (K:=⟨l,a,c,M,i,wr.heap.size+1,wr.heap.size+1+1,B,R⟩) (Option.some.inj hb')
 simp [Value.ownBlock]
end Sm
namespace Sm
def Bo (l:List Sy.Df)(B:Nat)(r:Except (Int × Nat) (List Tk))(w:World)(e:Ending)(w':World):Prop :=
 w.grownBy w' none∧match r with
 | .error x=>e=.panicked [aH x.1 (x.2:Int)]
 | .ok ts=>∃ Tb cs,e=.returned (.slice (some ⟨Tb,0,none⟩) l.length l.length)∧w.heap.size≤Tb∧gW B w' Tb l.length cs (fun i=>(ts[i]?).getD Tk.none)
def more (done:List Tk)(r:Except (Int × Nat) (List Tk)):Except (Int × Nat) (List Tk):=match r with | .error x=>.error x | .ok xs=>.ok (done++xs)
theorem acn (f:Sy.Df→Except Int Tk)(done:List Tk)(d:Sy.Df)(l:List Sy.Df)(i:Nat):more done (each f (d :: l) i)=match f d with | .error e=>.error (e,i) | .ok x=>more (done++[x]) (each f l (i+1)):=by
 rw [each]
 cases f d with
 | error e=>rfl
 | ok x =>
  dsimp only
  cases each f l (i+1) with
  | error e=>rfl
  | ok xs=>simp [more]
theorem Tryz.R7:(Tryz.prog.info? 100).map (fun i=>(i.zero,i.size,i.bytes))=some (some (.agg #[.slice none 0 0,.slice none 0 0,.slice none 0 0]),3,72):=by kernel_rfl
theorem R8 {l:List Sy.Df}{d:Sy.Df}(h:d.kind≠1):aV l d=inner (stat l d 39) d.body (sW d) Tk.none:=by
 unfold aV sW
 rw [if_neg h]
theorem xq {B:Nat}{w w':World}(h:Gl B w)(hs:Same B w w'):Gl B w':=by
 obtain ⟨⟨h2,h3⟩,h4,h5,h6,h7⟩:=h
 exact ⟨⟨h2,h3⟩,(hs _ _ h2).trans h4,(hs _ _ h2).trans h5,(hs _ _ h3).trans h6,(hs _ _ h3).trans h7⟩
theorem R9 {n i:Nat}(hi:i<n):(madeCells #[Value.slice none 0 0,.slice none 0 0,.slice none 0 0] n).toList[i]?=some (.slice none 0 0):=by
 have h3:i % 3=0∨i % 3=1∨i % 3=2:=by omega
 rw [Array.getElem?_toList]
 rcases h3 with h | h | h <;> simp [madeCells,hi,h]
theorem aco (B:Nat)(l:List Sy.Df)(a:Option Addr)(c M:Nat)(R:Ms.Row)(w:World)(r:Except (Int × Nat) (List Tk))(hD:Hid (dS B w l a))(hB:B≤w.heap.size)(hM:Hid (Ms.In w M R))(Kb:B≤M)(hR:Hid (∀ s,Ms.val R s=(numOf l s).map (fun i=>.int .i64 (i:Int))))(hG:Hid (Gl B w))(Sa:Hid (Fit l))(hl:l.length≤100000)
  (hr:Hid (r=each (aV l) l 0)) :
  Calls Tryz.prog 22 #[xh l a c M] w fun e w'=>Bo l B r w e w':=by
 have hmm:∀ w:World,(Instr.makeMap 106 Option.none).run Tryz.prog w=.ok (.map (some w.heap.size)) (w.alloc (.map #[] 0)):=fun _=>rfl
 obtain ⟨L,hL⟩:∃ L,L=l.length:=⟨_,rfl⟩
 have HL:Hid (L=l.length):=hL
 have hl':L≤100000:=by rw [hL];exact hl
 obtain ⟨i0,hif,hz0,hz1,hz2⟩:=info_parts Tryz.R7
 have hmk:∀ X:World,Sem.run Tryz.prog (Instr.makeSlice 69 (.int .i64 (L:Int)) (.int .i64 (L:Int))) X=.ok (.slice (some ⟨X.heap.size,0,none⟩) L L) (X.alloc (.cells (madeCells #[.slice none 0 0,.slice none 0 0,.slice none 0 0] (L * 3)) 100)):=fun X=>by
  have:=run_makeSlice (P:=Tryz.prog) X 69 100 i0 _ Tryz.underlying69 hif hz0 .i64 .i64 (L:Int) (L:Int) (by omega) (Int.le_refl _) (by rw [hz1];simp;omega) (by rw [hz2];omega) (by omega)
  rw [hz1,Int.toNat_natCast] at this
  exact this
 obtain ⟨W0,hW0⟩:∃ W0,W0=(w.alloc (gN L a c M)).alloc (.cells (madeCells #[.slice none 0 0,.slice none 0 0,.slice none 0 0] (L * 3)) 100):=⟨_,rfl⟩
 have aY:Hid (w.grownBy W0 none):=by rw [hW0];exact bu _ _
 have jo:Hid (W0.heap[w.heap.size]?=some (gN L a c M)):=by rw [hW0];exact (Below.heap_alloc _ _ _ (by simp)).trans (heap_alloc_new _ _)
 have HT0:Hid (gW B W0 (w.heap.size+1) L (madeCells #[.slice none 0 0,.slice none 0 0,.slice none 0 0] (L * 3)).toList (fun i=>(([]:List Tk)[i]?).getD Tk.none)):=by
  have hbk:W0.heap[w.heap.size+1]?=some (.cells (madeCells #[.slice none 0 0,.slice none 0 0,.slice none 0 0] (L * 3)) 100 (0,0)):=by
   rw [hW0]
   have:=heap_alloc_new (w.alloc (gN L a c M)) (.cells (madeCells #[.slice none 0 0,.slice none 0 0,.slice none 0 0] (L * 3)) 100 (0,0))
   rw [World.size_alloc] at this
   exact this
  have hc:∀ i,i<L * 3→(madeCells #[.slice none 0 0,.slice none 0 0,.slice none 0 0] (L * 3)).toList[i]?=some (.slice none 0 0):=fun i hi=>R9 hi
  refine ⟨by simpa using hbk,by rw [Array.length_toList,size_madeCells],fun i hi=>⟨_,_,_,hc _ (by omega),hc _ (by omega),hc _ (by omega),?_,?_,?_⟩⟩ <;> exact World.ownsRow_nil _ _ _ _
 have HW0:Hid (W0=_):=hW0
 have hML:M<w.heap.size:=hM.out.lt
 rw [show xh l a c M=.agg #[.slice a L c,.map (some M)] by rw [hL]]
 clear hW0 hL hl hif hz0 hz1 hz2
 go_enter Tryz.func22,Tryz.ntmps22
 go_wp2
 rw [← HW0.out]
 go_loopw [14] (fun q wr=>∃ (j:Nat) (done:List Tk) (cs:List Value),q=.int .i64 j∧j≤L∧done.length=j∧Hid (w.grownBy wr none)∧Hid (wr.heap[w.heap.size]?=some (gN L a c M))∧Hid (gW B wr (w.heap.size+1) L cs (fun i=>(done[i]?).getD Tk.none))∧Hid (r=more done (each (aV l) (l.drop j) j))) (fun q _=>L - (intOf q).toNat)
 case atStart=>exact ⟨0,[],_,rfl,Nat.zero_le _,rfl,aY,jo,HT0,by unfold Hid;rw [List.drop_zero,hr.out];cases each (aV l) l 0 <;> rfl⟩
 case round =>
  obtain ⟨j,done,cs,rfl,hj,hdl,HG,HP,HT,HR⟩:=hrel
  obtain ⟨p0,p1,_,_⟩:=bE HP.out
  have xm:=lt_of_block HP.out
  have Sb:=lt_of_block HT.out.blk
  by_cases hlt:j<L
  ·have hj1:j<l.length:=by rw [← HL.out];exact hlt
   obtain ⟨d,hd⟩:∃ d,l[j]?=some d:=⟨_,List.getElem?_eq_getElem hj1⟩
   have hdr:l.drop j=d :: l.drop (j+1):=by rw [List.drop_eq_getElem_cons hj1,(List.getElem?_eq_some_iff.1 hd).2]
   have mq:Hid (dS B wr l a):=hD.out.same (dK HG.out (by simp) hB)
   obtain ⟨b,off,pa,pc,ba,bc,ha,hb,k0,k1,k2,k3,k4,k5,k6,k7,k8,_⟩:=mq.out.2 j d hd
   have ae:Hid (r=match aV l d with | .error e=>.error (e,j) | .ok x=>more (done++[x]) (each (aV l) (l.drop (j+1)) (j+1))):=by
    unfold Hid
    rw [HR.out,hdr,acn]
   have RQ:Hid (l[j]?=some d):=hd
   have hbw:b<wr.heap.size:=by have:=HG.out.size;omega
   have HJ:Hid (j+1≤L):=hlt
   have hjp:(j:Int)<(L:Int):=by omega
   have hfun:∀ t:Tk,(fun k=>if k=j then t else (done[k]?).getD Tk.none)=(fun k=>((done++[t])[k]?).getD Tk.none):=fun t=>by
    funext k
    by_cases e:k=j
    ·rw [if_pos e,e,← hdl];simp
    ·rw [if_neg e]
     by_cases e2:k<done.length
     ·rw [List.getElem?_append_left e2]
     ·rw [List.getElem?_eq_none (by omega),List.getElem?_eq_none (by simp;omega)]
   have Sc:=hid hfun
   have Sd:Hid (∀ t:Tk,(done++[t]).length=j+1):=fun t=>by simp [hdl]
   subst ha
   by_cases h1:d.kind=1
   ·have e1:(d.kind==1)=true:=by simpa using h1
    have hbt:aV l d=.ok Tk.none:=by unfold aV;rw [if_pos h1]
    have iM:Hid (r=more (done++[Tk.none]) (each (aV l) (l.drop (j+1)) (j+1))):=by unfold Hid;rw [ae.out,hbt]
    have ax:Hid (w.grownBy (wr.alloc (aN d pa pc ba bc)) none):=aB HG.out (bn _)
    have eG:Hid ((wr.alloc (aN d pa pc ba bc)).heap[w.heap.size]?=some (gN L (some ⟨b,off,none⟩) c M)):=(Below.heap_alloc _ _ _ xm).trans HP.out
    have HT1:Hid (gW B (wr.alloc (aN d pa pc ba bc)) (w.heap.size+1) L cs (fun i=>((done++[Tk.none])[i]?).getD Tk.none)):=by
     unfold Hid
     rw [← Sc.out Tk.none]
     have:(fun k=>if k=j then Tk.none else (done[k]?).getD Tk.none)=(fun k=>(done[k]?).getD Tk.none):=by
      funext k
      by_cases e:k=j
      ·rw [if_pos e,e,List.getElem?_eq_none (by omega)];rfl
      ·rw [if_neg e]
     rw [this]
     exact HT.out.keep (fun k o e hk=>Below.heap_alloc _ _ _ (lt_of_block hk))
    clear h1 hdr hd hfun hbt
    go_wp2
    go_roundw
    case rel=>exact ⟨j+1,done++[Tk.none],cs,by go_num,HJ.out,Sd.out _,ax,eG,HT1,iM⟩
    case measure=>have:=HJ.out;simp [intOf];omega
   ·have e1:(d.kind==1)=false:=by simpa using h1
    obtain ⟨_,n,m,hn2,BB⟩:=Sa.out.forms j d hd h1
    have hbt:=R8 (l:=l) h1
    obtain ⟨K,hK⟩:∃ K:BK,K=⟨l,some ⟨b,off,none⟩,c,M,(j:Int),wr.heap.size+1,wr.heap.size+1+1,B,R⟩:=⟨_,rfl⟩
    obtain ⟨W3,hW3⟩:∃ W3,W3=((wr.alloc (aN d pa pc ba bc)).alloc (.map #[] 0)).alloc (nZ L (some ⟨b,off,none⟩) c M (j:Int) (wr.heap.size+1) (.slice none 0 0) (.slice none 0 0) (.slice none 0 0) (.slice none 0 0)):=⟨_,rfl⟩
    have HW3:Hid (W3=_):=hW3
    have hg3:wr.grownBy W3 none:=by rw [hW3];exact aB (bu _ _) (bn _)
    have Kc:=BW.begin (i:=j) (c:=c) (aN d pa pc ba bc) mq.out (xq hG.out (dK HG.out (by simp) hB)) (by have:=HG.out.size;omega) (hM.out.grow HG.out) Kb hR.out
    rw [← HL.out,← hW3,← hK] at Kc
    have HB3:Hid (BW K W3 [] Tk.none):=Kc
    have ll:W3.heap[wr.heap.size+1+1]?=some (nZ L (some ⟨b,off,none⟩) c M (j:Int) (wr.heap.size+1) (.slice none 0 0) (.slice none 0 0) (.slice none 0 0) (.slice none 0 0)):=by
     rw [hW3]
     have:=heap_alloc_new ((wr.alloc (aN d pa pc ba bc)).alloc (.map #[] 0)) (nZ L (some ⟨b,off,none⟩) c M (j:Int) (wr.heap.size+1) (.slice none 0 0) (.slice none 0 0) (.slice none 0 0) (.slice none 0 0))
     rw [World.size_alloc,World.size_alloc] at this
     exact this
    have iK:Hid (∀ k,k≤wr.heap.size→bA K W3 k):=fun k hk=>by
     rw [hK]
     rw [HL.out] at ll
     exact acm ll hk
    have uW:Hid (K.F=wr.heap.size+1+1∧K.B=B∧K.num=(j:Int)∧K.l=l):=by rw [hK];exact ⟨rfl,rfl,rfl,rfl⟩
    have dE:Hid (K.l[j]?=some d):=by rw [uW.out.2.2.2];exact hd
    have Sg:Hid (K.num=(j:Int)):=uW.out.2.2.1
    have J8:Hid (d.kind≠4→(d.params.map (·.name)).Nodup∧d.params.length≤6):=fun h4=>Sa.out.params hd h1 h4
    obtain ⟨bt,Et⟩:∃ bt,bt=aV l d:=⟨_,rfl⟩
    have HBT:Hid (bt=aV l d):=Et
    have HBI:Hid (inner (stat K.l d 39) d.body (sW d) Tk.none=bt):=by unfold Hid;rw [Et,hbt,uW.out.2.2.2]
    rw [← Et] at ae
    have uT:=hid BB
    clear h1 hdr hd hfun hbt BB Kc hW3 ll Et hK
    go_wp2_with fail
    rw [← HW3.out]
    rw [show wr.heap.size+1+1=K.F from uW.out.1.symm]
    refine (acf K d j Sg dE n m W3 _ HB3 J8 uT hn2 (by rw [HBI.out];exact rfl)).mono ?_
    rintro e w4 ⟨hk4,jr⟩
    have Ke:Hid (∀ k,k<wr.heap.size→w4.heap[k]?=wr.heap[k]?):=fun k hk=>by
     have h3:W3.heap[k]?=wr.heap[k]?:=hg3.block k hk (by simp)
     exact (hk4.block k (by have:=hg3.size;omega) (iK.out k (by omega))).1.trans h3
    have aX:Hid (w.grownBy w4 none):=⟨hk4.os.trans (hg3.os.trans HG.out.os),hk4.tape.trans (hg3.tape.trans HG.out.tape),hk4.output.trans (hg3.output.trans HG.out.output),by have h1:=hk4.size;have h2:=hg3.size;have h3:=HG.out.size;omega,fun k hk _=>(Ke.out k (by have h3:=HG.out.size;omega)).trans (HG.out.block k hk (by simp))⟩
    cases bt with
    | error y =>
     obtain ⟨rfl,v2,t2,hb2,hp2⟩:=jr
     have HE:Hid (Bo l B r w (.panicked [aH y (j:Int)]) w4):=⟨aX.out,by rw [ae.out]⟩
     rw [show K.num=(j:Int) from Sg.out]
     clear hk4 hb2 hp2 hg3
     go_wp2
     exact ⟨rfl,HE.out⟩
    | ok t =>
     obtain ⟨rfl,hb4⟩:=jr
     obtain ⟨o,sn,rc,cl,h4⟩:=hb4.rows
     obtain ⟨sa,sc,hsn⟩:=il h4.lZ
     obtain ⟨ra,rcc,hrc⟩:=il h4.lD
     obtain ⟨ca,sZ,hcl⟩:=il h4.kS
     subst hsn hrc hcl
     obtain ⟨_,_,_,_,_,f5,f6,f7⟩:=fE h4.blk
     have kG:gW B w4 (w.heap.size+1) L cs (fun i=>(done[i]?).getD Tk.none):=HT.out.keep (fun k o e hk=>Ke.out k (lt_of_block hk))
     have o1:w4.ownsRow B 3 1 (.slice sa t.sends.length sc) t.sends.length (bF t.sends):=by rw [← uW.out.2.1];exact h4.lZ
     have o2:w4.ownsRow B 3 1 (.slice ra t.recvs.length rcc) t.recvs.length (bF t.recvs):=by rw [← uW.out.2.1];exact h4.lD
     have o3:w4.ownsRow B 3 1 (.slice ca t.calls.length sZ) t.calls.length (bF t.calls):=by rw [← uW.out.2.1];exact h4.kS
     have xe:=hid (kG.put hlt o1 o2 o3)
     rw [Sc.out t] at xe
     obtain ⟨s0,s1,s2,z0,z1,z2,_⟩:=kG.row j hlt
     have t0:w4.cell? ⟨w.heap.size+1,j * 3,none⟩=some s0:=by simp [World.cell?,kG.blk,z0]
     have t1:w4.cell? ⟨w.heap.size+1,j * 3+1,none⟩=some s1:=by simp [World.cell?,kG.blk,z1]
     have t2:w4.cell? ⟨w.heap.size+1,j * 3+2,none⟩=some s2:=by simp [World.cell?,kG.blk,z2]
     have y0:w4.frozen? ⟨w.heap.size+1,j * 3,none⟩=false:=by simp [World.frozen?,kG.blk]
     have y1:w4.frozen? ⟨w.heap.size+1,j * 3+1,none⟩=false:=by simp [World.frozen?,kG.blk]
     have y2:w4.frozen? ⟨w.heap.size+1,j * 3+2,none⟩=false:=by simp [World.frozen?,kG.blk]
     have hg5:w4.grownBy (((w4.setCell ⟨w.heap.size+1,j * 3,none⟩ (.slice sa t.sends.length sc)).setCell ⟨w.heap.size+1,j * 3+1,none⟩ (.slice ra t.recvs.length rcc)).setCell ⟨w.heap.size+1,j * 3+2,none⟩ (.slice ca t.calls.length sZ)) (some (w.heap.size+1)):=aB (gQ _ _ _ _) (aB (gQ _ _ _ _) (gQ _ _ _ _))
     have bY:Hid (w.grownBy (((w4.setCell ⟨w.heap.size+1,j * 3,none⟩ (.slice sa t.sends.length sc)).setCell ⟨w.heap.size+1,j * 3+1,none⟩ (.slice ra t.recvs.length rcc)).setCell ⟨w.heap.size+1,j * 3+2,none⟩ (.slice ca t.calls.length sZ)) none):=qC aX.out hg5 (by omega)
     have sN:w4.heap[w.heap.size]?=some (gN L (some ⟨b,off,none⟩) c M):=(Ke.out _ xm).trans HP.out
     have wP:Hid ((((w4.setCell ⟨w.heap.size+1,j * 3,none⟩ (.slice sa t.sends.length sc)).setCell ⟨w.heap.size+1,j * 3+1,none⟩ (.slice ra t.recvs.length rcc)).setCell ⟨w.heap.size+1,j * 3+2,none⟩ (.slice ca t.calls.length sZ)).heap[w.heap.size]?=some (gN L (some ⟨b,off,none⟩) c M)):=(hg5.block _ (lt_of_block sN) (by simp)).trans sN
     have iM:Hid (r=more (done++[t]) (each (aV l) (l.drop (j+1)) (j+1))):=ae.out
     have aeZ:K.F≠w.heap.size+1:=by rw [uW.out.1];omega
     clear hk4 hb4 h4 kG o1 o2 o3 hg5 sN hg3 z0 z1 z2
     go_wp2
     go_roundw
     case rel=>exact ⟨j+1,done++[t],_,by go_num,HJ.out,Sd.out _,bY,wP,xe,iM⟩
     case measure=>have:=HJ.out;simp [intOf];omega
  ·have bX:Hid (r=.ok done):=by
    have h1:=HR.out
    have h2:=HL.out
    rw [List.drop_of_length_le (by omega)] at h1
    show r=.ok done
    rw [h1]
    simp [each,more]
   have hjp:¬ (j:Int)<(L:Int):=by omega
   have hjl:done.length=L:=by omega
   go_wp2
   go_ret
   refine ⟨HG.out,?_⟩
   rw [bX.out]
   refine ⟨w.heap.size+1,cs,by rw [← HL.out];rfl,by omega,?_⟩
   rw [← HL.out]
   exact HT.out
end Sm
namespace Sm
def BH (w:World)(ns:List Nat)(v:Value):Prop:=∃ a c,v=.slice a ns.length c∧∀ i x,ns[i]?=some x→∃ b off,a=some ⟨b,off,none⟩∧w.cell? ⟨b,off+i,none⟩=some (.int .i64 ((x:Nat):Int))
theorem BI {w:World}{B:Nat}{v:Value}{ns:List Nat}(h:w.ownsRow B 3 1 v ns.length (bF ns)):BH w ns v:=by
 rcases h.2 with ⟨rfl,h0⟩ | ⟨g,cap,cur,rfl,_,hh,_,_,_,ht⟩
 ·exact ⟨none,0,by rw [h0],fun i x hx=>by rw [List.eq_nil_of_length_eq_zero h0] at hx;simp at hx⟩
 ·refine ⟨_,cap,rfl,fun i x hx=>⟨g,0,rfl,?_⟩⟩
  have e:(bF ns)[i]?=some (.int .i64 ((x:Nat):Int)):=by simp [hx]
  rw [← ht,List.getElem?_take] at e
  split at e
  ·simp [World.cell?,hh]
   simpa using e
  ·cases e
theorem acr (ns:List Nat)(v:Value)(x:Nat)(w:World)(h:Hid (BH w ns v))(hl:ns.length≤9223372036854775806) :
  Calls Tryz.prog 77 #[v,.int .i64 (x:Int)] w fun e w'=>w'=w∧∃ r:Int,e=.returned (.int .i64 r)∧(decide (0≤r)=decide (x ∈ ns)):=by
 obtain ⟨a,c,rfl,hc⟩:=h.out
 have HC:=hid hc
 obtain ⟨L,hL⟩:∃ L,L=ns.length:=⟨_,rfl⟩
 have HL:Hid (L=ns.length):=hL
 have hl':L≤9223372036854775806:=by rw [hL];exact hl
 rw [← hL]
 clear hL hc hl
 go_enter Tryz.func77,Tryz.ntmps77
 go_wp2
 go_loopw [8] (fun q wr=>∃ j:Nat,q=.int .i64 j∧j≤L∧wr=w∧Hid (x ∉ ns.take j)) (fun q _=>L - (intOf q).toNat)
 case atStart=>exact ⟨0,rfl,Nat.zero_le _,rfl,by unfold Hid;simp⟩
 case round =>
  obtain ⟨j,rfl,hj,rfl,HN⟩:=hrel
  by_cases hlt:j<L
  ·have hj1:j<ns.length:=by rw [← HL.out];exact hlt
   obtain ⟨y,hy⟩:∃ y,ns[j]?=some y:=⟨_,List.getElem?_eq_getElem hj1⟩
   obtain ⟨b,off,rfl,hcell⟩:=HC.out j y hy
   have hjp:(j:Int)<(L:Int):=by omega
   have HJ:Hid (j+1≤L):=hlt
   by_cases hxy:x=y
   ·have exy:((x:Int)==(y:Int))=true:=by simp [hxy]
    have HM:Hid (x ∈ ns):=by rw [hxy];exact List.mem_of_getElem? hy
    clear hxy hy
    go_wp2
    go_ret
    exact ⟨rfl,(j:Int),rfl,by simp [HM.out]⟩
   ·have exy:((x:Int)==(y:Int))=false:=by simp;omega
    have kN:Hid (x ∉ ns.take (j+1)):=by
     unfold Hid
     rw [List.take_succ_eq_append_getElem hj1,List.mem_append]
     rintro (h1 | h1)
     ·exact HN.out h1
     ·rw [(List.getElem?_eq_some_iff.1 hy).2] at h1
      simp at h1
      exact hxy h1
    clear hxy hy
    go_wp2
    go_roundw
    case rel=>exact ⟨j+1,by go_num,HJ.out,trivial,kN⟩
    case measure=>have:=HJ.out;simp [intOf];omega
  ·have HM:Hid (x ∉ ns):=by
    have h1:=HN.out
    have h2:=HL.out
    rw [List.take_of_length_le (by omega)] at h1
    exact h1
   have hjp:¬ (j:Int)<(L:Int):=by omega
   go_wp2
   go_ret
   exact ⟨rfl,-1,rfl,by simp [HM.out]⟩
theorem Kg (ns:List Nat)(v:Value)(x:Nat)(w:World)(h:Hid (BH w ns v))(hl:ns.length≤9223372036854775806) :
  Calls Tryz.prog 44 #[v,.int .i64 (x:Int)] w fun e w'=>w'=w∧e=.returned (.bool (decide (x ∈ ns))):=by
 go_enter Tryz.func44,Tryz.ntmps44
 go_wp2_with fail
 refine (acr ns v x w h hl).mono ?_
 rintro e w1 ⟨rfl,r,rfl,hr⟩
 have HR:=hid hr
 clear hr
 go_wp2
 go_ret
 exact ⟨rfl,by rw [← HR.out];rfl⟩
end Sm
end Go.Proofs.YtolfleeidpeomaaGreatDoor
