/- The walk of reckon: locals. -/
import Derived.Test.YthffafaoobpedaaGreatDoorM3
import Derived.Maps.RangeWalk
import Derived.Test.YthffafaoobpedaaGreatDoorM18
import Derived.Test.YthffafaoobpedaaGreatDoorM19
set_option maxRecDepth 100000
set_option maxHeartbeats 4000000
namespace Go.Proofs.YthffafaoobpedaaGreatDoor
open Go.RowKit
theorem VI (c:FC)(F B:Nat)(top:Option Addr)(st:List Int)(f:Vf.Fl)(n:Int)(row:Value)(nn:Int)(k:Nat)(x:Int)(hx:Hid (c.u.locals[k]?=some x))(hk:k < 256)(w:World)(h:Hid (aA c w F top st f n row))(hE:Hid (Env c B F w))(hl:st.length≤300)(r:Except Int (List Int))(hr:Hid (r=Vf.andThen (Vf.must (f.has k) 11 st) (Vf.put x))) :
  Calls Tryz.prog 99 #[.pointer (some ⟨F,0,none⟩),.agg #[.int .i64 3,.int .i64 (k:Int),.int .i64 nn]] w fun e w'=>ay c F f n row r w e w':=by
 have hlt:=hE.out.lt
 have jg:=hE.out.base
 have aP:=hide (h.out.alloc (ak 3 (k:Int) nn))
 have bN:Hid (w.grownBy (w.alloc (ak 3 (k:Int) nn)) (some F)):=aY _
 obtain ⟨pX,b,off,ha,hb,cx⟩:=hE.out.un.locals k x hx.out
 have kL:=hide pX
 have nW:k < c.u.locals.length:=(List.getElem?_eq_some_iff.1 hx.out).1
 have hk1:(k:Int) < (c.u.locals.length:Int):=by omega
 have d2:(w.alloc (ak 3 (k:Int) nn)).cell? ⟨w.heap.size,1,none⟩=some (.int .i64 (k:Int)):=(rJ (alloc_at w _)).2.1
 have d3:(w.alloc (ak 3 (k:Int) nn)).cell? ⟨b,off+k,none⟩=some (.int .i64 x):=(uY _ _ (by omega)).trans cx
 have HA:=hide ha
 have HS2:Hid (∀ w3,(w.alloc (ak 3 (k:Int) nn)).grownBy w3 (some F)→w3.cell? ⟨F,4,none⟩=some (.slice c.al c.u.locals.length c.cl)→(w3.cell? ⟨F,4,none⟩=some (.slice (some ⟨b,off,none⟩) c.u.locals.length c.cl)∧w3.cell? ⟨w.heap.size,1,none⟩=some (.int .i64 (k:Int))∧w3.cell? ⟨b,off+k,none⟩=some (.int .i64 x))):=fun w3 hg3 h1=>⟨by rw [h1,HA.out],(aS (kept hg3 (by simp) (by omega)) _).trans d2,(aS (kept hg3 (by simp;omega) (by omega)) _).trans d3⟩
 clear pX cx ha
 obtain ⟨e10,e11,e12,e13,_⟩:=qF aP.out.blk
 have c14:=(eZ aP.out.blk).1
 obtain ⟨bb,hbb⟩:∃ bb,bb=f.has k:=⟨_,rfl⟩
 have HB:=hide hbb
 have ED:Hid (r=Vf.andThen (Vf.must bb 11 st) (Vf.put x)):=by unfold Hid;rw [hr.out,hbb]
 clear hbb hr
 obtain ⟨fo,hfo⟩:∃ fo:Obj,fo=.cells #[aj f.a,aj f.b,aj f.c,aj f.d] 135 (0,0):=⟨_,rfl⟩
 have yj:=hide hfo
 clear hfo
 have aO:Hid (aA c ((w.alloc (ak 3 (k:Int) nn)).drew.alloc fo) F top st f n row):=aP.out.drew.alloc _
 have aH:Hid (w.grownBy ((w.alloc (ak 3 (k:Int) nn)).drew.alloc fo) (some F)):=dM (iQ (aY _)) _
 have HT1:Hid ((w.alloc (ak 3 (k:Int) nn)).grownBy ((w.alloc (ak 3 (k:Int) nn)).drew.alloc fo) (some F)):=dM (iQ (fC _ _)) _
 have La:=(eZ aO.out.blk).1
 have k2:((w.alloc (ak 3 (k:Int) nn)).drew.alloc fo).cell? ⟨w.heap.size,1,none⟩=some (.int .i64 (k:Int)):=(aS (kept HT1.out (by simp) (by omega)) _).trans d2
 obtain ⟨k10,k11,k12,k13,_⟩:=qF aO.out.blk
 go_enter Tryz.func99,Tryz.ntmps99
 go_wp2_with fail
 refine wp_region_held_drew (S:=fun w'=>w'.cell? ⟨F,10,none⟩=some (aj f.a)∧w'.cell? ⟨F,11,none⟩=some (aj f.b)∧w'.cell? ⟨F,12,none⟩=some (aj f.c)∧w'.cell? ⟨F,13,none⟩=some (aj f.d)∧w'.cell? ⟨w.heap.size,1,none⟩=some (.int .i64 (k:Int))) (by kernel_rfl) ⟨e10,e11,e12,e13,d2⟩ (fun hHeld=>?_)
 refine wpAnyH_take (i:=0) (oi:=_) (v:=?_) rfl (by kernel_rfl) (by kernel_rfl) (by kernel_rfl) (fun _ _ _ h=>h) (Or.inl ⟨by rfl,?_⟩) (by assumption) ?_
 rotate_left
 ·intro w hSw
  (try dsimp only at hSw)
  go_simp
  (try with_reducible rfl)
 (try go_frame)
 refine wpAnyH_take (i:=1) (oi:=_) (v:=?_) rfl (by kernel_rfl) (by kernel_rfl) (by kernel_rfl) (fun _ _ _ h=>h) (Or.inl ⟨by rfl,?_⟩) (by assumption) ?_
 rotate_left
 ·intro w hSw
  (try dsimp only at hSw)
  go_simp
  (try with_reducible rfl)
 (try go_frame)
 refine wpAnyH_take (i:=2) (oi:=_) (v:=?_) rfl (by kernel_rfl) (by kernel_rfl) (by kernel_rfl) (fun _ _ _ h=>h) (Or.inl ⟨by rfl,?_⟩) (by assumption) ?_
 rotate_left
 ·intro w hSw
  (try dsimp only at hSw)
  go_simp
  (try with_reducible rfl)
 (try go_frame)
 refine wpAnyH_take (i:=3) (oi:=_) (v:=?_) rfl (by kernel_rfl) (by kernel_rfl) (by kernel_rfl) (fun _ _ _ h=>h) (Or.inl ⟨by rfl,?_⟩) (by assumption) ?_
 rotate_left
 ·intro w hSw
  (try dsimp only at hSw)
  go_simp
  (try with_reducible rfl)
 (try go_frame)
 refine wpAnyH_take (i:=4) (oi:=_) (v:=?_) rfl (by kernel_rfl) (by kernel_rfl) (by kernel_rfl) (fun _ _ _ h=>h) (Or.inl ⟨by rfl,?_⟩) (by assumption) ?_
 rotate_left
 ·intro w hSw
  (try dsimp only at hSw)
  go_simp
  (try with_reducible rfl)
 (try go_frame)
 refine wpAnyH_take (i:=5) (oi:=_) (v:=?_) rfl (by kernel_rfl) (by kernel_rfl) (by kernel_rfl) (fun _ _ _ h=>h) (Or.inl ⟨by rfl,?_⟩) (by assumption) ?_
 rotate_left
 ·intro w hSw
  (try dsimp only at hSw)
  go_simp
  (try with_reducible rfl)
 (try go_frame)
 refine wpAnyH_take (i:=6) (oi:=_) (v:=?_) rfl (by kernel_rfl) (by kernel_rfl) (by kernel_rfl) (fun _ _ _ h=>h) (Or.inl ⟨by rfl,?_⟩) (by assumption) ?_
 rotate_left
 ·intro w hSw
  (try dsimp only at hSw)
  go_simp
  (try with_reducible rfl)
 (try go_frame)
 refine wpAnyH_take (i:=7) (oi:=_) (v:=?_) rfl (by kernel_rfl) (by kernel_rfl) (by kernel_rfl) (fun _ _ _ h=>h) (Or.inl ⟨by rfl,?_⟩) (by assumption) ?_
 rotate_left
 ·intro w hSw
  (try dsimp only at hSw)
  go_simp
  (try with_reducible rfl)
 (try go_frame)
 refine wpAnyH_ready (rs:=[8]) (by kernel_rfl) (by simp) ?_
 refine AllReadyH.cons (o:=_) rfl (fun K hK=>?_) AllReadyH.nil
 go_simp
 refine (Rp f k hk _ bb HB).mono ?_
 rintro e w1 ⟨rfl,hw1⟩
 rw [← yj.out] at hw1
 subst hw1
 refine hK.out _ _ ⟨k10,k11,k12,k13,k2⟩ (fun hHeld=>?_)
 clear hK
 refine wpAnyH_ready (rs:=[9]) (by kernel_rfl) (by simp) ?_
 refine AllReadyH.cons (o:=_) rfl (fun K hK=>?_) AllReadyH.nil
 go_simp
 refine (eF F bb 11 n _ La).mono ?_
 rintro e w2 ⟨he,hw2⟩
 subst hw2
 cases bb with
 | false =>
  obtain rfl:e=.panicked [bZ 11 n]:=he
  have HE:Hid (r=.error 11):=ED.out
  clear hK
  go_wp2
  exact ⟨rfl,ay.bad aH.out HE.out⟩
 | true =>
  obtain rfl:e=.returned (.tuple #[]):=he
  have HR2:Hid (r=Vf.put x st):=ED.out
  refine hK.out _ _ ⟨k10,k11,k12,k13,k2⟩ (fun hHeld=>?_)
  clear hK hHeld
  refine wpAnyH_done (by kernel_rfl) ?_ _
  have q:=HS2.out _ HT1.out (dH aO.out.blk).2.2.2.2.1
  clear e10 e11 e12 e13 k10 k11 k12 k13 k2 c14 La d2 d3 ED HB
  generalize ((w.alloc (ak 3 (k:Int) nn)).drew.alloc fo)=W1 at *
  go_wp2_with fail
  refine wp_region_held_drew (S:=fun w'=>w'.cell? ⟨F,4,none⟩=some (.slice (some ⟨b,off,none⟩) c.u.locals.length c.cl)∧w'.cell? ⟨w.heap.size,1,none⟩=some (.int .i64 (k:Int))∧w'.cell? ⟨b,off+k,none⟩=some (.int .i64 x)) (by kernel_rfl) q (fun hHeld=>?_)
  refine wpAnyH_take (i:=0) (oi:=_) (v:=?_) rfl (by kernel_rfl) (by kernel_rfl) (by kernel_rfl) (fun _ _ _ h=>h) (Or.inl ⟨by rfl,?_⟩) (by assumption) ?_
  rotate_left
  ·intro w hSw
   (try dsimp only at hSw)
   go_simp
   (try with_reducible rfl)
  (try go_frame)
  refine wpAnyH_take (i:=1) (oi:=_) (v:=?_) rfl (by kernel_rfl) (by kernel_rfl) (by kernel_rfl) (fun _ _ _ h=>h) (Or.inl ⟨by rfl,?_⟩) (by assumption) ?_
  rotate_left
  ·intro w hSw
   (try dsimp only at hSw)
   go_simp
   (try with_reducible rfl)
  (try go_frame)
  refine wpAnyH_take (i:=2) (oi:=_) (v:=?_) rfl (by kernel_rfl) (by kernel_rfl) (by kernel_rfl) (fun _ _ _ h=>h) (Or.inl ⟨by rfl,?_⟩) (by assumption) ?_
  rotate_left
  ·intro w hSw
   (try dsimp only at hSw)
   go_simp
   (try with_reducible rfl)
  (try go_frame)
  refine wpAnyH_take (i:=3) (oi:=_) (v:=?_) rfl (by kernel_rfl) (by kernel_rfl) (by kernel_rfl) (fun _ _ _ h=>h) (Or.inl ⟨by rfl,?_⟩) (by assumption) ?_
  rotate_left
  ·intro w hSw
   (try dsimp only at hSw)
   go_simp
   (try with_reducible rfl)
  (try go_frame)
  refine wpAnyH_take (i:=4) (oi:=_) (v:=?_) rfl (by kernel_rfl) (by kernel_rfl) (by kernel_rfl) (fun _ _ _ h=>h) (Or.inl ⟨by rfl,?_⟩) (by assumption) ?_
  rotate_left
  ·intro w hSw
   (try dsimp only at hSw)
   go_simp
   (try with_reducible rfl)
  (try go_frame)
  refine wpAnyH_take (i:=5) (oi:=_) (v:=?_) rfl (by kernel_rfl) (by kernel_rfl) (by kernel_rfl) (fun _ _ _ h=>h) (Or.inl ⟨by rfl,?_⟩) (by assumption) ?_
  rotate_left
  ·intro w hSw
   (try dsimp only at hSw)
   go_simp
   (try with_reducible rfl)
  (try go_frame)
  refine wpAnyH_take (i:=6) (oi:=_) (v:=?_) rfl (by kernel_rfl) (by kernel_rfl) (by kernel_rfl) (fun _ _ _ h=>h) (Or.inl ⟨by rfl,?_⟩) (by assumption) ?_
  rotate_left
  ·intro w hSw
   (try dsimp only at hSw)
   go_simp
   (try with_reducible rfl)
  (try go_frame)
  refine wpAnyH_take (i:=7) (oi:=_) (v:=?_) rfl (by kernel_rfl) (by kernel_rfl) (by kernel_rfl) (fun _ _ _ h=>h) (Or.inl ⟨by rfl,?_⟩) (by assumption) ?_
  rotate_left
  ·intro w hSw
   (try dsimp only at hSw)
   go_simp
   (try with_reducible rfl)
  (try go_frame)
  refine wpAnyH_take (i:=8) (oi:=_) (v:=?_) rfl (by kernel_rfl) (by kernel_rfl) (by kernel_rfl) (fun _ _ _ h=>h) (Or.inl ⟨by rfl,?_⟩) (by assumption) ?_
  rotate_left
  ·intro w hSw
   (try dsimp only at hSw)
   go_simp
   (try with_reducible rfl)
  (try go_frame)
  refine wpAnyH_take (i:=9) (oi:=_) (v:=?_) rfl (by kernel_rfl) (by kernel_rfl) (by kernel_rfl) (fun _ _ _ h=>h) (Or.inl ⟨by rfl,?_⟩) (by assumption) ?_
  rotate_left
  ·intro w hSw
   (try dsimp only at hSw)
   go_simp
   (try with_reducible rfl)
  (try go_frame)
  refine wpAnyH_take (i:=10) (oi:=_) (v:=?_) rfl (by kernel_rfl) (by kernel_rfl) (by kernel_rfl) (fun _ _ _ h=>h) (Or.inl ⟨by rfl,?_⟩) (by assumption) ?_
  rotate_left
  ·intro w hSw
   (try dsimp only at hSw)
   go_simp
   (try with_reducible rfl)
  (try go_frame)
  refine wpAnyH_ready (rs:=[11]) (by kernel_rfl) (by simp) ?_
  refine AllReadyH.cons (o:=_) rfl (fun K hK=>?_) AllReadyH.nil
  go_simp
  refine (fZ c F top st f n row x _ (hide aO.out.drew) (by omega) r HR2).mono ?_
  rintro e w9 hS
  have aJ:Hid (w.grownBy w9 (some F)):=bg aH.out (iH hS.grown)
  cases r with
  | error er =>
   obtain rfl:=hS.no er rfl
   clear hS hK
   go_wp2
   exact ⟨rfl,ay.bad aJ.out rfl⟩
  | ok aX =>
   obtain ⟨rfl,fq,aK⟩:=hS.yes aX rfl
   have aW:=hide aK
   refine hK.out _ _ (HS2.out w9 (bg HT1.out (iH hS.grown)) (dH aW.out.blk).2.2.2.2.1) (fun hHeld=>?_)
   clear hK hS aK
   refine wpAnyH_done (by kernel_rfl) ?_ _
   go_wp2
   go_end0
   exact ay.good aJ.out rfl aW.out
theorem VJ (c:FC)(F B:Nat)(top:Option Addr)(st:List Int)(f:Vf.Fl)(n:Int)(row:Value)(nn:Int)(k:Nat)(x:Int)(hx:Hid (c.u.locals[k]?=some x))(hk:k < 256)(w:World)(h:Hid (aA c w F top st f n row))(hE:Hid (Env c B F w))(hl:st.length≤300)(r:Except Int (List Int))(hr:Hid (r=Vf.dw [x] st)) :
  Calls Tryz.prog 99 #[.pointer (some ⟨F,0,none⟩),.agg #[.int .i64 4,.int .i64 (k:Int),.int .i64 nn]] w fun e w'=>ay c F (f.fill k) n row r w e w':=by
 have hlt:=hE.out.lt
 have jg:=hE.out.base
 have aP:=hide (h.out.alloc (ak 4 (k:Int) nn))
 have bN:Hid (w.grownBy (w.alloc (ak 4 (k:Int) nn)) (some F)):=aY _
 obtain ⟨pX,b,off,ha,hb,cx⟩:=hE.out.un.locals k x hx.out
 have kL:=hide pX
 have nW:k < c.u.locals.length:=(List.getElem?_eq_some_iff.1 hx.out).1
 have hk1:(k:Int) < (c.u.locals.length:Int):=by omega
 have d2:(w.alloc (ak 4 (k:Int) nn)).cell? ⟨w.heap.size,1,none⟩=some (.int .i64 (k:Int)):=(rJ (alloc_at w _)).2.1
 have d3:(w.alloc (ak 4 (k:Int) nn)).cell? ⟨b,off+k,none⟩=some (.int .i64 x):=(uY _ _ (by omega)).trans cx
 have HA:=hide ha
 have HS2:Hid (∀ w3,(w.alloc (ak 4 (k:Int) nn)).grownBy w3 (some F)→w3.cell? ⟨F,4,none⟩=some (.slice c.al c.u.locals.length c.cl)→(w3.cell? ⟨F,4,none⟩=some (.slice (some ⟨b,off,none⟩) c.u.locals.length c.cl)∧w3.cell? ⟨w.heap.size,1,none⟩=some (.int .i64 (k:Int))∧w3.cell? ⟨b,off+k,none⟩=some (.int .i64 x))):=fun w3 hg3 h1=>⟨by rw [h1,HA.out],(aS (kept hg3 (by simp) (by omega)) _).trans d2,(aS (kept hg3 (by simp;omega) (by omega)) _).trans d3⟩
 clear pX cx ha
 obtain ⟨ro,hro⟩:∃ ro:Obj,ro=.cells #[.int .i64 x] 3 (0,0):=⟨_,rfl⟩
 have Lc:=hide hro
 clear hro
 have aO:Hid (aA c ((w.alloc (ak 4 (k:Int) nn)).drew.alloc ro) F top st f n row):=aP.out.drew.alloc _
 have aH:Hid (w.grownBy ((w.alloc (ak 4 (k:Int) nn)).drew.alloc ro) (some F)):=dM (iQ (aY _)) _
 have HT1:Hid ((w.alloc (ak 4 (k:Int) nn)).grownBy ((w.alloc (ak 4 (k:Int) nn)).drew.alloc ro) (some F)):=dM (iQ (fC _ _)) _
 have sN:Hid (((w.alloc (ak 4 (k:Int) nn)).drew.alloc ro).heap[w.heap.size+1]?=some (.cells #[.int .i64 x] 3 (0,0))):=by
   have e:(w.alloc (ak 4 (k:Int) nn)).drew.heap.size=w.heap.size+1:=by simp
   rw [Lc.out,← e]
   exact heap_alloc_new _ _
 have q0:=HS2.out _ (fC _ _) (dH aP.out.blk).2.2.2.2.1
 have q1:=HS2.out _ HT1.out (dH aO.out.blk).2.2.2.2.1
 rw [Lc.out] at aO aH HT1 sN q1
 have qM:=hide q1
 clear q1 d2 d3
 go_enter Tryz.func99,Tryz.ntmps99
 go_wp2_with fail
 refine wp_region_held_drew (S:=fun w'=>w'.cell? ⟨F,4,none⟩=some (.slice (some ⟨b,off,none⟩) c.u.locals.length c.cl)∧w'.cell? ⟨w.heap.size,1,none⟩=some (.int .i64 (k:Int))∧w'.cell? ⟨b,off+k,none⟩=some (.int .i64 x)) (by kernel_rfl) q0 (fun hHeld=>?_)
 refine wpAnyH_take (i:=0) (oi:=_) (v:=?_) rfl (by kernel_rfl) (by kernel_rfl) (by kernel_rfl) (fun _ _ _ h=>h) (Or.inl ⟨by rfl,?_⟩) (by assumption) ?_
 rotate_left
 ·intro w hSw
  (try dsimp only at hSw)
  go_simp
  (try with_reducible rfl)
 (try go_frame)
 refine wpAnyH_take (i:=1) (oi:=_) (v:=?_) rfl (by kernel_rfl) (by kernel_rfl) (by kernel_rfl) (fun _ _ _ h=>h) (Or.inl ⟨by rfl,?_⟩) (by assumption) ?_
 rotate_left
 ·intro w hSw
  (try dsimp only at hSw)
  go_simp
  (try with_reducible rfl)
 (try go_frame)
 refine wpAnyH_take (i:=2) (oi:=_) (v:=?_) rfl (by kernel_rfl) (by kernel_rfl) (by kernel_rfl) (fun _ _ _ h=>h) (Or.inl ⟨by rfl,?_⟩) (by assumption) ?_
 rotate_left
 ·intro w hSw
  (try dsimp only at hSw)
  go_simp
  (try with_reducible rfl)
 (try go_frame)
 refine wpAnyH_take (i:=3) (oi:=_) (v:=?_) rfl (by kernel_rfl) (by kernel_rfl) (by kernel_rfl) (fun _ _ _ h=>h) (Or.inl ⟨by rfl,?_⟩) (by assumption) ?_
 rotate_left
 ·intro w hSw
  (try dsimp only at hSw)
  go_simp
  (try with_reducible rfl)
 (try go_frame)
 refine wpAnyH_take (i:=4) (oi:=_) (v:=?_) rfl (by kernel_rfl) (by kernel_rfl) (by kernel_rfl) (fun _ _ _ h=>h) (Or.inl ⟨by rfl,?_⟩) (by assumption) ?_
 rotate_left
 ·intro w hSw
  (try dsimp only at hSw)
  go_simp
  (try with_reducible rfl)
 (try go_frame)
 refine wpAnyH_take (i:=5) (oi:=_) (v:=?_) rfl (by kernel_rfl) (by kernel_rfl) (by kernel_rfl) (fun _ _ _ h=>h) (Or.inl ⟨by rfl,?_⟩) (by assumption) ?_
 rotate_left
 ·intro w hSw
  (try dsimp only at hSw)
  go_simp
  (try with_reducible rfl)
 (try go_frame)
 refine wpAnyH_take (i:=6) (oi:=_) (v:=?_) rfl (by kernel_rfl) (by kernel_rfl) (by kernel_rfl) (fun _ _ _ h=>h) (Or.inl ⟨by rfl,?_⟩) (by assumption) ?_
 rotate_left
 ·intro w hSw
  (try dsimp only at hSw)
  go_simp
  (try with_reducible rfl)
 (try go_frame)
 refine wpAnyH_take (i:=7) (oi:=_) (v:=?_) rfl (by kernel_rfl) (by kernel_rfl) (by kernel_rfl) (fun _ _ _ h=>h) (Or.inl ⟨by rfl,?_⟩) (by assumption) ?_
 rotate_left
 ·intro w hSw
  (try dsimp only at hSw)
  go_simp
  (try with_reducible rfl)
 (try go_frame)
 refine wpAnyH_take (i:=8) (oi:=_) (v:=?_) rfl (by kernel_rfl) (by kernel_rfl) (by kernel_rfl) (fun _ _ _ h=>h) (Or.inl ⟨by rfl,?_⟩) (by assumption) ?_
 rotate_left
 ·intro w hSw
  (try dsimp only at hSw)
  go_simp
  (try with_reducible rfl)
 (try go_frame)
 refine wpAnyH_take (i:=9) (oi:=_) (v:=?_) rfl (by kernel_rfl) (by kernel_rfl) (by kernel_rfl) (fun _ _ _ h=>h) (Or.inl ⟨by rfl,?_⟩) (by assumption) ?_
 rotate_left
 ·intro w hSw
  (try dsimp only at hSw)
  go_simp
  (try with_reducible rfl)
 (try go_frame)
 refine wpAnyH_take (i:=10) (oi:=_) (v:=?_) rfl (by kernel_rfl) (by kernel_rfl) (by kernel_rfl) (fun _ _ _ h=>h) (Or.inl ⟨by rfl,?_⟩) (by assumption) ?_
 rotate_left
 ·intro w hSw
  (try dsimp only at hSw)
  go_simp
  (try with_reducible rfl)
 (try go_frame)
 refine wpAnyH_ready (rs:=[11]) (by kernel_rfl) (by simp) ?_
 refine AllReadyH.cons (o:=_) rfl (fun K hK=>?_) AllReadyH.nil
 go_simp
 refine hK.out _ _ qM.out (fun hHeld=>?_)
 clear hK
 refine wpAnyH_ready (rs:=[12]) (by kernel_rfl) (by simp) ?_
 refine AllReadyH.cons (o:=_) rfl (fun K hK=>?_) AllReadyH.nil
 go_simp
 refine (Ae c F (w.heap.size+1) top st f n row x _ aO (by omega) kL sN.out (by omega) r hr).mono ?_
 rintro e w2 hS
 have HG2:Hid (w.grownBy w2 (some F)):=bg aH.out hS.grown
 cases r with
 | error er =>
  obtain rfl:=hS.no er rfl
  clear hS hK
  go_wp2
  exact ⟨rfl,ay.bad HG2.out rfl⟩
 | ok st1 =>
  obtain ⟨rfl,bV,hF2⟩:=hS.yes st1 rfl
  have bO:=hide hF2
  have q2:=HS2.out w2 (bg HT1.out hS.grown) (dH bO.out.blk).2.2.2.2.1
  refine hK.out _ _ q2 (fun hHeld=>?_)
  clear hK hS hF2 hHeld q0
  refine wpAnyH_done (by kernel_rfl) ?_ _
  go_wp2_with fail
  refine wp_region_held_drew (S:=fun w'=>w'.cell? ⟨w.heap.size,1,none⟩=some (.int .i64 (k:Int))) (by kernel_rfl) q2.2.1 (fun hHeld=>?_)
  refine wpAnyH_take (i:=0) (oi:=_) (v:=?_) rfl (by kernel_rfl) (by kernel_rfl) (by kernel_rfl) (fun _ _ _ h=>h) (Or.inl ⟨by rfl,?_⟩) (by assumption) ?_
  rotate_left
  ·intro w hSw
   (try dsimp only at hSw)
   go_simp
   (try with_reducible rfl)
  (try go_frame)
  refine wpAnyH_take (i:=1) (oi:=_) (v:=?_) rfl (by kernel_rfl) (by kernel_rfl) (by kernel_rfl) (fun _ _ _ h=>h) (Or.inl ⟨by rfl,?_⟩) (by assumption) ?_
  rotate_left
  ·intro w hSw
   (try dsimp only at hSw)
   go_simp
   (try with_reducible rfl)
  (try go_frame)
  refine wpAnyH_take (i:=2) (oi:=_) (v:=?_) rfl (by kernel_rfl) (by kernel_rfl) (by kernel_rfl) (fun _ _ _ h=>h) (Or.inl ⟨by rfl,?_⟩) (by assumption) ?_
  rotate_left
  ·intro w hSw
   (try dsimp only at hSw)
   go_simp
   (try with_reducible rfl)
  (try go_frame)
  refine wpAnyH_take (i:=3) (oi:=_) (v:=?_) rfl (by kernel_rfl) (by kernel_rfl) (by kernel_rfl) (fun _ _ _ h=>h) (Or.inl ⟨by rfl,?_⟩) (by assumption) ?_
  rotate_left
  ·intro w hSw
   (try dsimp only at hSw)
   go_simp
   (try with_reducible rfl)
  (try go_frame)
  refine wpAnyH_take (i:=4) (oi:=_) (v:=?_) rfl (by kernel_rfl) (by kernel_rfl) (by kernel_rfl) (fun _ _ _ h=>h) (Or.inl ⟨by rfl,?_⟩) (by assumption) ?_
  rotate_left
  ·intro w hSw
   (try dsimp only at hSw)
   go_simp
   (try with_reducible rfl)
  (try go_frame)
  refine wpAnyH_take (i:=5) (oi:=_) (v:=?_) rfl (by kernel_rfl) (by kernel_rfl) (by kernel_rfl) (fun _ _ _ h=>h) (Or.inl ⟨by rfl,?_⟩) (by assumption) ?_
  rotate_left
  ·intro w hSw
   (try dsimp only at hSw)
   go_simp
   (try with_reducible rfl)
  (try go_frame)
  refine wpAnyH_ready (rs:=[6]) (by kernel_rfl) (by simp) ?_
  refine AllReadyH.cons (o:=_) rfl (fun K hK=>?_) AllReadyH.nil
  go_simp
  refine (Jm c F bV st1 f n row k hk _ (hide bO.out.drew)).mono ?_
  rintro e w3 ⟨rfl,hg3,Ld⟩
  have fD:Hid (w.grownBy w3 (some F)):=bg HG2.out (iH hg3)
  have jv:=hide Ld
  refine hK.out _ _ (by rw [← q2.2.1];exact aS (kept (iH hg3) (by have:=HG2.out.size;have:=lt_of_block (kept (bg HT1.out (fC _ _)) (by simp) (by omega) |>.trans (alloc_at w _));have:=World.block_lt_of_cell? w2 _ q2.2.1;exact this) (by omega)) _) (fun hHeld=>?_)
  clear hK hg3 Ld
  refine wpAnyH_done (by kernel_rfl) ?_ _
  go_wp2
  go_end0
  exact ay.good fD.out rfl jv.out
theorem VK {a:Int}(h:0≤a):∃ k:Nat,a=k:=⟨a.toNat,by omega⟩
theorem Le {m:Vf.Md}{u:Vf.Un}{a nn:Int}{op kd:Int}(h:Vf.bD m u ⟨op,a,nn⟩=0)(he:Vf.ranged m u ⟨op,a,nn⟩=Vf.is m kd a):∃ (k:Nat) (x:Vf.Un),a=k∧m.units[k]?=some x∧x.kind=kd:=by
 have h1:=(oZ h).2.2
 rw [he] at h1
 obtain ⟨x,h2,h3,h4⟩:=kg h1
 exact ⟨a.toNat,x,by omega,h2,h3⟩
theorem vK {m:Vf.Md}{u:Vf.Un}{a nn:Int}{op:Int}{L:Nat}(h:Vf.bD m u ⟨op,a,nn⟩=0)(he:Vf.ranged m u ⟨op,a,nn⟩=(decide (0≤a) && decide (a < L))):∃ k:Nat,a=k∧k < L:=by
 have h1:=(oZ h).2.2
 rw [he] at h1
 simp only [Bool.and_eq_true,decide_eq_true_eq] at h1
 exact ⟨a.toNat,by omega,by omega⟩
theorem Rt.Lf {m:Vf.Md}(h:Rt m){k:Nat}{u:Vf.Un}(hu:m.units[k]?=some u):0≤u.params∧u.params≤u.locals.length∧u.locals.length≤200:=by
 have:=jI (ig (h.heads k u hu).1).2.1
 exact ⟨this.2.1,this.2.2.1,this.1⟩
theorem Em (c:FC)(F B:Nat)(top:Option Addr)(st:List Int)(f:Vf.Fl)(n:Int)(row:Value)(op a nn:Int)(w:World)(h:Hid (aA c w F top st f n row))(hE:Hid (Env c B F w))(hl:st.length≤300)(hgn:Hid (j6 c.m st))(hR:Hid (Rt c.m))(hfm:Hid (Vf.bD c.m c.u ⟨op,a,nn⟩=0))
  (hop:op=21∨op=23∨op=24∨op=25∨op=26∨op=27∨op=29∨op=30∨op=31∨op=32) (r:Except Int (List Int)) (hr:Hid (r=Vf.speak c.m c.u ⟨op,a,nn⟩ st)) :
  Calls Tryz.prog 148 #[.pointer (some ⟨F,0,none⟩),.agg #[.int .i64 op,.int .i64 a,.int .i64 nn]] w fun e w'=>ay c F f n row r w e w':=by
 rcases hop with rfl | rfl | rfl | rfl | rfl | rfl | rfl | rfl | rfl | rfl
 ·exact Vk c F B top st f n row a nn w h hE r (hide hr.out)
 ·obtain ⟨k,x,rfl,hx,_⟩:=Le (kd:=2) hfm.out rfl
  exact U8 c F B top st f n row nn k x (hide hx) (hide (hR.out.Lf hx)) _ (hide rfl) w h hE hl r (hide (by rw [hr.out];show Vf.turn (Vf.unit c.m (k:Int)).result ((Vf.unit c.m (k:Int)).locals.take (Vf.unit c.m (k:Int)).params.toNat) st=_;rw [lX hx]))
 ·exact Vj c F B top st f n row a nn w h hE hl r (hide hr.out)
 ·exact Vi c F B top st f n row a nn w h hE hl r (hide hr.out)
 ·obtain ⟨k,rfl,hk⟩:=vK (L:=c.m.boxes.length) hfm.out rfl
  have hx:=List.getElem?_eq_getElem hk
  exact Va c F B top st f n row nn k _ (hide hx) w h hE hl r (hide (by rw [hr.out];show Vf.dw [Vf.gM c.m (k:Int)] st=_;rw [Jo hx]))
 ·obtain ⟨k,rfl,hk⟩:=vK (L:=c.m.boxes.length) hfm.out rfl
  have hx:=List.getElem?_eq_getElem hk
  exact Vb c F B top st f n row nn k _ (hide hx) w h hE hl r (hide (by rw [hr.out];show Vf.put (Vf.gM c.m (k:Int)) st=_;rw [Jo hx]))
 ·obtain ⟨k,x,rfl,hx,_⟩:=Le (kd:=3) hfm.out rfl
  exact U9 c F B top st f n row nn k x (hide hx) (hide (hR.out.Lf hx)) hR.out.units _ (hide rfl) w h hE hl r (hide (by rw [hr.out];show Vf.turn (10+(k:Int)) ((Vf.unit c.m (k:Int)).locals.take (Vf.unit c.m (k:Int)).params.toNat) st=_;rw [lX hx]))
 ·exact Vd c F B top st f n row a nn hgn hR.out.units w h hE hl r (hide hr.out)
 ·exact Vh c F B top st f n row a nn w h hE hl r (hide hr.out)
 ·exact Vg c F B top st f n row a nn hgn hR.out.units w h hE hl r (hide hr.out)
theorem oo (c:FC)(F B:Nat)(top:Option Addr)(st:List Int)(f:Vf.Fl)(n:Int)(row:Value)(op a nn:Int)(w:World)(h:Hid (aA c w F top st f n row))(hE:Hid (Env c B F w))(hl:st.length≤300)(hgn:Hid (j6 c.m st))(hR:Hid (Rt c.m))(hfm:Hid (Vf.bD c.m c.u ⟨op,a,nn⟩=0))
  (hop:Hid (op=21∨op=23∨op=24∨op=25∨op=26∨op=27∨op=29∨op=30∨op=31∨op=32)) (r:Except Int (List Int)) (hr:Hid (r=Vf.speak c.m c.u ⟨op,a,nn⟩ st)) :
  Calls Tryz.prog 99 #[.pointer (some ⟨F,0,none⟩),.agg #[.int .i64 op,.int .i64 a,.int .i64 nn]] w fun e w'=>ay c F f n row r w e w':=by
 have aP:=hide (h.out.alloc (ak op a nn))
 have bN:Hid (w.grownBy (w.alloc (ak op a nn)) (some F)):=aY _
 have sO:=hide (hE.out.grown bN.out)
 have ne:∀ k:Int,k≠21→k≠23→k≠24→k≠25→k≠26→k≠27→k≠29→k≠30→k≠31→k≠32→(op == k)=false:=by
  intro k h1 h2 h3 h4 h5 h6 h7 h8 h9 h10
  have:=hop.out
  simp
  omega
 have g1:(op == 1)=false:=ne 1 (by decide) (by decide) (by decide) (by decide) (by decide) (by decide) (by decide) (by decide) (by decide) (by decide)
 have g2:(op == 2)=false:=ne 2 (by decide) (by decide) (by decide) (by decide) (by decide) (by decide) (by decide) (by decide) (by decide) (by decide)
 have g3:(op == 3)=false:=ne 3 (by decide) (by decide) (by decide) (by decide) (by decide) (by decide) (by decide) (by decide) (by decide) (by decide)
 have g4:(op == 4)=false:=ne 4 (by decide) (by decide) (by decide) (by decide) (by decide) (by decide) (by decide) (by decide) (by decide) (by decide)
 have g5:(op == 5)=false:=ne 5 (by decide) (by decide) (by decide) (by decide) (by decide) (by decide) (by decide) (by decide) (by decide) (by decide)
 have g6:(op == 6)=false:=ne 6 (by decide) (by decide) (by decide) (by decide) (by decide) (by decide) (by decide) (by decide) (by decide) (by decide)
 have g7:(op == 7)=false:=ne 7 (by decide) (by decide) (by decide) (by decide) (by decide) (by decide) (by decide) (by decide) (by decide) (by decide)
 have g8:(op == 8)=false:=ne 8 (by decide) (by decide) (by decide) (by decide) (by decide) (by decide) (by decide) (by decide) (by decide) (by decide)
 have g9:(op == 9)=false:=ne 9 (by decide) (by decide) (by decide) (by decide) (by decide) (by decide) (by decide) (by decide) (by decide) (by decide)
 have g10:(op == 10)=false:=ne 10 (by decide) (by decide) (by decide) (by decide) (by decide) (by decide) (by decide) (by decide) (by decide) (by decide)
 have g11:(op == 11)=false:=ne 11 (by decide) (by decide) (by decide) (by decide) (by decide) (by decide) (by decide) (by decide) (by decide) (by decide)
 have g12:(op == 12)=false:=ne 12 (by decide) (by decide) (by decide) (by decide) (by decide) (by decide) (by decide) (by decide) (by decide) (by decide)
 have g15:(op == 15)=false:=ne 15 (by decide) (by decide) (by decide) (by decide) (by decide) (by decide) (by decide) (by decide) (by decide) (by decide)
 have g16:(op == 16)=false:=ne 16 (by decide) (by decide) (by decide) (by decide) (by decide) (by decide) (by decide) (by decide) (by decide) (by decide)
 have g17:(op == 17)=false:=ne 17 (by decide) (by decide) (by decide) (by decide) (by decide) (by decide) (by decide) (by decide) (by decide) (by decide)
 have g18:(op == 18)=false:=ne 18 (by decide) (by decide) (by decide) (by decide) (by decide) (by decide) (by decide) (by decide) (by decide) (by decide)
 have g19:(op == 19)=false:=ne 19 (by decide) (by decide) (by decide) (by decide) (by decide) (by decide) (by decide) (by decide) (by decide) (by decide)
 have g20:(op == 20)=false:=ne 20 (by decide) (by decide) (by decide) (by decide) (by decide) (by decide) (by decide) (by decide) (by decide) (by decide)
 have g13:(op == 13)=false:=ne 13 (by decide) (by decide) (by decide) (by decide) (by decide) (by decide) (by decide) (by decide) (by decide) (by decide)
 have g14:(op == 14)=false:=ne 14 (by decide) (by decide) (by decide) (by decide) (by decide) (by decide) (by decide) (by decide) (by decide) (by decide)
 have g28:(op == 28)=false:=ne 28 (by decide) (by decide) (by decide) (by decide) (by decide) (by decide) (by decide) (by decide) (by decide) (by decide)
 have g22:(op == 22)=false:=ne 22 (by decide) (by decide) (by decide) (by decide) (by decide) (by decide) (by decide) (by decide) (by decide) (by decide)
 clear ne
 go_enter Tryz.func99,Tryz.ntmps99
 go_wp2_with fail
 refine (Em c F B top st f n row op a nn _ aP sO hl hgn hR hfm hop.out r hr).mono ?_
 rintro e w9 hS
 have aJ:Hid (w.grownBy w9 (some F)):=bg bN.out hS.grown
 cases r with
 | error er =>
  obtain rfl:=hS.no er rfl
  clear hS
  go_wp2
  exact ⟨rfl,ay.bad aJ.out rfl⟩
 | ok aX =>
  obtain ⟨rfl,fq,aK⟩:=hS.yes aX rfl
  have aW:=hide aK
  clear hS aK
  go_wp2
  go_end0
  exact ay.good aJ.out rfl aW.out
theorem DN (c:FC)(F B:Nat)(top:Option Addr)(st:List Int)(f:Vf.Fl)(n:Int)(row:Value)(op a nn:Int)(w:World)(h:Hid (aA c w F top st f n row))(hE:Hid (Env c B F w))(hl:st.length≤300)(hgn:Hid (j6 c.m st))(hR:Hid (Rt c.m))(hfm:Hid (Vf.bD c.m c.u ⟨op,a,nn⟩=0))(hlo:c.u.locals.length≤200)
  (r:Except Int (List Int)) (hr:Hid (r=Vf.dV c.m c.u ⟨op,a,nn⟩ ⟨st,f⟩)) :
  Calls Tryz.prog 99 #[.pointer (some ⟨F,0,none⟩),.agg #[.int .i64 op,.int .i64 a,.int .i64 nn]] w fun e w'=>ay c F (Vf.lQ ⟨op,a,nn⟩ f) n row r w e w':=by
 obtain ⟨h1,h2,_⟩:=oZ hfm.out
 have h1':1≤op:=h1
 have h2':op≤32:=h2
 rcases (by omega:op=1∨op=2∨op=3∨op=4∨op=5∨op=6∨op=7∨op=8∨op=9∨op=10∨op=11∨op=12∨op=13∨op=14∨op=15∨op=16∨op=17∨op=18∨op=19∨op=20∨op=21∨op=22∨op=23∨op=24∨op=25∨op=26∨op=27∨op=28∨op=29∨op=30∨op=31∨op=32) with rfl | rfl | rfl | rfl | rfl | rfl | rfl | rfl | rfl | rfl | rfl | rfl | rfl | rfl | rfl | rfl | rfl | rfl | rfl | rfl | rfl | rfl | rfl | rfl | rfl | rfl | rfl | rfl | rfl | rfl | rfl | rfl
 ·exact Vl c F B top st f n row a nn w h hE hl r (hide hr.out)
 ·exact Vn c F B top st f n row a nn w h hE hl r (hide hr.out)
 ·obtain ⟨k,rfl,hk⟩:=vK (L:=c.u.locals.length) hfm.out rfl
  have hx:=List.getElem?_eq_getElem hk
  exact VI c F B top st f n row nn k _ (hide hx) (by omega) w h hE hl r (hide (by rw [hr.out];show Vf.andThen (Vf.must (f.has (k:Int).toNat) 11 st) (Vf.put (Vf.oV c.u (k:Int)))=_;rw [Jp hx];rfl))
 ·obtain ⟨k,rfl,hk⟩:=vK (L:=c.u.locals.length) hfm.out rfl
  have hx:=List.getElem?_eq_getElem hk
  exact VJ c F B top st f n row nn k _ (hide hx) (by omega) w h hE hl r (hide (by rw [hr.out];show Vf.dw [Vf.oV c.u (k:Int)] st=_;rw [Jp hx]))
 ·exact Vr c F B top st f n row a nn w h hE hl r (hide hr.out)
 ·exact Vo c F B top st f n row a nn w h hE hl r (hide hr.out)
 ·exact Vp c F B top st f n row a nn w h hE hl r (hide hr.out)
 ·exact Vv c F B top st f n row a nn w h hE hl r (hide hr.out)
 ·exact Vx c F B top st f n row a nn w h hE hl r (hide hr.out)
 ·exact Vy c F B top st f n row a nn w h hE hl r (hide hr.out)
 ·exact Vz c F B top st f n row a nn w h hE hl r (hide hr.out)
 ·exact VB c F B top st f n row a nn w h hE hl r (hide hr.out)
 ·exact Vt c F B top st f n row a nn w h hE hl r (hide hr.out)
 ·exact Vu c F B top st f n row a nn w h hE hl r (hide hr.out)
 ·exact VC c F B top st f n row a nn w h hE hl r (hide hr.out)
 ·exact VD c F B top st f n row a nn w h hE hl r (hide hr.out)
 ·exact VE c F B top st f n row a nn w h hE hl r (hide hr.out)
 ·exact VF c F B top st f n row a nn w h hE hl r (hide hr.out)
 ·exact VG c F B top st f n row a nn w h hE hl r (hide hr.out)
 ·exact VH c F B top st f n row a nn w h hE hl r (hide hr.out)
 ·exact oo c F B top st f n row 21 a nn w h hE hl hgn hR hfm (hide (by decide)) r (hide hr.out)
 ·exact Vq c F B top st f n row a nn w h hE hl r (hide hr.out)
 ·exact oo c F B top st f n row 23 a nn w h hE hl hgn hR hfm (hide (by decide)) r (hide hr.out)
 ·exact oo c F B top st f n row 24 a nn w h hE hl hgn hR hfm (hide (by decide)) r (hide hr.out)
 ·exact oo c F B top st f n row 25 a nn w h hE hl hgn hR hfm (hide (by decide)) r (hide hr.out)
 ·exact oo c F B top st f n row 26 a nn w h hE hl hgn hR hfm (hide (by decide)) r (hide hr.out)
 ·exact oo c F B top st f n row 27 a nn w h hE hl hgn hR hfm (hide (by decide)) r (hide hr.out)
 ·exact Vs c F B top st f n row a nn w h hE hl r (hide hr.out)
 ·exact oo c F B top st f n row 29 a nn w h hE hl hgn hR hfm (hide (by decide)) r (hide hr.out)
 ·exact oo c F B top st f n row 30 a nn w h hE hl hgn hR hfm (hide (by decide)) r (hide hr.out)
 ·exact oo c F B top st f n row 31 a nn w h hE hl hgn hR hfm (hide (by decide)) r (hide hr.out)
 ·exact oo c F B top st f n row 32 a nn w h hE hl hgn hR hfm (hide (by decide)) r (hide hr.out)
abbrev fw (m:Vf.Md) (ab au:Option Addr) (cb cu:Nat):Value:=.agg #[.slice ab m.boxes.length cb,.slice au m.units.length cu]
abbrev gT (m:Vf.Md) (ab au:Option Addr) (cb cu:Nat):Obj:=.cells #[.slice ab m.boxes.length cb,.slice au m.units.length cu] 66 (0,0)
abbrev iT (c:FC):Value:=.agg #[.slice c.ab c.m.boxes.length c.cb,.slice c.au c.m.units.length c.cu,.int .i64 c.u.kind,.int .i64 c.u.params,.slice c.al c.u.locals.length c.cl,.int .i64 c.u.result,.int .i64 c.u.takes,.slice c.ac c.u.code.length c.cc]
abbrev dE (c:FC):Obj:=.cells #[.slice c.ab c.m.boxes.length c.cb,.slice c.au c.m.units.length c.cu,.int .i64 c.u.kind,.int .i64 c.u.params,.slice c.al c.u.locals.length c.cl,.int .i64 c.u.result,.int .i64 c.u.takes,.slice c.ac c.u.code.length c.cc] 127 (0,0)
theorem Lg {m:Vf.Md}{k n:Int}(h:¬ 0≤n):Vf.is m k n=false:=by unfold Vf.is;simp [h]
theorem Lh {m:Vf.Md}{k n:Int}(h:(m.units.length:Int)≤n):Vf.is m k n=false:=by
 unfold Vf.is
 rw [List.getElem?_eq_none (by omega)]
 simp
theorem Li {m:Vf.Md}{k:Int}{n:Nat}{u:Vf.Un}(h:m.units[n]?=some u):Vf.is m k (n:Int)=(u.kind == k):=by
 unfold Vf.is
 simp [h]
theorem ym (m:Vf.Md)(ab au:Option Addr)(cb cu B:Nat)(k n:Int)(w:World)(hm:Hid (bn B w m ab au))(hB:B≤w.heap.size)(b:Bool)(hb:Hid (b=Vf.is m k n)) :
  Calls Tryz.prog 140 #[fw m ab au cb cu,.int .i64 k,.int .i64 n] w fun e w'=>e=.returned (.bool b)∧w'=w.alloc (gT m ab au cb cu):=by
 by_cases h0:0≤n
 ·obtain ⟨j,rfl⟩:=VK h0
  by_cases h1:j < m.units.length
  ·obtain ⟨u,hu⟩:∃ u,m.units[j]?=some u:=⟨_,List.getElem?_eq_getElem h1⟩
   obtain ⟨bu,off,al,cl,ac,cc,ha,hbu,_,u0,_⟩:=hm.out.units j u hu
   have HR:Hid (b=(u.kind == k)):=by rw [hb.out,Li hu];rfl
   have hd:(0:Int)≤(j:Int):=by omega
   have hd1:(j:Int) < (m.units.length:Int):=by omega
   have hbl:bu < w.heap.size:=by omega
   subst ha
   clear hu hb
   go_enter Tryz.func140,Tryz.ntmps140
   go_wp2
   go_ret
   rw [HR.out]
   exact ⟨rfl,rfl⟩
  ·have HR:Hid (b=false):=by rw [hb.out,Lh (by omega)];rfl
   have hd:(0:Int)≤(j:Int):=by omega
   have hd1:decide (j < m.units.length)=false:=by simpa using h1
   go_enter Tryz.func140,Tryz.ntmps140
   go_wp2
   go_ret
   rw [HR.out]
   exact ⟨rfl,rfl⟩
 ·have HR:Hid (b=false):=by rw [hb.out,Lg h0];rfl
  have hd:decide (0≤n)=false:=by simpa using h0
  go_enter Tryz.func140,Tryz.ntmps140
  go_wp2
  go_ret
  rw [HR.out]
  exact ⟨rfl,rfl⟩
theorem sP {w:World}{N:Nat}{c:FC}(h:w.heap[N]?=some (dE c)):w.cell? ⟨N,0,none⟩=some (.slice c.ab c.m.boxes.length c.cb)∧w.cell? ⟨N,1,none⟩=some (.slice c.au c.m.units.length c.cu)∧w.cell? ⟨N,2,none⟩=some (.int .i64 c.u.kind)∧w.cell? ⟨N,3,none⟩=some (.int .i64 c.u.params)∧w.cell? ⟨N,4,none⟩=some (.slice c.al c.u.locals.length c.cl)∧w.cell? ⟨N,5,none⟩=some (.int .i64 c.u.result)∧w.cell? ⟨N,6,none⟩=some (.int .i64 c.u.takes)∧w.cell? ⟨N,7,none⟩=some (.slice c.ac c.u.code.length c.cc):=by
 simp [World.cell?,h]
theorem qN {b b':Bool}(h:b'=b):Ending.returned (Value.bool b')=Ending.returned (Value.bool b):=by rw [h]
theorem VL (c:FC)(w:World)(b:Bool)(hb:Hid (b=Vf.xq c.u)) :
  Calls Tryz.prog 92 #[iT c] w fun e w'=>e=.returned (.bool b)∧w'=w.alloc (dE c):=by
 have HB:Hid (b=(c.u.kind == 2 || c.u.kind == 3 || c.u.kind == 4)):=hb.out
 clear hb
 cases e2:(c.u.kind == 2)
 ·cases e3:(c.u.kind == 3)
  ·have HT:Hid (b=(c.u.kind == 4)):=by rw [HB.out,e2,e3];rfl
   go_enter Tryz.func92,Tryz.ntmps92
   go_wp2
   go_ret
   rw [HT.out]
   exact ⟨rfl,rfl⟩
  ·have HT:Hid (b=true):=by rw [HB.out,e2,e3];rfl
   go_enter Tryz.func92,Tryz.ntmps92
   go_wp2
   go_ret
   rw [HT.out]
   exact ⟨rfl,rfl⟩
 ·have HT:Hid (b=true):=by rw [HB.out,e2];rfl
  go_enter Tryz.func92,Tryz.ntmps92
  go_wp2
  go_ret
  rw [HT.out]
  exact ⟨rfl,rfl⟩
theorem VM (c:FC)(w:World)(b:Bool)(hb:Hid (b=Vf.sized c.u)) :
  Calls Tryz.prog 94 #[iT c] w fun e w'=>e=.returned (.bool b)∧w'=w.alloc (dE c):=by
 go_enter Tryz.func94,Tryz.ntmps94
 go_wp2
 all_goals
  go_ret
  refine ⟨qN ?_,rfl⟩
  rw [hb.out]
  unfold Vf.sized
  rw [Bool.eq_iff_iff]
  simp only [Bool.and_eq_true,decide_eq_true_eq]
  first | (simp [*] <;> omega) | (simp [*];done) | (split <;> simp <;> omega)
structure EE (c:FC) (w:World) (b:Bool) (k:Nat) (W:World):Prop where
 le:k≤c.u.locals.length
 grown:w.grownBy W none
 rest:b=(c.u.locals.drop k).all (fun t=>Vf.plain t || Vf.is c.m 3 (t - 10))
theorem aT {w w':World}(h:w.grownBy w' none)(o:Obj):w.grownBy (w'.alloc o) none :=
 ⟨h.os,h.tape,h.output,by have:=h.size;simp;omega,fun k hk hne=>(Below.heap_alloc _ _ _ (by have:=h.size;omega)).trans (h.block k hk hne)⟩
theorem bX {w w':World}{b:Nat}(hg:w.grownBy w' none)(hb:b < w.heap.size):w'.heap[b]?=w.heap[b]?:=hg.block b hb (by simp)
theorem fU {B:Nat}{w w':World}(h:w.grownBy w' none)(hB:B≤w.heap.size):Low B w w':=fun k hk=>h.block k (by omega) (by simp)
theorem bY {a b c:World}(h:a.grownBy b none)(k:b.grownBy c none):a.grownBy c none:=⟨k.os.trans h.os,k.tape.trans h.tape,k.output.trans h.output,Nat.le_trans h.size k.size,fun x hx hne=>(k.block x (by have:=h.size;omega) hne).trans (h.block x hx hne)⟩
theorem EF {m:Vf.Md}(hmu:m.units.length≤30){t:Int}(h:cB t):Vf.is m 3 (t - 10)=Vf.is m 3 (IntKind.i64.wrap (t - 10)):=by
 by_cases h0:-9223372036854775808≤t - 10
 ·have e:IntKind.i64.wrap (t - 10)=t - 10:=by
   have:=h.2
   simp [IntKind.wrap,IntKind.bits,IntKind.signed]
   omega
  rw [e]
 ·have e:(m.units.length:Int)≤IntKind.i64.wrap (t - 10):=by
   have:=h.1
   simp [IntKind.wrap,IntKind.bits,IntKind.signed]
   omega
  rw [Lh e,Lg (by omega)]
theorem VN (c:FC)(B:Nat)(w:World)(hmd:Hid (bn B w c.m c.ab c.au))(hun:Hid (gP B w c.u c.al c.ac c.cl c.cc))(hB:B≤w.heap.size)(hmu:c.m.units.length≤30)(b:Bool)(hb:Hid (b=Vf.typed c.m c.u)) :
  Calls Tryz.prog 95 #[iT c] w fun e w'=>e=.returned (.bool b)∧w.grownBy w' none:=by
 obtain ⟨y0,y1,y2,y3,y4,y5,y6,y7⟩:=sP (heap_alloc_new w (dE c))
 have hlo:c.u.locals.length≤9223372036854775807:=hun.out.few.1
 have HB:Hid (b=(((c.u.kind == 4 || Vf.plain c.u.result) && (c.u.kind != 3 || Vf.plain c.u.takes)) && c.u.locals.all (fun t=>Vf.plain t || Vf.is c.m 3 (t - 10)))):=hb.out
 obtain ⟨p1,hp1⟩:∃ p,p=Vf.plain c.u.result:=⟨_,rfl⟩
 obtain ⟨p2,hp2⟩:∃ p,p=Vf.plain c.u.takes:=⟨_,rfl⟩
 rw [← hp1,← hp2] at HB
 have AX:=hide hp1
 have vk:=hide hp2
 clear hb hp1 hp2
 cases e4:(c.u.kind == 4) with
 | true =>
  have e4':(c.u.kind != 4)=false:=by simp at e4;simp [e4]
  have e3:(c.u.kind == 3)=false:=by simp at e4;simp [e4]
  have e3':(c.u.kind != 3)=true:=by simp at e4;simp [e4]
  have HT:Hid (b=(c.u.locals.drop 0).all (fun t=>Vf.plain t || Vf.is c.m 3 (t - 10))):=by unfold Hid;rw [HB.out,e4,e3'];simp
  go_enter Tryz.func95,Tryz.ntmps95
  go_wp2_with fail
  go_loopw [33] (fun v wr=>∃ k:Nat,v=.int .i64 k∧EE c (w.alloc (dE c)) b k wr) (fun v _=>c.u.locals.length - (intOf v).toNat)
  case atStart=>exact ⟨0,rfl,Nat.zero_le _,World.grownBy.refl _ _,HT.out⟩
  case round =>
   obtain ⟨k,rfl,hA⟩:=hrel
   have HA:=hide hA
   have hk:=hA.le
   clear hA
   by_cases hlt:k < c.u.locals.length
   ·obtain ⟨t,ht⟩:∃ t,c.u.locals[k]?=some t:=⟨_,List.getElem?_eq_getElem hlt⟩
    have hlow:Low B w wr:=fun j hj=>(bX HA.out.grown (by simp;omega)).trans (Below.heap_alloc _ _ _ (by omega))
    obtain ⟨h64,bl,ol,hal,hbl,ct⟩:=(hun.out.locals.low hlow) k t ht
    have hub:wr.heap[w.heap.size]?=some (dE c):=(bX HA.out.grown (by simp)).trans (heap_alloc_new w _)
    obtain ⟨y0,y1,_⟩:=sP hub
    have oq:Hid (bn B wr c.m c.ab c.au):=hmd.out.low hlow
    have hwr:w.heap.size < wr.heap.size:=lt_of_block hub
    have HN:Hid (b=((Vf.plain t || Vf.is c.m 3 (t - 10)) && (c.u.locals.drop (k+1)).all (fun t=>Vf.plain t || Vf.is c.m 3 (t - 10)))):=by
     unfold Hid
     obtain ⟨hk',hte⟩:=List.getElem?_eq_some_iff.1 ht
     rw [HA.out.rest,List.drop_eq_getElem_cons hk',hte,List.all_cons]
    obtain ⟨p,hp⟩:∃ p,p=Vf.plain t:=⟨_,rfl⟩
    rw [← hp] at HN
    have qO:=hide hp
    have kL:=hide h64
    have nk:=hide hal
    clear ht hub hlow h64 hp
    rw [nk.out]
    cases p with
    | true =>
     have bM:Hid (b=(c.u.locals.drop (k+1)).all (fun t=>Vf.plain t || Vf.is c.m 3 (t - 10))):=by rw [HN.out];rfl
     go_wp2_with fail
     refine (kK t _ true qO).mono ?_
     rintro e w2 ⟨rfl,rfl⟩
     go_wp2
     go_roundw
     case rel=>exact ⟨k+1,by go_num,hlt,HA.out.grown,bM.out⟩
     case measure=>simp [intOf];omega
    | false =>
     obtain ⟨q,hq⟩:∃ q,q=Vf.is c.m 3 (t - 10):=⟨_,rfl⟩
     have bM:Hid (b=(q && (c.u.locals.drop (k+1)).all (fun t=>Vf.plain t || Vf.is c.m 3 (t - 10)))):=by rw [HN.out,hq];rfl
     obtain ⟨d,hd⟩:∃ d:Int,d=IntKind.i64.wrap (t - 10):=⟨_,rfl⟩
     have HQ:Hid (q=Vf.is c.m 3 d):=by
      unfold Hid
      rw [hq,hd]
      exact EF hmu kL.out
     have hd':=hd.symm
     clear hd hq
     go_wp2_with fail
     refine (kK t _ false qO).mono ?_
     rintro e w2 ⟨rfl,rfl⟩
     go_wp2_with fail
     refine (ym c.m c.ab c.au c.cb c.cu B 3 d _ oq (by omega) q HQ).mono ?_
     rintro e w3 ⟨rfl,rfl⟩
     cases q with
     | true =>
      have nz:Hid (b=(c.u.locals.drop (k+1)).all (fun t=>Vf.plain t || Vf.is c.m 3 (t - 10))):=by rw [bM.out];rfl
      go_wp2
      go_roundw
      case rel=>exact ⟨k+1,by go_num,hlt,aT HA.out.grown _,nz.out⟩
      case measure=>simp [intOf];omega
     | false =>
      have nz:Hid (b=false):=by rw [bM.out];rfl
      go_wp2
      go_ret
      rw [nz.out]
      exact ⟨rfl,aT (bY (aT (World.grownBy.refl _ _) _) HA.out.grown) _⟩
   ·have HN:Hid (b=true):=by unfold Hid;rw [HA.out.rest,List.drop_eq_nil_of_le (by omega)];rfl
    go_wp2
    go_ret
    rw [HN.out]
    exact ⟨rfl,bY (aT (World.grownBy.refl _ _) _) HA.out.grown⟩
 | false =>
  have e4':(c.u.kind != 4)=true:=by simp at e4;simp [e4]
  cases p1 with
  | false =>
   have HN:Hid (b=false):=by rw [HB.out,e4];rfl
   go_enter Tryz.func95,Tryz.ntmps95
   go_wp2_with fail
   refine (kK c.u.result _ false AX).mono ?_
   rintro e w2 ⟨rfl,rfl⟩
   go_wp2
   go_ret
   rw [HN.out]
   exact ⟨rfl,aT (World.grownBy.refl _ _) _⟩
  | true =>
   cases e3:(c.u.kind == 3) with
   | false =>
    have e3':(c.u.kind != 3)=true:=by simp at e3;simp [e3]
    have HT:Hid (b=(c.u.locals.drop 0).all (fun t=>Vf.plain t || Vf.is c.m 3 (t - 10))):=by unfold Hid;rw [HB.out,e4,e3'];simp
    go_enter Tryz.func95,Tryz.ntmps95
    go_wp2_with fail
    refine (kK c.u.result _ true AX).mono ?_
    rintro e w2 ⟨rfl,rfl⟩
    go_wp2_with fail
    go_loopw [33] (fun v wr=>∃ k:Nat,v=.int .i64 k∧EE c (w.alloc (dE c)) b k wr) (fun v _=>c.u.locals.length - (intOf v).toNat)
    case atStart=>exact ⟨0,rfl,Nat.zero_le _,World.grownBy.refl _ _,HT.out⟩
    case round =>
     obtain ⟨k,rfl,hA⟩:=hrel
     have HA:=hide hA
     have hk:=hA.le
     clear hA
     by_cases hlt:k < c.u.locals.length
     ·obtain ⟨t,ht⟩:∃ t,c.u.locals[k]?=some t:=⟨_,List.getElem?_eq_getElem hlt⟩
      have hlow:Low B w wr:=fun j hj=>(bX HA.out.grown (by simp;omega)).trans (Below.heap_alloc _ _ _ (by omega))
      obtain ⟨h64,bl,ol,hal,hbl,ct⟩:=(hun.out.locals.low hlow) k t ht
      have hub:wr.heap[w.heap.size]?=some (dE c):=(bX HA.out.grown (by simp)).trans (heap_alloc_new w _)
      obtain ⟨y0,y1,_⟩:=sP hub
      have oq:Hid (bn B wr c.m c.ab c.au):=hmd.out.low hlow
      have hwr:w.heap.size < wr.heap.size:=lt_of_block hub
      have HN:Hid (b=((Vf.plain t || Vf.is c.m 3 (t - 10)) && (c.u.locals.drop (k+1)).all (fun t=>Vf.plain t || Vf.is c.m 3 (t - 10)))):=by
       unfold Hid
       obtain ⟨hk',hte⟩:=List.getElem?_eq_some_iff.1 ht
       rw [HA.out.rest,List.drop_eq_getElem_cons hk',hte,List.all_cons]
      obtain ⟨p,hp⟩:∃ p,p=Vf.plain t:=⟨_,rfl⟩
      rw [← hp] at HN
      have qO:=hide hp
      have kL:=hide h64
      have nk:=hide hal
      clear ht hub hlow h64 hp
      rw [nk.out]
      cases p with
      | true =>
       have bM:Hid (b=(c.u.locals.drop (k+1)).all (fun t=>Vf.plain t || Vf.is c.m 3 (t - 10))):=by rw [HN.out];rfl
       go_wp2_with fail
       refine (kK t _ true qO).mono ?_
       rintro e w2 ⟨rfl,rfl⟩
       go_wp2
       go_roundw
       case rel=>exact ⟨k+1,by go_num,hlt,HA.out.grown,bM.out⟩
       case measure=>simp [intOf];omega
      | false =>
       obtain ⟨q,hq⟩:∃ q,q=Vf.is c.m 3 (t - 10):=⟨_,rfl⟩
       have bM:Hid (b=(q && (c.u.locals.drop (k+1)).all (fun t=>Vf.plain t || Vf.is c.m 3 (t - 10)))):=by rw [HN.out,hq];rfl
       obtain ⟨d,hd⟩:∃ d:Int,d=IntKind.i64.wrap (t - 10):=⟨_,rfl⟩
       have HQ:Hid (q=Vf.is c.m 3 d):=by
        unfold Hid
        rw [hq,hd]
        exact EF hmu kL.out
       have hd':=hd.symm
       clear hd hq
       go_wp2_with fail
       refine (kK t _ false qO).mono ?_
       rintro e w2 ⟨rfl,rfl⟩
       go_wp2_with fail
       refine (ym c.m c.ab c.au c.cb c.cu B 3 d _ oq (by omega) q HQ).mono ?_
       rintro e w3 ⟨rfl,rfl⟩
       cases q with
       | true =>
        have nz:Hid (b=(c.u.locals.drop (k+1)).all (fun t=>Vf.plain t || Vf.is c.m 3 (t - 10))):=by rw [bM.out];rfl
        go_wp2
        go_roundw
        case rel=>exact ⟨k+1,by go_num,hlt,aT HA.out.grown _,nz.out⟩
        case measure=>simp [intOf];omega
       | false =>
        have nz:Hid (b=false):=by rw [bM.out];rfl
        go_wp2
        go_ret
        rw [nz.out]
        exact ⟨rfl,aT (bY (aT (World.grownBy.refl _ _) _) HA.out.grown) _⟩
     ·have HN:Hid (b=true):=by unfold Hid;rw [HA.out.rest,List.drop_eq_nil_of_le (by omega)];rfl
      go_wp2
      go_ret
      rw [HN.out]
      exact ⟨rfl,bY (aT (World.grownBy.refl _ _) _) HA.out.grown⟩
   | true =>
    have e3':(c.u.kind != 3)=false:=by simp at e3;simp [e3]
    cases p2 with
    | false =>
     have HN:Hid (b=false):=by rw [HB.out,e4,e3'];rfl
     go_enter Tryz.func95,Tryz.ntmps95
     go_wp2_with fail
     refine (kK c.u.result _ true AX).mono ?_
     rintro e w2 ⟨rfl,rfl⟩
     go_wp2_with fail
     refine (kK c.u.takes _ false vk).mono ?_
     rintro e w3 ⟨rfl,rfl⟩
     go_wp2
     go_ret
     rw [HN.out]
     exact ⟨rfl,aT (World.grownBy.refl _ _) _⟩
    | true =>
     have HT:Hid (b=(c.u.locals.drop 0).all (fun t=>Vf.plain t || Vf.is c.m 3 (t - 10))):=by unfold Hid;rw [HB.out,e4,e3'];simp
     go_enter Tryz.func95,Tryz.ntmps95
     go_wp2_with fail
     refine (kK c.u.result _ true AX).mono ?_
     rintro e w2 ⟨rfl,rfl⟩
     go_wp2_with fail
     refine (kK c.u.takes _ true vk).mono ?_
     rintro e w3 ⟨rfl,rfl⟩
     go_wp2_with fail
     go_loopw [33] (fun v wr=>∃ k:Nat,v=.int .i64 k∧EE c (w.alloc (dE c)) b k wr) (fun v _=>c.u.locals.length - (intOf v).toNat)
     case atStart=>exact ⟨0,rfl,Nat.zero_le _,World.grownBy.refl _ _,HT.out⟩
     case round =>
      obtain ⟨k,rfl,hA⟩:=hrel
      have HA:=hide hA
      have hk:=hA.le
      clear hA
      by_cases hlt:k < c.u.locals.length
      ·obtain ⟨t,ht⟩:∃ t,c.u.locals[k]?=some t:=⟨_,List.getElem?_eq_getElem hlt⟩
       have hlow:Low B w wr:=fun j hj=>(bX HA.out.grown (by simp;omega)).trans (Below.heap_alloc _ _ _ (by omega))
       obtain ⟨h64,bl,ol,hal,hbl,ct⟩:=(hun.out.locals.low hlow) k t ht
       have hub:wr.heap[w.heap.size]?=some (dE c):=(bX HA.out.grown (by simp)).trans (heap_alloc_new w _)
       obtain ⟨y0,y1,_⟩:=sP hub
       have oq:Hid (bn B wr c.m c.ab c.au):=hmd.out.low hlow
       have hwr:w.heap.size < wr.heap.size:=lt_of_block hub
       have HN:Hid (b=((Vf.plain t || Vf.is c.m 3 (t - 10)) && (c.u.locals.drop (k+1)).all (fun t=>Vf.plain t || Vf.is c.m 3 (t - 10)))):=by
        unfold Hid
        obtain ⟨hk',hte⟩:=List.getElem?_eq_some_iff.1 ht
        rw [HA.out.rest,List.drop_eq_getElem_cons hk',hte,List.all_cons]
       obtain ⟨p,hp⟩:∃ p,p=Vf.plain t:=⟨_,rfl⟩
       rw [← hp] at HN
       have qO:=hide hp
       have kL:=hide h64
       have nk:=hide hal
       clear ht hub hlow h64 hp
       rw [nk.out]
       cases p with
       | true =>
        have bM:Hid (b=(c.u.locals.drop (k+1)).all (fun t=>Vf.plain t || Vf.is c.m 3 (t - 10))):=by rw [HN.out];rfl
        go_wp2_with fail
        refine (kK t _ true qO).mono ?_
        rintro e w2 ⟨rfl,rfl⟩
        go_wp2
        go_roundw
        case rel=>exact ⟨k+1,by go_num,hlt,HA.out.grown,bM.out⟩
        case measure=>simp [intOf];omega
       | false =>
        obtain ⟨q,hq⟩:∃ q,q=Vf.is c.m 3 (t - 10):=⟨_,rfl⟩
        have bM:Hid (b=(q && (c.u.locals.drop (k+1)).all (fun t=>Vf.plain t || Vf.is c.m 3 (t - 10)))):=by rw [HN.out,hq];rfl
        obtain ⟨d,hd⟩:∃ d:Int,d=IntKind.i64.wrap (t - 10):=⟨_,rfl⟩
        have HQ:Hid (q=Vf.is c.m 3 d):=by
         unfold Hid
         rw [hq,hd]
         exact EF hmu kL.out
        have hd':=hd.symm
        clear hd hq
        go_wp2_with fail
        refine (kK t _ false qO).mono ?_
        rintro e w2 ⟨rfl,rfl⟩
        go_wp2_with fail
        refine (ym c.m c.ab c.au c.cb c.cu B 3 d _ oq (by omega) q HQ).mono ?_
        rintro e w3 ⟨rfl,rfl⟩
        cases q with
        | true =>
         have nz:Hid (b=(c.u.locals.drop (k+1)).all (fun t=>Vf.plain t || Vf.is c.m 3 (t - 10))):=by rw [bM.out];rfl
         go_wp2
         go_roundw
         case rel=>exact ⟨k+1,by go_num,hlt,aT HA.out.grown _,nz.out⟩
         case measure=>simp [intOf];omega
        | false =>
         have nz:Hid (b=false):=by rw [bM.out];rfl
         go_wp2
         go_ret
         rw [nz.out]
         exact ⟨rfl,aT (bY (aT (World.grownBy.refl _ _) _) HA.out.grown) _⟩
      ·have HN:Hid (b=true):=by unfold Hid;rw [HA.out.rest,List.drop_eq_nil_of_le (by omega)];rfl
       go_wp2
       go_ret
       rw [HN.out]
       exact ⟨rfl,bY (aT (World.grownBy.refl _ _) _) HA.out.grown⟩
end Go.Proofs.YthffafaoobpedaaGreatDoor
