/- The walk of speak,further kinds. -/
import Derived.Test.YtbdpdjcdhclbfaaGreatM3
import Derived.Maps.RangeWalk
set_option maxRecDepth 100000
set_option maxHeartbeats 2000000
namespace Go.Proofs.YtbdpdjcdhclbfaaGreat
open Go.RowKit
theorem WW (c:FC)(F B:Nat)(top:Option Addr)(st:List Int)(f:Vf.Fl)(n:Int)(row:Value)(nn:Int)(k:Nat)(x:Vf.Bx)(hx:Hid (c.m.boxes[k]?=some x))(w:World)(h:Hid (aB c w F top st f n row))(hE:Hid (Env c B F w))(hl:st.length≤300)(r:Except Int (List Int))(hr:Hid (r=Vf.jy [x.ty] st)) :
  Calls Tryz.prog 88 #[.pointer (some ⟨F,0,none⟩),.agg #[.int .i64 26,.int .i64 (k:Int),.int .i64 nn]] w fun e w'=>ay c F f n row r w e w':=by
 have hlt:=hE.out.lt;have wW:=hE.out.base;obtain⟨i1,i2,b,off,ha,hb,b0,b1⟩:=hE.out.md.boxes k x hx.out;have Am:k<c.m.boxes.length:=(List.getElem?_eq_some_iff.1 hx.out).1;have hk1:(k:Int)<(c.m.boxes.length:Int):=by omega
 have wX:=hide (h.out.alloc (aj 26 (k:Int) nn));have d1:(w.alloc (aj 26 (k:Int) nn)).cell? ⟨F,0,none⟩=some (.slice (some ⟨b,off,none⟩) c.m.boxes.length c.cb):=by have:=(sV wX.out.blk).1;rw[ha] at this;exact this
 have d2:(w.alloc (aj 26 (k:Int) nn)).cell? ⟨w.heap.size,1,none⟩=some (.int .i64 (k:Int)):=(EF (alloc_at w _)).2.1;have d3:(w.alloc (aj 26 (k:Int) nn)).cell? ⟨b,off+k * 2,none⟩=some (.int .i64 x.ty):=(FP _ _ (by omega)).trans b0;have HA:=hide ha;have HI1:=hide i1;clear b0 b1 ha i1 i2;have HS2:Hid (∀ w3,(w.alloc (aj 26 (k:Int) nn)).grownBy w3 (some F)→w3.cell? ⟨F,0,none⟩=some (.slice c.ab c.m.boxes.length c.cb)→(w3.cell? ⟨F,0,none⟩=some (.slice (some ⟨b,off,none⟩) c.m.boxes.length c.cb)∧w3.cell? ⟨w.heap.size,1,none⟩=some (.int .i64 (k:Int))∧w3.cell? ⟨b,off+k * 2,none⟩=some (.int .i64 x.ty))):=fun w3 hg3 h1=>⟨by rw[h1,HA.out],(gZ (kept hg3 (by simp) (by omega)) _).trans d2,(gZ (kept hg3 (by simp;omega) (by omega)) _).trans d3⟩;go_enter Tryz.func88,Tryz.ntmps88
 go_wp2_with fail
 refine wp_region_held_drew (S:=fun w'=>w'.cell? ⟨F,0,none⟩=some (.slice (some ⟨b,off,none⟩) c.m.boxes.length c.cb)∧w'.cell? ⟨w.heap.size,1,none⟩=some (.int .i64 (k:Int))∧w'.cell? ⟨b,off+k * 2,none⟩=some (.int .i64 x.ty)) (by kernel_rfl) ⟨d1,d2,d3⟩ (fun hHeld=>?_);refine wpAnyH_take (i:=0) (oi:=_) (v:=?_) rfl (by kernel_rfl) (by kernel_rfl) (by kernel_rfl) (fun _ _ _ h=>h) (Or.inl ⟨by rfl,?_⟩) (by assumption) ?_;rotate_left
 ·intro w hSw
  (try dsimp only at hSw)
  go_simp
  (try with_reducible rfl)
 (try go_frame)
 refine wpAnyH_take (i:=1) (oi:=_) (v:=?_) rfl (by kernel_rfl) (by kernel_rfl) (by kernel_rfl) (fun _ _ _ h=>h) (Or.inl ⟨by rfl,?_⟩) (by assumption) ?_;rotate_left
 ·intro w hSw
  (try dsimp only at hSw)
  go_simp
  (try with_reducible rfl)
 (try go_frame)
 refine wpAnyH_take (i:=2) (oi:=_) (v:=?_) rfl (by kernel_rfl) (by kernel_rfl) (by kernel_rfl) (fun _ _ _ h=>h) (Or.inl ⟨by rfl,?_⟩) (by assumption) ?_;rotate_left
 ·intro w hSw
  (try dsimp only at hSw)
  go_simp
  (try with_reducible rfl)
 (try go_frame)
 refine wpAnyH_take (i:=3) (oi:=_) (v:=?_) rfl (by kernel_rfl) (by kernel_rfl) (by kernel_rfl) (fun _ _ _ h=>h) (Or.inl ⟨by rfl,?_⟩) (by assumption) ?_;rotate_left
 ·intro w hSw
  (try dsimp only at hSw)
  go_simp
  (try with_reducible rfl)
 (try go_frame)
 refine wpAnyH_take (i:=4) (oi:=_) (v:=?_) rfl (by kernel_rfl) (by kernel_rfl) (by kernel_rfl) (fun _ _ _ h=>h) (Or.inl ⟨by rfl,?_⟩) (by assumption) ?_;rotate_left
 ·intro w hSw
  (try dsimp only at hSw)
  go_simp
  (try with_reducible rfl)
 (try go_frame)
 refine wpAnyH_take (i:=5) (oi:=_) (v:=?_) rfl (by kernel_rfl) (by kernel_rfl) (by kernel_rfl) (fun _ _ _ h=>h) (Or.inl ⟨by rfl,?_⟩) (by assumption) ?_;rotate_left
 ·intro w hSw
  (try dsimp only at hSw)
  go_simp
  (try with_reducible rfl)
 (try go_frame)
 refine wpAnyH_take (i:=6) (oi:=_) (v:=?_) rfl (by kernel_rfl) (by kernel_rfl) (by kernel_rfl) (fun _ _ _ h=>h) (Or.inl ⟨by rfl,?_⟩) (by assumption) ?_;rotate_left
 ·intro w hSw
  (try dsimp only at hSw)
  go_simp
  (try with_reducible rfl)
 (try go_frame)
 refine wpAnyH_take (i:=7) (oi:=_) (v:=?_) rfl (by kernel_rfl) (by kernel_rfl) (by kernel_rfl) (fun _ _ _ h=>h) (Or.inl ⟨by rfl,?_⟩) (by assumption) ?_;rotate_left
 ·intro w hSw
  (try dsimp only at hSw)
  go_simp
  (try with_reducible rfl)
 (try go_frame)
 refine wpAnyH_take (i:=8) (oi:=_) (v:=?_) rfl (by kernel_rfl) (by kernel_rfl) (by kernel_rfl) (fun _ _ _ h=>h) (Or.inl ⟨by rfl,?_⟩) (by assumption) ?_;rotate_left
 ·intro w hSw
  (try dsimp only at hSw)
  go_simp
  (try with_reducible rfl)
 (try go_frame)
 refine wpAnyH_take (i:=9) (oi:=_) (v:=?_) rfl (by kernel_rfl) (by kernel_rfl) (by kernel_rfl) (fun _ _ _ h=>h) (Or.inl ⟨by rfl,?_⟩) (by assumption) ?_;rotate_left
 ·intro w hSw
  (try dsimp only at hSw)
  go_simp
  (try with_reducible rfl)
 (try go_frame)
 refine wpAnyH_take (i:=10) (oi:=_) (v:=?_) rfl (by kernel_rfl) (by kernel_rfl) (by kernel_rfl) (fun _ _ _ h=>h) (Or.inl ⟨by rfl,?_⟩) (by assumption) ?_;rotate_left
 ·intro w hSw
  (try dsimp only at hSw)
  go_simp
  (try with_reducible rfl)
 (try go_frame)
 refine wpAnyH_take (i:=11) (oi:=_) (v:=?_) rfl (by kernel_rfl) (by kernel_rfl) (by kernel_rfl) (fun _ _ _ h=>h) (Or.inl ⟨by rfl,?_⟩) (by assumption) ?_;rotate_left
 ·intro w hSw
  (try dsimp only at hSw)
  go_simp
  (try with_reducible rfl)
 (try go_frame)
 refine wpAnyH_take (i:=12) (oi:=_) (v:=?_) rfl (by kernel_rfl) (by kernel_rfl) (by kernel_rfl) (fun _ _ _ h=>h) (Or.inl ⟨by rfl,?_⟩) (by assumption) ?_;rotate_left
 ·intro w hSw
  (try dsimp only at hSw)
  go_simp
  (try with_reducible rfl)
 (try go_frame)
 refine wpAnyH_ready (rs:=[13]) (by kernel_rfl) (by simp) ?_;refine AllReadyH.cons (o:=_) rfl (fun K hK=>?_) AllReadyH.nil;go_simp
 have fE:Hid (aB c ((w.alloc (aj 26 (k:Int) nn)).drew.alloc (.cells #[.int .i64 x.ty] 3)) F top st f n row):=wX.out.drew.alloc _;have aH:Hid (w.grownBy ((w.alloc (aj 26 (k:Int) nn)).drew.alloc (.cells #[.int .i64 x.ty] 3)) (some F)):=tJ (wJ (iy _)) _;refine hK.out _ _ (HS2.out _ (tJ (wJ (ui _ _)) _) (sV fE.out.blk).1) (fun hHeld=>?_);clear hK;refine wpAnyH_ready (rs:=[14]) (by kernel_rfl) (by simp) ?_;refine AllReadyH.cons (o:=_) rfl (fun K hK=>?_) AllReadyH.nil;go_simp
 refine (Jo c F (w.heap.size+1) top st f n row x.ty _ fE (by omega) HI1 (by have:=heap_alloc_new (w.alloc (aj 26 (k:Int) nn)).drew (.cells #[.int .i64 x.ty] 3);simpa using this) (by omega) r hr).mono ?_;rintro e w9 hS;have ak:Hid (w.grownBy w9 (some F)):=iC aH.out hS.grown;cases r with
 | error er =>
  obtain rfl:=hS.no er rfl;clear hS hK;go_wp2
  exact⟨rfl,ay.bad ak.out rfl⟩
 | ok iq =>
  obtain⟨rfl,uG,aR⟩:=hS.yes iq rfl;have il:=hide aR;refine hK.out _ _ (HS2.out w9 (iC (tJ (wJ (ui _ _)) _) hS.grown) (sV il.out.blk).1) (fun hHeld=>?_);clear hK hS aR;refine wpAnyH_done (by kernel_rfl) ?_ _;go_wp2
  go_end0
  exact ay.good ak.out rfl il.out
theorem WX (c:FC)(F B:Nat)(top:Option Addr)(st:List Int)(f:Vf.Fl)(n:Int)(row:Value)(nn:Int)(k:Nat)(x:Vf.Bx)(hx:Hid (c.m.boxes[k]?=some x))(w:World)(h:Hid (aB c w F top st f n row))(hE:Hid (Env c B F w))(hl:st.length≤300)(r:Except Int (List Int))(hr:Hid (r=Vf.put x.ty st)) :
  Calls Tryz.prog 88 #[.pointer (some ⟨F,0,none⟩),.agg #[.int .i64 27,.int .i64 (k:Int),.int .i64 nn]] w fun e w'=>ay c F f n row r w e w':=by
 have hlt:=hE.out.lt;have wW:=hE.out.base;obtain⟨i1,i2,b,off,ha,hb,b0,b1⟩:=hE.out.md.boxes k x hx.out;have Am:k<c.m.boxes.length:=(List.getElem?_eq_some_iff.1 hx.out).1;have hk1:(k:Int)<(c.m.boxes.length:Int):=by omega
 have wX:=hide (h.out.alloc (aj 27 (k:Int) nn));have d1:(w.alloc (aj 27 (k:Int) nn)).cell? ⟨F,0,none⟩=some (.slice (some ⟨b,off,none⟩) c.m.boxes.length c.cb):=by have:=(sV wX.out.blk).1;rw[ha] at this;exact this
 have d2:(w.alloc (aj 27 (k:Int) nn)).cell? ⟨w.heap.size,1,none⟩=some (.int .i64 (k:Int)):=(EF (alloc_at w _)).2.1;have d3:(w.alloc (aj 27 (k:Int) nn)).cell? ⟨b,off+k * 2,none⟩=some (.int .i64 x.ty):=(FP _ _ (by omega)).trans b0;have HA:=hide ha;have HI1:=hide i1;clear b0 b1 ha i1 i2;have HS2:Hid (∀ w3,(w.alloc (aj 27 (k:Int) nn)).grownBy w3 (some F)→w3.cell? ⟨F,0,none⟩=some (.slice c.ab c.m.boxes.length c.cb)→(w3.cell? ⟨F,0,none⟩=some (.slice (some ⟨b,off,none⟩) c.m.boxes.length c.cb)∧w3.cell? ⟨w.heap.size,1,none⟩=some (.int .i64 (k:Int))∧w3.cell? ⟨b,off+k * 2,none⟩=some (.int .i64 x.ty))):=fun w3 hg3 h1=>⟨by rw[h1,HA.out],(gZ (kept hg3 (by simp) (by omega)) _).trans d2,(gZ (kept hg3 (by simp;omega) (by omega)) _).trans d3⟩;go_enter Tryz.func88,Tryz.ntmps88
 go_wp2_with fail
 refine wp_region_held_drew (S:=fun w'=>w'.cell? ⟨F,0,none⟩=some (.slice (some ⟨b,off,none⟩) c.m.boxes.length c.cb)∧w'.cell? ⟨w.heap.size,1,none⟩=some (.int .i64 (k:Int))∧w'.cell? ⟨b,off+k * 2,none⟩=some (.int .i64 x.ty)) (by kernel_rfl) ⟨d1,d2,d3⟩ (fun hHeld=>?_);refine wpAnyH_take (i:=0) (oi:=_) (v:=?_) rfl (by kernel_rfl) (by kernel_rfl) (by kernel_rfl) (fun _ _ _ h=>h) (Or.inl ⟨by rfl,?_⟩) (by assumption) ?_;rotate_left
 ·intro w hSw
  (try dsimp only at hSw)
  go_simp
  (try with_reducible rfl)
 (try go_frame)
 refine wpAnyH_take (i:=1) (oi:=_) (v:=?_) rfl (by kernel_rfl) (by kernel_rfl) (by kernel_rfl) (fun _ _ _ h=>h) (Or.inl ⟨by rfl,?_⟩) (by assumption) ?_;rotate_left
 ·intro w hSw
  (try dsimp only at hSw)
  go_simp
  (try with_reducible rfl)
 (try go_frame)
 refine wpAnyH_take (i:=2) (oi:=_) (v:=?_) rfl (by kernel_rfl) (by kernel_rfl) (by kernel_rfl) (fun _ _ _ h=>h) (Or.inl ⟨by rfl,?_⟩) (by assumption) ?_;rotate_left
 ·intro w hSw
  (try dsimp only at hSw)
  go_simp
  (try with_reducible rfl)
 (try go_frame)
 refine wpAnyH_take (i:=3) (oi:=_) (v:=?_) rfl (by kernel_rfl) (by kernel_rfl) (by kernel_rfl) (fun _ _ _ h=>h) (Or.inl ⟨by rfl,?_⟩) (by assumption) ?_;rotate_left
 ·intro w hSw
  (try dsimp only at hSw)
  go_simp
  (try with_reducible rfl)
 (try go_frame)
 refine wpAnyH_take (i:=4) (oi:=_) (v:=?_) rfl (by kernel_rfl) (by kernel_rfl) (by kernel_rfl) (fun _ _ _ h=>h) (Or.inl ⟨by rfl,?_⟩) (by assumption) ?_;rotate_left
 ·intro w hSw
  (try dsimp only at hSw)
  go_simp
  (try with_reducible rfl)
 (try go_frame)
 refine wpAnyH_take (i:=5) (oi:=_) (v:=?_) rfl (by kernel_rfl) (by kernel_rfl) (by kernel_rfl) (fun _ _ _ h=>h) (Or.inl ⟨by rfl,?_⟩) (by assumption) ?_;rotate_left
 ·intro w hSw
  (try dsimp only at hSw)
  go_simp
  (try with_reducible rfl)
 (try go_frame)
 refine wpAnyH_take (i:=6) (oi:=_) (v:=?_) rfl (by kernel_rfl) (by kernel_rfl) (by kernel_rfl) (fun _ _ _ h=>h) (Or.inl ⟨by rfl,?_⟩) (by assumption) ?_;rotate_left
 ·intro w hSw
  (try dsimp only at hSw)
  go_simp
  (try with_reducible rfl)
 (try go_frame)
 refine wpAnyH_take (i:=7) (oi:=_) (v:=?_) rfl (by kernel_rfl) (by kernel_rfl) (by kernel_rfl) (fun _ _ _ h=>h) (Or.inl ⟨by rfl,?_⟩) (by assumption) ?_;rotate_left
 ·intro w hSw
  (try dsimp only at hSw)
  go_simp
  (try with_reducible rfl)
 (try go_frame)
 refine wpAnyH_take (i:=8) (oi:=_) (v:=?_) rfl (by kernel_rfl) (by kernel_rfl) (by kernel_rfl) (fun _ _ _ h=>h) (Or.inl ⟨by rfl,?_⟩) (by assumption) ?_;rotate_left
 ·intro w hSw
  (try dsimp only at hSw)
  go_simp
  (try with_reducible rfl)
 (try go_frame)
 refine wpAnyH_take (i:=9) (oi:=_) (v:=?_) rfl (by kernel_rfl) (by kernel_rfl) (by kernel_rfl) (fun _ _ _ h=>h) (Or.inl ⟨by rfl,?_⟩) (by assumption) ?_;rotate_left
 ·intro w hSw
  (try dsimp only at hSw)
  go_simp
  (try with_reducible rfl)
 (try go_frame)
 refine wpAnyH_take (i:=10) (oi:=_) (v:=?_) rfl (by kernel_rfl) (by kernel_rfl) (by kernel_rfl) (fun _ _ _ h=>h) (Or.inl ⟨by rfl,?_⟩) (by assumption) ?_;rotate_left
 ·intro w hSw
  (try dsimp only at hSw)
  go_simp
  (try with_reducible rfl)
 (try go_frame)
 refine wpAnyH_take (i:=11) (oi:=_) (v:=?_) rfl (by kernel_rfl) (by kernel_rfl) (by kernel_rfl) (fun _ _ _ h=>h) (Or.inl ⟨by rfl,?_⟩) (by assumption) ?_;rotate_left
 ·intro w hSw
  (try dsimp only at hSw)
  go_simp
  (try with_reducible rfl)
 (try go_frame)
 refine wpAnyH_take (i:=12) (oi:=_) (v:=?_) rfl (by kernel_rfl) (by kernel_rfl) (by kernel_rfl) (fun _ _ _ h=>h) (Or.inl ⟨by rfl,?_⟩) (by assumption) ?_;rotate_left
 ·intro w hSw
  (try dsimp only at hSw)
  go_simp
  (try with_reducible rfl)
 (try go_frame)
 refine wpAnyH_ready (rs:=[13]) (by kernel_rfl) (by simp) ?_;refine AllReadyH.cons (o:=_) rfl (fun K hK=>?_) AllReadyH.nil;go_simp
 have aH:Hid (w.grownBy (w.alloc (aj 27 (k:Int) nn)) (some F)):=iy _;refine (EC c F top st f n row x.ty _ (hide wX.out.drew) (by omega) r hr).mono ?_;rintro e w9 hS;have ak:Hid (w.grownBy w9 (some F)):=iC aH.out (uT hS.grown);cases r with
 | error er =>
  obtain rfl:=hS.no er rfl;clear hS hK;go_wp2
  exact⟨rfl,ay.bad ak.out rfl⟩
 | ok iq =>
  obtain⟨rfl,uG,aR⟩:=hS.yes iq rfl;have il:=hide aR;refine hK.out _ _ (HS2.out w9 (uT hS.grown) (sV il.out.blk).1) (fun hHeld=>?_);clear hK hS aR;refine wpAnyH_done (by kernel_rfl) ?_ _;go_wp2
  go_end0
  exact ay.good ak.out rfl il.out
theorem WY (c:FC)(F B:Nat)(top:Option Addr)(st:List Int)(f:Vf.Fl)(n:Int)(row:Value)(a nn:Int)(hgn:Hid (xN c.m st))(hun:c.m.units.length≤30)(w:World)(h:Hid (aB c w F top st f n row))(hE:Hid (Env c B F w))(hl:st.length≤300)(r:Except Int (List Int))(hr:Hid (r=Vf.resume c.m st)) :
  Calls Tryz.prog 88 #[.pointer (some ⟨F,0,none⟩),.agg #[.int .i64 30,.int .i64 a,.int .i64 nn]] w fun e w'=>ay c F f n row r w e w':=by
 have hlt:=hE.out.lt;have wW:=hE.out.base;have fH:=hide (h.out.alloc (aj 30 a nn));have aO:Hid (w.grownBy (w.alloc (aj 30 a nn)) (some F)):=iy _;go_enter Tryz.func88,Tryz.ntmps88
 go_wp2_with fail
 refine (Vz c F B top st f n row _ fH (hide (hE.out.grown (iy _))) (by omega) hgn hun r hr).mono ?_;rintro e w9 hS;have ak:Hid (w.grownBy w9 (some F)):=iC aO.out hS.grown;cases r with
 | error er =>
  obtain rfl:=hS.no er rfl;clear hS;go_wp2
  exact⟨rfl,ay.bad ak.out rfl⟩
 | ok iq =>
  obtain⟨rfl,uG,aR⟩:=hS.yes iq rfl;have il:=hide aR;clear hS aR;go_wp2
  go_end0
  exact ay.good ak.out rfl il.out
theorem WZ {st st':List Int}{g:Int}(h:Vf.vW st=.ok (g,st'))(hl:st.length≤300):st'.length<1000:=by
 cases st with
 | nil=>cases h
 | cons y st2 =>
  unfold Vf.vW Vf.pop Vf.andThen at h;simp only at h;split at h
  ·cases h;simp at hl;omega
  ·cases h
theorem W9 (c:FC)(F B:Nat)(top:Option Addr)(st:List Int)(f:Vf.Fl)(n:Int)(row:Value)(a nn:Int)(hgn:Hid (xN c.m st))(hun:c.m.units.length≤30)(w:World)(h:Hid (aB c w F top st f n row))(hE:Hid (Env c B F w))(hl:st.length≤300)(r:Except Int (List Int))(hr:Hid (r=Vf.andThen (Vf.vW st) fun g=>Vf.put 2 g.2)) :
  Calls Tryz.prog 88 #[.pointer (some ⟨F,0,none⟩),.agg #[.int .i64 32,.int .i64 a,.int .i64 nn]] w fun e w'=>ay c F f n row r w e w':=by
 have hlt:=hE.out.lt;have wW:=hE.out.base;have fH:=hide (h.out.alloc (aj 32 a nn));have aO:Hid (w.grownBy (w.alloc (aj 32 a nn)) (some F)):=iy _;obtain⟨r1,hr1⟩:∃ r1,r1=Vf.vW st:=⟨_,rfl⟩;have HR1:=hide hr1;have HR:Hid (r=Vf.andThen r1 fun g=>Vf.put 2 g.2):=by unfold Hid;rw[hr.out,hr1]
 have BG:Hid (∀ g st',r1=.ok (g,st')→st'.length<1000):=fun g st' e=>by
  rw[hr1] at e;exact WZ e hl
 clear hr hr1;go_enter Tryz.func88,Tryz.ntmps88
 go_wp2_with fail
 refine (O7 c F B top st f n row _ fH (hide (hE.out.grown (iy _))) (by omega) hgn hun r1 HR1).mono ?_;rintro e w1 hV;have aH:Hid (w.grownBy w1 (some F)):=iC aO.out hV.grown;cases r1 with
 | error er =>
  obtain rfl:=hV.no er rfl;have HE:Hid (r=.error er):=HR.out;clear hV;go_wp2
  exact⟨rfl,ay.bad aH.out HE.out⟩
 | ok gs =>
  obtain⟨g,st1⟩:=gs;obtain⟨⟨u,al,ac,cl,cc,hu,rfl⟩,lv,hF1⟩:=hV.yes g st1 rfl;have fE:=hide hF1;have hl1:=BG.out g st1 rfl;have HR2:Hid (r=Vf.put 2 st1):=HR.out;clear hV hF1 hu HR;go_wp2_with fail
  refine (EC c F lv st1 f n row 2 _ fE hl1 r HR2).mono ?_;rintro e w9 hS;have ak:Hid (w.grownBy w9 (some F)):=iC aH.out hS.grown;cases r with
  | error er =>
   obtain rfl:=hS.no er rfl;clear hS;go_wp2
   exact⟨rfl,ay.bad ak.out rfl⟩
  | ok iq =>
   obtain⟨rfl,uG,aR⟩:=hS.yes iq rfl;have il:=hide aR;clear hS aR;go_wp2
   go_end0
   exact ay.good ak.out rfl il.out
theorem Xa (c:FC)(F B:Nat)(top:Option Addr)(st:List Int)(f:Vf.Fl)(n:Int)(row:Value)(a nn:Int)(w:World)(h:Hid (aB c w F top st f n row))(hE:Hid (Env c B F w))(hl:st.length≤300)(r:Except Int (List Int))(hr:Hid (r=Vf.andThen (Vf.must (c.u.kind==3) 8 st) (Vf.turn c.u.takes [c.u.result]))) :
  Calls Tryz.prog 88 #[.pointer (some ⟨F,0,none⟩),.agg #[.int .i64 31,.int .i64 a,.int .i64 nn]] w fun e w'=>ay c F f n row r w e w':=by
 have hlt:=hE.out.lt;have wW:=hE.out.base;have fH:=hide (h.out.alloc (aj 31 a nn));have aO:Hid (w.grownBy (w.alloc (aj 31 a nn)) (some F)):=iy _;have c14:=(uD fH.out.blk).1;have c2:=(sV fH.out.blk).2.2.1;obtain⟨bb,hbb⟩:∃ bb,bb=(c.u.kind==3):=⟨_,rfl⟩;cases bb with
 | false =>
  have HE:Hid (r=.error 8):=by unfold Hid;rw[hr.out,← hbb];rfl
  have e1:(c.u.kind==3)=false:=hbb.symm;clear hbb hr;go_enter Tryz.func88,Tryz.ntmps88
  go_wp2_with fail
  refine (uj F false 8 n _ c14).mono ?_;rintro e w1 ⟨he,rfl⟩;obtain rfl:e=.panicked [lT 8 n]:=he;clear c14 c2;go_wp2
  exact⟨rfl,ay.bad aO.out HE.out⟩
 | true =>
  have HR:Hid (r=Vf.turn c.u.takes [c.u.result] st):=by unfold Hid;rw[hr.out,← hbb];rfl
  have e1:(c.u.kind==3)=true:=hbb.symm;clear hbb hr;go_enter Tryz.func88,Tryz.ntmps88
  go_wp2_with fail
  refine (uj F true 8 n _ c14).mono ?_;rintro e w1 ⟨he,hw1⟩;subst hw1;obtain rfl:e=.returned (.tuple #[]):=he;clear c14 c2;obtain⟨_,_,_,_,_,d5,d6,_⟩:=sV fH.out.blk;have HI1:Hid (dA c.u.result):=hE.out.un.nums.2.2.1;go_wp2_with fail
  refine wp_region_held_drew (S:=fun w'=>w'.cell? ⟨F,5,none⟩=some (.int .i64 c.u.result)∧w'.cell? ⟨F,6,none⟩=some (.int .i64 c.u.takes)) (by kernel_rfl) ⟨d5,d6⟩ (fun hHeld=>?_);refine wpAnyH_take (i:=0) (oi:=_) (v:=?_) rfl (by kernel_rfl) (by kernel_rfl) (by kernel_rfl) (fun _ _ _ h=>h) (Or.inl ⟨by rfl,?_⟩) (by assumption) ?_;rotate_left
  ·intro w hSw
   (try dsimp only at hSw)
   go_simp
   (try with_reducible rfl)
  (try go_frame)
  refine wpAnyH_take (i:=1) (oi:=_) (v:=?_) rfl (by kernel_rfl) (by kernel_rfl) (by kernel_rfl) (fun _ _ _ h=>h) (Or.inl ⟨by rfl,?_⟩) (by assumption) ?_;rotate_left
  ·intro w hSw
   (try dsimp only at hSw)
   go_simp
   (try with_reducible rfl)
  (try go_frame)
  refine wpAnyH_take (i:=2) (oi:=_) (v:=?_) rfl (by kernel_rfl) (by kernel_rfl) (by kernel_rfl) (fun _ _ _ h=>h) (Or.inl ⟨by rfl,?_⟩) (by assumption) ?_;rotate_left
  ·intro w hSw
   (try dsimp only at hSw)
   go_simp
   (try with_reducible rfl)
  (try go_frame)
  refine wpAnyH_take (i:=3) (oi:=_) (v:=?_) rfl (by kernel_rfl) (by kernel_rfl) (by kernel_rfl) (fun _ _ _ h=>h) (Or.inl ⟨by rfl,?_⟩) (by assumption) ?_;rotate_left
  ·intro w hSw
   (try dsimp only at hSw)
   go_simp
   (try with_reducible rfl)
  (try go_frame)
  refine wpAnyH_take (i:=4) (oi:=_) (v:=?_) rfl (by kernel_rfl) (by kernel_rfl) (by kernel_rfl) (fun _ _ _ h=>h) (Or.inl ⟨by rfl,?_⟩) (by assumption) ?_;rotate_left
  ·intro w hSw
   (try dsimp only at hSw)
   go_simp
   (try with_reducible rfl)
  (try go_frame)
  refine wpAnyH_take (i:=5) (oi:=_) (v:=?_) rfl (by kernel_rfl) (by kernel_rfl) (by kernel_rfl) (fun _ _ _ h=>h) (Or.inl ⟨by rfl,?_⟩) (by assumption) ?_;rotate_left
  ·intro w hSw
   (try dsimp only at hSw)
   go_simp
   (try with_reducible rfl)
  (try go_frame)
  refine wpAnyH_take (i:=6) (oi:=_) (v:=?_) rfl (by kernel_rfl) (by kernel_rfl) (by kernel_rfl) (fun _ _ _ h=>h) (Or.inl ⟨by rfl,?_⟩) (by assumption) ?_;rotate_left
  ·intro w hSw
   (try dsimp only at hSw)
   go_simp
   (try with_reducible rfl)
  (try go_frame)
  refine wpAnyH_take (i:=7) (oi:=_) (v:=?_) rfl (by kernel_rfl) (by kernel_rfl) (by kernel_rfl) (fun _ _ _ h=>h) (Or.inl ⟨by rfl,?_⟩) (by assumption) ?_;rotate_left
  ·intro w hSw
   (try dsimp only at hSw)
   go_simp
   (try with_reducible rfl)
  (try go_frame)
  refine wpAnyH_take (i:=8) (oi:=_) (v:=?_) rfl (by kernel_rfl) (by kernel_rfl) (by kernel_rfl) (fun _ _ _ h=>h) (Or.inl ⟨by rfl,?_⟩) (by assumption) ?_;rotate_left
  ·intro w hSw
   (try dsimp only at hSw)
   go_simp
   (try with_reducible rfl)
  (try go_frame)
  refine wpAnyH_take (i:=9) (oi:=_) (v:=?_) rfl (by kernel_rfl) (by kernel_rfl) (by kernel_rfl) (fun _ _ _ h=>h) (Or.inl ⟨by rfl,?_⟩) (by assumption) ?_;rotate_left
  ·intro w hSw
   (try dsimp only at hSw)
   go_simp
   (try with_reducible rfl)
  (try go_frame)
  refine wpAnyH_take (i:=10) (oi:=_) (v:=?_) rfl (by kernel_rfl) (by kernel_rfl) (by kernel_rfl) (fun _ _ _ h=>h) (Or.inl ⟨by rfl,?_⟩) (by assumption) ?_;rotate_left
  ·intro w hSw
   (try dsimp only at hSw)
   go_simp
   (try with_reducible rfl)
  (try go_frame)
  refine wpAnyH_take (i:=11) (oi:=_) (v:=?_) rfl (by kernel_rfl) (by kernel_rfl) (by kernel_rfl) (fun _ _ _ h=>h) (Or.inl ⟨by rfl,?_⟩) (by assumption) ?_;rotate_left
  ·intro w hSw
   (try dsimp only at hSw)
   go_simp
   (try with_reducible rfl)
  (try go_frame)
  refine wpAnyH_take (i:=12) (oi:=_) (v:=?_) rfl (by kernel_rfl) (by kernel_rfl) (by kernel_rfl) (fun _ _ _ h=>h) (Or.inl ⟨by rfl,?_⟩) (by assumption) ?_;rotate_left
  ·intro w hSw
   (try dsimp only at hSw)
   go_simp
   (try with_reducible rfl)
  (try go_frame)
  refine wpAnyH_ready (rs:=[13]) (by kernel_rfl) (by simp) ?_;refine AllReadyH.cons (o:=_) rfl (fun K hK=>?_) AllReadyH.nil;go_simp
  have fE:Hid (aB c ((w.alloc (aj 31 a nn)).drew.alloc (.cells #[.int .i64 c.u.result] 3)) F top st f n row):=fH.out.drew.alloc _;have aH:Hid (w.grownBy ((w.alloc (aj 31 a nn)).drew.alloc (.cells #[.int .i64 c.u.result] 3)) (some F)):=tJ (wJ (iy _)) _;refine hK.out _ _ (⟨(sV fE.out.blk).2.2.2.2.2.1,(sV fE.out.blk).2.2.2.2.2.2.1⟩) (fun hHeld=>?_);clear hK;refine wpAnyH_ready (rs:=[14]) (by kernel_rfl) (by simp) ?_;refine AllReadyH.cons (o:=_) rfl (fun K hK=>?_) AllReadyH.nil;go_simp
  refine (GN c F (w.heap.size+1) top st f n row c.u.takes c.u.result _ fE (by omega) HI1 (by have:=heap_alloc_new (w.alloc (aj 31 a nn)).drew (.cells #[.int .i64 c.u.result] 3);simpa using this) (by omega) r HR).mono ?_;rintro e w9 hS;have ak:Hid (w.grownBy w9 (some F)):=iC aH.out hS.grown;cases r with
  | error er =>
   obtain rfl:=hS.no er rfl;clear hS hK;go_wp2
   exact⟨rfl,ay.bad ak.out rfl⟩
  | ok iq =>
   obtain⟨rfl,uG,aR⟩:=hS.yes iq rfl;have il:=hide aR;refine hK.out _ _ (⟨(sV il.out.blk).2.2.2.2.2.1,(sV il.out.blk).2.2.2.2.2.2.1⟩) (fun hHeld=>?_);clear hK hS aR;refine wpAnyH_done (by kernel_rfl) ?_ _;go_wp2
   go_end0
   exact ay.good ak.out rfl il.out
theorem Xb (c:FC)(F B:Nat)(top:Option Addr)(st:List Int)(f:Vf.Fl)(n:Int)(row:Value)(a nn:Int)(w:World)(h:Hid (aB c w F top st f n row))(hE:Hid (Env c B F w))(hl:st.length≤300)(r:Except Int (List Int))(hr:Hid (r=Vf.andThen (Vf.must (c.u.kind != 2) 8 st) fun st=>Vf.must (st.length==0) 12 st)) :
  Calls Tryz.prog 88 #[.pointer (some ⟨F,0,none⟩),.agg #[.int .i64 25,.int .i64 a,.int .i64 nn]] w fun e w'=>ay c F f n row r w e w':=by
 have hlt:=hE.out.lt;have wW:=hE.out.base;have fH:=hide (h.out.alloc (aj 25 a nn));have aO:Hid (w.grownBy (w.alloc (aj 25 a nn)) (some F)):=iy _;have c14:=(uD fH.out.blk).1;have c2:=(sV fH.out.blk).2.2.1;obtain⟨bb,hbb⟩:∃ bb,bb=(c.u.kind != 2):=⟨_,rfl⟩;cases bb with
 | false =>
  have HE:Hid (r=.error 8):=by unfold Hid;rw[hr.out,← hbb];rfl
  have e1:(c.u.kind != 2)=false:=hbb.symm;clear hbb hr;go_enter Tryz.func88,Tryz.ntmps88
  go_wp2_with fail
  refine (uj F false 8 n _ c14).mono ?_;rintro e w1 ⟨he,rfl⟩;obtain rfl:e=.panicked [lT 8 n]:=he;clear c14 c2;go_wp2
  exact⟨rfl,ay.bad aO.out HE.out⟩
 | true =>
  have HR:Hid (r=Vf.must (st.length==0) 12 st):=by unfold Hid;rw[hr.out,← hbb];rfl
  have e1:(c.u.kind != 2)=true:=hbb.symm;clear hbb hr;go_enter Tryz.func88,Tryz.ntmps88
  go_wp2_with fail
  refine (uj F true 8 n _ c14).mono ?_;rintro e w1 ⟨he,hw1⟩;subst hw1;obtain rfl:e=.returned (.tuple #[]):=he;clear c14 c2;have c14:=(uD fH.out.blk).1;have c9:=(zq fH.out.blk).2.1;cases st with
  | nil =>
   have HE:Hid (r=.ok []):=HR.out;go_wp2_with fail
   refine (uj F true 12 n _ c14).mono ?_;rintro e w8 ⟨he,hw8⟩;subst hw8;obtain rfl:e=.returned (.tuple #[]):=he;clear c14 c9;go_wp2
   go_end0
   exact ay.good aO.out HE.out fH.out
  | cons t9 iq =>
   have HE:Hid (r=.error 12):=HR.out;have e9:(((t9 :: iq).length:Int)==0)=false:=by simp;omega
   obtain⟨d9,He⟩:∃ d9:Int,((t9 :: iq).length:Int)=d9:=⟨_,rfl⟩;rw[He] at c9 e9;clear He;go_wp2_with fail
   refine (uj F false 12 n _ c14).mono ?_;rintro e w8 ⟨he,hw8⟩;subst hw8;obtain rfl:e=.panicked [lT 12 n]:=he;clear c14 c9;go_wp2
   exact⟨rfl,ay.bad aO.out HE.out⟩
theorem Xc (c:FC)(F B:Nat)(top:Option Addr)(st:List Int)(f:Vf.Fl)(n:Int)(row:Value)(a nn:Int)(w:World)(h:Hid (aB c w F top st f n row))(hE:Hid (Env c B F w))(hl:st.length≤300)(r:Except Int (List Int))(hr:Hid (r=Vf.andThen (Vf.must (c.u.kind==2) 8 st) fun st=>Vf.andThen (Vf.jy [c.u.result] st) fun st=>Vf.must (st.length==0) 12 st)) :
  Calls Tryz.prog 88 #[.pointer (some ⟨F,0,none⟩),.agg #[.int .i64 24,.int .i64 a,.int .i64 nn]] w fun e w'=>ay c F f n row r w e w':=by
 have hlt:=hE.out.lt;have wW:=hE.out.base;have fH:=hide (h.out.alloc (aj 24 a nn));have aO:Hid (w.grownBy (w.alloc (aj 24 a nn)) (some F)):=iy _;have c14:=(uD fH.out.blk).1;have c2:=(sV fH.out.blk).2.2.1;obtain⟨bb,hbb⟩:∃ bb,bb=(c.u.kind==2):=⟨_,rfl⟩;cases bb with
 | false =>
  have HE:Hid (r=.error 8):=by unfold Hid;rw[hr.out,← hbb];rfl
  have e1:(c.u.kind==2)=false:=hbb.symm;clear hbb hr;go_enter Tryz.func88,Tryz.ntmps88
  go_wp2_with fail
  refine (uj F false 8 n _ c14).mono ?_;rintro e w1 ⟨he,rfl⟩;obtain rfl:e=.panicked [lT 8 n]:=he;clear c14 c2;go_wp2
  exact⟨rfl,ay.bad aO.out HE.out⟩
 | true =>
  have HR:Hid (r=Vf.andThen (Vf.jy [c.u.result] st) fun st=>Vf.must (st.length==0) 12 st):=by unfold Hid;rw[hr.out,← hbb];rfl
  have e1:(c.u.kind==2)=true:=hbb.symm;clear hbb hr;go_enter Tryz.func88,Tryz.ntmps88
  go_wp2_with fail
  refine (uj F true 8 n _ c14).mono ?_;rintro e w1 ⟨he,hw1⟩;subst hw1;obtain rfl:e=.returned (.tuple #[]):=he;clear c14 c2;obtain⟨_,_,_,_,_,d5,_,_⟩:=sV fH.out.blk;have HI1:Hid (dA c.u.result):=hE.out.un.nums.2.2.1;obtain⟨r1,hr1⟩:∃ r1,r1=Vf.jy [c.u.result] st:=⟨_,rfl⟩;have HR1:=hide hr1;have HRR:Hid (r=Vf.andThen r1 fun st=>Vf.must (st.length==0) 12 st):=by unfold Hid;rw[HR.out,hr1]
  clear HR hr1;have fE:Hid (aB c ((w.alloc (aj 24 a nn)).alloc (.cells #[.int .i64 c.u.result] 3)) F top st f n row):=fH.out.alloc _;have aH:Hid (w.grownBy ((w.alloc (aj 24 a nn)).alloc (.cells #[.int .i64 c.u.result] 3)) (some F)):=tJ (iy _) _;go_wp2_with fail
  refine (Jo c F (w.heap.size+1) top st f n row c.u.result _ fE (by omega) HI1 (by have:=heap_alloc_new (w.alloc (aj 24 a nn)) (.cells #[.int .i64 c.u.result] 3);simpa using this) (by omega) r1 HR1).mono ?_;rintro e w2 hS;have HG2:Hid (w.grownBy w2 (some F)):=iC aH.out hS.grown;cases r1 with
  | error er =>
   obtain rfl:=hS.no er rfl;have HE:Hid (r=.error er):=HRR.out;clear hS d5;go_wp2
   exact⟨rfl,ay.bad HG2.out HE.out⟩
  | ok st1 =>
   obtain⟨rfl,lv,hF1⟩:=hS.yes st1 rfl;have sj:=hide hF1;have HR:Hid (r=Vf.must (st1.length==0) 12 st1):=HRR.out;clear hS hF1 d5;have c14:=(uD sj.out.blk).1;have c9:=(zq sj.out.blk).2.1;cases st1 with
   | nil =>
    have HE:Hid (r=.ok []):=HR.out;go_wp2_with fail
    refine (uj F true 12 n _ c14).mono ?_;rintro e w8 ⟨he,hw8⟩;subst hw8;obtain rfl:e=.returned (.tuple #[]):=he;clear c14 c9;go_wp2
    go_end0
    exact ay.good HG2.out HE.out sj.out
   | cons t9 iq =>
    have HE:Hid (r=.error 12):=HR.out;have e9:(((t9 :: iq).length:Int)==0)=false:=by simp;omega
    obtain⟨d9,He⟩:∃ d9:Int,((t9 :: iq).length:Int)=d9:=⟨_,rfl⟩;rw[He] at c9 e9;clear He;go_wp2_with fail
    refine (uj F false 12 n _ c14).mono ?_;rintro e w8 ⟨he,hw8⟩;subst hw8;obtain rfl:e=.panicked [lT 12 n]:=he;clear c14 c9;go_wp2
    exact⟨rfl,ay.bad HG2.out HE.out⟩
theorem Xd (c:FC)(F B:Nat)(top:Option Addr)(st:List Int)(f:Vf.Fl)(n:Int)(row:Value)(a nn:Int)(w:World)(h:Hid (aB c w F top st f n row))(hE:Hid (Env c B F w))(r:Except Int (List Int))(hr:Hid (r=.ok st)) :
  Calls Tryz.prog 88 #[.pointer (some ⟨F,0,none⟩),.agg #[.int .i64 21,.int .i64 a,.int .i64 nn]] w fun e w'=>ay c F f n row r w e w':=by
 have hlt:=hE.out.lt;have wW:=hE.out.base;have fH:=hide (h.out.alloc (aj 21 a nn));have aO:Hid (w.grownBy (w.alloc (aj 21 a nn)) (some F)):=iy _;go_enter Tryz.func88,Tryz.ntmps88
 go_wp2
 go_end0
 exact ay.good aO.out hr.out fH.out
theorem LH {st st':List Int}{t:Int}(h:Vf.yf st=.ok (t,st'))(hl:st.length≤300):st'.length≤300∧dA t:=by
 cases st with
 | nil=>cases h
 | cons y st2 =>
  unfold Vf.yf Vf.pop Vf.andThen at h;simp only at h;split at h
  ·rename_i hp
   cases h;unfold Vf.plain at hp;simp at hp hl;exact⟨by omega,by rcases hp with rfl | rfl<;>decide⟩
  ·cases h
theorem Xe (c:FC)(F B:Nat)(top:Option Addr)(st:List Int)(f:Vf.Fl)(n:Int)(row:Value)(a nn:Int)(w:World)(h:Hid (aB c w F top st f n row))(hE:Hid (Env c B F w))(hl:st.length≤300)(r:Except Int (List Int))(hr:Hid (r=Vf.put 1 st)) :
  Calls Tryz.prog 64 #[.pointer (some ⟨F,0,none⟩),.agg #[.int .i64 1,.int .i64 a,.int .i64 nn]] w fun e w'=>ay c F f n row r w e w':=by
 have hlt:=hE.out.lt;have fH:=hide (h.out.alloc (aj 1 a nn));have aO:Hid (w.grownBy (w.alloc (aj 1 a nn)) (some F)):=iy _;go_enter Tryz.func64,Tryz.ntmps64
 go_wp2_with fail
 refine (EC c F top st f n row 1 _ fH (by omega) r hr).mono ?_;rintro e w9 hS;have ak:Hid (w.grownBy w9 (some F)):=iC aO.out hS.grown;cases r with
 | error er =>
  obtain rfl:=hS.no er rfl;clear hS;go_wp2
  exact⟨rfl,ay.bad ak.out rfl⟩
 | ok iq =>
  obtain⟨rfl,uG,aR⟩:=hS.yes iq rfl;have il:=hide aR;clear hS aR;go_wp2
  go_end0
  exact ay.good ak.out rfl il.out
theorem Xf (c:FC)(F B:Nat)(top:Option Addr)(st:List Int)(f:Vf.Fl)(n:Int)(row:Value)(a nn:Int)(w:World)(h:Hid (aB c w F top st f n row))(hE:Hid (Env c B F w))(hl:st.length≤300)(r:Except Int (List Int))(hr:Hid (r=Vf.put 2 st)) :
  Calls Tryz.prog 64 #[.pointer (some ⟨F,0,none⟩),.agg #[.int .i64 2,.int .i64 a,.int .i64 nn]] w fun e w'=>ay c F f n row r w e w':=by
 have hlt:=hE.out.lt;have fH:=hide (h.out.alloc (aj 2 a nn));have aO:Hid (w.grownBy (w.alloc (aj 2 a nn)) (some F)):=iy _;go_enter Tryz.func64,Tryz.ntmps64
 go_wp2_with fail
 refine (EC c F top st f n row 2 _ fH (by omega) r hr).mono ?_;rintro e w9 hS;have ak:Hid (w.grownBy w9 (some F)):=iC aO.out hS.grown;cases r with
 | error er =>
  obtain rfl:=hS.no er rfl;clear hS;go_wp2
  exact⟨rfl,ay.bad ak.out rfl⟩
 | ok iq =>
  obtain⟨rfl,uG,aR⟩:=hS.yes iq rfl;have il:=hide aR;clear hS aR;go_wp2
  go_end0
  exact ay.good ak.out rfl il.out
theorem Xg (c:FC)(F B:Nat)(top:Option Addr)(st:List Int)(f:Vf.Fl)(n:Int)(row:Value)(a nn:Int)(w:World)(h:Hid (aB c w F top st f n row))(hE:Hid (Env c B F w))(hl:st.length≤300)(r:Except Int (List Int))(hr:Hid (r=Vf.turn 1 [1] st)) :
  Calls Tryz.prog 64 #[.pointer (some ⟨F,0,none⟩),.agg #[.int .i64 6,.int .i64 a,.int .i64 nn]] w fun e w'=>ay c F f n row r w e w':=by
 have hlt:=hE.out.lt;have fH:=hide (h.out.alloc (aj 6 a nn));have aO:Hid (w.grownBy (w.alloc (aj 6 a nn)) (some F)):=iy _;have fE:Hid (aB c ((w.alloc (aj 6 a nn)).alloc (.cells #[.int .i64 1] 3)) F top st f n row):=fH.out.alloc _;have aH:Hid (w.grownBy ((w.alloc (aj 6 a nn)).alloc (.cells #[.int .i64 1] 3)) (some F)):=tJ (iy _) _;go_enter Tryz.func64,Tryz.ntmps64
 go_wp2_with fail
 refine (GN c F (w.heap.size+1) top st f n row 1 1 _ fE (by omega) (hide (by decide)) (by have:=heap_alloc_new (w.alloc (aj 6 a nn)) (.cells #[.int .i64 1] 3);simpa using this) (by omega) r hr).mono ?_;rintro e w9 hS;have ak:Hid (w.grownBy w9 (some F)):=iC aH.out hS.grown;cases r with
 | error er =>
  obtain rfl:=hS.no er rfl;clear hS;go_wp2
  exact⟨rfl,ay.bad ak.out rfl⟩
 | ok iq =>
  obtain⟨rfl,uG,aR⟩:=hS.yes iq rfl;have il:=hide aR;clear hS aR;go_wp2
  go_end0
  exact ay.good ak.out rfl il.out
theorem Xh (c:FC)(F B:Nat)(top:Option Addr)(st:List Int)(f:Vf.Fl)(n:Int)(row:Value)(a nn:Int)(w:World)(h:Hid (aB c w F top st f n row))(hE:Hid (Env c B F w))(hl:st.length≤300)(r:Except Int (List Int))(hr:Hid (r=Vf.turn 2 [2] st)) :
  Calls Tryz.prog 64 #[.pointer (some ⟨F,0,none⟩),.agg #[.int .i64 7,.int .i64 a,.int .i64 nn]] w fun e w'=>ay c F f n row r w e w':=by
 have hlt:=hE.out.lt;have fH:=hide (h.out.alloc (aj 7 a nn));have aO:Hid (w.grownBy (w.alloc (aj 7 a nn)) (some F)):=iy _;have fE:Hid (aB c ((w.alloc (aj 7 a nn)).alloc (.cells #[.int .i64 2] 3)) F top st f n row):=fH.out.alloc _;have aH:Hid (w.grownBy ((w.alloc (aj 7 a nn)).alloc (.cells #[.int .i64 2] 3)) (some F)):=tJ (iy _) _;go_enter Tryz.func64,Tryz.ntmps64
 go_wp2_with fail
 refine (GN c F (w.heap.size+1) top st f n row 2 2 _ fE (by omega) (hide (by decide)) (by have:=heap_alloc_new (w.alloc (aj 7 a nn)) (.cells #[.int .i64 2] 3);simpa using this) (by omega) r hr).mono ?_;rintro e w9 hS;have ak:Hid (w.grownBy w9 (some F)):=iC aH.out hS.grown;cases r with
 | error er =>
  obtain rfl:=hS.no er rfl;clear hS;go_wp2
  exact⟨rfl,ay.bad ak.out rfl⟩
 | ok iq =>
  obtain⟨rfl,uG,aR⟩:=hS.yes iq rfl;have il:=hide aR;clear hS aR;go_wp2
  go_end0
  exact ay.good ak.out rfl il.out
theorem Xi (c:FC)(F B:Nat)(top:Option Addr)(st:List Int)(f:Vf.Fl)(n:Int)(row:Value)(a nn:Int)(w:World)(h:Hid (aB c w F top st f n row))(hE:Hid (Env c B F w))(hl:st.length≤300)(r:Except Int (List Int))(hr:Hid (r=Vf.jy [2] st)) :
  Calls Tryz.prog 64 #[.pointer (some ⟨F,0,none⟩),.agg #[.int .i64 22,.int .i64 a,.int .i64 nn]] w fun e w'=>ay c F f n row r w e w':=by
 have hlt:=hE.out.lt;have fH:=hide (h.out.alloc (aj 22 a nn));have aO:Hid (w.grownBy (w.alloc (aj 22 a nn)) (some F)):=iy _;have fE:Hid (aB c ((w.alloc (aj 22 a nn)).alloc (.cells #[.int .i64 2] 3)) F top st f n row):=fH.out.alloc _;have aH:Hid (w.grownBy ((w.alloc (aj 22 a nn)).alloc (.cells #[.int .i64 2] 3)) (some F)):=tJ (iy _) _;go_enter Tryz.func64,Tryz.ntmps64
 go_wp2_with fail
 refine (Jo c F (w.heap.size+1) top st f n row 2 _ fE (by omega) (hide (by decide)) (by have:=heap_alloc_new (w.alloc (aj 22 a nn)) (.cells #[.int .i64 2] 3);simpa using this) (by omega) r hr).mono ?_;rintro e w9 hS;have ak:Hid (w.grownBy w9 (some F)):=iC aH.out hS.grown;cases r with
 | error er =>
  obtain rfl:=hS.no er rfl;clear hS;go_wp2
  exact⟨rfl,ay.bad ak.out rfl⟩
 | ok iq =>
  obtain⟨rfl,uG,aR⟩:=hS.yes iq rfl;have il:=hide aR;clear hS aR;go_wp2
  go_end0
  exact ay.good ak.out rfl il.out
theorem Xj (c:FC)(F B:Nat)(top:Option Addr)(st:List Int)(f:Vf.Fl)(n:Int)(row:Value)(a nn:Int)(w:World)(h:Hid (aB c w F top st f n row))(hE:Hid (Env c B F w))(hl:st.length≤300)(r:Except Int (List Int))(hr:Hid (r=Vf.andThen (Vf.pop st) fun p=>.ok p.2)) :
  Calls Tryz.prog 64 #[.pointer (some ⟨F,0,none⟩),.agg #[.int .i64 5,.int .i64 a,.int .i64 nn]] w fun e w'=>ay c F f n row r w e w':=by
 have hlt:=hE.out.lt;have fH:=hide (h.out.alloc (aj 5 a nn));have aO:Hid (w.grownBy (w.alloc (aj 5 a nn)) (some F)):=iy _;go_enter Tryz.func64,Tryz.ntmps64
 go_wp2_with fail
 refine (GL c F top st f n row _ fH (by omega) (Vf.pop st) (hide rfl)).mono ?_;rintro e w1 hV;have aH:Hid (w.grownBy w1 (some F)):=iC aO.out hV.grown;cases st with
 | nil =>
  obtain rfl:=hV.no 12 rfl;have HE:Hid (r=.error 12):=hr.out;clear hV;go_wp2
  exact⟨rfl,ay.bad aH.out HE.out⟩
 | cons t st1 =>
  obtain⟨rfl,lv,hF1⟩:=hV.yes t st1 rfl;have fE:=hide hF1;have HE:Hid (r=.ok st1):=hr.out;clear hV hF1;go_wp2
  go_end0
  exact ay.good aH.out HE.out fE.out
theorem Xk (c:FC)(F B:Nat)(top:Option Addr)(st:List Int)(f:Vf.Fl)(n:Int)(row:Value)(a nn:Int)(w:World)(h:Hid (aB c w F top st f n row))(hE:Hid (Env c B F w))(hl:st.length≤300)(r:Except Int (List Int))(hr:Hid (r=Vf.andThen (Vf.yf st) fun p=>.ok p.2)) :
  Calls Tryz.prog 64 #[.pointer (some ⟨F,0,none⟩),.agg #[.int .i64 28,.int .i64 a,.int .i64 nn]] w fun e w'=>ay c F f n row r w e w':=by
 have hlt:=hE.out.lt;have fH:=hide (h.out.alloc (aj 28 a nn));have aO:Hid (w.grownBy (w.alloc (aj 28 a nn)) (some F)):=iy _;obtain⟨r1,hr1⟩:∃ r1,r1=Vf.yf st:=⟨_,rfl⟩;have HR1:=hide hr1;have HR:Hid (r=Vf.andThen r1 fun p=>.ok p.2):=by unfold Hid;rw[hr.out,hr1]
 have HL:Hid (∀ t st',r1=.ok (t,st')→st'.length≤300∧dA t):=fun t st' e=>by
  rw[hr1] at e;exact LH e hl
 clear hr hr1;go_enter Tryz.func64,Tryz.ntmps64
 go_wp2_with fail
 refine (Ld c F top st f n row _ fH (by omega) r1 HR1).mono ?_;rintro e w1 hV;have aH:Hid (w.grownBy w1 (some F)):=iC aO.out hV.grown;cases r1 with
 | error er =>
  obtain rfl:=hV.no er rfl;have HE:Hid (r=.error er):=HR.out;clear hV;go_wp2
  exact⟨rfl,ay.bad aH.out HE.out⟩
 | ok gs =>
  obtain⟨t,st1⟩:=gs;obtain⟨rfl,lv,hF1⟩:=hV.yes t st1 rfl;have fE:=hide hF1;have hl1:=(HL.out t st1 rfl).1;have vO:=hide (HL.out t st1 rfl).2;clear hV hF1;have HE:Hid (r=.ok st1):=HR.out;clear HR hl1 vO HL;go_wp2
  go_end0
  exact ay.good aH.out HE.out fE.out
theorem Xl (c:FC)(F B:Nat)(top:Option Addr)(st:List Int)(f:Vf.Fl)(n:Int)(row:Value)(a nn:Int)(w:World)(h:Hid (aB c w F top st f n row))(hE:Hid (Env c B F w))(hl:st.length≤300)(r:Except Int (List Int))(hr:Hid (r=Vf.andThen (Vf.yf st) fun p=>Vf.turn 2 [p.1] p.2)) :
  Calls Tryz.prog 64 #[.pointer (some ⟨F,0,none⟩),.agg #[.int .i64 13,.int .i64 a,.int .i64 nn]] w fun e w'=>ay c F f n row r w e w':=by
 have hlt:=hE.out.lt;have fH:=hide (h.out.alloc (aj 13 a nn));have aO:Hid (w.grownBy (w.alloc (aj 13 a nn)) (some F)):=iy _;obtain⟨r1,hr1⟩:∃ r1,r1=Vf.yf st:=⟨_,rfl⟩;have HR1:=hide hr1;have HR:Hid (r=Vf.andThen r1 fun p=>Vf.turn 2 [p.1] p.2):=by unfold Hid;rw[hr.out,hr1]
 have HL:Hid (∀ t st',r1=.ok (t,st')→st'.length≤300∧dA t):=fun t st' e=>by
  rw[hr1] at e;exact LH e hl
 clear hr hr1;go_enter Tryz.func64,Tryz.ntmps64
 go_wp2_with fail
 refine (Ld c F top st f n row _ fH (by omega) r1 HR1).mono ?_;rintro e w1 hV;have aH:Hid (w.grownBy w1 (some F)):=iC aO.out hV.grown;cases r1 with
 | error er =>
  obtain rfl:=hV.no er rfl;have HE:Hid (r=.error er):=HR.out;clear hV;go_wp2
  exact⟨rfl,ay.bad aH.out HE.out⟩
 | ok gs =>
  obtain⟨t,st1⟩:=gs;obtain⟨rfl,lv,hF1⟩:=hV.yes t st1 rfl;have fE:=hide hF1;have hl1:=(HL.out t st1 rfl).1;have vO:=hide (HL.out t st1 rfl).2;clear hV hF1;have HE:Hid (r=Vf.turn 2 [t] st1):=HR.out;have sj:Hid (aB c (w1.alloc (.cells #[.int .i64 t] 3)) F lv st1 f n row):=fE.out.alloc _;have HG2:Hid (w.grownBy (w1.alloc (.cells #[.int .i64 t] 3)) (some F)):=tJ aH.out _;have hz1:=aH.out.size;clear HR HL;go_wp2_with fail
  refine (GN c F w1.heap.size lv st1 f n row 2 t _ sj (by omega) vO (heap_alloc_new w1 _) (by omega) r HE).mono ?_;rintro e w9 hS;have ak:Hid (w.grownBy w9 (some F)):=iC HG2.out hS.grown;cases r with
  | error er =>
   obtain rfl:=hS.no er rfl;clear hS;go_wp2
   exact⟨rfl,ay.bad ak.out rfl⟩
  | ok iq =>
   obtain⟨rfl,uG,aR⟩:=hS.yes iq rfl;have il:=hide aR;clear hS aR;go_wp2
   go_end0
   exact ay.good ak.out rfl il.out
theorem Xm (c:FC)(F B:Nat)(top:Option Addr)(st:List Int)(f:Vf.Fl)(n:Int)(row:Value)(a nn:Int)(w:World)(h:Hid (aB c w F top st f n row))(hE:Hid (Env c B F w))(hl:st.length≤300)(r:Except Int (List Int))(hr:Hid (r=Vf.andThen (Vf.yf st) fun p=>Vf.turn 2 [p.1] p.2)) :
  Calls Tryz.prog 64 #[.pointer (some ⟨F,0,none⟩),.agg #[.int .i64 14,.int .i64 a,.int .i64 nn]] w fun e w'=>ay c F f n row r w e w':=by
 have hlt:=hE.out.lt;have fH:=hide (h.out.alloc (aj 14 a nn));have aO:Hid (w.grownBy (w.alloc (aj 14 a nn)) (some F)):=iy _;obtain⟨r1,hr1⟩:∃ r1,r1=Vf.yf st:=⟨_,rfl⟩;have HR1:=hide hr1;have HR:Hid (r=Vf.andThen r1 fun p=>Vf.turn 2 [p.1] p.2):=by unfold Hid;rw[hr.out,hr1]
 have HL:Hid (∀ t st',r1=.ok (t,st')→st'.length≤300∧dA t):=fun t st' e=>by
  rw[hr1] at e;exact LH e hl
 clear hr hr1;go_enter Tryz.func64,Tryz.ntmps64
 go_wp2_with fail
 refine (Ld c F top st f n row _ fH (by omega) r1 HR1).mono ?_;rintro e w1 hV;have aH:Hid (w.grownBy w1 (some F)):=iC aO.out hV.grown;cases r1 with
 | error er =>
  obtain rfl:=hV.no er rfl;have HE:Hid (r=.error er):=HR.out;clear hV;go_wp2
  exact⟨rfl,ay.bad aH.out HE.out⟩
 | ok gs =>
  obtain⟨t,st1⟩:=gs;obtain⟨rfl,lv,hF1⟩:=hV.yes t st1 rfl;have fE:=hide hF1;have hl1:=(HL.out t st1 rfl).1;have vO:=hide (HL.out t st1 rfl).2;clear hV hF1;have HE:Hid (r=Vf.turn 2 [t] st1):=HR.out;have sj:Hid (aB c (w1.alloc (.cells #[.int .i64 t] 3)) F lv st1 f n row):=fE.out.alloc _;have HG2:Hid (w.grownBy (w1.alloc (.cells #[.int .i64 t] 3)) (some F)):=tJ aH.out _;have hz1:=aH.out.size;clear HR HL;go_wp2_with fail
  refine (GN c F w1.heap.size lv st1 f n row 2 t _ sj (by omega) vO (heap_alloc_new w1 _) (by omega) r HE).mono ?_;rintro e w9 hS;have ak:Hid (w.grownBy w9 (some F)):=iC HG2.out hS.grown;cases r with
  | error er =>
   obtain rfl:=hS.no er rfl;clear hS;go_wp2
   exact⟨rfl,ay.bad ak.out rfl⟩
  | ok iq =>
   obtain⟨rfl,uG,aR⟩:=hS.yes iq rfl;have il:=hide aR;clear hS aR;go_wp2
   go_end0
   exact ay.good ak.out rfl il.out
theorem Xn (c:FC)(F B:Nat)(top:Option Addr)(st:List Int)(f:Vf.Fl)(n:Int)(row:Value)(a nn:Int)(w:World)(h:Hid (aB c w F top st f n row))(hE:Hid (Env c B F w))(hl:st.length≤300)(r:Except Int (List Int))(hr:Hid (r=Vf.turn 1 [1,1] st)) :
  Calls Tryz.prog 64 #[.pointer (some ⟨F,0,none⟩),.agg #[.int .i64 8,.int .i64 a,.int .i64 nn]] w fun e w'=>ay c F f n row r w e w':=by
 have hlt:=hE.out.lt;have fH:=hide (h.out.alloc (aj 8 a nn));have aO:Hid (w.grownBy (w.alloc (aj 8 a nn)) (some F)):=iy _;have fE:Hid (aB c ((w.alloc (aj 8 a nn)).alloc (.cells #[.int .i64 1,.int .i64 1] 3)) F top st f n row):=fH.out.alloc _;have aH:Hid (w.grownBy ((w.alloc (aj 8 a nn)).alloc (.cells #[.int .i64 1,.int .i64 1] 3)) (some F)):=tJ (iy _) _;go_enter Tryz.func64,Tryz.ntmps64
 go_wp2_with fail
 refine (zQ c F (w.heap.size+1) top st f n row 1 1 1 _ fE (by omega) (hide (by decide)) (by have:=heap_alloc_new (w.alloc (aj 8 a nn)) (.cells #[.int .i64 1,.int .i64 1] 3);simpa using this) (by omega) r hr).mono ?_;rintro e w9 hS;have ak:Hid (w.grownBy w9 (some F)):=iC aH.out hS.grown;cases r with
 | error er =>
  obtain rfl:=hS.no er rfl;clear hS;go_wp2
  exact⟨rfl,ay.bad ak.out rfl⟩
 | ok iq =>
  obtain⟨rfl,uG,aR⟩:=hS.yes iq rfl;have il:=hide aR;clear hS aR;go_wp2
  go_end0
  exact ay.good ak.out rfl il.out
theorem Xo (c:FC)(F B:Nat)(top:Option Addr)(st:List Int)(f:Vf.Fl)(n:Int)(row:Value)(a nn:Int)(w:World)(h:Hid (aB c w F top st f n row))(hE:Hid (Env c B F w))(hl:st.length≤300)(r:Except Int (List Int))(hr:Hid (r=Vf.turn 1 [1,1] st)) :
  Calls Tryz.prog 64 #[.pointer (some ⟨F,0,none⟩),.agg #[.int .i64 9,.int .i64 a,.int .i64 nn]] w fun e w'=>ay c F f n row r w e w':=by
 have hlt:=hE.out.lt;have fH:=hide (h.out.alloc (aj 9 a nn));have aO:Hid (w.grownBy (w.alloc (aj 9 a nn)) (some F)):=iy _;have fE:Hid (aB c ((w.alloc (aj 9 a nn)).alloc (.cells #[.int .i64 1,.int .i64 1] 3)) F top st f n row):=fH.out.alloc _;have aH:Hid (w.grownBy ((w.alloc (aj 9 a nn)).alloc (.cells #[.int .i64 1,.int .i64 1] 3)) (some F)):=tJ (iy _) _;go_enter Tryz.func64,Tryz.ntmps64
 go_wp2_with fail
 refine (zQ c F (w.heap.size+1) top st f n row 1 1 1 _ fE (by omega) (hide (by decide)) (by have:=heap_alloc_new (w.alloc (aj 9 a nn)) (.cells #[.int .i64 1,.int .i64 1] 3);simpa using this) (by omega) r hr).mono ?_;rintro e w9 hS;have ak:Hid (w.grownBy w9 (some F)):=iC aH.out hS.grown;cases r with
 | error er =>
  obtain rfl:=hS.no er rfl;clear hS;go_wp2
  exact⟨rfl,ay.bad ak.out rfl⟩
 | ok iq =>
  obtain⟨rfl,uG,aR⟩:=hS.yes iq rfl;have il:=hide aR;clear hS aR;go_wp2
  go_end0
  exact ay.good ak.out rfl il.out
theorem Xp (c:FC)(F B:Nat)(top:Option Addr)(st:List Int)(f:Vf.Fl)(n:Int)(row:Value)(a nn:Int)(w:World)(h:Hid (aB c w F top st f n row))(hE:Hid (Env c B F w))(hl:st.length≤300)(r:Except Int (List Int))(hr:Hid (r=Vf.turn 1 [1,1] st)) :
  Calls Tryz.prog 64 #[.pointer (some ⟨F,0,none⟩),.agg #[.int .i64 10,.int .i64 a,.int .i64 nn]] w fun e w'=>ay c F f n row r w e w':=by
 have hlt:=hE.out.lt;have fH:=hide (h.out.alloc (aj 10 a nn));have aO:Hid (w.grownBy (w.alloc (aj 10 a nn)) (some F)):=iy _;have fE:Hid (aB c ((w.alloc (aj 10 a nn)).alloc (.cells #[.int .i64 1,.int .i64 1] 3)) F top st f n row):=fH.out.alloc _;have aH:Hid (w.grownBy ((w.alloc (aj 10 a nn)).alloc (.cells #[.int .i64 1,.int .i64 1] 3)) (some F)):=tJ (iy _) _;go_enter Tryz.func64,Tryz.ntmps64
 go_wp2_with fail
 refine (zQ c F (w.heap.size+1) top st f n row 1 1 1 _ fE (by omega) (hide (by decide)) (by have:=heap_alloc_new (w.alloc (aj 10 a nn)) (.cells #[.int .i64 1,.int .i64 1] 3);simpa using this) (by omega) r hr).mono ?_;rintro e w9 hS;have ak:Hid (w.grownBy w9 (some F)):=iC aH.out hS.grown;cases r with
 | error er =>
  obtain rfl:=hS.no er rfl;clear hS;go_wp2
  exact⟨rfl,ay.bad ak.out rfl⟩
 | ok iq =>
  obtain⟨rfl,uG,aR⟩:=hS.yes iq rfl;have il:=hide aR;clear hS aR;go_wp2
  go_end0
  exact ay.good ak.out rfl il.out
theorem Xq (c:FC)(F B:Nat)(top:Option Addr)(st:List Int)(f:Vf.Fl)(n:Int)(row:Value)(a nn:Int)(w:World)(h:Hid (aB c w F top st f n row))(hE:Hid (Env c B F w))(hl:st.length≤300)(r:Except Int (List Int))(hr:Hid (r=Vf.turn 1 [1,1] st)) :
  Calls Tryz.prog 64 #[.pointer (some ⟨F,0,none⟩),.agg #[.int .i64 11,.int .i64 a,.int .i64 nn]] w fun e w'=>ay c F f n row r w e w':=by
 have hlt:=hE.out.lt;have fH:=hide (h.out.alloc (aj 11 a nn));have aO:Hid (w.grownBy (w.alloc (aj 11 a nn)) (some F)):=iy _;have fE:Hid (aB c ((w.alloc (aj 11 a nn)).alloc (.cells #[.int .i64 1,.int .i64 1] 3)) F top st f n row):=fH.out.alloc _;have aH:Hid (w.grownBy ((w.alloc (aj 11 a nn)).alloc (.cells #[.int .i64 1,.int .i64 1] 3)) (some F)):=tJ (iy _) _;go_enter Tryz.func64,Tryz.ntmps64
 go_wp2_with fail
 refine (zQ c F (w.heap.size+1) top st f n row 1 1 1 _ fE (by omega) (hide (by decide)) (by have:=heap_alloc_new (w.alloc (aj 11 a nn)) (.cells #[.int .i64 1,.int .i64 1] 3);simpa using this) (by omega) r hr).mono ?_;rintro e w9 hS;have ak:Hid (w.grownBy w9 (some F)):=iC aH.out hS.grown;cases r with
 | error er =>
  obtain rfl:=hS.no er rfl;clear hS;go_wp2
  exact⟨rfl,ay.bad ak.out rfl⟩
 | ok iq =>
  obtain⟨rfl,uG,aR⟩:=hS.yes iq rfl;have il:=hide aR;clear hS aR;go_wp2
  go_end0
  exact ay.good ak.out rfl il.out
theorem Xr (c:FC)(F B:Nat)(top:Option Addr)(st:List Int)(f:Vf.Fl)(n:Int)(row:Value)(a nn:Int)(w:World)(h:Hid (aB c w F top st f n row))(hE:Hid (Env c B F w))(hl:st.length≤300)(r:Except Int (List Int))(hr:Hid (r=Vf.turn 1 [1,1] st)) :
  Calls Tryz.prog 64 #[.pointer (some ⟨F,0,none⟩),.agg #[.int .i64 12,.int .i64 a,.int .i64 nn]] w fun e w'=>ay c F f n row r w e w':=by
 have hlt:=hE.out.lt;have fH:=hide (h.out.alloc (aj 12 a nn));have aO:Hid (w.grownBy (w.alloc (aj 12 a nn)) (some F)):=iy _;have fE:Hid (aB c ((w.alloc (aj 12 a nn)).alloc (.cells #[.int .i64 1,.int .i64 1] 3)) F top st f n row):=fH.out.alloc _;have aH:Hid (w.grownBy ((w.alloc (aj 12 a nn)).alloc (.cells #[.int .i64 1,.int .i64 1] 3)) (some F)):=tJ (iy _) _;go_enter Tryz.func64,Tryz.ntmps64
 go_wp2_with fail
 refine (zQ c F (w.heap.size+1) top st f n row 1 1 1 _ fE (by omega) (hide (by decide)) (by have:=heap_alloc_new (w.alloc (aj 12 a nn)) (.cells #[.int .i64 1,.int .i64 1] 3);simpa using this) (by omega) r hr).mono ?_;rintro e w9 hS;have ak:Hid (w.grownBy w9 (some F)):=iC aH.out hS.grown;cases r with
 | error er =>
  obtain rfl:=hS.no er rfl;clear hS;go_wp2
  exact⟨rfl,ay.bad ak.out rfl⟩
 | ok iq =>
  obtain⟨rfl,uG,aR⟩:=hS.yes iq rfl;have il:=hide aR;clear hS aR;go_wp2
  go_end0
  exact ay.good ak.out rfl il.out
theorem Xt (c:FC)(F B:Nat)(top:Option Addr)(st:List Int)(f:Vf.Fl)(n:Int)(row:Value)(a nn:Int)(w:World)(h:Hid (aB c w F top st f n row))(hE:Hid (Env c B F w))(hl:st.length≤300)(r:Except Int (List Int))(hr:Hid (r=Vf.turn 2 [1,1] st)) :
  Calls Tryz.prog 64 #[.pointer (some ⟨F,0,none⟩),.agg #[.int .i64 15,.int .i64 a,.int .i64 nn]] w fun e w'=>ay c F f n row r w e w':=by
 have hlt:=hE.out.lt;have fH:=hide (h.out.alloc (aj 15 a nn));have aO:Hid (w.grownBy (w.alloc (aj 15 a nn)) (some F)):=iy _;have fE:Hid (aB c ((w.alloc (aj 15 a nn)).alloc (.cells #[.int .i64 1,.int .i64 1] 3)) F top st f n row):=fH.out.alloc _;have aH:Hid (w.grownBy ((w.alloc (aj 15 a nn)).alloc (.cells #[.int .i64 1,.int .i64 1] 3)) (some F)):=tJ (iy _) _;go_enter Tryz.func64,Tryz.ntmps64
 go_wp2_with fail
 refine (zQ c F (w.heap.size+1) top st f n row 2 1 1 _ fE (by omega) (hide (by decide)) (by have:=heap_alloc_new (w.alloc (aj 15 a nn)) (.cells #[.int .i64 1,.int .i64 1] 3);simpa using this) (by omega) r hr).mono ?_;rintro e w9 hS;have ak:Hid (w.grownBy w9 (some F)):=iC aH.out hS.grown;cases r with
 | error er =>
  obtain rfl:=hS.no er rfl;clear hS;go_wp2
  exact⟨rfl,ay.bad ak.out rfl⟩
 | ok iq =>
  obtain⟨rfl,uG,aR⟩:=hS.yes iq rfl;have il:=hide aR;clear hS aR;go_wp2
  go_end0
  exact ay.good ak.out rfl il.out
theorem Xu (c:FC)(F B:Nat)(top:Option Addr)(st:List Int)(f:Vf.Fl)(n:Int)(row:Value)(a nn:Int)(w:World)(h:Hid (aB c w F top st f n row))(hE:Hid (Env c B F w))(hl:st.length≤300)(r:Except Int (List Int))(hr:Hid (r=Vf.turn 2 [1,1] st)) :
  Calls Tryz.prog 64 #[.pointer (some ⟨F,0,none⟩),.agg #[.int .i64 16,.int .i64 a,.int .i64 nn]] w fun e w'=>ay c F f n row r w e w':=by
 have hlt:=hE.out.lt;have fH:=hide (h.out.alloc (aj 16 a nn));have aO:Hid (w.grownBy (w.alloc (aj 16 a nn)) (some F)):=iy _;have fE:Hid (aB c ((w.alloc (aj 16 a nn)).alloc (.cells #[.int .i64 1,.int .i64 1] 3)) F top st f n row):=fH.out.alloc _;have aH:Hid (w.grownBy ((w.alloc (aj 16 a nn)).alloc (.cells #[.int .i64 1,.int .i64 1] 3)) (some F)):=tJ (iy _) _;go_enter Tryz.func64,Tryz.ntmps64
 go_wp2_with fail
 refine (zQ c F (w.heap.size+1) top st f n row 2 1 1 _ fE (by omega) (hide (by decide)) (by have:=heap_alloc_new (w.alloc (aj 16 a nn)) (.cells #[.int .i64 1,.int .i64 1] 3);simpa using this) (by omega) r hr).mono ?_;rintro e w9 hS;have ak:Hid (w.grownBy w9 (some F)):=iC aH.out hS.grown;cases r with
 | error er =>
  obtain rfl:=hS.no er rfl;clear hS;go_wp2
  exact⟨rfl,ay.bad ak.out rfl⟩
 | ok iq =>
  obtain⟨rfl,uG,aR⟩:=hS.yes iq rfl;have il:=hide aR;clear hS aR;go_wp2
  go_end0
  exact ay.good ak.out rfl il.out
theorem Xv (c:FC)(F B:Nat)(top:Option Addr)(st:List Int)(f:Vf.Fl)(n:Int)(row:Value)(a nn:Int)(w:World)(h:Hid (aB c w F top st f n row))(hE:Hid (Env c B F w))(hl:st.length≤300)(r:Except Int (List Int))(hr:Hid (r=Vf.turn 2 [1,1] st)) :
  Calls Tryz.prog 64 #[.pointer (some ⟨F,0,none⟩),.agg #[.int .i64 17,.int .i64 a,.int .i64 nn]] w fun e w'=>ay c F f n row r w e w':=by
 have hlt:=hE.out.lt;have fH:=hide (h.out.alloc (aj 17 a nn));have aO:Hid (w.grownBy (w.alloc (aj 17 a nn)) (some F)):=iy _;have fE:Hid (aB c ((w.alloc (aj 17 a nn)).alloc (.cells #[.int .i64 1,.int .i64 1] 3)) F top st f n row):=fH.out.alloc _;have aH:Hid (w.grownBy ((w.alloc (aj 17 a nn)).alloc (.cells #[.int .i64 1,.int .i64 1] 3)) (some F)):=tJ (iy _) _;go_enter Tryz.func64,Tryz.ntmps64
 go_wp2_with fail
 refine (zQ c F (w.heap.size+1) top st f n row 2 1 1 _ fE (by omega) (hide (by decide)) (by have:=heap_alloc_new (w.alloc (aj 17 a nn)) (.cells #[.int .i64 1,.int .i64 1] 3);simpa using this) (by omega) r hr).mono ?_;rintro e w9 hS;have ak:Hid (w.grownBy w9 (some F)):=iC aH.out hS.grown;cases r with
 | error er =>
  obtain rfl:=hS.no er rfl;clear hS;go_wp2
  exact⟨rfl,ay.bad ak.out rfl⟩
 | ok iq =>
  obtain⟨rfl,uG,aR⟩:=hS.yes iq rfl;have il:=hide aR;clear hS aR;go_wp2
  go_end0
  exact ay.good ak.out rfl il.out
theorem Xw (c:FC)(F B:Nat)(top:Option Addr)(st:List Int)(f:Vf.Fl)(n:Int)(row:Value)(a nn:Int)(w:World)(h:Hid (aB c w F top st f n row))(hE:Hid (Env c B F w))(hl:st.length≤300)(r:Except Int (List Int))(hr:Hid (r=Vf.turn 2 [1,1] st)) :
  Calls Tryz.prog 64 #[.pointer (some ⟨F,0,none⟩),.agg #[.int .i64 18,.int .i64 a,.int .i64 nn]] w fun e w'=>ay c F f n row r w e w':=by
 have hlt:=hE.out.lt;have fH:=hide (h.out.alloc (aj 18 a nn));have aO:Hid (w.grownBy (w.alloc (aj 18 a nn)) (some F)):=iy _;have fE:Hid (aB c ((w.alloc (aj 18 a nn)).alloc (.cells #[.int .i64 1,.int .i64 1] 3)) F top st f n row):=fH.out.alloc _;have aH:Hid (w.grownBy ((w.alloc (aj 18 a nn)).alloc (.cells #[.int .i64 1,.int .i64 1] 3)) (some F)):=tJ (iy _) _;go_enter Tryz.func64,Tryz.ntmps64
 go_wp2_with fail
 refine (zQ c F (w.heap.size+1) top st f n row 2 1 1 _ fE (by omega) (hide (by decide)) (by have:=heap_alloc_new (w.alloc (aj 18 a nn)) (.cells #[.int .i64 1,.int .i64 1] 3);simpa using this) (by omega) r hr).mono ?_;rintro e w9 hS;have ak:Hid (w.grownBy w9 (some F)):=iC aH.out hS.grown;cases r with
 | error er =>
  obtain rfl:=hS.no er rfl;clear hS;go_wp2
  exact⟨rfl,ay.bad ak.out rfl⟩
 | ok iq =>
  obtain⟨rfl,uG,aR⟩:=hS.yes iq rfl;have il:=hide aR;clear hS aR;go_wp2
  go_end0
  exact ay.good ak.out rfl il.out
theorem Xx (c:FC)(F B:Nat)(top:Option Addr)(st:List Int)(f:Vf.Fl)(n:Int)(row:Value)(a nn:Int)(w:World)(h:Hid (aB c w F top st f n row))(hE:Hid (Env c B F w))(hl:st.length≤300)(r:Except Int (List Int))(hr:Hid (r=Vf.turn 2 [2,2] st)) :
  Calls Tryz.prog 64 #[.pointer (some ⟨F,0,none⟩),.agg #[.int .i64 19,.int .i64 a,.int .i64 nn]] w fun e w'=>ay c F f n row r w e w':=by
 have hlt:=hE.out.lt;have fH:=hide (h.out.alloc (aj 19 a nn));have aO:Hid (w.grownBy (w.alloc (aj 19 a nn)) (some F)):=iy _;have fE:Hid (aB c ((w.alloc (aj 19 a nn)).alloc (.cells #[.int .i64 2,.int .i64 2] 3)) F top st f n row):=fH.out.alloc _;have aH:Hid (w.grownBy ((w.alloc (aj 19 a nn)).alloc (.cells #[.int .i64 2,.int .i64 2] 3)) (some F)):=tJ (iy _) _;go_enter Tryz.func64,Tryz.ntmps64
 go_wp2_with fail
 refine (zQ c F (w.heap.size+1) top st f n row 2 2 2 _ fE (by omega) (hide (by decide)) (by have:=heap_alloc_new (w.alloc (aj 19 a nn)) (.cells #[.int .i64 2,.int .i64 2] 3);simpa using this) (by omega) r hr).mono ?_;rintro e w9 hS;have ak:Hid (w.grownBy w9 (some F)):=iC aH.out hS.grown;cases r with
 | error er =>
  obtain rfl:=hS.no er rfl;clear hS;go_wp2
  exact⟨rfl,ay.bad ak.out rfl⟩
 | ok iq =>
  obtain⟨rfl,uG,aR⟩:=hS.yes iq rfl;have il:=hide aR;clear hS aR;go_wp2
  go_end0
  exact ay.good ak.out rfl il.out
theorem Xy (c:FC)(F B:Nat)(top:Option Addr)(st:List Int)(f:Vf.Fl)(n:Int)(row:Value)(a nn:Int)(w:World)(h:Hid (aB c w F top st f n row))(hE:Hid (Env c B F w))(hl:st.length≤300)(r:Except Int (List Int))(hr:Hid (r=Vf.turn 2 [2,2] st)) :
  Calls Tryz.prog 64 #[.pointer (some ⟨F,0,none⟩),.agg #[.int .i64 20,.int .i64 a,.int .i64 nn]] w fun e w'=>ay c F f n row r w e w':=by
 have hlt:=hE.out.lt;have fH:=hide (h.out.alloc (aj 20 a nn));have aO:Hid (w.grownBy (w.alloc (aj 20 a nn)) (some F)):=iy _;have fE:Hid (aB c ((w.alloc (aj 20 a nn)).alloc (.cells #[.int .i64 2,.int .i64 2] 3)) F top st f n row):=fH.out.alloc _;have aH:Hid (w.grownBy ((w.alloc (aj 20 a nn)).alloc (.cells #[.int .i64 2,.int .i64 2] 3)) (some F)):=tJ (iy _) _;go_enter Tryz.func64,Tryz.ntmps64
 go_wp2_with fail
 refine (zQ c F (w.heap.size+1) top st f n row 2 2 2 _ fE (by omega) (hide (by decide)) (by have:=heap_alloc_new (w.alloc (aj 20 a nn)) (.cells #[.int .i64 2,.int .i64 2] 3);simpa using this) (by omega) r hr).mono ?_;rintro e w9 hS;have ak:Hid (w.grownBy w9 (some F)):=iC aH.out hS.grown;cases r with
 | error er =>
  obtain rfl:=hS.no er rfl;clear hS;go_wp2
  exact⟨rfl,ay.bad ak.out rfl⟩
 | ok iq =>
  obtain⟨rfl,uG,aR⟩:=hS.yes iq rfl;have il:=hide aR;clear hS aR;go_wp2
  go_end0
  exact ay.good ak.out rfl il.out
end Go.Proofs.YtbdpdjcdhclbfaaGreat
