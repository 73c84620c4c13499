/- The walk of speak,further kinds. -/
import Derived.Test.YthffafaoobpedaaGreatDoorM3
import Derived.Maps.RangeWalk
set_option maxRecDepth 100000
set_option maxHeartbeats 2000000
namespace Go.Proofs.YthffafaoobpedaaGreatDoor
open Go.RowKit
theorem Va (c:FC)(F B:Nat)(top:Option Addr)(st:List Int)(f:Vf.Fl)(n:Int)(row:Value)(nn:Int)(k:Nat)(x:Vf.Bx)(hx:Hid (c.m.boxes[k]?=some x))(w:World)(h:Hid (aA c w F top st f n row))(hE:Hid (Env c B F w))(hl:st.length≤300)(r:Except Int (List Int))(hr:Hid (r=Vf.dw [x.ty] st)) :
  Calls Tryz.prog 148 #[.pointer (some ⟨F,0,none⟩),.agg #[.int .i64 26,.int .i64 (k:Int),.int .i64 nn]] w fun e w'=>ay c F f n row r w e w':=by
 have hlt:=hE.out.lt
 have jg:=hE.out.base
 obtain ⟨i1,i2,b,off,ha,hb,b0,b1⟩:=hE.out.md.boxes k x hx.out
 have nW:k < c.m.boxes.length:=(List.getElem?_eq_some_iff.1 hx.out).1
 have hk1:(k:Int) < (c.m.boxes.length:Int):=by omega
 have jr:=hide (h.out.alloc (ak 26 (k:Int) nn))
 have d1:(w.alloc (ak 26 (k:Int) nn)).cell? ⟨F,0,none⟩=some (.slice (some ⟨b,off,none⟩) c.m.boxes.length c.cb):=by have:=(dH jr.out.blk).1;rw [ha] at this;exact this
 have d2:(w.alloc (ak 26 (k:Int) nn)).cell? ⟨w.heap.size,1,none⟩=some (.int .i64 (k:Int)):=(rJ (alloc_at w _)).2.1
 have d3:(w.alloc (ak 26 (k:Int) nn)).cell? ⟨b,off+k * 2,none⟩=some (.int .i64 x.ty):=(uY _ _ (by omega)).trans b0
 have HA:=hide ha
 have HI1:=hide i1
 clear b0 b1 ha i1 i2
 have HS2:Hid (∀ w3,(w.alloc (ak 26 (k:Int) nn)).grownBy w3 (some F)→w3.cell? ⟨F,0,none⟩=some (.slice c.ab c.m.boxes.length c.cb)→(w3.cell? ⟨F,0,none⟩=some (.slice (some ⟨b,off,none⟩) c.m.boxes.length c.cb)∧w3.cell? ⟨w.heap.size,1,none⟩=some (.int .i64 (k:Int))∧w3.cell? ⟨b,off+k * 2,none⟩=some (.int .i64 x.ty))):=fun w3 hg3 h1=>⟨by rw [h1,HA.out],(aS (kept hg3 (by simp) (by omega)) _).trans d2,(aS (kept hg3 (by simp;omega) (by omega)) _).trans d3⟩
 go_enter Tryz.func148,Tryz.ntmps148
 go_wp2_with fail
 refine wp_region_held_drew (S:=fun w'=>w'.cell? ⟨F,0,none⟩=some (.slice (some ⟨b,off,none⟩) c.m.boxes.length c.cb)∧w'.cell? ⟨w.heap.size,1,none⟩=some (.int .i64 (k:Int))∧w'.cell? ⟨b,off+k * 2,none⟩=some (.int .i64 x.ty)) (by kernel_rfl) ⟨d1,d2,d3⟩ (fun hHeld=>?_)
 refine wpAnyH_take (i:=0) (oi:=_) (v:=?_) rfl (by kernel_rfl) (by kernel_rfl) (by kernel_rfl) (fun _ _ _ h=>h) (Or.inl ⟨by rfl,?_⟩) (by assumption) ?_
 rotate_left
 ·intro w hSw
  (try dsimp only at hSw)
  go_simp
  (try with_reducible rfl)
 (try go_frame)
 refine wpAnyH_take (i:=1) (oi:=_) (v:=?_) rfl (by kernel_rfl) (by kernel_rfl) (by kernel_rfl) (fun _ _ _ h=>h) (Or.inl ⟨by rfl,?_⟩) (by assumption) ?_
 rotate_left
 ·intro w hSw
  (try dsimp only at hSw)
  go_simp
  (try with_reducible rfl)
 (try go_frame)
 refine wpAnyH_take (i:=2) (oi:=_) (v:=?_) rfl (by kernel_rfl) (by kernel_rfl) (by kernel_rfl) (fun _ _ _ h=>h) (Or.inl ⟨by rfl,?_⟩) (by assumption) ?_
 rotate_left
 ·intro w hSw
  (try dsimp only at hSw)
  go_simp
  (try with_reducible rfl)
 (try go_frame)
 refine wpAnyH_take (i:=3) (oi:=_) (v:=?_) rfl (by kernel_rfl) (by kernel_rfl) (by kernel_rfl) (fun _ _ _ h=>h) (Or.inl ⟨by rfl,?_⟩) (by assumption) ?_
 rotate_left
 ·intro w hSw
  (try dsimp only at hSw)
  go_simp
  (try with_reducible rfl)
 (try go_frame)
 refine wpAnyH_take (i:=4) (oi:=_) (v:=?_) rfl (by kernel_rfl) (by kernel_rfl) (by kernel_rfl) (fun _ _ _ h=>h) (Or.inl ⟨by rfl,?_⟩) (by assumption) ?_
 rotate_left
 ·intro w hSw
  (try dsimp only at hSw)
  go_simp
  (try with_reducible rfl)
 (try go_frame)
 refine wpAnyH_take (i:=5) (oi:=_) (v:=?_) rfl (by kernel_rfl) (by kernel_rfl) (by kernel_rfl) (fun _ _ _ h=>h) (Or.inl ⟨by rfl,?_⟩) (by assumption) ?_
 rotate_left
 ·intro w hSw
  (try dsimp only at hSw)
  go_simp
  (try with_reducible rfl)
 (try go_frame)
 refine wpAnyH_take (i:=6) (oi:=_) (v:=?_) rfl (by kernel_rfl) (by kernel_rfl) (by kernel_rfl) (fun _ _ _ h=>h) (Or.inl ⟨by rfl,?_⟩) (by assumption) ?_
 rotate_left
 ·intro w hSw
  (try dsimp only at hSw)
  go_simp
  (try with_reducible rfl)
 (try go_frame)
 refine wpAnyH_take (i:=7) (oi:=_) (v:=?_) rfl (by kernel_rfl) (by kernel_rfl) (by kernel_rfl) (fun _ _ _ h=>h) (Or.inl ⟨by rfl,?_⟩) (by assumption) ?_
 rotate_left
 ·intro w hSw
  (try dsimp only at hSw)
  go_simp
  (try with_reducible rfl)
 (try go_frame)
 refine wpAnyH_take (i:=8) (oi:=_) (v:=?_) rfl (by kernel_rfl) (by kernel_rfl) (by kernel_rfl) (fun _ _ _ h=>h) (Or.inl ⟨by rfl,?_⟩) (by assumption) ?_
 rotate_left
 ·intro w hSw
  (try dsimp only at hSw)
  go_simp
  (try with_reducible rfl)
 (try go_frame)
 refine wpAnyH_take (i:=9) (oi:=_) (v:=?_) rfl (by kernel_rfl) (by kernel_rfl) (by kernel_rfl) (fun _ _ _ h=>h) (Or.inl ⟨by rfl,?_⟩) (by assumption) ?_
 rotate_left
 ·intro w hSw
  (try dsimp only at hSw)
  go_simp
  (try with_reducible rfl)
 (try go_frame)
 refine wpAnyH_take (i:=10) (oi:=_) (v:=?_) rfl (by kernel_rfl) (by kernel_rfl) (by kernel_rfl) (fun _ _ _ h=>h) (Or.inl ⟨by rfl,?_⟩) (by assumption) ?_
 rotate_left
 ·intro w hSw
  (try dsimp only at hSw)
  go_simp
  (try with_reducible rfl)
 (try go_frame)
 refine wpAnyH_take (i:=11) (oi:=_) (v:=?_) rfl (by kernel_rfl) (by kernel_rfl) (by kernel_rfl) (fun _ _ _ h=>h) (Or.inl ⟨by rfl,?_⟩) (by assumption) ?_
 rotate_left
 ·intro w hSw
  (try dsimp only at hSw)
  go_simp
  (try with_reducible rfl)
 (try go_frame)
 refine wpAnyH_take (i:=12) (oi:=_) (v:=?_) rfl (by kernel_rfl) (by kernel_rfl) (by kernel_rfl) (fun _ _ _ h=>h) (Or.inl ⟨by rfl,?_⟩) (by assumption) ?_
 rotate_left
 ·intro w hSw
  (try dsimp only at hSw)
  go_simp
  (try with_reducible rfl)
 (try go_frame)
 refine wpAnyH_ready (rs:=[13]) (by kernel_rfl) (by simp) ?_
 refine AllReadyH.cons (o:=_) rfl (fun K hK=>?_) AllReadyH.nil
 go_simp
 have aO:Hid (aA c ((w.alloc (ak 26 (k:Int) nn)).drew.alloc (.cells #[.int .i64 x.ty] 3)) F top st f n row):=jr.out.drew.alloc _
 have aH:Hid (w.grownBy ((w.alloc (ak 26 (k:Int) nn)).drew.alloc (.cells #[.int .i64 x.ty] 3)) (some F)):=dM (iQ (aY _)) _
 refine hK.out _ _ (HS2.out _ (dM (iQ (fC _ _)) _) (dH aO.out.blk).1) (fun hHeld=>?_)
 clear hK
 refine wpAnyH_ready (rs:=[14]) (by kernel_rfl) (by simp) ?_
 refine AllReadyH.cons (o:=_) rfl (fun K hK=>?_) AllReadyH.nil
 go_simp
 refine (Ae c F (w.heap.size+1) top st f n row x.ty _ aO (by omega) HI1 (by have:=heap_alloc_new (w.alloc (ak 26 (k:Int) nn)).drew (.cells #[.int .i64 x.ty] 3);simpa using this) (by omega) r hr).mono ?_
 rintro e w9 hS
 have aJ:Hid (w.grownBy w9 (some F)):=bg aH.out hS.grown
 cases r with
 | error er =>
  obtain rfl:=hS.no er rfl
  clear hS hK
  go_wp2
  exact ⟨rfl,ay.bad aJ.out rfl⟩
 | ok aX =>
  obtain ⟨rfl,fq,aK⟩:=hS.yes aX rfl
  have aW:=hide aK
  refine hK.out _ _ (HS2.out w9 (bg (dM (iQ (fC _ _)) _) hS.grown) (dH aW.out.blk).1) (fun hHeld=>?_)
  clear hK hS aK
  refine wpAnyH_done (by kernel_rfl) ?_ _
  go_wp2
  go_end0
  exact ay.good aJ.out rfl aW.out
theorem Vb (c:FC)(F B:Nat)(top:Option Addr)(st:List Int)(f:Vf.Fl)(n:Int)(row:Value)(nn:Int)(k:Nat)(x:Vf.Bx)(hx:Hid (c.m.boxes[k]?=some x))(w:World)(h:Hid (aA c w F top st f n row))(hE:Hid (Env c B F w))(hl:st.length≤300)(r:Except Int (List Int))(hr:Hid (r=Vf.put x.ty st)) :
  Calls Tryz.prog 148 #[.pointer (some ⟨F,0,none⟩),.agg #[.int .i64 27,.int .i64 (k:Int),.int .i64 nn]] w fun e w'=>ay c F f n row r w e w':=by
 have hlt:=hE.out.lt
 have jg:=hE.out.base
 obtain ⟨i1,i2,b,off,ha,hb,b0,b1⟩:=hE.out.md.boxes k x hx.out
 have nW:k < c.m.boxes.length:=(List.getElem?_eq_some_iff.1 hx.out).1
 have hk1:(k:Int) < (c.m.boxes.length:Int):=by omega
 have jr:=hide (h.out.alloc (ak 27 (k:Int) nn))
 have d1:(w.alloc (ak 27 (k:Int) nn)).cell? ⟨F,0,none⟩=some (.slice (some ⟨b,off,none⟩) c.m.boxes.length c.cb):=by have:=(dH jr.out.blk).1;rw [ha] at this;exact this
 have d2:(w.alloc (ak 27 (k:Int) nn)).cell? ⟨w.heap.size,1,none⟩=some (.int .i64 (k:Int)):=(rJ (alloc_at w _)).2.1
 have d3:(w.alloc (ak 27 (k:Int) nn)).cell? ⟨b,off+k * 2,none⟩=some (.int .i64 x.ty):=(uY _ _ (by omega)).trans b0
 have HA:=hide ha
 have HI1:=hide i1
 clear b0 b1 ha i1 i2
 have HS2:Hid (∀ w3,(w.alloc (ak 27 (k:Int) nn)).grownBy w3 (some F)→w3.cell? ⟨F,0,none⟩=some (.slice c.ab c.m.boxes.length c.cb)→(w3.cell? ⟨F,0,none⟩=some (.slice (some ⟨b,off,none⟩) c.m.boxes.length c.cb)∧w3.cell? ⟨w.heap.size,1,none⟩=some (.int .i64 (k:Int))∧w3.cell? ⟨b,off+k * 2,none⟩=some (.int .i64 x.ty))):=fun w3 hg3 h1=>⟨by rw [h1,HA.out],(aS (kept hg3 (by simp) (by omega)) _).trans d2,(aS (kept hg3 (by simp;omega) (by omega)) _).trans d3⟩
 go_enter Tryz.func148,Tryz.ntmps148
 go_wp2_with fail
 refine wp_region_held_drew (S:=fun w'=>w'.cell? ⟨F,0,none⟩=some (.slice (some ⟨b,off,none⟩) c.m.boxes.length c.cb)∧w'.cell? ⟨w.heap.size,1,none⟩=some (.int .i64 (k:Int))∧w'.cell? ⟨b,off+k * 2,none⟩=some (.int .i64 x.ty)) (by kernel_rfl) ⟨d1,d2,d3⟩ (fun hHeld=>?_)
 refine wpAnyH_take (i:=0) (oi:=_) (v:=?_) rfl (by kernel_rfl) (by kernel_rfl) (by kernel_rfl) (fun _ _ _ h=>h) (Or.inl ⟨by rfl,?_⟩) (by assumption) ?_
 rotate_left
 ·intro w hSw
  (try dsimp only at hSw)
  go_simp
  (try with_reducible rfl)
 (try go_frame)
 refine wpAnyH_take (i:=1) (oi:=_) (v:=?_) rfl (by kernel_rfl) (by kernel_rfl) (by kernel_rfl) (fun _ _ _ h=>h) (Or.inl ⟨by rfl,?_⟩) (by assumption) ?_
 rotate_left
 ·intro w hSw
  (try dsimp only at hSw)
  go_simp
  (try with_reducible rfl)
 (try go_frame)
 refine wpAnyH_take (i:=2) (oi:=_) (v:=?_) rfl (by kernel_rfl) (by kernel_rfl) (by kernel_rfl) (fun _ _ _ h=>h) (Or.inl ⟨by rfl,?_⟩) (by assumption) ?_
 rotate_left
 ·intro w hSw
  (try dsimp only at hSw)
  go_simp
  (try with_reducible rfl)
 (try go_frame)
 refine wpAnyH_take (i:=3) (oi:=_) (v:=?_) rfl (by kernel_rfl) (by kernel_rfl) (by kernel_rfl) (fun _ _ _ h=>h) (Or.inl ⟨by rfl,?_⟩) (by assumption) ?_
 rotate_left
 ·intro w hSw
  (try dsimp only at hSw)
  go_simp
  (try with_reducible rfl)
 (try go_frame)
 refine wpAnyH_take (i:=4) (oi:=_) (v:=?_) rfl (by kernel_rfl) (by kernel_rfl) (by kernel_rfl) (fun _ _ _ h=>h) (Or.inl ⟨by rfl,?_⟩) (by assumption) ?_
 rotate_left
 ·intro w hSw
  (try dsimp only at hSw)
  go_simp
  (try with_reducible rfl)
 (try go_frame)
 refine wpAnyH_take (i:=5) (oi:=_) (v:=?_) rfl (by kernel_rfl) (by kernel_rfl) (by kernel_rfl) (fun _ _ _ h=>h) (Or.inl ⟨by rfl,?_⟩) (by assumption) ?_
 rotate_left
 ·intro w hSw
  (try dsimp only at hSw)
  go_simp
  (try with_reducible rfl)
 (try go_frame)
 refine wpAnyH_take (i:=6) (oi:=_) (v:=?_) rfl (by kernel_rfl) (by kernel_rfl) (by kernel_rfl) (fun _ _ _ h=>h) (Or.inl ⟨by rfl,?_⟩) (by assumption) ?_
 rotate_left
 ·intro w hSw
  (try dsimp only at hSw)
  go_simp
  (try with_reducible rfl)
 (try go_frame)
 refine wpAnyH_take (i:=7) (oi:=_) (v:=?_) rfl (by kernel_rfl) (by kernel_rfl) (by kernel_rfl) (fun _ _ _ h=>h) (Or.inl ⟨by rfl,?_⟩) (by assumption) ?_
 rotate_left
 ·intro w hSw
  (try dsimp only at hSw)
  go_simp
  (try with_reducible rfl)
 (try go_frame)
 refine wpAnyH_take (i:=8) (oi:=_) (v:=?_) rfl (by kernel_rfl) (by kernel_rfl) (by kernel_rfl) (fun _ _ _ h=>h) (Or.inl ⟨by rfl,?_⟩) (by assumption) ?_
 rotate_left
 ·intro w hSw
  (try dsimp only at hSw)
  go_simp
  (try with_reducible rfl)
 (try go_frame)
 refine wpAnyH_take (i:=9) (oi:=_) (v:=?_) rfl (by kernel_rfl) (by kernel_rfl) (by kernel_rfl) (fun _ _ _ h=>h) (Or.inl ⟨by rfl,?_⟩) (by assumption) ?_
 rotate_left
 ·intro w hSw
  (try dsimp only at hSw)
  go_simp
  (try with_reducible rfl)
 (try go_frame)
 refine wpAnyH_take (i:=10) (oi:=_) (v:=?_) rfl (by kernel_rfl) (by kernel_rfl) (by kernel_rfl) (fun _ _ _ h=>h) (Or.inl ⟨by rfl,?_⟩) (by assumption) ?_
 rotate_left
 ·intro w hSw
  (try dsimp only at hSw)
  go_simp
  (try with_reducible rfl)
 (try go_frame)
 refine wpAnyH_take (i:=11) (oi:=_) (v:=?_) rfl (by kernel_rfl) (by kernel_rfl) (by kernel_rfl) (fun _ _ _ h=>h) (Or.inl ⟨by rfl,?_⟩) (by assumption) ?_
 rotate_left
 ·intro w hSw
  (try dsimp only at hSw)
  go_simp
  (try with_reducible rfl)
 (try go_frame)
 refine wpAnyH_take (i:=12) (oi:=_) (v:=?_) rfl (by kernel_rfl) (by kernel_rfl) (by kernel_rfl) (fun _ _ _ h=>h) (Or.inl ⟨by rfl,?_⟩) (by assumption) ?_
 rotate_left
 ·intro w hSw
  (try dsimp only at hSw)
  go_simp
  (try with_reducible rfl)
 (try go_frame)
 refine wpAnyH_ready (rs:=[13]) (by kernel_rfl) (by simp) ?_
 refine AllReadyH.cons (o:=_) rfl (fun K hK=>?_) AllReadyH.nil
 go_simp
 have aH:Hid (w.grownBy (w.alloc (ak 27 (k:Int) nn)) (some F)):=aY _
 refine (fZ c F top st f n row x.ty _ (hide jr.out.drew) (by omega) r hr).mono ?_
 rintro e w9 hS
 have aJ:Hid (w.grownBy w9 (some F)):=bg aH.out (iH hS.grown)
 cases r with
 | error er =>
  obtain rfl:=hS.no er rfl
  clear hS hK
  go_wp2
  exact ⟨rfl,ay.bad aJ.out rfl⟩
 | ok aX =>
  obtain ⟨rfl,fq,aK⟩:=hS.yes aX rfl
  have aW:=hide aK
  refine hK.out _ _ (HS2.out w9 (iH hS.grown) (dH aW.out.blk).1) (fun hHeld=>?_)
  clear hK hS aK
  refine wpAnyH_done (by kernel_rfl) ?_ _
  go_wp2
  go_end0
  exact ay.good aJ.out rfl aW.out
theorem Vd (c:FC)(F B:Nat)(top:Option Addr)(st:List Int)(f:Vf.Fl)(n:Int)(row:Value)(a nn:Int)(hgn:Hid (j6 c.m st))(hun:c.m.units.length≤30)(w:World)(h:Hid (aA c w F top st f n row))(hE:Hid (Env c B F w))(hl:st.length≤300)(r:Except Int (List Int))(hr:Hid (r=Vf.resume c.m st)) :
  Calls Tryz.prog 148 #[.pointer (some ⟨F,0,none⟩),.agg #[.int .i64 30,.int .i64 a,.int .i64 nn]] w fun e w'=>ay c F f n row r w e w':=by
 have hlt:=hE.out.lt
 have jg:=hE.out.base
 have aP:=hide (h.out.alloc (ak 30 a nn))
 have bN:Hid (w.grownBy (w.alloc (ak 30 a nn)) (some F)):=aY _
 go_enter Tryz.func148,Tryz.ntmps148
 go_wp2_with fail
 refine (Dl c F B top st f n row _ aP (hide (hE.out.grown (aY _))) (by omega) hgn hun r hr).mono ?_
 rintro e w9 hS
 have aJ:Hid (w.grownBy w9 (some F)):=bg bN.out hS.grown
 cases r with
 | error er =>
  obtain rfl:=hS.no er rfl
  clear hS
  go_wp2
  exact ⟨rfl,ay.bad aJ.out rfl⟩
 | ok aX =>
  obtain ⟨rfl,fq,aK⟩:=hS.yes aX rfl
  have aW:=hide aK
  clear hS aK
  go_wp2
  go_end0
  exact ay.good aJ.out rfl aW.out
theorem Ve {st st':List Int}{g:Int}(h:Vf.j4 st=.ok (g,st'))(hl:st.length≤300):st'.length < 1000:=by
 cases st with
 | nil=>cases h
 | cons y st2 =>
  unfold Vf.j4 Vf.pop Vf.andThen at h
  simp only at h
  split at h
  ·cases h;simp at hl;omega
  ·cases h
theorem Vg (c:FC)(F B:Nat)(top:Option Addr)(st:List Int)(f:Vf.Fl)(n:Int)(row:Value)(a nn:Int)(hgn:Hid (j6 c.m st))(hun:c.m.units.length≤30)(w:World)(h:Hid (aA c w F top st f n row))(hE:Hid (Env c B F w))(hl:st.length≤300)(r:Except Int (List Int))(hr:Hid (r=Vf.andThen (Vf.j4 st) fun g=>Vf.put 2 g.2)) :
  Calls Tryz.prog 148 #[.pointer (some ⟨F,0,none⟩),.agg #[.int .i64 32,.int .i64 a,.int .i64 nn]] w fun e w'=>ay c F f n row r w e w':=by
 have hlt:=hE.out.lt
 have jg:=hE.out.base
 have aP:=hide (h.out.alloc (ak 32 a nn))
 have bN:Hid (w.grownBy (w.alloc (ak 32 a nn)) (some F)):=aY _
 obtain ⟨r1,hr1⟩:∃ r1,r1=Vf.j4 st:=⟨_,rfl⟩
 have HR1:=hide hr1
 have HR:Hid (r=Vf.andThen r1 fun g=>Vf.put 2 g.2):=by unfold Hid;rw [hr.out,hr1]
 have bT:Hid (∀ g st',r1=.ok (g,st')→st'.length < 1000):=fun g st' e=>by
  rw [hr1] at e
  exact Ve e hl
 clear hr hr1
 go_enter Tryz.func148,Tryz.ntmps148
 go_wp2_with fail
 refine (Jh c F B top st f n row _ aP (hide (hE.out.grown (aY _))) (by omega) hgn hun r1 HR1).mono ?_
 rintro e w1 hV
 have aH:Hid (w.grownBy w1 (some F)):=bg bN.out hV.grown
 cases r1 with
 | error er =>
  obtain rfl:=hV.no er rfl
  have HE:Hid (r=.error er):=HR.out
  clear hV
  go_wp2
  exact ⟨rfl,ay.bad aH.out HE.out⟩
 | ok gs =>
  obtain ⟨g,st1⟩:=gs
  obtain ⟨⟨u,al,ac,cl,cc,hu,rfl⟩,bV,hF1⟩:=hV.yes g st1 rfl
  have aO:=hide hF1
  have hl1:=bT.out g st1 rfl
  have HR2:Hid (r=Vf.put 2 st1):=HR.out
  clear hV hF1 hu HR
  go_wp2_with fail
  refine (fZ c F bV st1 f n row 2 _ aO hl1 r HR2).mono ?_
  rintro e w9 hS
  have aJ:Hid (w.grownBy w9 (some F)):=bg aH.out hS.grown
  cases r with
  | error er =>
   obtain rfl:=hS.no er rfl
   clear hS
   go_wp2
   exact ⟨rfl,ay.bad aJ.out rfl⟩
  | ok aX =>
   obtain ⟨rfl,fq,aK⟩:=hS.yes aX rfl
   have aW:=hide aK
   clear hS aK
   go_wp2
   go_end0
   exact ay.good aJ.out rfl aW.out
theorem Vh (c:FC)(F B:Nat)(top:Option Addr)(st:List Int)(f:Vf.Fl)(n:Int)(row:Value)(a nn:Int)(w:World)(h:Hid (aA c w F top st f n row))(hE:Hid (Env c B F w))(hl:st.length≤300)(r:Except Int (List Int))(hr:Hid (r=Vf.andThen (Vf.must (c.u.kind == 3) 8 st) (Vf.turn c.u.takes [c.u.result]))) :
  Calls Tryz.prog 148 #[.pointer (some ⟨F,0,none⟩),.agg #[.int .i64 31,.int .i64 a,.int .i64 nn]] w fun e w'=>ay c F f n row r w e w':=by
 have hlt:=hE.out.lt
 have jg:=hE.out.base
 have aP:=hide (h.out.alloc (ak 31 a nn))
 have bN:Hid (w.grownBy (w.alloc (ak 31 a nn)) (some F)):=aY _
 have c14:=(eZ aP.out.blk).1
 have c2:=(dH aP.out.blk).2.2.1
 obtain ⟨bb,hbb⟩:∃ bb,bb=(c.u.kind == 3):=⟨_,rfl⟩
 cases bb with
 | false =>
  have HE:Hid (r=.error 8):=by unfold Hid;rw [hr.out,← hbb];rfl
  have e1:(c.u.kind == 3)=false:=hbb.symm
  clear hbb hr
  go_enter Tryz.func148,Tryz.ntmps148
  go_wp2_with fail
  refine (eF F false 8 n _ c14).mono ?_
  rintro e w1 ⟨he,rfl⟩
  obtain rfl:e=.panicked [bZ 8 n]:=he
  clear c14 c2
  go_wp2
  exact ⟨rfl,ay.bad bN.out HE.out⟩
 | true =>
  have HR:Hid (r=Vf.turn c.u.takes [c.u.result] st):=by unfold Hid;rw [hr.out,← hbb];rfl
  have e1:(c.u.kind == 3)=true:=hbb.symm
  clear hbb hr
  go_enter Tryz.func148,Tryz.ntmps148
  go_wp2_with fail
  refine (eF F true 8 n _ c14).mono ?_
  rintro e w1 ⟨he,hw1⟩
  subst hw1
  obtain rfl:e=.returned (.tuple #[]):=he
  clear c14 c2
  obtain ⟨_,_,_,_,_,d5,d6,_⟩:=dH aP.out.blk
  have HI1:Hid (cB c.u.result):=hE.out.un.nums.2.2.1
  go_wp2_with fail
  refine wp_region_held_drew (S:=fun w'=>w'.cell? ⟨F,5,none⟩=some (.int .i64 c.u.result)∧w'.cell? ⟨F,6,none⟩=some (.int .i64 c.u.takes)) (by kernel_rfl) ⟨d5,d6⟩ (fun hHeld=>?_)
  refine wpAnyH_take (i:=0) (oi:=_) (v:=?_) rfl (by kernel_rfl) (by kernel_rfl) (by kernel_rfl) (fun _ _ _ h=>h) (Or.inl ⟨by rfl,?_⟩) (by assumption) ?_
  rotate_left
  ·intro w hSw
   (try dsimp only at hSw)
   go_simp
   (try with_reducible rfl)
  (try go_frame)
  refine wpAnyH_take (i:=1) (oi:=_) (v:=?_) rfl (by kernel_rfl) (by kernel_rfl) (by kernel_rfl) (fun _ _ _ h=>h) (Or.inl ⟨by rfl,?_⟩) (by assumption) ?_
  rotate_left
  ·intro w hSw
   (try dsimp only at hSw)
   go_simp
   (try with_reducible rfl)
  (try go_frame)
  refine wpAnyH_take (i:=2) (oi:=_) (v:=?_) rfl (by kernel_rfl) (by kernel_rfl) (by kernel_rfl) (fun _ _ _ h=>h) (Or.inl ⟨by rfl,?_⟩) (by assumption) ?_
  rotate_left
  ·intro w hSw
   (try dsimp only at hSw)
   go_simp
   (try with_reducible rfl)
  (try go_frame)
  refine wpAnyH_take (i:=3) (oi:=_) (v:=?_) rfl (by kernel_rfl) (by kernel_rfl) (by kernel_rfl) (fun _ _ _ h=>h) (Or.inl ⟨by rfl,?_⟩) (by assumption) ?_
  rotate_left
  ·intro w hSw
   (try dsimp only at hSw)
   go_simp
   (try with_reducible rfl)
  (try go_frame)
  refine wpAnyH_take (i:=4) (oi:=_) (v:=?_) rfl (by kernel_rfl) (by kernel_rfl) (by kernel_rfl) (fun _ _ _ h=>h) (Or.inl ⟨by rfl,?_⟩) (by assumption) ?_
  rotate_left
  ·intro w hSw
   (try dsimp only at hSw)
   go_simp
   (try with_reducible rfl)
  (try go_frame)
  refine wpAnyH_take (i:=5) (oi:=_) (v:=?_) rfl (by kernel_rfl) (by kernel_rfl) (by kernel_rfl) (fun _ _ _ h=>h) (Or.inl ⟨by rfl,?_⟩) (by assumption) ?_
  rotate_left
  ·intro w hSw
   (try dsimp only at hSw)
   go_simp
   (try with_reducible rfl)
  (try go_frame)
  refine wpAnyH_take (i:=6) (oi:=_) (v:=?_) rfl (by kernel_rfl) (by kernel_rfl) (by kernel_rfl) (fun _ _ _ h=>h) (Or.inl ⟨by rfl,?_⟩) (by assumption) ?_
  rotate_left
  ·intro w hSw
   (try dsimp only at hSw)
   go_simp
   (try with_reducible rfl)
  (try go_frame)
  refine wpAnyH_take (i:=7) (oi:=_) (v:=?_) rfl (by kernel_rfl) (by kernel_rfl) (by kernel_rfl) (fun _ _ _ h=>h) (Or.inl ⟨by rfl,?_⟩) (by assumption) ?_
  rotate_left
  ·intro w hSw
   (try dsimp only at hSw)
   go_simp
   (try with_reducible rfl)
  (try go_frame)
  refine wpAnyH_take (i:=8) (oi:=_) (v:=?_) rfl (by kernel_rfl) (by kernel_rfl) (by kernel_rfl) (fun _ _ _ h=>h) (Or.inl ⟨by rfl,?_⟩) (by assumption) ?_
  rotate_left
  ·intro w hSw
   (try dsimp only at hSw)
   go_simp
   (try with_reducible rfl)
  (try go_frame)
  refine wpAnyH_take (i:=9) (oi:=_) (v:=?_) rfl (by kernel_rfl) (by kernel_rfl) (by kernel_rfl) (fun _ _ _ h=>h) (Or.inl ⟨by rfl,?_⟩) (by assumption) ?_
  rotate_left
  ·intro w hSw
   (try dsimp only at hSw)
   go_simp
   (try with_reducible rfl)
  (try go_frame)
  refine wpAnyH_take (i:=10) (oi:=_) (v:=?_) rfl (by kernel_rfl) (by kernel_rfl) (by kernel_rfl) (fun _ _ _ h=>h) (Or.inl ⟨by rfl,?_⟩) (by assumption) ?_
  rotate_left
  ·intro w hSw
   (try dsimp only at hSw)
   go_simp
   (try with_reducible rfl)
  (try go_frame)
  refine wpAnyH_take (i:=11) (oi:=_) (v:=?_) rfl (by kernel_rfl) (by kernel_rfl) (by kernel_rfl) (fun _ _ _ h=>h) (Or.inl ⟨by rfl,?_⟩) (by assumption) ?_
  rotate_left
  ·intro w hSw
   (try dsimp only at hSw)
   go_simp
   (try with_reducible rfl)
  (try go_frame)
  refine wpAnyH_take (i:=12) (oi:=_) (v:=?_) rfl (by kernel_rfl) (by kernel_rfl) (by kernel_rfl) (fun _ _ _ h=>h) (Or.inl ⟨by rfl,?_⟩) (by assumption) ?_
  rotate_left
  ·intro w hSw
   (try dsimp only at hSw)
   go_simp
   (try with_reducible rfl)
  (try go_frame)
  refine wpAnyH_ready (rs:=[13]) (by kernel_rfl) (by simp) ?_
  refine AllReadyH.cons (o:=_) rfl (fun K hK=>?_) AllReadyH.nil
  go_simp
  have aO:Hid (aA c ((w.alloc (ak 31 a nn)).drew.alloc (.cells #[.int .i64 c.u.result] 3)) F top st f n row):=aP.out.drew.alloc _
  have aH:Hid (w.grownBy ((w.alloc (ak 31 a nn)).drew.alloc (.cells #[.int .i64 c.u.result] 3)) (some F)):=dM (iQ (aY _)) _
  refine hK.out _ _ (⟨(dH aO.out.blk).2.2.2.2.2.1,(dH aO.out.blk).2.2.2.2.2.2.1⟩) (fun hHeld=>?_)
  clear hK
  refine wpAnyH_ready (rs:=[14]) (by kernel_rfl) (by simp) ?_
  refine AllReadyH.cons (o:=_) rfl (fun K hK=>?_) AllReadyH.nil
  go_simp
  refine (xy c F (w.heap.size+1) top st f n row c.u.takes c.u.result _ aO (by omega) HI1 (by have:=heap_alloc_new (w.alloc (ak 31 a nn)).drew (.cells #[.int .i64 c.u.result] 3);simpa using this) (by omega) r HR).mono ?_
  rintro e w9 hS
  have aJ:Hid (w.grownBy w9 (some F)):=bg aH.out hS.grown
  cases r with
  | error er =>
   obtain rfl:=hS.no er rfl
   clear hS hK
   go_wp2
   exact ⟨rfl,ay.bad aJ.out rfl⟩
  | ok aX =>
   obtain ⟨rfl,fq,aK⟩:=hS.yes aX rfl
   have aW:=hide aK
   refine hK.out _ _ (⟨(dH aW.out.blk).2.2.2.2.2.1,(dH aW.out.blk).2.2.2.2.2.2.1⟩) (fun hHeld=>?_)
   clear hK hS aK
   refine wpAnyH_done (by kernel_rfl) ?_ _
   go_wp2
   go_end0
   exact ay.good aJ.out rfl aW.out
theorem Vi (c:FC)(F B:Nat)(top:Option Addr)(st:List Int)(f:Vf.Fl)(n:Int)(row:Value)(a nn:Int)(w:World)(h:Hid (aA c w F top st f n row))(hE:Hid (Env c B F w))(hl:st.length≤300)(r:Except Int (List Int))(hr:Hid (r=Vf.andThen (Vf.must (c.u.kind != 2) 8 st) fun st=>Vf.must (st.length == 0) 12 st)) :
  Calls Tryz.prog 148 #[.pointer (some ⟨F,0,none⟩),.agg #[.int .i64 25,.int .i64 a,.int .i64 nn]] w fun e w'=>ay c F f n row r w e w':=by
 have hlt:=hE.out.lt
 have jg:=hE.out.base
 have aP:=hide (h.out.alloc (ak 25 a nn))
 have bN:Hid (w.grownBy (w.alloc (ak 25 a nn)) (some F)):=aY _
 have c14:=(eZ aP.out.blk).1
 have c2:=(dH aP.out.blk).2.2.1
 obtain ⟨bb,hbb⟩:∃ bb,bb=(c.u.kind != 2):=⟨_,rfl⟩
 cases bb with
 | false =>
  have HE:Hid (r=.error 8):=by unfold Hid;rw [hr.out,← hbb];rfl
  have e1:(c.u.kind != 2)=false:=hbb.symm
  clear hbb hr
  go_enter Tryz.func148,Tryz.ntmps148
  go_wp2_with fail
  refine (eF F false 8 n _ c14).mono ?_
  rintro e w1 ⟨he,rfl⟩
  obtain rfl:e=.panicked [bZ 8 n]:=he
  clear c14 c2
  go_wp2
  exact ⟨rfl,ay.bad bN.out HE.out⟩
 | true =>
  have HR:Hid (r=Vf.must (st.length == 0) 12 st):=by unfold Hid;rw [hr.out,← hbb];rfl
  have e1:(c.u.kind != 2)=true:=hbb.symm
  clear hbb hr
  go_enter Tryz.func148,Tryz.ntmps148
  go_wp2_with fail
  refine (eF F true 8 n _ c14).mono ?_
  rintro e w1 ⟨he,hw1⟩
  subst hw1
  obtain rfl:e=.returned (.tuple #[]):=he
  clear c14 c2
  have c14:=(eZ aP.out.blk).1
  have c9:=(lU aP.out.blk).2.1
  cases st with
  | nil =>
   have HE:Hid (r=.ok []):=HR.out
   go_wp2_with fail
   refine (eF F true 12 n _ c14).mono ?_
   rintro e w8 ⟨he,hw8⟩
   subst hw8
   obtain rfl:e=.returned (.tuple #[]):=he
   clear c14 c9
   go_wp2
   go_end0
   exact ay.good bN.out HE.out aP.out
  | cons t9 aX =>
   have HE:Hid (r=.error 12):=HR.out
   have e9:(((t9 :: aX).length:Int) == 0)=false:=by simp;omega
   obtain ⟨d9,yh⟩:∃ d9:Int,((t9 :: aX).length:Int)=d9:=⟨_,rfl⟩
   rw [yh] at c9 e9
   clear yh
   go_wp2_with fail
   refine (eF F false 12 n _ c14).mono ?_
   rintro e w8 ⟨he,hw8⟩
   subst hw8
   obtain rfl:e=.panicked [bZ 12 n]:=he
   clear c14 c9
   go_wp2
   exact ⟨rfl,ay.bad bN.out HE.out⟩
theorem Vj (c:FC)(F B:Nat)(top:Option Addr)(st:List Int)(f:Vf.Fl)(n:Int)(row:Value)(a nn:Int)(w:World)(h:Hid (aA c w F top st f n row))(hE:Hid (Env c B F w))(hl:st.length≤300)(r:Except Int (List Int))(hr:Hid (r=Vf.andThen (Vf.must (c.u.kind == 2) 8 st) fun st=>Vf.andThen (Vf.dw [c.u.result] st) fun st=>Vf.must (st.length == 0) 12 st)) :
  Calls Tryz.prog 148 #[.pointer (some ⟨F,0,none⟩),.agg #[.int .i64 24,.int .i64 a,.int .i64 nn]] w fun e w'=>ay c F f n row r w e w':=by
 have hlt:=hE.out.lt
 have jg:=hE.out.base
 have aP:=hide (h.out.alloc (ak 24 a nn))
 have bN:Hid (w.grownBy (w.alloc (ak 24 a nn)) (some F)):=aY _
 have c14:=(eZ aP.out.blk).1
 have c2:=(dH aP.out.blk).2.2.1
 obtain ⟨bb,hbb⟩:∃ bb,bb=(c.u.kind == 2):=⟨_,rfl⟩
 cases bb with
 | false =>
  have HE:Hid (r=.error 8):=by unfold Hid;rw [hr.out,← hbb];rfl
  have e1:(c.u.kind == 2)=false:=hbb.symm
  clear hbb hr
  go_enter Tryz.func148,Tryz.ntmps148
  go_wp2_with fail
  refine (eF F false 8 n _ c14).mono ?_
  rintro e w1 ⟨he,rfl⟩
  obtain rfl:e=.panicked [bZ 8 n]:=he
  clear c14 c2
  go_wp2
  exact ⟨rfl,ay.bad bN.out HE.out⟩
 | true =>
  have HR:Hid (r=Vf.andThen (Vf.dw [c.u.result] st) fun st=>Vf.must (st.length == 0) 12 st):=by unfold Hid;rw [hr.out,← hbb];rfl
  have e1:(c.u.kind == 2)=true:=hbb.symm
  clear hbb hr
  go_enter Tryz.func148,Tryz.ntmps148
  go_wp2_with fail
  refine (eF F true 8 n _ c14).mono ?_
  rintro e w1 ⟨he,hw1⟩
  subst hw1
  obtain rfl:e=.returned (.tuple #[]):=he
  clear c14 c2
  obtain ⟨_,_,_,_,_,d5,_,_⟩:=dH aP.out.blk
  have HI1:Hid (cB c.u.result):=hE.out.un.nums.2.2.1
  obtain ⟨r1,hr1⟩:∃ r1,r1=Vf.dw [c.u.result] st:=⟨_,rfl⟩
  have HR1:=hide hr1
  have HRR:Hid (r=Vf.andThen r1 fun st=>Vf.must (st.length == 0) 12 st):=by unfold Hid;rw [HR.out,hr1]
  clear HR hr1
  have aO:Hid (aA c ((w.alloc (ak 24 a nn)).alloc (.cells #[.int .i64 c.u.result] 3)) F top st f n row):=aP.out.alloc _
  have aH:Hid (w.grownBy ((w.alloc (ak 24 a nn)).alloc (.cells #[.int .i64 c.u.result] 3)) (some F)):=dM (aY _) _
  go_wp2_with fail
  refine (Ae c F (w.heap.size+1) top st f n row c.u.result _ aO (by omega) HI1 (by have:=heap_alloc_new (w.alloc (ak 24 a nn)) (.cells #[.int .i64 c.u.result] 3);simpa using this) (by omega) r1 HR1).mono ?_
  rintro e w2 hS
  have HG2:Hid (w.grownBy w2 (some F)):=bg aH.out hS.grown
  cases r1 with
  | error er =>
   obtain rfl:=hS.no er rfl
   have HE:Hid (r=.error er):=HRR.out
   clear hS d5
   go_wp2
   exact ⟨rfl,ay.bad HG2.out HE.out⟩
  | ok st1 =>
   obtain ⟨rfl,bV,hF1⟩:=hS.yes st1 rfl
   have bO:=hide hF1
   have HR:Hid (r=Vf.must (st1.length == 0) 12 st1):=HRR.out
   clear hS hF1 d5
   have c14:=(eZ bO.out.blk).1
   have c9:=(lU bO.out.blk).2.1
   cases st1 with
   | nil =>
    have HE:Hid (r=.ok []):=HR.out
    go_wp2_with fail
    refine (eF F true 12 n _ c14).mono ?_
    rintro e w8 ⟨he,hw8⟩
    subst hw8
    obtain rfl:e=.returned (.tuple #[]):=he
    clear c14 c9
    go_wp2
    go_end0
    exact ay.good HG2.out HE.out bO.out
   | cons t9 aX =>
    have HE:Hid (r=.error 12):=HR.out
    have e9:(((t9 :: aX).length:Int) == 0)=false:=by simp;omega
    obtain ⟨d9,yh⟩:∃ d9:Int,((t9 :: aX).length:Int)=d9:=⟨_,rfl⟩
    rw [yh] at c9 e9
    clear yh
    go_wp2_with fail
    refine (eF F false 12 n _ c14).mono ?_
    rintro e w8 ⟨he,hw8⟩
    subst hw8
    obtain rfl:e=.panicked [bZ 12 n]:=he
    clear c14 c9
    go_wp2
    exact ⟨rfl,ay.bad HG2.out HE.out⟩
theorem Vk (c:FC)(F B:Nat)(top:Option Addr)(st:List Int)(f:Vf.Fl)(n:Int)(row:Value)(a nn:Int)(w:World)(h:Hid (aA c w F top st f n row))(hE:Hid (Env c B F w))(r:Except Int (List Int))(hr:Hid (r=.ok st)) :
  Calls Tryz.prog 148 #[.pointer (some ⟨F,0,none⟩),.agg #[.int .i64 21,.int .i64 a,.int .i64 nn]] w fun e w'=>ay c F f n row r w e w':=by
 have hlt:=hE.out.lt
 have jg:=hE.out.base
 have aP:=hide (h.out.alloc (ak 21 a nn))
 have bN:Hid (w.grownBy (w.alloc (ak 21 a nn)) (some F)):=aY _
 go_enter Tryz.func148,Tryz.ntmps148
 go_wp2
 go_end0
 exact ay.good bN.out hr.out aP.out
theorem EC {st st':List Int}{t:Int}(h:Vf.kI st=.ok (t,st'))(hl:st.length≤300):st'.length≤300∧cB t:=by
 cases st with
 | nil=>cases h
 | cons y st2 =>
  unfold Vf.kI Vf.pop Vf.andThen at h
  simp only at h
  split at h
  ·rename_i hp
   cases h
   unfold Vf.plain at hp
   simp at hp hl
   exact ⟨by omega,by rcases hp with rfl | rfl <;> decide⟩
  ·cases h
theorem Vl (c:FC)(F B:Nat)(top:Option Addr)(st:List Int)(f:Vf.Fl)(n:Int)(row:Value)(a nn:Int)(w:World)(h:Hid (aA c w F top st f n row))(hE:Hid (Env c B F w))(hl:st.length≤300)(r:Except Int (List Int))(hr:Hid (r=Vf.put 1 st)) :
  Calls Tryz.prog 99 #[.pointer (some ⟨F,0,none⟩),.agg #[.int .i64 1,.int .i64 a,.int .i64 nn]] w fun e w'=>ay c F f n row r w e w':=by
 have hlt:=hE.out.lt
 have aP:=hide (h.out.alloc (ak 1 a nn))
 have bN:Hid (w.grownBy (w.alloc (ak 1 a nn)) (some F)):=aY _
 go_enter Tryz.func99,Tryz.ntmps99
 go_wp2_with fail
 refine (fZ c F top st f n row 1 _ aP (by omega) r hr).mono ?_
 rintro e w9 hS
 have aJ:Hid (w.grownBy w9 (some F)):=bg bN.out hS.grown
 cases r with
 | error er =>
  obtain rfl:=hS.no er rfl
  clear hS
  go_wp2
  exact ⟨rfl,ay.bad aJ.out rfl⟩
 | ok aX =>
  obtain ⟨rfl,fq,aK⟩:=hS.yes aX rfl
  have aW:=hide aK
  clear hS aK
  go_wp2
  go_end0
  exact ay.good aJ.out rfl aW.out
theorem Vn (c:FC)(F B:Nat)(top:Option Addr)(st:List Int)(f:Vf.Fl)(n:Int)(row:Value)(a nn:Int)(w:World)(h:Hid (aA c w F top st f n row))(hE:Hid (Env c B F w))(hl:st.length≤300)(r:Except Int (List Int))(hr:Hid (r=Vf.put 2 st)) :
  Calls Tryz.prog 99 #[.pointer (some ⟨F,0,none⟩),.agg #[.int .i64 2,.int .i64 a,.int .i64 nn]] w fun e w'=>ay c F f n row r w e w':=by
 have hlt:=hE.out.lt
 have aP:=hide (h.out.alloc (ak 2 a nn))
 have bN:Hid (w.grownBy (w.alloc (ak 2 a nn)) (some F)):=aY _
 go_enter Tryz.func99,Tryz.ntmps99
 go_wp2_with fail
 refine (fZ c F top st f n row 2 _ aP (by omega) r hr).mono ?_
 rintro e w9 hS
 have aJ:Hid (w.grownBy w9 (some F)):=bg bN.out hS.grown
 cases r with
 | error er =>
  obtain rfl:=hS.no er rfl
  clear hS
  go_wp2
  exact ⟨rfl,ay.bad aJ.out rfl⟩
 | ok aX =>
  obtain ⟨rfl,fq,aK⟩:=hS.yes aX rfl
  have aW:=hide aK
  clear hS aK
  go_wp2
  go_end0
  exact ay.good aJ.out rfl aW.out
theorem Vo (c:FC)(F B:Nat)(top:Option Addr)(st:List Int)(f:Vf.Fl)(n:Int)(row:Value)(a nn:Int)(w:World)(h:Hid (aA c w F top st f n row))(hE:Hid (Env c B F w))(hl:st.length≤300)(r:Except Int (List Int))(hr:Hid (r=Vf.turn 1 [1] st)) :
  Calls Tryz.prog 99 #[.pointer (some ⟨F,0,none⟩),.agg #[.int .i64 6,.int .i64 a,.int .i64 nn]] w fun e w'=>ay c F f n row r w e w':=by
 have hlt:=hE.out.lt
 have aP:=hide (h.out.alloc (ak 6 a nn))
 have bN:Hid (w.grownBy (w.alloc (ak 6 a nn)) (some F)):=aY _
 have aO:Hid (aA c ((w.alloc (ak 6 a nn)).alloc (.cells #[.int .i64 1] 3)) F top st f n row):=aP.out.alloc _
 have aH:Hid (w.grownBy ((w.alloc (ak 6 a nn)).alloc (.cells #[.int .i64 1] 3)) (some F)):=dM (aY _) _
 go_enter Tryz.func99,Tryz.ntmps99
 go_wp2_with fail
 refine (xy c F (w.heap.size+1) top st f n row 1 1 _ aO (by omega) (hide (by decide)) (by have:=heap_alloc_new (w.alloc (ak 6 a nn)) (.cells #[.int .i64 1] 3);simpa using this) (by omega) r hr).mono ?_
 rintro e w9 hS
 have aJ:Hid (w.grownBy w9 (some F)):=bg aH.out hS.grown
 cases r with
 | error er =>
  obtain rfl:=hS.no er rfl
  clear hS
  go_wp2
  exact ⟨rfl,ay.bad aJ.out rfl⟩
 | ok aX =>
  obtain ⟨rfl,fq,aK⟩:=hS.yes aX rfl
  have aW:=hide aK
  clear hS aK
  go_wp2
  go_end0
  exact ay.good aJ.out rfl aW.out
theorem Vp (c:FC)(F B:Nat)(top:Option Addr)(st:List Int)(f:Vf.Fl)(n:Int)(row:Value)(a nn:Int)(w:World)(h:Hid (aA c w F top st f n row))(hE:Hid (Env c B F w))(hl:st.length≤300)(r:Except Int (List Int))(hr:Hid (r=Vf.turn 2 [2] st)) :
  Calls Tryz.prog 99 #[.pointer (some ⟨F,0,none⟩),.agg #[.int .i64 7,.int .i64 a,.int .i64 nn]] w fun e w'=>ay c F f n row r w e w':=by
 have hlt:=hE.out.lt
 have aP:=hide (h.out.alloc (ak 7 a nn))
 have bN:Hid (w.grownBy (w.alloc (ak 7 a nn)) (some F)):=aY _
 have aO:Hid (aA c ((w.alloc (ak 7 a nn)).alloc (.cells #[.int .i64 2] 3)) F top st f n row):=aP.out.alloc _
 have aH:Hid (w.grownBy ((w.alloc (ak 7 a nn)).alloc (.cells #[.int .i64 2] 3)) (some F)):=dM (aY _) _
 go_enter Tryz.func99,Tryz.ntmps99
 go_wp2_with fail
 refine (xy c F (w.heap.size+1) top st f n row 2 2 _ aO (by omega) (hide (by decide)) (by have:=heap_alloc_new (w.alloc (ak 7 a nn)) (.cells #[.int .i64 2] 3);simpa using this) (by omega) r hr).mono ?_
 rintro e w9 hS
 have aJ:Hid (w.grownBy w9 (some F)):=bg aH.out hS.grown
 cases r with
 | error er =>
  obtain rfl:=hS.no er rfl
  clear hS
  go_wp2
  exact ⟨rfl,ay.bad aJ.out rfl⟩
 | ok aX =>
  obtain ⟨rfl,fq,aK⟩:=hS.yes aX rfl
  have aW:=hide aK
  clear hS aK
  go_wp2
  go_end0
  exact ay.good aJ.out rfl aW.out
theorem Vq (c:FC)(F B:Nat)(top:Option Addr)(st:List Int)(f:Vf.Fl)(n:Int)(row:Value)(a nn:Int)(w:World)(h:Hid (aA c w F top st f n row))(hE:Hid (Env c B F w))(hl:st.length≤300)(r:Except Int (List Int))(hr:Hid (r=Vf.dw [2] st)) :
  Calls Tryz.prog 99 #[.pointer (some ⟨F,0,none⟩),.agg #[.int .i64 22,.int .i64 a,.int .i64 nn]] w fun e w'=>ay c F f n row r w e w':=by
 have hlt:=hE.out.lt
 have aP:=hide (h.out.alloc (ak 22 a nn))
 have bN:Hid (w.grownBy (w.alloc (ak 22 a nn)) (some F)):=aY _
 have aO:Hid (aA c ((w.alloc (ak 22 a nn)).alloc (.cells #[.int .i64 2] 3)) F top st f n row):=aP.out.alloc _
 have aH:Hid (w.grownBy ((w.alloc (ak 22 a nn)).alloc (.cells #[.int .i64 2] 3)) (some F)):=dM (aY _) _
 go_enter Tryz.func99,Tryz.ntmps99
 go_wp2_with fail
 refine (Ae c F (w.heap.size+1) top st f n row 2 _ aO (by omega) (hide (by decide)) (by have:=heap_alloc_new (w.alloc (ak 22 a nn)) (.cells #[.int .i64 2] 3);simpa using this) (by omega) r hr).mono ?_
 rintro e w9 hS
 have aJ:Hid (w.grownBy w9 (some F)):=bg aH.out hS.grown
 cases r with
 | error er =>
  obtain rfl:=hS.no er rfl
  clear hS
  go_wp2
  exact ⟨rfl,ay.bad aJ.out rfl⟩
 | ok aX =>
  obtain ⟨rfl,fq,aK⟩:=hS.yes aX rfl
  have aW:=hide aK
  clear hS aK
  go_wp2
  go_end0
  exact ay.good aJ.out rfl aW.out
theorem Vr (c:FC)(F B:Nat)(top:Option Addr)(st:List Int)(f:Vf.Fl)(n:Int)(row:Value)(a nn:Int)(w:World)(h:Hid (aA c w F top st f n row))(hE:Hid (Env c B F w))(hl:st.length≤300)(r:Except Int (List Int))(hr:Hid (r=Vf.andThen (Vf.pop st) fun p=>.ok p.2)) :
  Calls Tryz.prog 99 #[.pointer (some ⟨F,0,none⟩),.agg #[.int .i64 5,.int .i64 a,.int .i64 nn]] w fun e w'=>ay c F f n row r w e w':=by
 have hlt:=hE.out.lt
 have aP:=hide (h.out.alloc (ak 5 a nn))
 have bN:Hid (w.grownBy (w.alloc (ak 5 a nn)) (some F)):=aY _
 go_enter Tryz.func99,Tryz.ntmps99
 go_wp2_with fail
 refine (xu c F top st f n row _ aP (by omega) (Vf.pop st) (hide rfl)).mono ?_
 rintro e w1 hV
 have aH:Hid (w.grownBy w1 (some F)):=bg bN.out hV.grown
 cases st with
 | nil =>
  obtain rfl:=hV.no 12 rfl
  have HE:Hid (r=.error 12):=hr.out
  clear hV
  go_wp2
  exact ⟨rfl,ay.bad aH.out HE.out⟩
 | cons t st1 =>
  obtain ⟨rfl,bV,hF1⟩:=hV.yes t st1 rfl
  have aO:=hide hF1
  have HE:Hid (r=.ok st1):=hr.out
  clear hV hF1
  go_wp2
  go_end0
  exact ay.good aH.out HE.out aO.out
theorem Vs (c:FC)(F B:Nat)(top:Option Addr)(st:List Int)(f:Vf.Fl)(n:Int)(row:Value)(a nn:Int)(w:World)(h:Hid (aA c w F top st f n row))(hE:Hid (Env c B F w))(hl:st.length≤300)(r:Except Int (List Int))(hr:Hid (r=Vf.andThen (Vf.kI st) fun p=>.ok p.2)) :
  Calls Tryz.prog 99 #[.pointer (some ⟨F,0,none⟩),.agg #[.int .i64 28,.int .i64 a,.int .i64 nn]] w fun e w'=>ay c F f n row r w e w':=by
 have hlt:=hE.out.lt
 have aP:=hide (h.out.alloc (ak 28 a nn))
 have bN:Hid (w.grownBy (w.alloc (ak 28 a nn)) (some F)):=aY _
 obtain ⟨r1,hr1⟩:∃ r1,r1=Vf.kI st:=⟨_,rfl⟩
 have HR1:=hide hr1
 have HR:Hid (r=Vf.andThen r1 fun p=>.ok p.2):=by unfold Hid;rw [hr.out,hr1]
 have HL:Hid (∀ t st',r1=.ok (t,st')→st'.length≤300∧cB t):=fun t st' e=>by
  rw [hr1] at e
  exact EC e hl
 clear hr hr1
 go_enter Tryz.func99,Tryz.ntmps99
 go_wp2_with fail
 refine (Dj c F top st f n row _ aP (by omega) r1 HR1).mono ?_
 rintro e w1 hV
 have aH:Hid (w.grownBy w1 (some F)):=bg bN.out hV.grown
 cases r1 with
 | error er =>
  obtain rfl:=hV.no er rfl
  have HE:Hid (r=.error er):=HR.out
  clear hV
  go_wp2
  exact ⟨rfl,ay.bad aH.out HE.out⟩
 | ok gs =>
  obtain ⟨t,st1⟩:=gs
  obtain ⟨rfl,bV,hF1⟩:=hV.yes t st1 rfl
  have aO:=hide hF1
  have hl1:=(HL.out t st1 rfl).1
  have kL:=hide (HL.out t st1 rfl).2
  clear hV hF1
  have HE:Hid (r=.ok st1):=HR.out
  clear HR hl1 kL HL
  go_wp2
  go_end0
  exact ay.good aH.out HE.out aO.out
theorem Vt (c:FC)(F B:Nat)(top:Option Addr)(st:List Int)(f:Vf.Fl)(n:Int)(row:Value)(a nn:Int)(w:World)(h:Hid (aA c w F top st f n row))(hE:Hid (Env c B F w))(hl:st.length≤300)(r:Except Int (List Int))(hr:Hid (r=Vf.andThen (Vf.kI st) fun p=>Vf.turn 2 [p.1] p.2)) :
  Calls Tryz.prog 99 #[.pointer (some ⟨F,0,none⟩),.agg #[.int .i64 13,.int .i64 a,.int .i64 nn]] w fun e w'=>ay c F f n row r w e w':=by
 have hlt:=hE.out.lt
 have aP:=hide (h.out.alloc (ak 13 a nn))
 have bN:Hid (w.grownBy (w.alloc (ak 13 a nn)) (some F)):=aY _
 obtain ⟨r1,hr1⟩:∃ r1,r1=Vf.kI st:=⟨_,rfl⟩
 have HR1:=hide hr1
 have HR:Hid (r=Vf.andThen r1 fun p=>Vf.turn 2 [p.1] p.2):=by unfold Hid;rw [hr.out,hr1]
 have HL:Hid (∀ t st',r1=.ok (t,st')→st'.length≤300∧cB t):=fun t st' e=>by
  rw [hr1] at e
  exact EC e hl
 clear hr hr1
 go_enter Tryz.func99,Tryz.ntmps99
 go_wp2_with fail
 refine (Dj c F top st f n row _ aP (by omega) r1 HR1).mono ?_
 rintro e w1 hV
 have aH:Hid (w.grownBy w1 (some F)):=bg bN.out hV.grown
 cases r1 with
 | error er =>
  obtain rfl:=hV.no er rfl
  have HE:Hid (r=.error er):=HR.out
  clear hV
  go_wp2
  exact ⟨rfl,ay.bad aH.out HE.out⟩
 | ok gs =>
  obtain ⟨t,st1⟩:=gs
  obtain ⟨rfl,bV,hF1⟩:=hV.yes t st1 rfl
  have aO:=hide hF1
  have hl1:=(HL.out t st1 rfl).1
  have kL:=hide (HL.out t st1 rfl).2
  clear hV hF1
  have HE:Hid (r=Vf.turn 2 [t] st1):=HR.out
  have bO:Hid (aA c (w1.alloc (.cells #[.int .i64 t] 3)) F bV st1 f n row):=aO.out.alloc _
  have HG2:Hid (w.grownBy (w1.alloc (.cells #[.int .i64 t] 3)) (some F)):=dM aH.out _
  have hz1:=aH.out.size
  clear HR HL
  go_wp2_with fail
  refine (xy c F w1.heap.size bV st1 f n row 2 t _ bO (by omega) kL (heap_alloc_new w1 _) (by omega) r HE).mono ?_
  rintro e w9 hS
  have aJ:Hid (w.grownBy w9 (some F)):=bg HG2.out hS.grown
  cases r with
  | error er =>
   obtain rfl:=hS.no er rfl
   clear hS
   go_wp2
   exact ⟨rfl,ay.bad aJ.out rfl⟩
  | ok aX =>
   obtain ⟨rfl,fq,aK⟩:=hS.yes aX rfl
   have aW:=hide aK
   clear hS aK
   go_wp2
   go_end0
   exact ay.good aJ.out rfl aW.out
theorem Vu (c:FC)(F B:Nat)(top:Option Addr)(st:List Int)(f:Vf.Fl)(n:Int)(row:Value)(a nn:Int)(w:World)(h:Hid (aA c w F top st f n row))(hE:Hid (Env c B F w))(hl:st.length≤300)(r:Except Int (List Int))(hr:Hid (r=Vf.andThen (Vf.kI st) fun p=>Vf.turn 2 [p.1] p.2)) :
  Calls Tryz.prog 99 #[.pointer (some ⟨F,0,none⟩),.agg #[.int .i64 14,.int .i64 a,.int .i64 nn]] w fun e w'=>ay c F f n row r w e w':=by
 have hlt:=hE.out.lt
 have aP:=hide (h.out.alloc (ak 14 a nn))
 have bN:Hid (w.grownBy (w.alloc (ak 14 a nn)) (some F)):=aY _
 obtain ⟨r1,hr1⟩:∃ r1,r1=Vf.kI st:=⟨_,rfl⟩
 have HR1:=hide hr1
 have HR:Hid (r=Vf.andThen r1 fun p=>Vf.turn 2 [p.1] p.2):=by unfold Hid;rw [hr.out,hr1]
 have HL:Hid (∀ t st',r1=.ok (t,st')→st'.length≤300∧cB t):=fun t st' e=>by
  rw [hr1] at e
  exact EC e hl
 clear hr hr1
 go_enter Tryz.func99,Tryz.ntmps99
 go_wp2_with fail
 refine (Dj c F top st f n row _ aP (by omega) r1 HR1).mono ?_
 rintro e w1 hV
 have aH:Hid (w.grownBy w1 (some F)):=bg bN.out hV.grown
 cases r1 with
 | error er =>
  obtain rfl:=hV.no er rfl
  have HE:Hid (r=.error er):=HR.out
  clear hV
  go_wp2
  exact ⟨rfl,ay.bad aH.out HE.out⟩
 | ok gs =>
  obtain ⟨t,st1⟩:=gs
  obtain ⟨rfl,bV,hF1⟩:=hV.yes t st1 rfl
  have aO:=hide hF1
  have hl1:=(HL.out t st1 rfl).1
  have kL:=hide (HL.out t st1 rfl).2
  clear hV hF1
  have HE:Hid (r=Vf.turn 2 [t] st1):=HR.out
  have bO:Hid (aA c (w1.alloc (.cells #[.int .i64 t] 3)) F bV st1 f n row):=aO.out.alloc _
  have HG2:Hid (w.grownBy (w1.alloc (.cells #[.int .i64 t] 3)) (some F)):=dM aH.out _
  have hz1:=aH.out.size
  clear HR HL
  go_wp2_with fail
  refine (xy c F w1.heap.size bV st1 f n row 2 t _ bO (by omega) kL (heap_alloc_new w1 _) (by omega) r HE).mono ?_
  rintro e w9 hS
  have aJ:Hid (w.grownBy w9 (some F)):=bg HG2.out hS.grown
  cases r with
  | error er =>
   obtain rfl:=hS.no er rfl
   clear hS
   go_wp2
   exact ⟨rfl,ay.bad aJ.out rfl⟩
  | ok aX =>
   obtain ⟨rfl,fq,aK⟩:=hS.yes aX rfl
   have aW:=hide aK
   clear hS aK
   go_wp2
   go_end0
   exact ay.good aJ.out rfl aW.out
theorem Vv (c:FC)(F B:Nat)(top:Option Addr)(st:List Int)(f:Vf.Fl)(n:Int)(row:Value)(a nn:Int)(w:World)(h:Hid (aA c w F top st f n row))(hE:Hid (Env c B F w))(hl:st.length≤300)(r:Except Int (List Int))(hr:Hid (r=Vf.turn 1 [1,1] st)) :
  Calls Tryz.prog 99 #[.pointer (some ⟨F,0,none⟩),.agg #[.int .i64 8,.int .i64 a,.int .i64 nn]] w fun e w'=>ay c F f n row r w e w':=by
 have hlt:=hE.out.lt
 have aP:=hide (h.out.alloc (ak 8 a nn))
 have bN:Hid (w.grownBy (w.alloc (ak 8 a nn)) (some F)):=aY _
 have aO:Hid (aA c ((w.alloc (ak 8 a nn)).alloc (.cells #[.int .i64 1,.int .i64 1] 3)) F top st f n row):=aP.out.alloc _
 have aH:Hid (w.grownBy ((w.alloc (ak 8 a nn)).alloc (.cells #[.int .i64 1,.int .i64 1] 3)) (some F)):=dM (aY _) _
 go_enter Tryz.func99,Tryz.ntmps99
 go_wp2_with fail
 refine (mP c F (w.heap.size+1) top st f n row 1 1 1 _ aO (by omega) (hide (by decide)) (by have:=heap_alloc_new (w.alloc (ak 8 a nn)) (.cells #[.int .i64 1,.int .i64 1] 3);simpa using this) (by omega) r hr).mono ?_
 rintro e w9 hS
 have aJ:Hid (w.grownBy w9 (some F)):=bg aH.out hS.grown
 cases r with
 | error er =>
  obtain rfl:=hS.no er rfl
  clear hS
  go_wp2
  exact ⟨rfl,ay.bad aJ.out rfl⟩
 | ok aX =>
  obtain ⟨rfl,fq,aK⟩:=hS.yes aX rfl
  have aW:=hide aK
  clear hS aK
  go_wp2
  go_end0
  exact ay.good aJ.out rfl aW.out
theorem Vx (c:FC)(F B:Nat)(top:Option Addr)(st:List Int)(f:Vf.Fl)(n:Int)(row:Value)(a nn:Int)(w:World)(h:Hid (aA c w F top st f n row))(hE:Hid (Env c B F w))(hl:st.length≤300)(r:Except Int (List Int))(hr:Hid (r=Vf.turn 1 [1,1] st)) :
  Calls Tryz.prog 99 #[.pointer (some ⟨F,0,none⟩),.agg #[.int .i64 9,.int .i64 a,.int .i64 nn]] w fun e w'=>ay c F f n row r w e w':=by
 have hlt:=hE.out.lt
 have aP:=hide (h.out.alloc (ak 9 a nn))
 have bN:Hid (w.grownBy (w.alloc (ak 9 a nn)) (some F)):=aY _
 have aO:Hid (aA c ((w.alloc (ak 9 a nn)).alloc (.cells #[.int .i64 1,.int .i64 1] 3)) F top st f n row):=aP.out.alloc _
 have aH:Hid (w.grownBy ((w.alloc (ak 9 a nn)).alloc (.cells #[.int .i64 1,.int .i64 1] 3)) (some F)):=dM (aY _) _
 go_enter Tryz.func99,Tryz.ntmps99
 go_wp2_with fail
 refine (mP c F (w.heap.size+1) top st f n row 1 1 1 _ aO (by omega) (hide (by decide)) (by have:=heap_alloc_new (w.alloc (ak 9 a nn)) (.cells #[.int .i64 1,.int .i64 1] 3);simpa using this) (by omega) r hr).mono ?_
 rintro e w9 hS
 have aJ:Hid (w.grownBy w9 (some F)):=bg aH.out hS.grown
 cases r with
 | error er =>
  obtain rfl:=hS.no er rfl
  clear hS
  go_wp2
  exact ⟨rfl,ay.bad aJ.out rfl⟩
 | ok aX =>
  obtain ⟨rfl,fq,aK⟩:=hS.yes aX rfl
  have aW:=hide aK
  clear hS aK
  go_wp2
  go_end0
  exact ay.good aJ.out rfl aW.out
theorem Vy (c:FC)(F B:Nat)(top:Option Addr)(st:List Int)(f:Vf.Fl)(n:Int)(row:Value)(a nn:Int)(w:World)(h:Hid (aA c w F top st f n row))(hE:Hid (Env c B F w))(hl:st.length≤300)(r:Except Int (List Int))(hr:Hid (r=Vf.turn 1 [1,1] st)) :
  Calls Tryz.prog 99 #[.pointer (some ⟨F,0,none⟩),.agg #[.int .i64 10,.int .i64 a,.int .i64 nn]] w fun e w'=>ay c F f n row r w e w':=by
 have hlt:=hE.out.lt
 have aP:=hide (h.out.alloc (ak 10 a nn))
 have bN:Hid (w.grownBy (w.alloc (ak 10 a nn)) (some F)):=aY _
 have aO:Hid (aA c ((w.alloc (ak 10 a nn)).alloc (.cells #[.int .i64 1,.int .i64 1] 3)) F top st f n row):=aP.out.alloc _
 have aH:Hid (w.grownBy ((w.alloc (ak 10 a nn)).alloc (.cells #[.int .i64 1,.int .i64 1] 3)) (some F)):=dM (aY _) _
 go_enter Tryz.func99,Tryz.ntmps99
 go_wp2_with fail
 refine (mP c F (w.heap.size+1) top st f n row 1 1 1 _ aO (by omega) (hide (by decide)) (by have:=heap_alloc_new (w.alloc (ak 10 a nn)) (.cells #[.int .i64 1,.int .i64 1] 3);simpa using this) (by omega) r hr).mono ?_
 rintro e w9 hS
 have aJ:Hid (w.grownBy w9 (some F)):=bg aH.out hS.grown
 cases r with
 | error er =>
  obtain rfl:=hS.no er rfl
  clear hS
  go_wp2
  exact ⟨rfl,ay.bad aJ.out rfl⟩
 | ok aX =>
  obtain ⟨rfl,fq,aK⟩:=hS.yes aX rfl
  have aW:=hide aK
  clear hS aK
  go_wp2
  go_end0
  exact ay.good aJ.out rfl aW.out
theorem Vz (c:FC)(F B:Nat)(top:Option Addr)(st:List Int)(f:Vf.Fl)(n:Int)(row:Value)(a nn:Int)(w:World)(h:Hid (aA c w F top st f n row))(hE:Hid (Env c B F w))(hl:st.length≤300)(r:Except Int (List Int))(hr:Hid (r=Vf.turn 1 [1,1] st)) :
  Calls Tryz.prog 99 #[.pointer (some ⟨F,0,none⟩),.agg #[.int .i64 11,.int .i64 a,.int .i64 nn]] w fun e w'=>ay c F f n row r w e w':=by
 have hlt:=hE.out.lt
 have aP:=hide (h.out.alloc (ak 11 a nn))
 have bN:Hid (w.grownBy (w.alloc (ak 11 a nn)) (some F)):=aY _
 have aO:Hid (aA c ((w.alloc (ak 11 a nn)).alloc (.cells #[.int .i64 1,.int .i64 1] 3)) F top st f n row):=aP.out.alloc _
 have aH:Hid (w.grownBy ((w.alloc (ak 11 a nn)).alloc (.cells #[.int .i64 1,.int .i64 1] 3)) (some F)):=dM (aY _) _
 go_enter Tryz.func99,Tryz.ntmps99
 go_wp2_with fail
 refine (mP c F (w.heap.size+1) top st f n row 1 1 1 _ aO (by omega) (hide (by decide)) (by have:=heap_alloc_new (w.alloc (ak 11 a nn)) (.cells #[.int .i64 1,.int .i64 1] 3);simpa using this) (by omega) r hr).mono ?_
 rintro e w9 hS
 have aJ:Hid (w.grownBy w9 (some F)):=bg aH.out hS.grown
 cases r with
 | error er =>
  obtain rfl:=hS.no er rfl
  clear hS
  go_wp2
  exact ⟨rfl,ay.bad aJ.out rfl⟩
 | ok aX =>
  obtain ⟨rfl,fq,aK⟩:=hS.yes aX rfl
  have aW:=hide aK
  clear hS aK
  go_wp2
  go_end0
  exact ay.good aJ.out rfl aW.out
theorem VB (c:FC)(F B:Nat)(top:Option Addr)(st:List Int)(f:Vf.Fl)(n:Int)(row:Value)(a nn:Int)(w:World)(h:Hid (aA c w F top st f n row))(hE:Hid (Env c B F w))(hl:st.length≤300)(r:Except Int (List Int))(hr:Hid (r=Vf.turn 1 [1,1] st)) :
  Calls Tryz.prog 99 #[.pointer (some ⟨F,0,none⟩),.agg #[.int .i64 12,.int .i64 a,.int .i64 nn]] w fun e w'=>ay c F f n row r w e w':=by
 have hlt:=hE.out.lt
 have aP:=hide (h.out.alloc (ak 12 a nn))
 have bN:Hid (w.grownBy (w.alloc (ak 12 a nn)) (some F)):=aY _
 have aO:Hid (aA c ((w.alloc (ak 12 a nn)).alloc (.cells #[.int .i64 1,.int .i64 1] 3)) F top st f n row):=aP.out.alloc _
 have aH:Hid (w.grownBy ((w.alloc (ak 12 a nn)).alloc (.cells #[.int .i64 1,.int .i64 1] 3)) (some F)):=dM (aY _) _
 go_enter Tryz.func99,Tryz.ntmps99
 go_wp2_with fail
 refine (mP c F (w.heap.size+1) top st f n row 1 1 1 _ aO (by omega) (hide (by decide)) (by have:=heap_alloc_new (w.alloc (ak 12 a nn)) (.cells #[.int .i64 1,.int .i64 1] 3);simpa using this) (by omega) r hr).mono ?_
 rintro e w9 hS
 have aJ:Hid (w.grownBy w9 (some F)):=bg aH.out hS.grown
 cases r with
 | error er =>
  obtain rfl:=hS.no er rfl
  clear hS
  go_wp2
  exact ⟨rfl,ay.bad aJ.out rfl⟩
 | ok aX =>
  obtain ⟨rfl,fq,aK⟩:=hS.yes aX rfl
  have aW:=hide aK
  clear hS aK
  go_wp2
  go_end0
  exact ay.good aJ.out rfl aW.out
theorem VC (c:FC)(F B:Nat)(top:Option Addr)(st:List Int)(f:Vf.Fl)(n:Int)(row:Value)(a nn:Int)(w:World)(h:Hid (aA c w F top st f n row))(hE:Hid (Env c B F w))(hl:st.length≤300)(r:Except Int (List Int))(hr:Hid (r=Vf.turn 2 [1,1] st)) :
  Calls Tryz.prog 99 #[.pointer (some ⟨F,0,none⟩),.agg #[.int .i64 15,.int .i64 a,.int .i64 nn]] w fun e w'=>ay c F f n row r w e w':=by
 have hlt:=hE.out.lt
 have aP:=hide (h.out.alloc (ak 15 a nn))
 have bN:Hid (w.grownBy (w.alloc (ak 15 a nn)) (some F)):=aY _
 have aO:Hid (aA c ((w.alloc (ak 15 a nn)).alloc (.cells #[.int .i64 1,.int .i64 1] 3)) F top st f n row):=aP.out.alloc _
 have aH:Hid (w.grownBy ((w.alloc (ak 15 a nn)).alloc (.cells #[.int .i64 1,.int .i64 1] 3)) (some F)):=dM (aY _) _
 go_enter Tryz.func99,Tryz.ntmps99
 go_wp2_with fail
 refine (mP c F (w.heap.size+1) top st f n row 2 1 1 _ aO (by omega) (hide (by decide)) (by have:=heap_alloc_new (w.alloc (ak 15 a nn)) (.cells #[.int .i64 1,.int .i64 1] 3);simpa using this) (by omega) r hr).mono ?_
 rintro e w9 hS
 have aJ:Hid (w.grownBy w9 (some F)):=bg aH.out hS.grown
 cases r with
 | error er =>
  obtain rfl:=hS.no er rfl
  clear hS
  go_wp2
  exact ⟨rfl,ay.bad aJ.out rfl⟩
 | ok aX =>
  obtain ⟨rfl,fq,aK⟩:=hS.yes aX rfl
  have aW:=hide aK
  clear hS aK
  go_wp2
  go_end0
  exact ay.good aJ.out rfl aW.out
theorem VD (c:FC)(F B:Nat)(top:Option Addr)(st:List Int)(f:Vf.Fl)(n:Int)(row:Value)(a nn:Int)(w:World)(h:Hid (aA c w F top st f n row))(hE:Hid (Env c B F w))(hl:st.length≤300)(r:Except Int (List Int))(hr:Hid (r=Vf.turn 2 [1,1] st)) :
  Calls Tryz.prog 99 #[.pointer (some ⟨F,0,none⟩),.agg #[.int .i64 16,.int .i64 a,.int .i64 nn]] w fun e w'=>ay c F f n row r w e w':=by
 have hlt:=hE.out.lt
 have aP:=hide (h.out.alloc (ak 16 a nn))
 have bN:Hid (w.grownBy (w.alloc (ak 16 a nn)) (some F)):=aY _
 have aO:Hid (aA c ((w.alloc (ak 16 a nn)).alloc (.cells #[.int .i64 1,.int .i64 1] 3)) F top st f n row):=aP.out.alloc _
 have aH:Hid (w.grownBy ((w.alloc (ak 16 a nn)).alloc (.cells #[.int .i64 1,.int .i64 1] 3)) (some F)):=dM (aY _) _
 go_enter Tryz.func99,Tryz.ntmps99
 go_wp2_with fail
 refine (mP c F (w.heap.size+1) top st f n row 2 1 1 _ aO (by omega) (hide (by decide)) (by have:=heap_alloc_new (w.alloc (ak 16 a nn)) (.cells #[.int .i64 1,.int .i64 1] 3);simpa using this) (by omega) r hr).mono ?_
 rintro e w9 hS
 have aJ:Hid (w.grownBy w9 (some F)):=bg aH.out hS.grown
 cases r with
 | error er =>
  obtain rfl:=hS.no er rfl
  clear hS
  go_wp2
  exact ⟨rfl,ay.bad aJ.out rfl⟩
 | ok aX =>
  obtain ⟨rfl,fq,aK⟩:=hS.yes aX rfl
  have aW:=hide aK
  clear hS aK
  go_wp2
  go_end0
  exact ay.good aJ.out rfl aW.out
theorem VE (c:FC)(F B:Nat)(top:Option Addr)(st:List Int)(f:Vf.Fl)(n:Int)(row:Value)(a nn:Int)(w:World)(h:Hid (aA c w F top st f n row))(hE:Hid (Env c B F w))(hl:st.length≤300)(r:Except Int (List Int))(hr:Hid (r=Vf.turn 2 [1,1] st)) :
  Calls Tryz.prog 99 #[.pointer (some ⟨F,0,none⟩),.agg #[.int .i64 17,.int .i64 a,.int .i64 nn]] w fun e w'=>ay c F f n row r w e w':=by
 have hlt:=hE.out.lt
 have aP:=hide (h.out.alloc (ak 17 a nn))
 have bN:Hid (w.grownBy (w.alloc (ak 17 a nn)) (some F)):=aY _
 have aO:Hid (aA c ((w.alloc (ak 17 a nn)).alloc (.cells #[.int .i64 1,.int .i64 1] 3)) F top st f n row):=aP.out.alloc _
 have aH:Hid (w.grownBy ((w.alloc (ak 17 a nn)).alloc (.cells #[.int .i64 1,.int .i64 1] 3)) (some F)):=dM (aY _) _
 go_enter Tryz.func99,Tryz.ntmps99
 go_wp2_with fail
 refine (mP c F (w.heap.size+1) top st f n row 2 1 1 _ aO (by omega) (hide (by decide)) (by have:=heap_alloc_new (w.alloc (ak 17 a nn)) (.cells #[.int .i64 1,.int .i64 1] 3);simpa using this) (by omega) r hr).mono ?_
 rintro e w9 hS
 have aJ:Hid (w.grownBy w9 (some F)):=bg aH.out hS.grown
 cases r with
 | error er =>
  obtain rfl:=hS.no er rfl
  clear hS
  go_wp2
  exact ⟨rfl,ay.bad aJ.out rfl⟩
 | ok aX =>
  obtain ⟨rfl,fq,aK⟩:=hS.yes aX rfl
  have aW:=hide aK
  clear hS aK
  go_wp2
  go_end0
  exact ay.good aJ.out rfl aW.out
theorem VF (c:FC)(F B:Nat)(top:Option Addr)(st:List Int)(f:Vf.Fl)(n:Int)(row:Value)(a nn:Int)(w:World)(h:Hid (aA c w F top st f n row))(hE:Hid (Env c B F w))(hl:st.length≤300)(r:Except Int (List Int))(hr:Hid (r=Vf.turn 2 [1,1] st)) :
  Calls Tryz.prog 99 #[.pointer (some ⟨F,0,none⟩),.agg #[.int .i64 18,.int .i64 a,.int .i64 nn]] w fun e w'=>ay c F f n row r w e w':=by
 have hlt:=hE.out.lt
 have aP:=hide (h.out.alloc (ak 18 a nn))
 have bN:Hid (w.grownBy (w.alloc (ak 18 a nn)) (some F)):=aY _
 have aO:Hid (aA c ((w.alloc (ak 18 a nn)).alloc (.cells #[.int .i64 1,.int .i64 1] 3)) F top st f n row):=aP.out.alloc _
 have aH:Hid (w.grownBy ((w.alloc (ak 18 a nn)).alloc (.cells #[.int .i64 1,.int .i64 1] 3)) (some F)):=dM (aY _) _
 go_enter Tryz.func99,Tryz.ntmps99
 go_wp2_with fail
 refine (mP c F (w.heap.size+1) top st f n row 2 1 1 _ aO (by omega) (hide (by decide)) (by have:=heap_alloc_new (w.alloc (ak 18 a nn)) (.cells #[.int .i64 1,.int .i64 1] 3);simpa using this) (by omega) r hr).mono ?_
 rintro e w9 hS
 have aJ:Hid (w.grownBy w9 (some F)):=bg aH.out hS.grown
 cases r with
 | error er =>
  obtain rfl:=hS.no er rfl
  clear hS
  go_wp2
  exact ⟨rfl,ay.bad aJ.out rfl⟩
 | ok aX =>
  obtain ⟨rfl,fq,aK⟩:=hS.yes aX rfl
  have aW:=hide aK
  clear hS aK
  go_wp2
  go_end0
  exact ay.good aJ.out rfl aW.out
theorem VG (c:FC)(F B:Nat)(top:Option Addr)(st:List Int)(f:Vf.Fl)(n:Int)(row:Value)(a nn:Int)(w:World)(h:Hid (aA c w F top st f n row))(hE:Hid (Env c B F w))(hl:st.length≤300)(r:Except Int (List Int))(hr:Hid (r=Vf.turn 2 [2,2] st)) :
  Calls Tryz.prog 99 #[.pointer (some ⟨F,0,none⟩),.agg #[.int .i64 19,.int .i64 a,.int .i64 nn]] w fun e w'=>ay c F f n row r w e w':=by
 have hlt:=hE.out.lt
 have aP:=hide (h.out.alloc (ak 19 a nn))
 have bN:Hid (w.grownBy (w.alloc (ak 19 a nn)) (some F)):=aY _
 have aO:Hid (aA c ((w.alloc (ak 19 a nn)).alloc (.cells #[.int .i64 2,.int .i64 2] 3)) F top st f n row):=aP.out.alloc _
 have aH:Hid (w.grownBy ((w.alloc (ak 19 a nn)).alloc (.cells #[.int .i64 2,.int .i64 2] 3)) (some F)):=dM (aY _) _
 go_enter Tryz.func99,Tryz.ntmps99
 go_wp2_with fail
 refine (mP c F (w.heap.size+1) top st f n row 2 2 2 _ aO (by omega) (hide (by decide)) (by have:=heap_alloc_new (w.alloc (ak 19 a nn)) (.cells #[.int .i64 2,.int .i64 2] 3);simpa using this) (by omega) r hr).mono ?_
 rintro e w9 hS
 have aJ:Hid (w.grownBy w9 (some F)):=bg aH.out hS.grown
 cases r with
 | error er =>
  obtain rfl:=hS.no er rfl
  clear hS
  go_wp2
  exact ⟨rfl,ay.bad aJ.out rfl⟩
 | ok aX =>
  obtain ⟨rfl,fq,aK⟩:=hS.yes aX rfl
  have aW:=hide aK
  clear hS aK
  go_wp2
  go_end0
  exact ay.good aJ.out rfl aW.out
theorem VH (c:FC)(F B:Nat)(top:Option Addr)(st:List Int)(f:Vf.Fl)(n:Int)(row:Value)(a nn:Int)(w:World)(h:Hid (aA c w F top st f n row))(hE:Hid (Env c B F w))(hl:st.length≤300)(r:Except Int (List Int))(hr:Hid (r=Vf.turn 2 [2,2] st)) :
  Calls Tryz.prog 99 #[.pointer (some ⟨F,0,none⟩),.agg #[.int .i64 20,.int .i64 a,.int .i64 nn]] w fun e w'=>ay c F f n row r w e w':=by
 have hlt:=hE.out.lt
 have aP:=hide (h.out.alloc (ak 20 a nn))
 have bN:Hid (w.grownBy (w.alloc (ak 20 a nn)) (some F)):=aY _
 have aO:Hid (aA c ((w.alloc (ak 20 a nn)).alloc (.cells #[.int .i64 2,.int .i64 2] 3)) F top st f n row):=aP.out.alloc _
 have aH:Hid (w.grownBy ((w.alloc (ak 20 a nn)).alloc (.cells #[.int .i64 2,.int .i64 2] 3)) (some F)):=dM (aY _) _
 go_enter Tryz.func99,Tryz.ntmps99
 go_wp2_with fail
 refine (mP c F (w.heap.size+1) top st f n row 2 2 2 _ aO (by omega) (hide (by decide)) (by have:=heap_alloc_new (w.alloc (ak 20 a nn)) (.cells #[.int .i64 2,.int .i64 2] 3);simpa using this) (by omega) r hr).mono ?_
 rintro e w9 hS
 have aJ:Hid (w.grownBy w9 (some F)):=bg aH.out hS.grown
 cases r with
 | error er =>
  obtain rfl:=hS.no er rfl
  clear hS
  go_wp2
  exact ⟨rfl,ay.bad aJ.out rfl⟩
 | ok aX =>
  obtain ⟨rfl,fq,aK⟩:=hS.yes aX rfl
  have aW:=hide aK
  clear hS aK
  go_wp2
  go_end0
  exact ay.good aJ.out rfl aW.out
end Go.Proofs.YthffafaoobpedaaGreatDoor
