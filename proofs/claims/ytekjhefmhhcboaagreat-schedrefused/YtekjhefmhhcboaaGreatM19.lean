/- The walk of speak, a kind of instruction each. -/
import Derived.Test.YtekjhefmhhcboaaGreatM3
import Derived.Maps.RangeWalk
set_option maxRecDepth 100000
set_option maxHeartbeats 2000000
namespace Go.Proofs.YtekjhefmhhcboaaGreat
open Go.RowKit
theorem speak23 (c : FC) (F B : Nat) (top : Option Addr) (st : List Int) (f : Vf.Fl) (n : Int) (row : Value) (nn : Int) (k : Nat) (u : Vf.Un) (hu : Hid (c.m.units[k]? = some u)) (hp : Hid (0 ≤ u.params ∧ u.params ≤ u.locals.length ∧ u.locals.length ≤ 200)) (pl : List Int) (hpl : Hid (pl = u.locals.take u.params.toNat)) (w : World) (h : Hid (FlIn c w F top st f n row)) (hE : Hid (Env c B F w)) (hl : st.length ≤ 300) (r : Except Int (List Int)) (hr : Hid (r = Vf.turn u.result pl st)) :
  Calls Tryz.prog 90 #[.pointer (some ⟨F, 0, none⟩), .agg #[.int .i64 23, .int .i64 (k : Int), .int .i64 nn]] w fun e w' => SEnds c F f n row r w e w' := by
 have hlt := hE.out.lt
 have hBF := hE.out.base
 obtain ⟨b, off, al, cl, ac, cc, ha, hb, hui, u0, u1, u2, u3, u4, u5⟩ := hE.out.md.units k u hu.out
 have hku : k < c.m.units.length := (List.getElem?_eq_some_iff.1 hu.out).1
 have hk1 : (k : Int) < (c.m.units.length : Int) := by omega
 have hF0 := hide (h.out.alloc (insO 23 (k : Int) nn))
 have d1 : (w.alloc (insO 23 (k : Int) nn)).cell? ⟨F, 1, none⟩ = some (.slice (some ⟨b, off, none⟩) c.m.units.length c.cu) := by have := (fl_cells hF0.out.blk).2.1; rw [ha] at this; exact this
 have d2 : (w.alloc (insO 23 (k : Int) nn)).cell? ⟨w.heap.size, 1, none⟩ = some (.int .i64 (k : Int)) := (ins_cells (alloc_at w _)).2.1
 have d3 : (w.alloc (insO 23 (k : Int) nn)).cell? ⟨b, off + k * 6 + 3, none⟩ = some (.int .i64 u.result) := (cell_new _ _ (by omega)).trans u3
 have HA := hide ha
 clear hui u0 u1 u2 u3 u4 u5 ha
 have hpll : pl.length < 1000 := by rw [hpl.out]; have := hp.out.2.2; simp; omega
 go_enter Tryz.func90, Tryz.ntmps90
 go_wp2_with fail
 refine wp_region_held_drew (S := fun w' => w'.cell? ⟨F, 1, none⟩ = some (.slice (some ⟨b, off, none⟩) c.m.units.length c.cu) ∧ w'.cell? ⟨w.heap.size, 1, none⟩ = some (.int .i64 (k : Int)) ∧ w'.cell? ⟨b, off + k * 6 + 3, none⟩ = some (.int .i64 u.result)) (by kernel_rfl) ⟨d1, d2, d3⟩ (fun hHeld => ?_)
 refine wpAnyH_take (i := 0) (oi := _) (v := ?_) rfl (by kernel_rfl) (by kernel_rfl) (by kernel_rfl) (fun _ _ _ h => h) (Or.inl ⟨by rfl, ?_⟩) (by assumption) ?_
 rotate_left
 ·intro w hSw
  (try dsimp only at hSw)
  go_simp
  (try with_reducible rfl)
 (try go_frame)
 refine wpAnyH_take (i := 1) (oi := _) (v := ?_) rfl (by kernel_rfl) (by kernel_rfl) (by kernel_rfl) (fun _ _ _ h => h) (Or.inl ⟨by rfl, ?_⟩) (by assumption) ?_
 rotate_left
 ·intro w hSw
  (try dsimp only at hSw)
  go_simp
  (try with_reducible rfl)
 (try go_frame)
 refine wpAnyH_take (i := 2) (oi := _) (v := ?_) rfl (by kernel_rfl) (by kernel_rfl) (by kernel_rfl) (fun _ _ _ h => h) (Or.inl ⟨by rfl, ?_⟩) (by assumption) ?_
 rotate_left
 ·intro w hSw
  (try dsimp only at hSw)
  go_simp
  (try with_reducible rfl)
 (try go_frame)
 refine wpAnyH_take (i := 3) (oi := _) (v := ?_) rfl (by kernel_rfl) (by kernel_rfl) (by kernel_rfl) (fun _ _ _ h => h) (Or.inl ⟨by rfl, ?_⟩) (by assumption) ?_
 rotate_left
 ·intro w hSw
  (try dsimp only at hSw)
  go_simp
  (try with_reducible rfl)
 (try go_frame)
 refine wpAnyH_take (i := 4) (oi := _) (v := ?_) rfl (by kernel_rfl) (by kernel_rfl) (by kernel_rfl) (fun _ _ _ h => h) (Or.inl ⟨by rfl, ?_⟩) (by assumption) ?_
 rotate_left
 ·intro w hSw
  (try dsimp only at hSw)
  go_simp
  (try with_reducible rfl)
 (try go_frame)
 refine wpAnyH_take (i := 5) (oi := _) (v := ?_) rfl (by kernel_rfl) (by kernel_rfl) (by kernel_rfl) (fun _ _ _ h => h) (Or.inl ⟨by rfl, ?_⟩) (by assumption) ?_
 rotate_left
 ·intro w hSw
  (try dsimp only at hSw)
  go_simp
  (try with_reducible rfl)
 (try go_frame)
 refine wpAnyH_take (i := 6) (oi := _) (v := ?_) rfl (by kernel_rfl) (by kernel_rfl) (by kernel_rfl) (fun _ _ _ h => h) (Or.inl ⟨by rfl, ?_⟩) (by assumption) ?_
 rotate_left
 ·intro w hSw
  (try dsimp only at hSw)
  go_simp
  (try with_reducible rfl)
 (try go_frame)
 refine wpAnyH_take (i := 7) (oi := _) (v := ?_) rfl (by kernel_rfl) (by kernel_rfl) (by kernel_rfl) (fun _ _ _ h => h) (Or.inl ⟨by rfl, ?_⟩) (by assumption) ?_
 rotate_left
 ·intro w hSw
  (try dsimp only at hSw)
  go_simp
  (try with_reducible rfl)
 (try go_frame)
 refine wpAnyH_take (i := 8) (oi := _) (v := ?_) rfl (by kernel_rfl) (by kernel_rfl) (by kernel_rfl) (fun _ _ _ h => h) (Or.inl ⟨by rfl, ?_⟩) (by assumption) ?_
 rotate_left
 ·intro w hSw
  (try dsimp only at hSw)
  go_simp
  (try with_reducible rfl)
 (try go_frame)
 refine wpAnyH_take (i := 9) (oi := _) (v := ?_) rfl (by kernel_rfl) (by kernel_rfl) (by kernel_rfl) (fun _ _ _ h => h) (Or.inl ⟨by rfl, ?_⟩) (by assumption) ?_
 rotate_left
 ·intro w hSw
  (try dsimp only at hSw)
  go_simp
  (try with_reducible rfl)
 (try go_frame)
 refine wpAnyH_take (i := 10) (oi := _) (v := ?_) rfl (by kernel_rfl) (by kernel_rfl) (by kernel_rfl) (fun _ _ _ h => h) (Or.inl ⟨by rfl, ?_⟩) (by assumption) ?_
 rotate_left
 ·intro w hSw
  (try dsimp only at hSw)
  go_simp
  (try with_reducible rfl)
 (try go_frame)
 refine wpAnyH_take (i := 11) (oi := _) (v := ?_) rfl (by kernel_rfl) (by kernel_rfl) (by kernel_rfl) (fun _ _ _ h => h) (Or.inl ⟨by rfl, ?_⟩) (by assumption) ?_
 rotate_left
 ·intro w hSw
  (try dsimp only at hSw)
  go_simp
  (try with_reducible rfl)
 (try go_frame)
 refine wpAnyH_take (i := 12) (oi := _) (v := ?_) rfl (by kernel_rfl) (by kernel_rfl) (by kernel_rfl) (fun _ _ _ h => h) (Or.inl ⟨by rfl, ?_⟩) (by assumption) ?_
 rotate_left
 ·intro w hSw
  (try dsimp only at hSw)
  go_simp
  (try with_reducible rfl)
 (try go_frame)
 refine wpAnyH_take (i := 13) (oi := _) (v := ?_) rfl (by kernel_rfl) (by kernel_rfl) (by kernel_rfl) (fun _ _ _ h => h) (Or.inl ⟨by rfl, ?_⟩) (by assumption) ?_
 rotate_left
 ·intro w hSw
  (try dsimp only at hSw)
  go_simp
  (try with_reducible rfl)
 (try go_frame)
 refine wpAnyH_take (i := 14) (oi := _) (v := ?_) rfl (by kernel_rfl) (by kernel_rfl) (by kernel_rfl) (fun _ _ _ h => h) (Or.inl ⟨by rfl, ?_⟩) (by assumption) ?_
 rotate_left
 ·intro w hSw
  (try dsimp only at hSw)
  go_simp
  (try with_reducible rfl)
 (try go_frame)
 refine wpAnyH_take (i := 15) (oi := _) (v := ?_) rfl (by kernel_rfl) (by kernel_rfl) (by kernel_rfl) (fun _ _ _ h => h) (Or.inl ⟨by rfl, ?_⟩) (by assumption) ?_
 rotate_left
 ·intro w hSw
  (try dsimp only at hSw)
  go_simp
  (try with_reducible rfl)
 (try go_frame)
 refine wpAnyH_ready (rs := [16]) (by kernel_rfl) (by simp) ?_
 refine AllReadyH.cons (o := _) rfl (fun K hK => ?_) AllReadyH.nil
 go_simp
 refine (params_any c F B top st f n row k u _ (hide hF0.out.drew) (hide (hE.out.grown (grown_new _)).drew) hu hp pl hpl).mono ?_
 rintro e w2 ⟨⟨a2, cp, rfl, hI⟩, hg2, hF2⟩
 have HG2 : Hid (w.grownBy w2 (some F)) := grown_tr (grown_new _) (grown_drew hg2)
 have HS2 : Hid (∀ w3, w2.grownBy w3 (some F) → w3.cell? ⟨F, 1, none⟩ = some (.slice c.au c.m.units.length c.cu) → (w3.cell? ⟨F, 1, none⟩ = some (.slice (some ⟨b, off, none⟩) c.m.units.length c.cu) ∧ w3.cell? ⟨w.heap.size, 1, none⟩ = some (.int .i64 (k : Int)) ∧ w3.cell? ⟨b, off + k * 6 + 3, none⟩ = some (.int .i64 u.result))) := fun w3 hg3 h1 => ⟨by rw [h1, HA.out], (cell_eq (kept (grown_tr (grown_drew hg2) hg3) (by simp) (by omega)) _).trans d2, (cell_eq (kept (grown_tr (grown_drew hg2) hg3) (by simp; omega) (by omega)) _).trans d3⟩
 have HF2 := hide hF2
 have HI := hide hI
 refine hK.out _ _ (HS2.out w2 (grown_refl _ _) (fl_cells hF2.blk).2.1) (fun hHeld => ?_)
 clear hK hI hF2 hg2
 refine wpAnyH_ready (rs := [17]) (by kernel_rfl) (by simp) ?_
 refine AllReadyH.cons (o := _) rfl (fun K hK => ?_) AllReadyH.nil
 go_simp
 refine (turn_any c F B top st f n row u.result pl a2 cp _ HF2 (by omega) hpll HI (by have := HG2.out.size; omega) (hide (fun b off _ hb => by omega)) r hr).mono ?_
 rintro e w9 hS
 have HG9 : Hid (w.grownBy w9 (some F)) := grown_tr HG2.out hS.grown
 cases r with
 | error er =>
  obtain rfl := hS.no er rfl
  clear hS hK
  go_wp2
  exact ⟨rfl, SEnds.bad HG9.out rfl⟩
 | ok st9 =>
  obtain ⟨rfl, top9, hF9⟩ := hS.yes st9 rfl
  have HF9 := hide hF9
  refine hK.out _ _ (HS2.out w9 hS.grown (fl_cells HF9.out.blk).2.1) (fun hHeld => ?_)
  clear hK hS hF9
  refine wpAnyH_done (by kernel_rfl) ?_ _
  go_wp2
  go_end0
  exact SEnds.good HG9.out rfl HF9.out
theorem speak29 (c : FC) (F B : Nat) (top : Option Addr) (st : List Int) (f : Vf.Fl) (n : Int) (row : Value) (nn : Int) (k : Nat) (u : Vf.Un) (hu : Hid (c.m.units[k]? = some u)) (hp : Hid (0 ≤ u.params ∧ u.params ≤ u.locals.length ∧ u.locals.length ≤ 200)) (hun : c.m.units.length ≤ 30) (pl : List Int) (hpl : Hid (pl = u.locals.take u.params.toNat)) (w : World) (h : Hid (FlIn c w F top st f n row)) (hE : Hid (Env c B F w)) (hl : st.length ≤ 300) (r : Except Int (List Int)) (hr : Hid (r = Vf.turn (10 + (k : Int)) pl st)) :
  Calls Tryz.prog 90 #[.pointer (some ⟨F, 0, none⟩), .agg #[.int .i64 29, .int .i64 (k : Int), .int .i64 nn]] w fun e w' => SEnds c F f n row r w e w' := by
 have hlt := hE.out.lt
 have hBF := hE.out.base
 obtain ⟨b, off, al, cl, ac, cc, ha, hb, hui, u0, u1, u2, u3, u4, u5⟩ := hE.out.md.units k u hu.out
 have hku : k < c.m.units.length := (List.getElem?_eq_some_iff.1 hu.out).1
 have hk1 : (k : Int) < (c.m.units.length : Int) := by omega
 have hF0 := hide (h.out.alloc (insO 29 (k : Int) nn))
 have d1 : (w.alloc (insO 29 (k : Int) nn)).cell? ⟨F, 1, none⟩ = some (.slice (some ⟨b, off, none⟩) c.m.units.length c.cu) := by have := (fl_cells hF0.out.blk).2.1; rw [ha] at this; exact this
 have d2 : (w.alloc (insO 29 (k : Int) nn)).cell? ⟨w.heap.size, 1, none⟩ = some (.int .i64 (k : Int)) := (ins_cells (alloc_at w _)).2.1
 have d3 : (w.alloc (insO 29 (k : Int) nn)).cell? ⟨b, off + k * 6 + 3, none⟩ = some (.int .i64 u.result) := (cell_new _ _ (by omega)).trans u3
 have HA := hide ha
 clear hui u0 u1 u2 u3 u4 u5 ha
 have hpll : pl.length < 1000 := by rw [hpl.out]; have := hp.out.2.2; simp; omega
 have e10 : IntKind.i64.wrap (10 + (k : Int)) = 10 + (k : Int) := by simp [IntKind.wrap, IntKind.bits, IntKind.signed]; omega
 go_enter Tryz.func90, Tryz.ntmps90
 go_wp2_with fail
 refine wp_region_held_drew (S := fun w' => w'.cell? ⟨F, 1, none⟩ = some (.slice (some ⟨b, off, none⟩) c.m.units.length c.cu) ∧ w'.cell? ⟨w.heap.size, 1, none⟩ = some (.int .i64 (k : Int)) ∧ w'.cell? ⟨b, off + k * 6 + 3, none⟩ = some (.int .i64 u.result)) (by kernel_rfl) ⟨d1, d2, d3⟩ (fun hHeld => ?_)
 refine wpAnyH_take (i := 0) (oi := _) (v := ?_) rfl (by kernel_rfl) (by kernel_rfl) (by kernel_rfl) (fun _ _ _ h => h) (Or.inl ⟨by rfl, ?_⟩) (by assumption) ?_
 rotate_left
 ·intro w hSw
  (try dsimp only at hSw)
  go_simp
  (try with_reducible rfl)
 (try go_frame)
 refine wpAnyH_take (i := 1) (oi := _) (v := ?_) rfl (by kernel_rfl) (by kernel_rfl) (by kernel_rfl) (fun _ _ _ h => h) (Or.inl ⟨by rfl, ?_⟩) (by assumption) ?_
 rotate_left
 ·intro w hSw
  (try dsimp only at hSw)
  go_simp
  (try with_reducible rfl)
 (try go_frame)
 refine wpAnyH_take (i := 2) (oi := _) (v := ?_) rfl (by kernel_rfl) (by kernel_rfl) (by kernel_rfl) (fun _ _ _ h => h) (Or.inl ⟨by rfl, ?_⟩) (by assumption) ?_
 rotate_left
 ·intro w hSw
  (try dsimp only at hSw)
  go_simp
  (try with_reducible rfl)
 (try go_frame)
 refine wpAnyH_take (i := 3) (oi := _) (v := ?_) rfl (by kernel_rfl) (by kernel_rfl) (by kernel_rfl) (fun _ _ _ h => h) (Or.inl ⟨by rfl, ?_⟩) (by assumption) ?_
 rotate_left
 ·intro w hSw
  (try dsimp only at hSw)
  go_simp
  (try with_reducible rfl)
 (try go_frame)
 refine wpAnyH_take (i := 4) (oi := _) (v := ?_) rfl (by kernel_rfl) (by kernel_rfl) (by kernel_rfl) (fun _ _ _ h => h) (Or.inl ⟨by rfl, ?_⟩) (by assumption) ?_
 rotate_left
 ·intro w hSw
  (try dsimp only at hSw)
  go_simp
  (try with_reducible rfl)
 (try go_frame)
 refine wpAnyH_take (i := 5) (oi := _) (v := ?_) rfl (by kernel_rfl) (by kernel_rfl) (by kernel_rfl) (fun _ _ _ h => h) (Or.inl ⟨by rfl, ?_⟩) (by assumption) ?_
 rotate_left
 ·intro w hSw
  (try dsimp only at hSw)
  go_simp
  (try with_reducible rfl)
 (try go_frame)
 refine wpAnyH_take (i := 6) (oi := _) (v := ?_) rfl (by kernel_rfl) (by kernel_rfl) (by kernel_rfl) (fun _ _ _ h => h) (Or.inl ⟨by rfl, ?_⟩) (by assumption) ?_
 rotate_left
 ·intro w hSw
  (try dsimp only at hSw)
  go_simp
  (try with_reducible rfl)
 (try go_frame)
 refine wpAnyH_ready (rs := [7]) (by kernel_rfl) (by simp) ?_
 refine AllReadyH.cons (o := _) rfl (fun K hK => ?_) AllReadyH.nil
 go_simp
 refine (params_any c F B top st f n row k u _ (hide hF0.out.drew) (hide (hE.out.grown (grown_new _)).drew) hu hp pl hpl).mono ?_
 rintro e w2 ⟨⟨a2, cp, rfl, hI⟩, hg2, hF2⟩
 have HG2 : Hid (w.grownBy w2 (some F)) := grown_tr (grown_new _) (grown_drew hg2)
 have HS2 : Hid (∀ w3, w2.grownBy w3 (some F) → w3.cell? ⟨F, 1, none⟩ = some (.slice c.au c.m.units.length c.cu) → (w3.cell? ⟨F, 1, none⟩ = some (.slice (some ⟨b, off, none⟩) c.m.units.length c.cu) ∧ w3.cell? ⟨w.heap.size, 1, none⟩ = some (.int .i64 (k : Int)) ∧ w3.cell? ⟨b, off + k * 6 + 3, none⟩ = some (.int .i64 u.result))) := fun w3 hg3 h1 => ⟨by rw [h1, HA.out], (cell_eq (kept (grown_tr (grown_drew hg2) hg3) (by simp) (by omega)) _).trans d2, (cell_eq (kept (grown_tr (grown_drew hg2) hg3) (by simp; omega) (by omega)) _).trans d3⟩
 have HF2 := hide hF2
 have HI := hide hI
 refine hK.out _ _ (HS2.out w2 (grown_refl _ _) (fl_cells hF2.blk).2.1) (fun hHeld => ?_)
 clear hK hI hF2 hg2
 refine wpAnyH_ready (rs := [8]) (by kernel_rfl) (by simp) ?_
 refine AllReadyH.cons (o := _) rfl (fun K hK => ?_) AllReadyH.nil
 go_simp
 refine (turn_any c F B top st f n row (10 + (k : Int)) pl a2 cp _ HF2 (by omega) hpll HI (by have := HG2.out.size; omega) (hide (fun b off _ hb => by omega)) r hr).mono ?_
 rintro e w9 hS
 have HG9 : Hid (w.grownBy w9 (some F)) := grown_tr HG2.out hS.grown
 cases r with
 | error er =>
  obtain rfl := hS.no er rfl
  clear hS hK
  go_wp2
  exact ⟨rfl, SEnds.bad HG9.out rfl⟩
 | ok st9 =>
  obtain ⟨rfl, top9, hF9⟩ := hS.yes st9 rfl
  have HF9 := hide hF9
  refine hK.out _ _ (HS2.out w9 hS.grown (fl_cells HF9.out.blk).2.1) (fun hHeld => ?_)
  clear hK hS hF9
  refine wpAnyH_done (by kernel_rfl) ?_ _
  go_wp2
  go_end0
  exact SEnds.good HG9.out rfl HF9.out
theorem speak26 (c : FC) (F B : Nat) (top : Option Addr) (st : List Int) (f : Vf.Fl) (n : Int) (row : Value) (nn : Int) (k : Nat) (x : Vf.Bx) (hx : Hid (c.m.boxes[k]? = some x)) (w : World) (h : Hid (FlIn c w F top st f n row)) (hE : Hid (Env c B F w)) (hl : st.length ≤ 300) (r : Except Int (List Int)) (hr : Hid (r = Vf.takeR [x.ty] st)) :
  Calls Tryz.prog 90 #[.pointer (some ⟨F, 0, none⟩), .agg #[.int .i64 26, .int .i64 (k : Int), .int .i64 nn]] w fun e w' => SEnds c F f n row r w e w' := by
 have hlt := hE.out.lt
 have hBF := hE.out.base
 obtain ⟨i1, i2, b, off, ha, hb, b0, b1⟩ := hE.out.md.boxes k x hx.out
 have hku : k < c.m.boxes.length := (List.getElem?_eq_some_iff.1 hx.out).1
 have hk1 : (k : Int) < (c.m.boxes.length : Int) := by omega
 have hF0 := hide (h.out.alloc (insO 26 (k : Int) nn))
 have d1 : (w.alloc (insO 26 (k : Int) nn)).cell? ⟨F, 0, none⟩ = some (.slice (some ⟨b, off, none⟩) c.m.boxes.length c.cb) := by have := (fl_cells hF0.out.blk).1; rw [ha] at this; exact this
 have d2 : (w.alloc (insO 26 (k : Int) nn)).cell? ⟨w.heap.size, 1, none⟩ = some (.int .i64 (k : Int)) := (ins_cells (alloc_at w _)).2.1
 have d3 : (w.alloc (insO 26 (k : Int) nn)).cell? ⟨b, off + k * 2, none⟩ = some (.int .i64 x.ty) := (cell_new _ _ (by omega)).trans b0
 have HA := hide ha
 have HI1 := hide i1
 clear b0 b1 ha i1 i2
 have HS2 : Hid (∀ w3, (w.alloc (insO 26 (k : Int) nn)).grownBy w3 (some F) → w3.cell? ⟨F, 0, none⟩ = some (.slice c.ab c.m.boxes.length c.cb) → (w3.cell? ⟨F, 0, none⟩ = some (.slice (some ⟨b, off, none⟩) c.m.boxes.length c.cb) ∧ w3.cell? ⟨w.heap.size, 1, none⟩ = some (.int .i64 (k : Int)) ∧ w3.cell? ⟨b, off + k * 2, none⟩ = some (.int .i64 x.ty))) := fun w3 hg3 h1 => ⟨by rw [h1, HA.out], (cell_eq (kept hg3 (by simp) (by omega)) _).trans d2, (cell_eq (kept hg3 (by simp; omega) (by omega)) _).trans d3⟩
 go_enter Tryz.func90, Tryz.ntmps90
 go_wp2_with fail
 refine wp_region_held_drew (S := fun w' => w'.cell? ⟨F, 0, none⟩ = some (.slice (some ⟨b, off, none⟩) c.m.boxes.length c.cb) ∧ w'.cell? ⟨w.heap.size, 1, none⟩ = some (.int .i64 (k : Int)) ∧ w'.cell? ⟨b, off + k * 2, none⟩ = some (.int .i64 x.ty)) (by kernel_rfl) ⟨d1, d2, d3⟩ (fun hHeld => ?_)
 refine wpAnyH_take (i := 0) (oi := _) (v := ?_) rfl (by kernel_rfl) (by kernel_rfl) (by kernel_rfl) (fun _ _ _ h => h) (Or.inl ⟨by rfl, ?_⟩) (by assumption) ?_
 rotate_left
 ·intro w hSw
  (try dsimp only at hSw)
  go_simp
  (try with_reducible rfl)
 (try go_frame)
 refine wpAnyH_take (i := 1) (oi := _) (v := ?_) rfl (by kernel_rfl) (by kernel_rfl) (by kernel_rfl) (fun _ _ _ h => h) (Or.inl ⟨by rfl, ?_⟩) (by assumption) ?_
 rotate_left
 ·intro w hSw
  (try dsimp only at hSw)
  go_simp
  (try with_reducible rfl)
 (try go_frame)
 refine wpAnyH_take (i := 2) (oi := _) (v := ?_) rfl (by kernel_rfl) (by kernel_rfl) (by kernel_rfl) (fun _ _ _ h => h) (Or.inl ⟨by rfl, ?_⟩) (by assumption) ?_
 rotate_left
 ·intro w hSw
  (try dsimp only at hSw)
  go_simp
  (try with_reducible rfl)
 (try go_frame)
 refine wpAnyH_take (i := 3) (oi := _) (v := ?_) rfl (by kernel_rfl) (by kernel_rfl) (by kernel_rfl) (fun _ _ _ h => h) (Or.inl ⟨by rfl, ?_⟩) (by assumption) ?_
 rotate_left
 ·intro w hSw
  (try dsimp only at hSw)
  go_simp
  (try with_reducible rfl)
 (try go_frame)
 refine wpAnyH_take (i := 4) (oi := _) (v := ?_) rfl (by kernel_rfl) (by kernel_rfl) (by kernel_rfl) (fun _ _ _ h => h) (Or.inl ⟨by rfl, ?_⟩) (by assumption) ?_
 rotate_left
 ·intro w hSw
  (try dsimp only at hSw)
  go_simp
  (try with_reducible rfl)
 (try go_frame)
 refine wpAnyH_take (i := 5) (oi := _) (v := ?_) rfl (by kernel_rfl) (by kernel_rfl) (by kernel_rfl) (fun _ _ _ h => h) (Or.inl ⟨by rfl, ?_⟩) (by assumption) ?_
 rotate_left
 ·intro w hSw
  (try dsimp only at hSw)
  go_simp
  (try with_reducible rfl)
 (try go_frame)
 refine wpAnyH_take (i := 6) (oi := _) (v := ?_) rfl (by kernel_rfl) (by kernel_rfl) (by kernel_rfl) (fun _ _ _ h => h) (Or.inl ⟨by rfl, ?_⟩) (by assumption) ?_
 rotate_left
 ·intro w hSw
  (try dsimp only at hSw)
  go_simp
  (try with_reducible rfl)
 (try go_frame)
 refine wpAnyH_take (i := 7) (oi := _) (v := ?_) rfl (by kernel_rfl) (by kernel_rfl) (by kernel_rfl) (fun _ _ _ h => h) (Or.inl ⟨by rfl, ?_⟩) (by assumption) ?_
 rotate_left
 ·intro w hSw
  (try dsimp only at hSw)
  go_simp
  (try with_reducible rfl)
 (try go_frame)
 refine wpAnyH_take (i := 8) (oi := _) (v := ?_) rfl (by kernel_rfl) (by kernel_rfl) (by kernel_rfl) (fun _ _ _ h => h) (Or.inl ⟨by rfl, ?_⟩) (by assumption) ?_
 rotate_left
 ·intro w hSw
  (try dsimp only at hSw)
  go_simp
  (try with_reducible rfl)
 (try go_frame)
 refine wpAnyH_take (i := 9) (oi := _) (v := ?_) rfl (by kernel_rfl) (by kernel_rfl) (by kernel_rfl) (fun _ _ _ h => h) (Or.inl ⟨by rfl, ?_⟩) (by assumption) ?_
 rotate_left
 ·intro w hSw
  (try dsimp only at hSw)
  go_simp
  (try with_reducible rfl)
 (try go_frame)
 refine wpAnyH_take (i := 10) (oi := _) (v := ?_) rfl (by kernel_rfl) (by kernel_rfl) (by kernel_rfl) (fun _ _ _ h => h) (Or.inl ⟨by rfl, ?_⟩) (by assumption) ?_
 rotate_left
 ·intro w hSw
  (try dsimp only at hSw)
  go_simp
  (try with_reducible rfl)
 (try go_frame)
 refine wpAnyH_take (i := 11) (oi := _) (v := ?_) rfl (by kernel_rfl) (by kernel_rfl) (by kernel_rfl) (fun _ _ _ h => h) (Or.inl ⟨by rfl, ?_⟩) (by assumption) ?_
 rotate_left
 ·intro w hSw
  (try dsimp only at hSw)
  go_simp
  (try with_reducible rfl)
 (try go_frame)
 refine wpAnyH_take (i := 12) (oi := _) (v := ?_) rfl (by kernel_rfl) (by kernel_rfl) (by kernel_rfl) (fun _ _ _ h => h) (Or.inl ⟨by rfl, ?_⟩) (by assumption) ?_
 rotate_left
 ·intro w hSw
  (try dsimp only at hSw)
  go_simp
  (try with_reducible rfl)
 (try go_frame)
 refine wpAnyH_ready (rs := [13]) (by kernel_rfl) (by simp) ?_
 refine AllReadyH.cons (o := _) rfl (fun K hK => ?_) AllReadyH.nil
 go_simp
 have HF1 : Hid (FlIn c ((w.alloc (insO 26 (k : Int) nn)).drew.alloc (.cells #[.int .i64 x.ty] 3)) F top st f n row) := hF0.out.drew.alloc _
 have HG1 : Hid (w.grownBy ((w.alloc (insO 26 (k : Int) nn)).drew.alloc (.cells #[.int .i64 x.ty] 3)) (some F)) := grown_alloc (grown_drew2 (grown_new _)) _
 refine hK.out _ _ (HS2.out _ (grown_alloc (grown_drew2 (grown_refl _ _)) _) (fl_cells HF1.out.blk).1) (fun hHeld => ?_)
 clear hK
 refine wpAnyH_ready (rs := [14]) (by kernel_rfl) (by simp) ?_
 refine AllReadyH.cons (o := _) rfl (fun K hK => ?_) AllReadyH.nil
 go_simp
 refine (take1_any c F (w.heap.size + 1) top st f n row x.ty _ HF1 (by omega) HI1 (by have := heap_alloc_new (w.alloc (insO 26 (k : Int) nn)).drew (.cells #[.int .i64 x.ty] 3); simpa using this) (by omega) r hr).mono ?_
 rintro e w9 hS
 have HG9 : Hid (w.grownBy w9 (some F)) := grown_tr HG1.out hS.grown
 cases r with
 | error er =>
  obtain rfl := hS.no er rfl
  clear hS hK
  go_wp2
  exact ⟨rfl, SEnds.bad HG9.out rfl⟩
 | ok st9 =>
  obtain ⟨rfl, top9, hF9⟩ := hS.yes st9 rfl
  have HF9 := hide hF9
  refine hK.out _ _ (HS2.out w9 (grown_tr (grown_alloc (grown_drew2 (grown_refl _ _)) _) hS.grown) (fl_cells HF9.out.blk).1) (fun hHeld => ?_)
  clear hK hS hF9
  refine wpAnyH_done (by kernel_rfl) ?_ _
  go_wp2
  go_end0
  exact SEnds.good HG9.out rfl HF9.out
theorem speak27 (c : FC) (F B : Nat) (top : Option Addr) (st : List Int) (f : Vf.Fl) (n : Int) (row : Value) (nn : Int) (k : Nat) (x : Vf.Bx) (hx : Hid (c.m.boxes[k]? = some x)) (w : World) (h : Hid (FlIn c w F top st f n row)) (hE : Hid (Env c B F w)) (hl : st.length ≤ 300) (r : Except Int (List Int)) (hr : Hid (r = Vf.put x.ty st)) :
  Calls Tryz.prog 90 #[.pointer (some ⟨F, 0, none⟩), .agg #[.int .i64 27, .int .i64 (k : Int), .int .i64 nn]] w fun e w' => SEnds c F f n row r w e w' := by
 have hlt := hE.out.lt
 have hBF := hE.out.base
 obtain ⟨i1, i2, b, off, ha, hb, b0, b1⟩ := hE.out.md.boxes k x hx.out
 have hku : k < c.m.boxes.length := (List.getElem?_eq_some_iff.1 hx.out).1
 have hk1 : (k : Int) < (c.m.boxes.length : Int) := by omega
 have hF0 := hide (h.out.alloc (insO 27 (k : Int) nn))
 have d1 : (w.alloc (insO 27 (k : Int) nn)).cell? ⟨F, 0, none⟩ = some (.slice (some ⟨b, off, none⟩) c.m.boxes.length c.cb) := by have := (fl_cells hF0.out.blk).1; rw [ha] at this; exact this
 have d2 : (w.alloc (insO 27 (k : Int) nn)).cell? ⟨w.heap.size, 1, none⟩ = some (.int .i64 (k : Int)) := (ins_cells (alloc_at w _)).2.1
 have d3 : (w.alloc (insO 27 (k : Int) nn)).cell? ⟨b, off + k * 2, none⟩ = some (.int .i64 x.ty) := (cell_new _ _ (by omega)).trans b0
 have HA := hide ha
 have HI1 := hide i1
 clear b0 b1 ha i1 i2
 have HS2 : Hid (∀ w3, (w.alloc (insO 27 (k : Int) nn)).grownBy w3 (some F) → w3.cell? ⟨F, 0, none⟩ = some (.slice c.ab c.m.boxes.length c.cb) → (w3.cell? ⟨F, 0, none⟩ = some (.slice (some ⟨b, off, none⟩) c.m.boxes.length c.cb) ∧ w3.cell? ⟨w.heap.size, 1, none⟩ = some (.int .i64 (k : Int)) ∧ w3.cell? ⟨b, off + k * 2, none⟩ = some (.int .i64 x.ty))) := fun w3 hg3 h1 => ⟨by rw [h1, HA.out], (cell_eq (kept hg3 (by simp) (by omega)) _).trans d2, (cell_eq (kept hg3 (by simp; omega) (by omega)) _).trans d3⟩
 go_enter Tryz.func90, Tryz.ntmps90
 go_wp2_with fail
 refine wp_region_held_drew (S := fun w' => w'.cell? ⟨F, 0, none⟩ = some (.slice (some ⟨b, off, none⟩) c.m.boxes.length c.cb) ∧ w'.cell? ⟨w.heap.size, 1, none⟩ = some (.int .i64 (k : Int)) ∧ w'.cell? ⟨b, off + k * 2, none⟩ = some (.int .i64 x.ty)) (by kernel_rfl) ⟨d1, d2, d3⟩ (fun hHeld => ?_)
 refine wpAnyH_take (i := 0) (oi := _) (v := ?_) rfl (by kernel_rfl) (by kernel_rfl) (by kernel_rfl) (fun _ _ _ h => h) (Or.inl ⟨by rfl, ?_⟩) (by assumption) ?_
 rotate_left
 ·intro w hSw
  (try dsimp only at hSw)
  go_simp
  (try with_reducible rfl)
 (try go_frame)
 refine wpAnyH_take (i := 1) (oi := _) (v := ?_) rfl (by kernel_rfl) (by kernel_rfl) (by kernel_rfl) (fun _ _ _ h => h) (Or.inl ⟨by rfl, ?_⟩) (by assumption) ?_
 rotate_left
 ·intro w hSw
  (try dsimp only at hSw)
  go_simp
  (try with_reducible rfl)
 (try go_frame)
 refine wpAnyH_take (i := 2) (oi := _) (v := ?_) rfl (by kernel_rfl) (by kernel_rfl) (by kernel_rfl) (fun _ _ _ h => h) (Or.inl ⟨by rfl, ?_⟩) (by assumption) ?_
 rotate_left
 ·intro w hSw
  (try dsimp only at hSw)
  go_simp
  (try with_reducible rfl)
 (try go_frame)
 refine wpAnyH_take (i := 3) (oi := _) (v := ?_) rfl (by kernel_rfl) (by kernel_rfl) (by kernel_rfl) (fun _ _ _ h => h) (Or.inl ⟨by rfl, ?_⟩) (by assumption) ?_
 rotate_left
 ·intro w hSw
  (try dsimp only at hSw)
  go_simp
  (try with_reducible rfl)
 (try go_frame)
 refine wpAnyH_take (i := 4) (oi := _) (v := ?_) rfl (by kernel_rfl) (by kernel_rfl) (by kernel_rfl) (fun _ _ _ h => h) (Or.inl ⟨by rfl, ?_⟩) (by assumption) ?_
 rotate_left
 ·intro w hSw
  (try dsimp only at hSw)
  go_simp
  (try with_reducible rfl)
 (try go_frame)
 refine wpAnyH_take (i := 5) (oi := _) (v := ?_) rfl (by kernel_rfl) (by kernel_rfl) (by kernel_rfl) (fun _ _ _ h => h) (Or.inl ⟨by rfl, ?_⟩) (by assumption) ?_
 rotate_left
 ·intro w hSw
  (try dsimp only at hSw)
  go_simp
  (try with_reducible rfl)
 (try go_frame)
 refine wpAnyH_take (i := 6) (oi := _) (v := ?_) rfl (by kernel_rfl) (by kernel_rfl) (by kernel_rfl) (fun _ _ _ h => h) (Or.inl ⟨by rfl, ?_⟩) (by assumption) ?_
 rotate_left
 ·intro w hSw
  (try dsimp only at hSw)
  go_simp
  (try with_reducible rfl)
 (try go_frame)
 refine wpAnyH_take (i := 7) (oi := _) (v := ?_) rfl (by kernel_rfl) (by kernel_rfl) (by kernel_rfl) (fun _ _ _ h => h) (Or.inl ⟨by rfl, ?_⟩) (by assumption) ?_
 rotate_left
 ·intro w hSw
  (try dsimp only at hSw)
  go_simp
  (try with_reducible rfl)
 (try go_frame)
 refine wpAnyH_take (i := 8) (oi := _) (v := ?_) rfl (by kernel_rfl) (by kernel_rfl) (by kernel_rfl) (fun _ _ _ h => h) (Or.inl ⟨by rfl, ?_⟩) (by assumption) ?_
 rotate_left
 ·intro w hSw
  (try dsimp only at hSw)
  go_simp
  (try with_reducible rfl)
 (try go_frame)
 refine wpAnyH_take (i := 9) (oi := _) (v := ?_) rfl (by kernel_rfl) (by kernel_rfl) (by kernel_rfl) (fun _ _ _ h => h) (Or.inl ⟨by rfl, ?_⟩) (by assumption) ?_
 rotate_left
 ·intro w hSw
  (try dsimp only at hSw)
  go_simp
  (try with_reducible rfl)
 (try go_frame)
 refine wpAnyH_take (i := 10) (oi := _) (v := ?_) rfl (by kernel_rfl) (by kernel_rfl) (by kernel_rfl) (fun _ _ _ h => h) (Or.inl ⟨by rfl, ?_⟩) (by assumption) ?_
 rotate_left
 ·intro w hSw
  (try dsimp only at hSw)
  go_simp
  (try with_reducible rfl)
 (try go_frame)
 refine wpAnyH_take (i := 11) (oi := _) (v := ?_) rfl (by kernel_rfl) (by kernel_rfl) (by kernel_rfl) (fun _ _ _ h => h) (Or.inl ⟨by rfl, ?_⟩) (by assumption) ?_
 rotate_left
 ·intro w hSw
  (try dsimp only at hSw)
  go_simp
  (try with_reducible rfl)
 (try go_frame)
 refine wpAnyH_take (i := 12) (oi := _) (v := ?_) rfl (by kernel_rfl) (by kernel_rfl) (by kernel_rfl) (fun _ _ _ h => h) (Or.inl ⟨by rfl, ?_⟩) (by assumption) ?_
 rotate_left
 ·intro w hSw
  (try dsimp only at hSw)
  go_simp
  (try with_reducible rfl)
 (try go_frame)
 refine wpAnyH_ready (rs := [13]) (by kernel_rfl) (by simp) ?_
 refine AllReadyH.cons (o := _) rfl (fun K hK => ?_) AllReadyH.nil
 go_simp
 have HG1 : Hid (w.grownBy (w.alloc (insO 27 (k : Int) nn)) (some F)) := grown_new _
 refine (put_any c F top st f n row x.ty _ (hide hF0.out.drew) (by omega) r hr).mono ?_
 rintro e w9 hS
 have HG9 : Hid (w.grownBy w9 (some F)) := grown_tr HG1.out (grown_drew hS.grown)
 cases r with
 | error er =>
  obtain rfl := hS.no er rfl
  clear hS hK
  go_wp2
  exact ⟨rfl, SEnds.bad HG9.out rfl⟩
 | ok st9 =>
  obtain ⟨rfl, top9, hF9⟩ := hS.yes st9 rfl
  have HF9 := hide hF9
  refine hK.out _ _ (HS2.out w9 (grown_drew hS.grown) (fl_cells HF9.out.blk).1) (fun hHeld => ?_)
  clear hK hS hF9
  refine wpAnyH_done (by kernel_rfl) ?_ _
  go_wp2
  go_end0
  exact SEnds.good HG9.out rfl HF9.out
theorem speak30 (c : FC) (F B : Nat) (top : Option Addr) (st : List Int) (f : Vf.Fl) (n : Int) (row : Value) (a nn : Int) (hgn : Hid (Gens c.m st)) (hun : c.m.units.length ≤ 30) (w : World) (h : Hid (FlIn c w F top st f n row)) (hE : Hid (Env c B F w)) (hl : st.length ≤ 300) (r : Except Int (List Int)) (hr : Hid (r = Vf.resume c.m st)) :
  Calls Tryz.prog 90 #[.pointer (some ⟨F, 0, none⟩), .agg #[.int .i64 30, .int .i64 a, .int .i64 nn]] w fun e w' => SEnds c F f n row r w e w' := by
 have hlt := hE.out.lt
 have hBF := hE.out.base
 have HF0 := hide (h.out.alloc (insO 30 a nn))
 have HG0 : Hid (w.grownBy (w.alloc (insO 30 a nn)) (some F)) := grown_new _
 go_enter Tryz.func90, Tryz.ntmps90
 go_wp2_with fail
 refine (resume_any c F B top st f n row _ HF0 (hide (hE.out.grown (grown_new _))) (by omega) hgn hun r hr).mono ?_
 rintro e w9 hS
 have HG9 : Hid (w.grownBy w9 (some F)) := grown_tr HG0.out hS.grown
 cases r with
 | error er =>
  obtain rfl := hS.no er rfl
  clear hS
  go_wp2
  exact ⟨rfl, SEnds.bad HG9.out rfl⟩
 | ok st9 =>
  obtain ⟨rfl, top9, hF9⟩ := hS.yes st9 rfl
  have HF9 := hide hF9
  clear hS hF9
  go_wp2
  go_end0
  exact SEnds.good HG9.out rfl HF9.out
theorem popGen_len {st st' : List Int} {g : Int} (h : Vf.popGen st = .ok (g, st')) (hl : st.length ≤ 300) : st'.length < 1000 := by
 cases st with
 | nil => cases h
 | cons y st2 =>
  unfold Vf.popGen Vf.pop Vf.andThen at h
  simp only at h
  split at h
  ·cases h; simp at hl; omega
  ·cases h
theorem speak32 (c : FC) (F B : Nat) (top : Option Addr) (st : List Int) (f : Vf.Fl) (n : Int) (row : Value) (a nn : Int) (hgn : Hid (Gens c.m st)) (hun : c.m.units.length ≤ 30) (w : World) (h : Hid (FlIn c w F top st f n row)) (hE : Hid (Env c B F w)) (hl : st.length ≤ 300) (r : Except Int (List Int)) (hr : Hid (r = Vf.andThen (Vf.popGen st) fun g => Vf.put 2 g.2)) :
  Calls Tryz.prog 90 #[.pointer (some ⟨F, 0, none⟩), .agg #[.int .i64 32, .int .i64 a, .int .i64 nn]] w fun e w' => SEnds c F f n row r w e w' := by
 have hlt := hE.out.lt
 have hBF := hE.out.base
 have HF0 := hide (h.out.alloc (insO 32 a nn))
 have HG0 : Hid (w.grownBy (w.alloc (insO 32 a nn)) (some F)) := grown_new _
 obtain ⟨r1, hr1⟩ : ∃ r1, r1 = Vf.popGen st := ⟨_, rfl⟩
 have HR1 := hide hr1
 have HR : Hid (r = Vf.andThen r1 fun g => Vf.put 2 g.2) := by unfold Hid; rw [hr.out, hr1]
 have HL1 : Hid (∀ g st', r1 = .ok (g, st') → st'.length < 1000) := fun g st' e => by
  rw [hr1] at e
  exact popGen_len e hl
 clear hr hr1
 go_enter Tryz.func90, Tryz.ntmps90
 go_wp2_with fail
 refine (takeStarted_any c F B top st f n row _ HF0 (hide (hE.out.grown (grown_new _))) (by omega) hgn hun r1 HR1).mono ?_
 rintro e w1 hV
 have HG1 : Hid (w.grownBy w1 (some F)) := grown_tr HG0.out hV.grown
 cases r1 with
 | error er =>
  obtain rfl := hV.no er rfl
  have HE : Hid (r = .error er) := HR.out
  clear hV
  go_wp2
  exact ⟨rfl, SEnds.bad HG1.out HE.out⟩
 | ok gs =>
  obtain ⟨g, st1⟩ := gs
  obtain ⟨⟨u, al, ac, cl, cc, hu, rfl⟩, top1, hF1⟩ := hV.yes g st1 rfl
  have HF1 := hide hF1
  have hl1 := HL1.out g st1 rfl
  have HR2 : Hid (r = Vf.put 2 st1) := HR.out
  clear hV hF1 hu HR
  go_wp2_with fail
  refine (put_any c F top1 st1 f n row 2 _ HF1 hl1 r HR2).mono ?_
  rintro e w9 hS
  have HG9 : Hid (w.grownBy w9 (some F)) := grown_tr HG1.out hS.grown
  cases r with
  | error er =>
   obtain rfl := hS.no er rfl
   clear hS
   go_wp2
   exact ⟨rfl, SEnds.bad HG9.out rfl⟩
  | ok st9 =>
   obtain ⟨rfl, top9, hF9⟩ := hS.yes st9 rfl
   have HF9 := hide hF9
   clear hS hF9
   go_wp2
   go_end0
   exact SEnds.good HG9.out rfl HF9.out
theorem speak31 (c : FC) (F B : Nat) (top : Option Addr) (st : List Int) (f : Vf.Fl) (n : Int) (row : Value) (a nn : Int) (w : World) (h : Hid (FlIn c w F top st f n row)) (hE : Hid (Env c B F w)) (hl : st.length ≤ 300) (r : Except Int (List Int)) (hr : Hid (r = Vf.andThen (Vf.must (c.u.kind == 3) 8 st) (Vf.turn c.u.takes [c.u.result]))) :
  Calls Tryz.prog 90 #[.pointer (some ⟨F, 0, none⟩), .agg #[.int .i64 31, .int .i64 a, .int .i64 nn]] w fun e w' => SEnds c F f n row r w e w' := by
 have hlt := hE.out.lt
 have hBF := hE.out.base
 have HF0 := hide (h.out.alloc (insO 31 a nn))
 have HG0 : Hid (w.grownBy (w.alloc (insO 31 a nn)) (some F)) := grown_new _
 have c14 := (fl_cells4 HF0.out.blk).1
 have c2 := (fl_cells HF0.out.blk).2.2.1
 obtain ⟨bb, hbb⟩ : ∃ bb, bb = (c.u.kind == 3) := ⟨_, rfl⟩
 cases bb with
 | false =>
  have HE : Hid (r = .error 8) := by unfold Hid; rw [hr.out, ← hbb]; rfl
  have e1 : (c.u.kind == 3) = false := hbb.symm
  clear hbb hr
  go_enter Tryz.func90, Tryz.ntmps90
  go_wp2_with fail
  refine (must_any F false 8 n _ c14).mono ?_
  rintro e w1 ⟨he, rfl⟩
  obtain rfl : e = .panicked [fltE 8 n] := he
  clear c14 c2
  go_wp2
  exact ⟨rfl, SEnds.bad HG0.out HE.out⟩
 | true =>
  have HR : Hid (r = Vf.turn c.u.takes [c.u.result] st) := by unfold Hid; rw [hr.out, ← hbb]; rfl
  have e1 : (c.u.kind == 3) = true := hbb.symm
  clear hbb hr
  go_enter Tryz.func90, Tryz.ntmps90
  go_wp2_with fail
  refine (must_any F true 8 n _ c14).mono ?_
  rintro e w1 ⟨he, hw1⟩
  subst hw1
  obtain rfl : e = .returned (.tuple #[]) := he
  clear c14 c2
  obtain ⟨_, _, _, _, _, d5, d6, _⟩ := fl_cells HF0.out.blk
  have HI1 : Hid (I64 c.u.result) := hE.out.un.nums.2.2.1
  go_wp2_with fail
  refine wp_region_held_drew (S := fun w' => w'.cell? ⟨F, 5, none⟩ = some (.int .i64 c.u.result) ∧ w'.cell? ⟨F, 6, none⟩ = some (.int .i64 c.u.takes)) (by kernel_rfl) ⟨d5, d6⟩ (fun hHeld => ?_)
  refine wpAnyH_take (i := 0) (oi := _) (v := ?_) rfl (by kernel_rfl) (by kernel_rfl) (by kernel_rfl) (fun _ _ _ h => h) (Or.inl ⟨by rfl, ?_⟩) (by assumption) ?_
  rotate_left
  ·intro w hSw
   (try dsimp only at hSw)
   go_simp
   (try with_reducible rfl)
  (try go_frame)
  refine wpAnyH_take (i := 1) (oi := _) (v := ?_) rfl (by kernel_rfl) (by kernel_rfl) (by kernel_rfl) (fun _ _ _ h => h) (Or.inl ⟨by rfl, ?_⟩) (by assumption) ?_
  rotate_left
  ·intro w hSw
   (try dsimp only at hSw)
   go_simp
   (try with_reducible rfl)
  (try go_frame)
  refine wpAnyH_take (i := 2) (oi := _) (v := ?_) rfl (by kernel_rfl) (by kernel_rfl) (by kernel_rfl) (fun _ _ _ h => h) (Or.inl ⟨by rfl, ?_⟩) (by assumption) ?_
  rotate_left
  ·intro w hSw
   (try dsimp only at hSw)
   go_simp
   (try with_reducible rfl)
  (try go_frame)
  refine wpAnyH_take (i := 3) (oi := _) (v := ?_) rfl (by kernel_rfl) (by kernel_rfl) (by kernel_rfl) (fun _ _ _ h => h) (Or.inl ⟨by rfl, ?_⟩) (by assumption) ?_
  rotate_left
  ·intro w hSw
   (try dsimp only at hSw)
   go_simp
   (try with_reducible rfl)
  (try go_frame)
  refine wpAnyH_take (i := 4) (oi := _) (v := ?_) rfl (by kernel_rfl) (by kernel_rfl) (by kernel_rfl) (fun _ _ _ h => h) (Or.inl ⟨by rfl, ?_⟩) (by assumption) ?_
  rotate_left
  ·intro w hSw
   (try dsimp only at hSw)
   go_simp
   (try with_reducible rfl)
  (try go_frame)
  refine wpAnyH_take (i := 5) (oi := _) (v := ?_) rfl (by kernel_rfl) (by kernel_rfl) (by kernel_rfl) (fun _ _ _ h => h) (Or.inl ⟨by rfl, ?_⟩) (by assumption) ?_
  rotate_left
  ·intro w hSw
   (try dsimp only at hSw)
   go_simp
   (try with_reducible rfl)
  (try go_frame)
  refine wpAnyH_take (i := 6) (oi := _) (v := ?_) rfl (by kernel_rfl) (by kernel_rfl) (by kernel_rfl) (fun _ _ _ h => h) (Or.inl ⟨by rfl, ?_⟩) (by assumption) ?_
  rotate_left
  ·intro w hSw
   (try dsimp only at hSw)
   go_simp
   (try with_reducible rfl)
  (try go_frame)
  refine wpAnyH_take (i := 7) (oi := _) (v := ?_) rfl (by kernel_rfl) (by kernel_rfl) (by kernel_rfl) (fun _ _ _ h => h) (Or.inl ⟨by rfl, ?_⟩) (by assumption) ?_
  rotate_left
  ·intro w hSw
   (try dsimp only at hSw)
   go_simp
   (try with_reducible rfl)
  (try go_frame)
  refine wpAnyH_take (i := 8) (oi := _) (v := ?_) rfl (by kernel_rfl) (by kernel_rfl) (by kernel_rfl) (fun _ _ _ h => h) (Or.inl ⟨by rfl, ?_⟩) (by assumption) ?_
  rotate_left
  ·intro w hSw
   (try dsimp only at hSw)
   go_simp
   (try with_reducible rfl)
  (try go_frame)
  refine wpAnyH_take (i := 9) (oi := _) (v := ?_) rfl (by kernel_rfl) (by kernel_rfl) (by kernel_rfl) (fun _ _ _ h => h) (Or.inl ⟨by rfl, ?_⟩) (by assumption) ?_
  rotate_left
  ·intro w hSw
   (try dsimp only at hSw)
   go_simp
   (try with_reducible rfl)
  (try go_frame)
  refine wpAnyH_take (i := 10) (oi := _) (v := ?_) rfl (by kernel_rfl) (by kernel_rfl) (by kernel_rfl) (fun _ _ _ h => h) (Or.inl ⟨by rfl, ?_⟩) (by assumption) ?_
  rotate_left
  ·intro w hSw
   (try dsimp only at hSw)
   go_simp
   (try with_reducible rfl)
  (try go_frame)
  refine wpAnyH_take (i := 11) (oi := _) (v := ?_) rfl (by kernel_rfl) (by kernel_rfl) (by kernel_rfl) (fun _ _ _ h => h) (Or.inl ⟨by rfl, ?_⟩) (by assumption) ?_
  rotate_left
  ·intro w hSw
   (try dsimp only at hSw)
   go_simp
   (try with_reducible rfl)
  (try go_frame)
  refine wpAnyH_take (i := 12) (oi := _) (v := ?_) rfl (by kernel_rfl) (by kernel_rfl) (by kernel_rfl) (fun _ _ _ h => h) (Or.inl ⟨by rfl, ?_⟩) (by assumption) ?_
  rotate_left
  ·intro w hSw
   (try dsimp only at hSw)
   go_simp
   (try with_reducible rfl)
  (try go_frame)
  refine wpAnyH_ready (rs := [13]) (by kernel_rfl) (by simp) ?_
  refine AllReadyH.cons (o := _) rfl (fun K hK => ?_) AllReadyH.nil
  go_simp
  have HF1 : Hid (FlIn c ((w.alloc (insO 31 a nn)).drew.alloc (.cells #[.int .i64 c.u.result] 3)) F top st f n row) := HF0.out.drew.alloc _
  have HG1 : Hid (w.grownBy ((w.alloc (insO 31 a nn)).drew.alloc (.cells #[.int .i64 c.u.result] 3)) (some F)) := grown_alloc (grown_drew2 (grown_new _)) _
  refine hK.out _ _ (⟨(fl_cells HF1.out.blk).2.2.2.2.2.1, (fl_cells HF1.out.blk).2.2.2.2.2.2.1⟩) (fun hHeld => ?_)
  clear hK
  refine wpAnyH_ready (rs := [14]) (by kernel_rfl) (by simp) ?_
  refine AllReadyH.cons (o := _) rfl (fun K hK => ?_) AllReadyH.nil
  go_simp
  refine (turn1_any c F (w.heap.size + 1) top st f n row c.u.takes c.u.result _ HF1 (by omega) HI1 (by have := heap_alloc_new (w.alloc (insO 31 a nn)).drew (.cells #[.int .i64 c.u.result] 3); simpa using this) (by omega) r HR).mono ?_
  rintro e w9 hS
  have HG9 : Hid (w.grownBy w9 (some F)) := grown_tr HG1.out hS.grown
  cases r with
  | error er =>
   obtain rfl := hS.no er rfl
   clear hS hK
   go_wp2
   exact ⟨rfl, SEnds.bad HG9.out rfl⟩
  | ok st9 =>
   obtain ⟨rfl, top9, hF9⟩ := hS.yes st9 rfl
   have HF9 := hide hF9
   refine hK.out _ _ (⟨(fl_cells HF9.out.blk).2.2.2.2.2.1, (fl_cells HF9.out.blk).2.2.2.2.2.2.1⟩) (fun hHeld => ?_)
   clear hK hS hF9
   refine wpAnyH_done (by kernel_rfl) ?_ _
   go_wp2
   go_end0
   exact SEnds.good HG9.out rfl HF9.out
theorem speak25 (c : FC) (F B : Nat) (top : Option Addr) (st : List Int) (f : Vf.Fl) (n : Int) (row : Value) (a nn : Int) (w : World) (h : Hid (FlIn c w F top st f n row)) (hE : Hid (Env c B F w)) (hl : st.length ≤ 300) (r : Except Int (List Int)) (hr : Hid (r = Vf.andThen (Vf.must (c.u.kind != 2) 8 st) fun st => Vf.must (st.length == 0) 12 st)) :
  Calls Tryz.prog 90 #[.pointer (some ⟨F, 0, none⟩), .agg #[.int .i64 25, .int .i64 a, .int .i64 nn]] w fun e w' => SEnds c F f n row r w e w' := by
 have hlt := hE.out.lt
 have hBF := hE.out.base
 have HF0 := hide (h.out.alloc (insO 25 a nn))
 have HG0 : Hid (w.grownBy (w.alloc (insO 25 a nn)) (some F)) := grown_new _
 have c14 := (fl_cells4 HF0.out.blk).1
 have c2 := (fl_cells HF0.out.blk).2.2.1
 obtain ⟨bb, hbb⟩ : ∃ bb, bb = (c.u.kind != 2) := ⟨_, rfl⟩
 cases bb with
 | false =>
  have HE : Hid (r = .error 8) := by unfold Hid; rw [hr.out, ← hbb]; rfl
  have e1 : (c.u.kind != 2) = false := hbb.symm
  clear hbb hr
  go_enter Tryz.func90, Tryz.ntmps90
  go_wp2_with fail
  refine (must_any F false 8 n _ c14).mono ?_
  rintro e w1 ⟨he, rfl⟩
  obtain rfl : e = .panicked [fltE 8 n] := he
  clear c14 c2
  go_wp2
  exact ⟨rfl, SEnds.bad HG0.out HE.out⟩
 | true =>
  have HR : Hid (r = Vf.must (st.length == 0) 12 st) := by unfold Hid; rw [hr.out, ← hbb]; rfl
  have e1 : (c.u.kind != 2) = true := hbb.symm
  clear hbb hr
  go_enter Tryz.func90, Tryz.ntmps90
  go_wp2_with fail
  refine (must_any F true 8 n _ c14).mono ?_
  rintro e w1 ⟨he, hw1⟩
  subst hw1
  obtain rfl : e = .returned (.tuple #[]) := he
  clear c14 c2
  have c14 := (fl_cells4 HF0.out.blk).1
  have c9 := (fl_cells2 HF0.out.blk).2.1
  cases st with
  | nil =>
   have HE : Hid (r = .ok []) := HR.out
   go_wp2_with fail
   refine (must_any F true 12 n _ c14).mono ?_
   rintro e w8 ⟨he, hw8⟩
   subst hw8
   obtain rfl : e = .returned (.tuple #[]) := he
   clear c14 c9
   go_wp2
   go_end0
   exact SEnds.good HG0.out HE.out HF0.out
  | cons t9 st9 =>
   have HE : Hid (r = .error 12) := HR.out
   have e9 : (((t9 :: st9).length : Int) == 0) = false := by simp; omega
   obtain ⟨d9, hd9⟩ : ∃ d9 : Int, ((t9 :: st9).length : Int) = d9 := ⟨_, rfl⟩
   rw [hd9] at c9 e9
   clear hd9
   go_wp2_with fail
   refine (must_any F false 12 n _ c14).mono ?_
   rintro e w8 ⟨he, hw8⟩
   subst hw8
   obtain rfl : e = .panicked [fltE 12 n] := he
   clear c14 c9
   go_wp2
   exact ⟨rfl, SEnds.bad HG0.out HE.out⟩
theorem speak24 (c : FC) (F B : Nat) (top : Option Addr) (st : List Int) (f : Vf.Fl) (n : Int) (row : Value) (a nn : Int) (w : World) (h : Hid (FlIn c w F top st f n row)) (hE : Hid (Env c B F w)) (hl : st.length ≤ 300) (r : Except Int (List Int)) (hr : Hid (r = Vf.andThen (Vf.must (c.u.kind == 2) 8 st) fun st => Vf.andThen (Vf.takeR [c.u.result] st) fun st => Vf.must (st.length == 0) 12 st)) :
  Calls Tryz.prog 90 #[.pointer (some ⟨F, 0, none⟩), .agg #[.int .i64 24, .int .i64 a, .int .i64 nn]] w fun e w' => SEnds c F f n row r w e w' := by
 have hlt := hE.out.lt
 have hBF := hE.out.base
 have HF0 := hide (h.out.alloc (insO 24 a nn))
 have HG0 : Hid (w.grownBy (w.alloc (insO 24 a nn)) (some F)) := grown_new _
 have c14 := (fl_cells4 HF0.out.blk).1
 have c2 := (fl_cells HF0.out.blk).2.2.1
 obtain ⟨bb, hbb⟩ : ∃ bb, bb = (c.u.kind == 2) := ⟨_, rfl⟩
 cases bb with
 | false =>
  have HE : Hid (r = .error 8) := by unfold Hid; rw [hr.out, ← hbb]; rfl
  have e1 : (c.u.kind == 2) = false := hbb.symm
  clear hbb hr
  go_enter Tryz.func90, Tryz.ntmps90
  go_wp2_with fail
  refine (must_any F false 8 n _ c14).mono ?_
  rintro e w1 ⟨he, rfl⟩
  obtain rfl : e = .panicked [fltE 8 n] := he
  clear c14 c2
  go_wp2
  exact ⟨rfl, SEnds.bad HG0.out HE.out⟩
 | true =>
  have HR : Hid (r = Vf.andThen (Vf.takeR [c.u.result] st) fun st => Vf.must (st.length == 0) 12 st) := by unfold Hid; rw [hr.out, ← hbb]; rfl
  have e1 : (c.u.kind == 2) = true := hbb.symm
  clear hbb hr
  go_enter Tryz.func90, Tryz.ntmps90
  go_wp2_with fail
  refine (must_any F true 8 n _ c14).mono ?_
  rintro e w1 ⟨he, hw1⟩
  subst hw1
  obtain rfl : e = .returned (.tuple #[]) := he
  clear c14 c2
  obtain ⟨_, _, _, _, _, d5, _, _⟩ := fl_cells HF0.out.blk
  have HI1 : Hid (I64 c.u.result) := hE.out.un.nums.2.2.1
  obtain ⟨r1, hr1⟩ : ∃ r1, r1 = Vf.takeR [c.u.result] st := ⟨_, rfl⟩
  have HR1 := hide hr1
  have HRR : Hid (r = Vf.andThen r1 fun st => Vf.must (st.length == 0) 12 st) := by unfold Hid; rw [HR.out, hr1]
  clear HR hr1
  have HF1 : Hid (FlIn c ((w.alloc (insO 24 a nn)).alloc (.cells #[.int .i64 c.u.result] 3)) F top st f n row) := HF0.out.alloc _
  have HG1 : Hid (w.grownBy ((w.alloc (insO 24 a nn)).alloc (.cells #[.int .i64 c.u.result] 3)) (some F)) := grown_alloc (grown_new _) _
  go_wp2_with fail
  refine (take1_any c F (w.heap.size + 1) top st f n row c.u.result _ HF1 (by omega) HI1 (by have := heap_alloc_new (w.alloc (insO 24 a nn)) (.cells #[.int .i64 c.u.result] 3); simpa using this) (by omega) r1 HR1).mono ?_
  rintro e w2 hS
  have HG2 : Hid (w.grownBy w2 (some F)) := grown_tr HG1.out hS.grown
  cases r1 with
  | error er =>
   obtain rfl := hS.no er rfl
   have HE : Hid (r = .error er) := HRR.out
   clear hS d5
   go_wp2
   exact ⟨rfl, SEnds.bad HG2.out HE.out⟩
  | ok st1 =>
   obtain ⟨rfl, top1, hF1⟩ := hS.yes st1 rfl
   have HF2 := hide hF1
   have HR : Hid (r = Vf.must (st1.length == 0) 12 st1) := HRR.out
   clear hS hF1 d5
   have c14 := (fl_cells4 HF2.out.blk).1
   have c9 := (fl_cells2 HF2.out.blk).2.1
   cases st1 with
   | nil =>
    have HE : Hid (r = .ok []) := HR.out
    go_wp2_with fail
    refine (must_any F true 12 n _ c14).mono ?_
    rintro e w8 ⟨he, hw8⟩
    subst hw8
    obtain rfl : e = .returned (.tuple #[]) := he
    clear c14 c9
    go_wp2
    go_end0
    exact SEnds.good HG2.out HE.out HF2.out
   | cons t9 st9 =>
    have HE : Hid (r = .error 12) := HR.out
    have e9 : (((t9 :: st9).length : Int) == 0) = false := by simp; omega
    obtain ⟨d9, hd9⟩ : ∃ d9 : Int, ((t9 :: st9).length : Int) = d9 := ⟨_, rfl⟩
    rw [hd9] at c9 e9
    clear hd9
    go_wp2_with fail
    refine (must_any F false 12 n _ c14).mono ?_
    rintro e w8 ⟨he, hw8⟩
    subst hw8
    obtain rfl : e = .panicked [fltE 12 n] := he
    clear c14 c9
    go_wp2
    exact ⟨rfl, SEnds.bad HG2.out HE.out⟩
theorem speak21 (c : FC) (F B : Nat) (top : Option Addr) (st : List Int) (f : Vf.Fl) (n : Int) (row : Value) (a nn : Int) (w : World) (h : Hid (FlIn c w F top st f n row)) (hE : Hid (Env c B F w)) (r : Except Int (List Int)) (hr : Hid (r = .ok st)) :
  Calls Tryz.prog 90 #[.pointer (some ⟨F, 0, none⟩), .agg #[.int .i64 21, .int .i64 a, .int .i64 nn]] w fun e w' => SEnds c F f n row r w e w' := by
 have hlt := hE.out.lt
 have hBF := hE.out.base
 have HF0 := hide (h.out.alloc (insO 21 a nn))
 have HG0 : Hid (w.grownBy (w.alloc (insO 21 a nn)) (some F)) := grown_new _
 go_enter Tryz.func90, Tryz.ntmps90
 go_wp2
 go_end0
 exact SEnds.good HG0.out hr.out HF0.out
theorem popPlain_len {st st' : List Int} {t : Int} (h : Vf.popPlain st = .ok (t, st')) (hl : st.length ≤ 300) : st'.length ≤ 300 ∧ I64 t := by
 cases st with
 | nil => cases h
 | cons y st2 =>
  unfold Vf.popPlain Vf.pop Vf.andThen at h
  simp only at h
  split at h
  ·rename_i hp
   cases h
   unfold Vf.plain at hp
   simp at hp hl
   exact ⟨by omega, by rcases hp with rfl | rfl <;> decide⟩
  ·cases h
theorem reck1 (c : FC) (F B : Nat) (top : Option Addr) (st : List Int) (f : Vf.Fl) (n : Int) (row : Value) (a nn : Int) (w : World) (h : Hid (FlIn c w F top st f n row)) (hE : Hid (Env c B F w)) (hl : st.length ≤ 300) (r : Except Int (List Int)) (hr : Hid (r = Vf.put 1 st)) :
  Calls Tryz.prog 67 #[.pointer (some ⟨F, 0, none⟩), .agg #[.int .i64 1, .int .i64 a, .int .i64 nn]] w fun e w' => SEnds c F f n row r w e w' := by
 have hlt := hE.out.lt
 have HF0 := hide (h.out.alloc (insO 1 a nn))
 have HG0 : Hid (w.grownBy (w.alloc (insO 1 a nn)) (some F)) := grown_new _
 go_enter Tryz.func67, Tryz.ntmps67
 go_wp2_with fail
 refine (put_any c F top st f n row 1 _ HF0 (by omega) r hr).mono ?_
 rintro e w9 hS
 have HG9 : Hid (w.grownBy w9 (some F)) := grown_tr HG0.out hS.grown
 cases r with
 | error er =>
  obtain rfl := hS.no er rfl
  clear hS
  go_wp2
  exact ⟨rfl, SEnds.bad HG9.out rfl⟩
 | ok st9 =>
  obtain ⟨rfl, top9, hF9⟩ := hS.yes st9 rfl
  have HF9 := hide hF9
  clear hS hF9
  go_wp2
  go_end0
  exact SEnds.good HG9.out rfl HF9.out
theorem reck2 (c : FC) (F B : Nat) (top : Option Addr) (st : List Int) (f : Vf.Fl) (n : Int) (row : Value) (a nn : Int) (w : World) (h : Hid (FlIn c w F top st f n row)) (hE : Hid (Env c B F w)) (hl : st.length ≤ 300) (r : Except Int (List Int)) (hr : Hid (r = Vf.put 2 st)) :
  Calls Tryz.prog 67 #[.pointer (some ⟨F, 0, none⟩), .agg #[.int .i64 2, .int .i64 a, .int .i64 nn]] w fun e w' => SEnds c F f n row r w e w' := by
 have hlt := hE.out.lt
 have HF0 := hide (h.out.alloc (insO 2 a nn))
 have HG0 : Hid (w.grownBy (w.alloc (insO 2 a nn)) (some F)) := grown_new _
 go_enter Tryz.func67, Tryz.ntmps67
 go_wp2_with fail
 refine (put_any c F top st f n row 2 _ HF0 (by omega) r hr).mono ?_
 rintro e w9 hS
 have HG9 : Hid (w.grownBy w9 (some F)) := grown_tr HG0.out hS.grown
 cases r with
 | error er =>
  obtain rfl := hS.no er rfl
  clear hS
  go_wp2
  exact ⟨rfl, SEnds.bad HG9.out rfl⟩
 | ok st9 =>
  obtain ⟨rfl, top9, hF9⟩ := hS.yes st9 rfl
  have HF9 := hide hF9
  clear hS hF9
  go_wp2
  go_end0
  exact SEnds.good HG9.out rfl HF9.out
theorem reck6 (c : FC) (F B : Nat) (top : Option Addr) (st : List Int) (f : Vf.Fl) (n : Int) (row : Value) (a nn : Int) (w : World) (h : Hid (FlIn c w F top st f n row)) (hE : Hid (Env c B F w)) (hl : st.length ≤ 300) (r : Except Int (List Int)) (hr : Hid (r = Vf.turn 1 [1] st)) :
  Calls Tryz.prog 67 #[.pointer (some ⟨F, 0, none⟩), .agg #[.int .i64 6, .int .i64 a, .int .i64 nn]] w fun e w' => SEnds c F f n row r w e w' := by
 have hlt := hE.out.lt
 have HF0 := hide (h.out.alloc (insO 6 a nn))
 have HG0 : Hid (w.grownBy (w.alloc (insO 6 a nn)) (some F)) := grown_new _
 have HF1 : Hid (FlIn c ((w.alloc (insO 6 a nn)).alloc (.cells #[.int .i64 1] 3)) F top st f n row) := HF0.out.alloc _
 have HG1 : Hid (w.grownBy ((w.alloc (insO 6 a nn)).alloc (.cells #[.int .i64 1] 3)) (some F)) := grown_alloc (grown_new _) _
 go_enter Tryz.func67, Tryz.ntmps67
 go_wp2_with fail
 refine (turn1_any c F (w.heap.size + 1) top st f n row 1 1 _ HF1 (by omega) (hide (by decide)) (by have := heap_alloc_new (w.alloc (insO 6 a nn)) (.cells #[.int .i64 1] 3); simpa using this) (by omega) r hr).mono ?_
 rintro e w9 hS
 have HG9 : Hid (w.grownBy w9 (some F)) := grown_tr HG1.out hS.grown
 cases r with
 | error er =>
  obtain rfl := hS.no er rfl
  clear hS
  go_wp2
  exact ⟨rfl, SEnds.bad HG9.out rfl⟩
 | ok st9 =>
  obtain ⟨rfl, top9, hF9⟩ := hS.yes st9 rfl
  have HF9 := hide hF9
  clear hS hF9
  go_wp2
  go_end0
  exact SEnds.good HG9.out rfl HF9.out
theorem reck7 (c : FC) (F B : Nat) (top : Option Addr) (st : List Int) (f : Vf.Fl) (n : Int) (row : Value) (a nn : Int) (w : World) (h : Hid (FlIn c w F top st f n row)) (hE : Hid (Env c B F w)) (hl : st.length ≤ 300) (r : Except Int (List Int)) (hr : Hid (r = Vf.turn 2 [2] st)) :
  Calls Tryz.prog 67 #[.pointer (some ⟨F, 0, none⟩), .agg #[.int .i64 7, .int .i64 a, .int .i64 nn]] w fun e w' => SEnds c F f n row r w e w' := by
 have hlt := hE.out.lt
 have HF0 := hide (h.out.alloc (insO 7 a nn))
 have HG0 : Hid (w.grownBy (w.alloc (insO 7 a nn)) (some F)) := grown_new _
 have HF1 : Hid (FlIn c ((w.alloc (insO 7 a nn)).alloc (.cells #[.int .i64 2] 3)) F top st f n row) := HF0.out.alloc _
 have HG1 : Hid (w.grownBy ((w.alloc (insO 7 a nn)).alloc (.cells #[.int .i64 2] 3)) (some F)) := grown_alloc (grown_new _) _
 go_enter Tryz.func67, Tryz.ntmps67
 go_wp2_with fail
 refine (turn1_any c F (w.heap.size + 1) top st f n row 2 2 _ HF1 (by omega) (hide (by decide)) (by have := heap_alloc_new (w.alloc (insO 7 a nn)) (.cells #[.int .i64 2] 3); simpa using this) (by omega) r hr).mono ?_
 rintro e w9 hS
 have HG9 : Hid (w.grownBy w9 (some F)) := grown_tr HG1.out hS.grown
 cases r with
 | error er =>
  obtain rfl := hS.no er rfl
  clear hS
  go_wp2
  exact ⟨rfl, SEnds.bad HG9.out rfl⟩
 | ok st9 =>
  obtain ⟨rfl, top9, hF9⟩ := hS.yes st9 rfl
  have HF9 := hide hF9
  clear hS hF9
  go_wp2
  go_end0
  exact SEnds.good HG9.out rfl HF9.out
theorem reck22 (c : FC) (F B : Nat) (top : Option Addr) (st : List Int) (f : Vf.Fl) (n : Int) (row : Value) (a nn : Int) (w : World) (h : Hid (FlIn c w F top st f n row)) (hE : Hid (Env c B F w)) (hl : st.length ≤ 300) (r : Except Int (List Int)) (hr : Hid (r = Vf.takeR [2] st)) :
  Calls Tryz.prog 67 #[.pointer (some ⟨F, 0, none⟩), .agg #[.int .i64 22, .int .i64 a, .int .i64 nn]] w fun e w' => SEnds c F f n row r w e w' := by
 have hlt := hE.out.lt
 have HF0 := hide (h.out.alloc (insO 22 a nn))
 have HG0 : Hid (w.grownBy (w.alloc (insO 22 a nn)) (some F)) := grown_new _
 have HF1 : Hid (FlIn c ((w.alloc (insO 22 a nn)).alloc (.cells #[.int .i64 2] 3)) F top st f n row) := HF0.out.alloc _
 have HG1 : Hid (w.grownBy ((w.alloc (insO 22 a nn)).alloc (.cells #[.int .i64 2] 3)) (some F)) := grown_alloc (grown_new _) _
 go_enter Tryz.func67, Tryz.ntmps67
 go_wp2_with fail
 refine (take1_any c F (w.heap.size + 1) top st f n row 2 _ HF1 (by omega) (hide (by decide)) (by have := heap_alloc_new (w.alloc (insO 22 a nn)) (.cells #[.int .i64 2] 3); simpa using this) (by omega) r hr).mono ?_
 rintro e w9 hS
 have HG9 : Hid (w.grownBy w9 (some F)) := grown_tr HG1.out hS.grown
 cases r with
 | error er =>
  obtain rfl := hS.no er rfl
  clear hS
  go_wp2
  exact ⟨rfl, SEnds.bad HG9.out rfl⟩
 | ok st9 =>
  obtain ⟨rfl, top9, hF9⟩ := hS.yes st9 rfl
  have HF9 := hide hF9
  clear hS hF9
  go_wp2
  go_end0
  exact SEnds.good HG9.out rfl HF9.out
theorem reck5 (c : FC) (F B : Nat) (top : Option Addr) (st : List Int) (f : Vf.Fl) (n : Int) (row : Value) (a nn : Int) (w : World) (h : Hid (FlIn c w F top st f n row)) (hE : Hid (Env c B F w)) (hl : st.length ≤ 300) (r : Except Int (List Int)) (hr : Hid (r = Vf.andThen (Vf.pop st) fun p => .ok p.2)) :
  Calls Tryz.prog 67 #[.pointer (some ⟨F, 0, none⟩), .agg #[.int .i64 5, .int .i64 a, .int .i64 nn]] w fun e w' => SEnds c F f n row r w e w' := by
 have hlt := hE.out.lt
 have HF0 := hide (h.out.alloc (insO 5 a nn))
 have HG0 : Hid (w.grownBy (w.alloc (insO 5 a nn)) (some F)) := grown_new _
 go_enter Tryz.func67, Tryz.ntmps67
 go_wp2_with fail
 refine (takeOne_any c F top st f n row _ HF0 (by omega) (Vf.pop st) (hide rfl)).mono ?_
 rintro e w1 hV
 have HG1 : Hid (w.grownBy w1 (some F)) := grown_tr HG0.out hV.grown
 cases st with
 | nil =>
  obtain rfl := hV.no 12 rfl
  have HE : Hid (r = .error 12) := hr.out
  clear hV
  go_wp2
  exact ⟨rfl, SEnds.bad HG1.out HE.out⟩
 | cons t st1 =>
  obtain ⟨rfl, top1, hF1⟩ := hV.yes t st1 rfl
  have HF1 := hide hF1
  have HE : Hid (r = .ok st1) := hr.out
  clear hV hF1
  go_wp2
  go_end0
  exact SEnds.good HG1.out HE.out HF1.out
theorem reck28 (c : FC) (F B : Nat) (top : Option Addr) (st : List Int) (f : Vf.Fl) (n : Int) (row : Value) (a nn : Int) (w : World) (h : Hid (FlIn c w F top st f n row)) (hE : Hid (Env c B F w)) (hl : st.length ≤ 300) (r : Except Int (List Int)) (hr : Hid (r = Vf.andThen (Vf.popPlain st) fun p => .ok p.2)) :
  Calls Tryz.prog 67 #[.pointer (some ⟨F, 0, none⟩), .agg #[.int .i64 28, .int .i64 a, .int .i64 nn]] w fun e w' => SEnds c F f n row r w e w' := by
 have hlt := hE.out.lt
 have HF0 := hide (h.out.alloc (insO 28 a nn))
 have HG0 : Hid (w.grownBy (w.alloc (insO 28 a nn)) (some F)) := grown_new _
 obtain ⟨r1, hr1⟩ : ∃ r1, r1 = Vf.popPlain st := ⟨_, rfl⟩
 have HR1 := hide hr1
 have HR : Hid (r = Vf.andThen r1 fun p => .ok p.2) := by unfold Hid; rw [hr.out, hr1]
 have HL : Hid (∀ t st', r1 = .ok (t, st') → st'.length ≤ 300 ∧ I64 t) := fun t st' e => by
  rw [hr1] at e
  exact popPlain_len e hl
 clear hr hr1
 go_enter Tryz.func67, Tryz.ntmps67
 go_wp2_with fail
 refine (takePlain_any c F top st f n row _ HF0 (by omega) r1 HR1).mono ?_
 rintro e w1 hV
 have HG1 : Hid (w.grownBy w1 (some F)) := grown_tr HG0.out hV.grown
 cases r1 with
 | error er =>
  obtain rfl := hV.no er rfl
  have HE : Hid (r = .error er) := HR.out
  clear hV
  go_wp2
  exact ⟨rfl, SEnds.bad HG1.out HE.out⟩
 | ok gs =>
  obtain ⟨t, st1⟩ := gs
  obtain ⟨rfl, top1, hF1⟩ := hV.yes t st1 rfl
  have HF1 := hide hF1
  have hl1 := (HL.out t st1 rfl).1
  have H64 := hide (HL.out t st1 rfl).2
  clear hV hF1
  have HE : Hid (r = .ok st1) := HR.out
  clear HR hl1 H64 HL
  go_wp2
  go_end0
  exact SEnds.good HG1.out HE.out HF1.out
theorem reck13 (c : FC) (F B : Nat) (top : Option Addr) (st : List Int) (f : Vf.Fl) (n : Int) (row : Value) (a nn : Int) (w : World) (h : Hid (FlIn c w F top st f n row)) (hE : Hid (Env c B F w)) (hl : st.length ≤ 300) (r : Except Int (List Int)) (hr : Hid (r = Vf.andThen (Vf.popPlain st) fun p => Vf.turn 2 [p.1] p.2)) :
  Calls Tryz.prog 67 #[.pointer (some ⟨F, 0, none⟩), .agg #[.int .i64 13, .int .i64 a, .int .i64 nn]] w fun e w' => SEnds c F f n row r w e w' := by
 have hlt := hE.out.lt
 have HF0 := hide (h.out.alloc (insO 13 a nn))
 have HG0 : Hid (w.grownBy (w.alloc (insO 13 a nn)) (some F)) := grown_new _
 obtain ⟨r1, hr1⟩ : ∃ r1, r1 = Vf.popPlain st := ⟨_, rfl⟩
 have HR1 := hide hr1
 have HR : Hid (r = Vf.andThen r1 fun p => Vf.turn 2 [p.1] p.2) := by unfold Hid; rw [hr.out, hr1]
 have HL : Hid (∀ t st', r1 = .ok (t, st') → st'.length ≤ 300 ∧ I64 t) := fun t st' e => by
  rw [hr1] at e
  exact popPlain_len e hl
 clear hr hr1
 go_enter Tryz.func67, Tryz.ntmps67
 go_wp2_with fail
 refine (takePlain_any c F top st f n row _ HF0 (by omega) r1 HR1).mono ?_
 rintro e w1 hV
 have HG1 : Hid (w.grownBy w1 (some F)) := grown_tr HG0.out hV.grown
 cases r1 with
 | error er =>
  obtain rfl := hV.no er rfl
  have HE : Hid (r = .error er) := HR.out
  clear hV
  go_wp2
  exact ⟨rfl, SEnds.bad HG1.out HE.out⟩
 | ok gs =>
  obtain ⟨t, st1⟩ := gs
  obtain ⟨rfl, top1, hF1⟩ := hV.yes t st1 rfl
  have HF1 := hide hF1
  have hl1 := (HL.out t st1 rfl).1
  have H64 := hide (HL.out t st1 rfl).2
  clear hV hF1
  have HE : Hid (r = Vf.turn 2 [t] st1) := HR.out
  have HF2 : Hid (FlIn c (w1.alloc (.cells #[.int .i64 t] 3)) F top1 st1 f n row) := HF1.out.alloc _
  have HG2 : Hid (w.grownBy (w1.alloc (.cells #[.int .i64 t] 3)) (some F)) := grown_alloc HG1.out _
  have hz1 := HG1.out.size
  clear HR HL
  go_wp2_with fail
  refine (turn1_any c F w1.heap.size top1 st1 f n row 2 t _ HF2 (by omega) H64 (heap_alloc_new w1 _) (by omega) r HE).mono ?_
  rintro e w9 hS
  have HG9 : Hid (w.grownBy w9 (some F)) := grown_tr HG2.out hS.grown
  cases r with
  | error er =>
   obtain rfl := hS.no er rfl
   clear hS
   go_wp2
   exact ⟨rfl, SEnds.bad HG9.out rfl⟩
  | ok st9 =>
   obtain ⟨rfl, top9, hF9⟩ := hS.yes st9 rfl
   have HF9 := hide hF9
   clear hS hF9
   go_wp2
   go_end0
   exact SEnds.good HG9.out rfl HF9.out
theorem reck14 (c : FC) (F B : Nat) (top : Option Addr) (st : List Int) (f : Vf.Fl) (n : Int) (row : Value) (a nn : Int) (w : World) (h : Hid (FlIn c w F top st f n row)) (hE : Hid (Env c B F w)) (hl : st.length ≤ 300) (r : Except Int (List Int)) (hr : Hid (r = Vf.andThen (Vf.popPlain st) fun p => Vf.turn 2 [p.1] p.2)) :
  Calls Tryz.prog 67 #[.pointer (some ⟨F, 0, none⟩), .agg #[.int .i64 14, .int .i64 a, .int .i64 nn]] w fun e w' => SEnds c F f n row r w e w' := by
 have hlt := hE.out.lt
 have HF0 := hide (h.out.alloc (insO 14 a nn))
 have HG0 : Hid (w.grownBy (w.alloc (insO 14 a nn)) (some F)) := grown_new _
 obtain ⟨r1, hr1⟩ : ∃ r1, r1 = Vf.popPlain st := ⟨_, rfl⟩
 have HR1 := hide hr1
 have HR : Hid (r = Vf.andThen r1 fun p => Vf.turn 2 [p.1] p.2) := by unfold Hid; rw [hr.out, hr1]
 have HL : Hid (∀ t st', r1 = .ok (t, st') → st'.length ≤ 300 ∧ I64 t) := fun t st' e => by
  rw [hr1] at e
  exact popPlain_len e hl
 clear hr hr1
 go_enter Tryz.func67, Tryz.ntmps67
 go_wp2_with fail
 refine (takePlain_any c F top st f n row _ HF0 (by omega) r1 HR1).mono ?_
 rintro e w1 hV
 have HG1 : Hid (w.grownBy w1 (some F)) := grown_tr HG0.out hV.grown
 cases r1 with
 | error er =>
  obtain rfl := hV.no er rfl
  have HE : Hid (r = .error er) := HR.out
  clear hV
  go_wp2
  exact ⟨rfl, SEnds.bad HG1.out HE.out⟩
 | ok gs =>
  obtain ⟨t, st1⟩ := gs
  obtain ⟨rfl, top1, hF1⟩ := hV.yes t st1 rfl
  have HF1 := hide hF1
  have hl1 := (HL.out t st1 rfl).1
  have H64 := hide (HL.out t st1 rfl).2
  clear hV hF1
  have HE : Hid (r = Vf.turn 2 [t] st1) := HR.out
  have HF2 : Hid (FlIn c (w1.alloc (.cells #[.int .i64 t] 3)) F top1 st1 f n row) := HF1.out.alloc _
  have HG2 : Hid (w.grownBy (w1.alloc (.cells #[.int .i64 t] 3)) (some F)) := grown_alloc HG1.out _
  have hz1 := HG1.out.size
  clear HR HL
  go_wp2_with fail
  refine (turn1_any c F w1.heap.size top1 st1 f n row 2 t _ HF2 (by omega) H64 (heap_alloc_new w1 _) (by omega) r HE).mono ?_
  rintro e w9 hS
  have HG9 : Hid (w.grownBy w9 (some F)) := grown_tr HG2.out hS.grown
  cases r with
  | error er =>
   obtain rfl := hS.no er rfl
   clear hS
   go_wp2
   exact ⟨rfl, SEnds.bad HG9.out rfl⟩
  | ok st9 =>
   obtain ⟨rfl, top9, hF9⟩ := hS.yes st9 rfl
   have HF9 := hide hF9
   clear hS hF9
   go_wp2
   go_end0
   exact SEnds.good HG9.out rfl HF9.out
end Go.Proofs.YtekjhefmhhcboaaGreat
