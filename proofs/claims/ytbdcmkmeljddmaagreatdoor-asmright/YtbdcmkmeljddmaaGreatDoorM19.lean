/- What speak and reckon need besides: rows of one and two types that are laid for a call. -/
import Derived.Test.YtbdcmkmeljddmaaGreatDoorM18
import Derived.Maps.RangeWalk
namespace Go.Proofs.YtbdcmkmeljddmaaGreatDoor
open Go.RowKit

abbrev insO (op a nn : Int) : Obj := .cells #[.int .i64 op, .int .i64 a, .int .i64 nn] 43 (0, 0)
theorem alloc_at (w : World) (o : Obj) : (w.alloc o).heap[w.heap.size]? = some o := heap_alloc_new w o

theorem turnL_any (c : FC) (F N : Nat) (top : Option Addr) (st : List Int) (f : Vf.Fl) (n : Int) (row : Value) (t : Int) (l : List Int) (cp : Nat) (w : World) (h : Hid (FlIn c w F top st f n row)) (hl : st.length < 900) (hll : l.length < 1000) (h64 : ∀ x ∈ l, I64 x) (hq : w.heap[N]? = some (.cells (l.map (Value.int .i64)).toArray 3 (0, 0))) (hN : N ≠ F) (r : Except Int (List Int)) (hr : Hid (r = Vf.turn t l st)) :
    Calls Tryz.prog 88 #[.pointer (some ⟨F, 0, none⟩), .int .i64 t, .slice (some ⟨N, 0, none⟩) l.length cp] w fun e w' => SEnds c F f n row r w e w' :=
  turn_any c F w.heap.size top st f n row t l (some ⟨N, 0, none⟩) cp w h hl hll (hide (ints_new hq (lt_of_block hq) h64)) (Nat.le_refl _) (hide (fun b off e _ => by cases e; exact hN)) r hr
theorem turn1_any (c : FC) (F N : Nat) (top : Option Addr) (st : List Int) (f : Vf.Fl) (n : Int) (row : Value) (t x : Int) (w : World) (h : Hid (FlIn c w F top st f n row)) (hl : st.length < 900) (h64 : Hid (I64 x)) (hq : w.heap[N]? = some (.cells #[.int .i64 x] 3 (0, 0))) (hN : N ≠ F) (r : Except Int (List Int)) (hr : Hid (r = Vf.turn t [x] st)) :
    Calls Tryz.prog 88 #[.pointer (some ⟨F, 0, none⟩), .int .i64 t, .slice (some ⟨N, 0, none⟩) 1 1] w fun e w' => SEnds c F f n row r w e w' :=
  turnL_any c F N top st f n row t [x] 1 w h hl (by simp) (by simpa using h64.out) hq hN r hr
theorem turn2_any (c : FC) (F N : Nat) (top : Option Addr) (st : List Int) (f : Vf.Fl) (n : Int) (row : Value) (t x y : Int) (w : World) (h : Hid (FlIn c w F top st f n row)) (hl : st.length < 900) (h64 : Hid (I64 x ∧ I64 y)) (hq : w.heap[N]? = some (.cells #[.int .i64 x, .int .i64 y] 3 (0, 0))) (hN : N ≠ F) (r : Except Int (List Int)) (hr : Hid (r = Vf.turn t [x, y] st)) :
    Calls Tryz.prog 88 #[.pointer (some ⟨F, 0, none⟩), .int .i64 t, .slice (some ⟨N, 0, none⟩) 2 2] w fun e w' => SEnds c F f n row r w e w' :=
  turnL_any c F N top st f n row t [x, y] 2 w h hl (by simp) (by intro z hz; simp at hz; rcases hz with rfl | rfl; exact h64.out.1; exact h64.out.2) hq hN r hr
theorem take1_any (c : FC) (F N : Nat) (top : Option Addr) (st : List Int) (f : Vf.Fl) (n : Int) (row : Value) (x : Int) (w : World) (h : Hid (FlIn c w F top st f n row)) (hl : st.length < 1000) (h64 : Hid (I64 x)) (hq : w.heap[N]? = some (.cells #[.int .i64 x] 3 (0, 0))) (hN : N ≠ F) (r : Except Int (List Int)) (hr : Hid (r = Vf.takeR [x] st)) :
    Calls Tryz.prog 86 #[.pointer (some ⟨F, 0, none⟩), .slice (some ⟨N, 0, none⟩) 1 1] w fun e w' => SEnds c F f n row r w e w' :=
  take_any c F w.heap.size top st f n row [x] (some ⟨N, 0, none⟩) 1 w h hl (by simp) (hide (ints_new hq (lt_of_block hq) (by simpa using h64.out))) (Nat.le_refl _) (hide (fun b off e _ => by cases e; exact hN)) r hr

/-- A module whose heads and forms are right. -/
structure Rt (m : Vf.Md) : Prop where
  units : m.units.length ≤ 30
  boxes : ∀ (k : Nat) b, m.boxes[k]? = some b → Vf.plain b.ty = true
  heads : ∀ (k : Nat) u, m.units[k]? = some u → Vf.headE m u = 0 ∧ Vf.Forms m u
theorem headE_zero {m : Vf.Md} {u : Vf.Un} (h : Vf.headE m u = 0) : Vf.kindly u = true ∧ Vf.sized u = true ∧ Vf.typed m u = true := by
  unfold Vf.headE at h
  cases h1 : Vf.kindly u
  · rw [h1] at h; simp at h
  · cases h2 : Vf.sized u
    · rw [h1, h2] at h; simp at h
    · cases h3 : Vf.typed m u
      · rw [h1, h2, h3] at h; simp at h
      · exact ⟨rfl, rfl, rfl⟩
theorem sized_true {u : Vf.Un} (h : Vf.sized u = true) : u.locals.length ≤ 200 ∧ 0 ≤ u.params ∧ u.params ≤ u.locals.length ∧ u.params ≤ 6 ∧ 0 < u.code.length ∧ u.code.length ≤ 4000 := by
  unfold Vf.sized at h
  simp only [Bool.and_eq_true, decide_eq_true_eq] at h
  obtain ⟨⟨⟨⟨h1, h2⟩, h3⟩, h4⟩, h5⟩ := h
  split at h3 <;> omega
theorem formE_zero {m : Vf.Md} {u : Vf.Un} {c : Vf.Ins} (h : Vf.formE m u c = 0) : 1 ≤ c.op ∧ c.op ≤ 32 ∧ Vf.ranged m u c = true := by
  unfold Vf.formE at h
  split at h
  · cases h
  · split at h
    · cases h
    · rename_i h1 h2
      exact ⟨by omega, by omega, by simpa using h2⟩
theorem unit_of {m : Vf.Md} {k : Nat} {u : Vf.Un} (h : m.units[k]? = some u) : Vf.unit m (k : Int) = u := by
  unfold Vf.unit
  simp [h]
theorem box_of {m : Vf.Md} {k : Nat} {b : Vf.Bx} (h : m.boxes[k]? = some b) : Vf.boxTy m (k : Int) = b.ty := by
  unfold Vf.boxTy
  simp [h]
theorem local_of {u : Vf.Un} {k : Nat} {t : Int} (h : u.locals[k]? = some t) : Vf.localTy u (k : Int) = t := by
  unfold Vf.localTy
  simp [h]
theorem ins_cells {w : World} {N : Nat} {op a nn : Int} (h : w.heap[N]? = some (insO op a nn)) : w.cell? ⟨N, 0, none⟩ = some (.int .i64 op) ∧ w.cell? ⟨N, 1, none⟩ = some (.int .i64 a) ∧ w.cell? ⟨N, 2, none⟩ = some (.int .i64 nn) := by
  simp [World.cell?, h]
theorem cell_new (w : World) (o : Obj) {b off : Nat} (h : b < w.heap.size) : (w.alloc o).cell? ⟨b, off, none⟩ = w.cell? ⟨b, off, none⟩ := cell_eq (Below.heap_alloc _ _ _ h) _

end Go.Proofs.YtbdcmkmeljddmaaGreatDoor

/- The walk of speak, a kind of instruction each. -/
namespace Go.Proofs.YtbdcmkmeljddmaaGreatDoor
open Go.RowKit

set_option maxRecDepth 100000 in
set_option maxHeartbeats 2000000 in
theorem speak23 (c : FC) (F B : Nat) (top : Option Addr) (st : List Int) (f : Vf.Fl) (n : Int) (row : Value) (nn : Int) (k : Nat) (u : Vf.Un) (hu : Hid (c.m.units[k]? = some u)) (hp : Hid (0 ≤ u.params ∧ u.params ≤ u.locals.length ∧ u.locals.length ≤ 200)) (pl : List Int) (hpl : Hid (pl = u.locals.take u.params.toNat)) (w : World) (h : Hid (FlIn c w F top st f n row)) (hE : Hid (Env c B F w)) (hl : st.length ≤ 300) (r : Except Int (List Int)) (hr : Hid (r = Vf.turn u.result pl st)) :
    Calls Tryz.prog 90 #[.pointer (some ⟨F, 0, none⟩), .agg #[.int .i64 23, .int .i64 (k : Int), .int .i64 nn]] w fun e w' => SEnds c F f n row r w e w' := by
  have hlt := hE.out.lt
  have hBF := hE.out.base
  obtain ⟨b, off, al, cl, ac, cc, ha, hb, hui, u0, u1, u2, u3, u4, u5⟩ := hE.out.md.units k u hu.out
  have hku : k < c.m.units.length := (List.getElem?_eq_some_iff.1 hu.out).1
  have hk1 : (k : Int) < (c.m.units.length : Int) := by omega
  have hF0 := hide (h.out.alloc (insO 23 (k : Int) nn))
  have d1 : (w.alloc (insO 23 (k : Int) nn)).cell? ⟨F, 1, none⟩ = some (.slice (some ⟨b, off, none⟩) c.m.units.length c.cu) := by have := (fl_cells hF0.out.blk).2.1; rw [ha] at this; exact this
  have d2 : (w.alloc (insO 23 (k : Int) nn)).cell? ⟨w.heap.size, 1, none⟩ = some (.int .i64 (k : Int)) := (ins_cells (alloc_at w _)).2.1
  have d3 : (w.alloc (insO 23 (k : Int) nn)).cell? ⟨b, off + k * 6 + 3, none⟩ = some (.int .i64 u.result) := (cell_new _ _ (by omega)).trans u3
  have HA := hide ha
  clear hui u0 u1 u2 u3 u4 u5 ha
  have hpll : pl.length < 1000 := by rw [hpl.out]; have := hp.out.2.2; simp; omega
  go_enter Tryz.func90, Tryz.ntmps90
  go_wp2_with fail
  refine wp_region_held_drew (S := fun w' => w'.cell? ⟨F, 1, none⟩ = some (.slice (some ⟨b, off, none⟩) c.m.units.length c.cu) ∧ w'.cell? ⟨w.heap.size, 1, none⟩ = some (.int .i64 (k : Int)) ∧ w'.cell? ⟨b, off + k * 6 + 3, none⟩ = some (.int .i64 u.result)) (by kernel_rfl) ⟨d1, d2, d3⟩ (fun hHeld => ?_)
  refine wpAnyH_take (i := 0) (oi := _) (v := ?_) rfl (by kernel_rfl) (by kernel_rfl) (by kernel_rfl) (fun _ _ _ h => h) (Or.inl ⟨by rfl, ?_⟩) (by assumption) ?_
  rotate_left
  · intro w hSw
    (try dsimp only at hSw)
    go_simp
    (try with_reducible rfl)
  (try go_frame)
  refine wpAnyH_take (i := 1) (oi := _) (v := ?_) rfl (by kernel_rfl) (by kernel_rfl) (by kernel_rfl) (fun _ _ _ h => h) (Or.inl ⟨by rfl, ?_⟩) (by assumption) ?_
  rotate_left
  · intro w hSw
    (try dsimp only at hSw)
    go_simp
    (try with_reducible rfl)
  (try go_frame)
  refine wpAnyH_take (i := 2) (oi := _) (v := ?_) rfl (by kernel_rfl) (by kernel_rfl) (by kernel_rfl) (fun _ _ _ h => h) (Or.inl ⟨by rfl, ?_⟩) (by assumption) ?_
  rotate_left
  · intro w hSw
    (try dsimp only at hSw)
    go_simp
    (try with_reducible rfl)
  (try go_frame)
  refine wpAnyH_take (i := 3) (oi := _) (v := ?_) rfl (by kernel_rfl) (by kernel_rfl) (by kernel_rfl) (fun _ _ _ h => h) (Or.inl ⟨by rfl, ?_⟩) (by assumption) ?_
  rotate_left
  · intro w hSw
    (try dsimp only at hSw)
    go_simp
    (try with_reducible rfl)
  (try go_frame)
  refine wpAnyH_take (i := 4) (oi := _) (v := ?_) rfl (by kernel_rfl) (by kernel_rfl) (by kernel_rfl) (fun _ _ _ h => h) (Or.inl ⟨by rfl, ?_⟩) (by assumption) ?_
  rotate_left
  · intro w hSw
    (try dsimp only at hSw)
    go_simp
    (try with_reducible rfl)
  (try go_frame)
  refine wpAnyH_take (i := 5) (oi := _) (v := ?_) rfl (by kernel_rfl) (by kernel_rfl) (by kernel_rfl) (fun _ _ _ h => h) (Or.inl ⟨by rfl, ?_⟩) (by assumption) ?_
  rotate_left
  · intro w hSw
    (try dsimp only at hSw)
    go_simp
    (try with_reducible rfl)
  (try go_frame)
  refine wpAnyH_take (i := 6) (oi := _) (v := ?_) rfl (by kernel_rfl) (by kernel_rfl) (by kernel_rfl) (fun _ _ _ h => h) (Or.inl ⟨by rfl, ?_⟩) (by assumption) ?_
  rotate_left
  · intro w hSw
    (try dsimp only at hSw)
    go_simp
    (try with_reducible rfl)
  (try go_frame)
  refine wpAnyH_take (i := 7) (oi := _) (v := ?_) rfl (by kernel_rfl) (by kernel_rfl) (by kernel_rfl) (fun _ _ _ h => h) (Or.inl ⟨by rfl, ?_⟩) (by assumption) ?_
  rotate_left
  · intro w hSw
    (try dsimp only at hSw)
    go_simp
    (try with_reducible rfl)
  (try go_frame)
  refine wpAnyH_take (i := 8) (oi := _) (v := ?_) rfl (by kernel_rfl) (by kernel_rfl) (by kernel_rfl) (fun _ _ _ h => h) (Or.inl ⟨by rfl, ?_⟩) (by assumption) ?_
  rotate_left
  · intro w hSw
    (try dsimp only at hSw)
    go_simp
    (try with_reducible rfl)
  (try go_frame)
  refine wpAnyH_take (i := 9) (oi := _) (v := ?_) rfl (by kernel_rfl) (by kernel_rfl) (by kernel_rfl) (fun _ _ _ h => h) (Or.inl ⟨by rfl, ?_⟩) (by assumption) ?_
  rotate_left
  · intro w hSw
    (try dsimp only at hSw)
    go_simp
    (try with_reducible rfl)
  (try go_frame)
  refine wpAnyH_take (i := 10) (oi := _) (v := ?_) rfl (by kernel_rfl) (by kernel_rfl) (by kernel_rfl) (fun _ _ _ h => h) (Or.inl ⟨by rfl, ?_⟩) (by assumption) ?_
  rotate_left
  · intro w hSw
    (try dsimp only at hSw)
    go_simp
    (try with_reducible rfl)
  (try go_frame)
  refine wpAnyH_take (i := 11) (oi := _) (v := ?_) rfl (by kernel_rfl) (by kernel_rfl) (by kernel_rfl) (fun _ _ _ h => h) (Or.inl ⟨by rfl, ?_⟩) (by assumption) ?_
  rotate_left
  · intro w hSw
    (try dsimp only at hSw)
    go_simp
    (try with_reducible rfl)
  (try go_frame)
  refine wpAnyH_take (i := 12) (oi := _) (v := ?_) rfl (by kernel_rfl) (by kernel_rfl) (by kernel_rfl) (fun _ _ _ h => h) (Or.inl ⟨by rfl, ?_⟩) (by assumption) ?_
  rotate_left
  · intro w hSw
    (try dsimp only at hSw)
    go_simp
    (try with_reducible rfl)
  (try go_frame)
  refine wpAnyH_take (i := 13) (oi := _) (v := ?_) rfl (by kernel_rfl) (by kernel_rfl) (by kernel_rfl) (fun _ _ _ h => h) (Or.inl ⟨by rfl, ?_⟩) (by assumption) ?_
  rotate_left
  · intro w hSw
    (try dsimp only at hSw)
    go_simp
    (try with_reducible rfl)
  (try go_frame)
  refine wpAnyH_take (i := 14) (oi := _) (v := ?_) rfl (by kernel_rfl) (by kernel_rfl) (by kernel_rfl) (fun _ _ _ h => h) (Or.inl ⟨by rfl, ?_⟩) (by assumption) ?_
  rotate_left
  · intro w hSw
    (try dsimp only at hSw)
    go_simp
    (try with_reducible rfl)
  (try go_frame)
  refine wpAnyH_take (i := 15) (oi := _) (v := ?_) rfl (by kernel_rfl) (by kernel_rfl) (by kernel_rfl) (fun _ _ _ h => h) (Or.inl ⟨by rfl, ?_⟩) (by assumption) ?_
  rotate_left
  · intro w hSw
    (try dsimp only at hSw)
    go_simp
    (try with_reducible rfl)
  (try go_frame)
  refine wpAnyH_ready (rs := [16]) (by kernel_rfl) (by simp) ?_
  refine AllReadyH.cons (o := _) rfl (fun K hK => ?_) AllReadyH.nil
  go_simp
  refine (params_any c F B top st f n row k u _ (hide hF0.out.drew) (hide (hE.out.grown (grown_new _)).drew) hu hp pl hpl).mono ?_
  rintro e w2 ⟨⟨a2, cp, rfl, hI⟩, hg2, hF2⟩
  have HG2 : Hid (w.grownBy w2 (some F)) := grown_tr (grown_new _) (grown_drew hg2)
  have HS2 : Hid (∀ w3, w2.grownBy w3 (some F) → w3.cell? ⟨F, 1, none⟩ = some (.slice c.au c.m.units.length c.cu) → (w3.cell? ⟨F, 1, none⟩ = some (.slice (some ⟨b, off, none⟩) c.m.units.length c.cu) ∧ w3.cell? ⟨w.heap.size, 1, none⟩ = some (.int .i64 (k : Int)) ∧ w3.cell? ⟨b, off + k * 6 + 3, none⟩ = some (.int .i64 u.result))) := fun w3 hg3 h1 => ⟨by rw [h1, HA.out], (cell_eq (kept (grown_tr (grown_drew hg2) hg3) (by simp) (by omega)) _).trans d2, (cell_eq (kept (grown_tr (grown_drew hg2) hg3) (by simp; omega) (by omega)) _).trans d3⟩
  have HF2 := hide hF2
  have HI := hide hI
  refine hK.out _ _ (HS2.out w2 (grown_refl _ _) (fl_cells hF2.blk).2.1) (fun hHeld => ?_)
  clear hK hI hF2 hg2
  refine wpAnyH_ready (rs := [17]) (by kernel_rfl) (by simp) ?_
  refine AllReadyH.cons (o := _) rfl (fun K hK => ?_) AllReadyH.nil
  go_simp
  refine (turn_any c F B top st f n row u.result pl a2 cp _ HF2 (by omega) hpll HI (by have := HG2.out.size; omega) (hide (fun b off _ hb => by omega)) r hr).mono ?_
  rintro e w9 hS
  have HG9 : Hid (w.grownBy w9 (some F)) := grown_tr HG2.out hS.grown
  cases r with
  | error er =>
    obtain rfl := hS.no er rfl
    clear hS hK
    go_wp2
    exact ⟨rfl, SEnds.bad HG9.out rfl⟩
  | ok st9 =>
    obtain ⟨rfl, top9, hF9⟩ := hS.yes st9 rfl
    have HF9 := hide hF9
    refine hK.out _ _ (HS2.out w9 hS.grown (fl_cells HF9.out.blk).2.1) (fun hHeld => ?_)
    clear hK hS hF9
    refine wpAnyH_done (by kernel_rfl) ?_ _
    go_wp2
    go_end0
    exact SEnds.good HG9.out rfl HF9.out

set_option maxRecDepth 100000 in
set_option maxHeartbeats 2000000 in
theorem speak29 (c : FC) (F B : Nat) (top : Option Addr) (st : List Int) (f : Vf.Fl) (n : Int) (row : Value) (nn : Int) (k : Nat) (u : Vf.Un) (hu : Hid (c.m.units[k]? = some u)) (hp : Hid (0 ≤ u.params ∧ u.params ≤ u.locals.length ∧ u.locals.length ≤ 200)) (hun : c.m.units.length ≤ 30) (pl : List Int) (hpl : Hid (pl = u.locals.take u.params.toNat)) (w : World) (h : Hid (FlIn c w F top st f n row)) (hE : Hid (Env c B F w)) (hl : st.length ≤ 300) (r : Except Int (List Int)) (hr : Hid (r = Vf.turn (10 + (k : Int)) pl st)) :
    Calls Tryz.prog 90 #[.pointer (some ⟨F, 0, none⟩), .agg #[.int .i64 29, .int .i64 (k : Int), .int .i64 nn]] w fun e w' => SEnds c F f n row r w e w' := by
  have hlt := hE.out.lt
  have hBF := hE.out.base
  obtain ⟨b, off, al, cl, ac, cc, ha, hb, hui, u0, u1, u2, u3, u4, u5⟩ := hE.out.md.units k u hu.out
  have hku : k < c.m.units.length := (List.getElem?_eq_some_iff.1 hu.out).1
  have hk1 : (k : Int) < (c.m.units.length : Int) := by omega
  have hF0 := hide (h.out.alloc (insO 29 (k : Int) nn))
  have d1 : (w.alloc (insO 29 (k : Int) nn)).cell? ⟨F, 1, none⟩ = some (.slice (some ⟨b, off, none⟩) c.m.units.length c.cu) := by have := (fl_cells hF0.out.blk).2.1; rw [ha] at this; exact this
  have d2 : (w.alloc (insO 29 (k : Int) nn)).cell? ⟨w.heap.size, 1, none⟩ = some (.int .i64 (k : Int)) := (ins_cells (alloc_at w _)).2.1
  have d3 : (w.alloc (insO 29 (k : Int) nn)).cell? ⟨b, off + k * 6 + 3, none⟩ = some (.int .i64 u.result) := (cell_new _ _ (by omega)).trans u3
  have HA := hide ha
  clear hui u0 u1 u2 u3 u4 u5 ha
  have hpll : pl.length < 1000 := by rw [hpl.out]; have := hp.out.2.2; simp; omega
  have e10 : IntKind.i64.wrap (10 + (k : Int)) = 10 + (k : Int) := by simp [IntKind.wrap, IntKind.bits, IntKind.signed]; omega
  go_enter Tryz.func90, Tryz.ntmps90
  go_wp2_with fail
  refine wp_region_held_drew (S := fun w' => w'.cell? ⟨F, 1, none⟩ = some (.slice (some ⟨b, off, none⟩) c.m.units.length c.cu) ∧ w'.cell? ⟨w.heap.size, 1, none⟩ = some (.int .i64 (k : Int)) ∧ w'.cell? ⟨b, off + k * 6 + 3, none⟩ = some (.int .i64 u.result)) (by kernel_rfl) ⟨d1, d2, d3⟩ (fun hHeld => ?_)
  refine wpAnyH_take (i := 0) (oi := _) (v := ?_) rfl (by kernel_rfl) (by kernel_rfl) (by kernel_rfl) (fun _ _ _ h => h) (Or.inl ⟨by rfl, ?_⟩) (by assumption) ?_
  rotate_left
  · intro w hSw
    (try dsimp only at hSw)
    go_simp
    (try with_reducible rfl)
  (try go_frame)
  refine wpAnyH_take (i := 1) (oi := _) (v := ?_) rfl (by kernel_rfl) (by kernel_rfl) (by kernel_rfl) (fun _ _ _ h => h) (Or.inl ⟨by rfl, ?_⟩) (by assumption) ?_
  rotate_left
  · intro w hSw
    (try dsimp only at hSw)
    go_simp
    (try with_reducible rfl)
  (try go_frame)
  refine wpAnyH_take (i := 2) (oi := _) (v := ?_) rfl (by kernel_rfl) (by kernel_rfl) (by kernel_rfl) (fun _ _ _ h => h) (Or.inl ⟨by rfl, ?_⟩) (by assumption) ?_
  rotate_left
  · intro w hSw
    (try dsimp only at hSw)
    go_simp
    (try with_reducible rfl)
  (try go_frame)
  refine wpAnyH_take (i := 3) (oi := _) (v := ?_) rfl (by kernel_rfl) (by kernel_rfl) (by kernel_rfl) (fun _ _ _ h => h) (Or.inl ⟨by rfl, ?_⟩) (by assumption) ?_
  rotate_left
  · intro w hSw
    (try dsimp only at hSw)
    go_simp
    (try with_reducible rfl)
  (try go_frame)
  refine wpAnyH_take (i := 4) (oi := _) (v := ?_) rfl (by kernel_rfl) (by kernel_rfl) (by kernel_rfl) (fun _ _ _ h => h) (Or.inl ⟨by rfl, ?_⟩) (by assumption) ?_
  rotate_left
  · intro w hSw
    (try dsimp only at hSw)
    go_simp
    (try with_reducible rfl)
  (try go_frame)
  refine wpAnyH_take (i := 5) (oi := _) (v := ?_) rfl (by kernel_rfl) (by kernel_rfl) (by kernel_rfl) (fun _ _ _ h => h) (Or.inl ⟨by rfl, ?_⟩) (by assumption) ?_
  rotate_left
  · intro w hSw
    (try dsimp only at hSw)
    go_simp
    (try with_reducible rfl)
  (try go_frame)
  refine wpAnyH_take (i := 6) (oi := _) (v := ?_) rfl (by kernel_rfl) (by kernel_rfl) (by kernel_rfl) (fun _ _ _ h => h) (Or.inl ⟨by rfl, ?_⟩) (by assumption) ?_
  rotate_left
  · intro w hSw
    (try dsimp only at hSw)
    go_simp
    (try with_reducible rfl)
  (try go_frame)
  refine wpAnyH_ready (rs := [7]) (by kernel_rfl) (by simp) ?_
  refine AllReadyH.cons (o := _) rfl (fun K hK => ?_) AllReadyH.nil
  go_simp
  refine (params_any c F B top st f n row k u _ (hide hF0.out.drew) (hide (hE.out.grown (grown_new _)).drew) hu hp pl hpl).mono ?_
  rintro e w2 ⟨⟨a2, cp, rfl, hI⟩, hg2, hF2⟩
  have HG2 : Hid (w.grownBy w2 (some F)) := grown_tr (grown_new _) (grown_drew hg2)
  have HS2 : Hid (∀ w3, w2.grownBy w3 (some F) → w3.cell? ⟨F, 1, none⟩ = some (.slice c.au c.m.units.length c.cu) → (w3.cell? ⟨F, 1, none⟩ = some (.slice (some ⟨b, off, none⟩) c.m.units.length c.cu) ∧ w3.cell? ⟨w.heap.size, 1, none⟩ = some (.int .i64 (k : Int)) ∧ w3.cell? ⟨b, off + k * 6 + 3, none⟩ = some (.int .i64 u.result))) := fun w3 hg3 h1 => ⟨by rw [h1, HA.out], (cell_eq (kept (grown_tr (grown_drew hg2) hg3) (by simp) (by omega)) _).trans d2, (cell_eq (kept (grown_tr (grown_drew hg2) hg3) (by simp; omega) (by omega)) _).trans d3⟩
  have HF2 := hide hF2
  have HI := hide hI
  refine hK.out _ _ (HS2.out w2 (grown_refl _ _) (fl_cells hF2.blk).2.1) (fun hHeld => ?_)
  clear hK hI hF2 hg2
  refine wpAnyH_ready (rs := [8]) (by kernel_rfl) (by simp) ?_
  refine AllReadyH.cons (o := _) rfl (fun K hK => ?_) AllReadyH.nil
  go_simp
  refine (turn_any c F B top st f n row (10 + (k : Int)) pl a2 cp _ HF2 (by omega) hpll HI (by have := HG2.out.size; omega) (hide (fun b off _ hb => by omega)) r hr).mono ?_
  rintro e w9 hS
  have HG9 : Hid (w.grownBy w9 (some F)) := grown_tr HG2.out hS.grown
  cases r with
  | error er =>
    obtain rfl := hS.no er rfl
    clear hS hK
    go_wp2
    exact ⟨rfl, SEnds.bad HG9.out rfl⟩
  | ok st9 =>
    obtain ⟨rfl, top9, hF9⟩ := hS.yes st9 rfl
    have HF9 := hide hF9
    refine hK.out _ _ (HS2.out w9 hS.grown (fl_cells HF9.out.blk).2.1) (fun hHeld => ?_)
    clear hK hS hF9
    refine wpAnyH_done (by kernel_rfl) ?_ _
    go_wp2
    go_end0
    exact SEnds.good HG9.out rfl HF9.out

end Go.Proofs.YtbdcmkmeljddmaaGreatDoor

