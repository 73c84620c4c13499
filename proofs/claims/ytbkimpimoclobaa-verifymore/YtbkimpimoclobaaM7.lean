/- What speak and reckon need besides: rows of one and two types that are laid for a call. -/
import Derived.Test.YtbkimpimoclobaaM6
namespace Go.Proofs.Ytbkimpimoclobaa
open Go.RowKit

abbrev insO (op a nn : Int) : Obj := .cells #[.int .i64 op, .int .i64 a, .int .i64 nn] 41 (0, 0)
theorem alloc_at (w : World) (o : Obj) : (w.alloc o).heap[w.heap.size]? = some o := heap_alloc_new w o

theorem turnL_any (c : FC) (F N : Nat) (top : Option Addr) (st : List Int) (f : Vf.Fl) (n : Int) (row : Value) (t : Int) (l : List Int) (cp : Nat) (w : World) (h : Hid (FlIn c w F top st f n row)) (hl : st.length < 900) (hll : l.length < 1000) (h64 : ∀ x ∈ l, I64 x) (hq : w.heap[N]? = some (.cells (l.map (Value.int .i64)).toArray 3 (0, 0))) (hN : N ≠ F) (r : Except Int (List Int)) (hr : Hid (r = Vf.turn t l st)) :
    Calls Try.prog 56 #[.pointer (some ⟨F, 0, none⟩), .int .i64 t, .slice (some ⟨N, 0, none⟩) l.length cp] w fun e w' => SEnds c F f n row r w e w' :=
  turn_any c F w.heap.size top st f n row t l (some ⟨N, 0, none⟩) cp w h hl hll (hide (ints_new hq (lt_of_block hq) h64)) (Nat.le_refl _) (hide (fun b off e _ => by cases e; exact hN)) r hr
theorem turn1_any (c : FC) (F N : Nat) (top : Option Addr) (st : List Int) (f : Vf.Fl) (n : Int) (row : Value) (t x : Int) (w : World) (h : Hid (FlIn c w F top st f n row)) (hl : st.length < 900) (h64 : Hid (I64 x)) (hq : w.heap[N]? = some (.cells #[.int .i64 x] 3 (0, 0))) (hN : N ≠ F) (r : Except Int (List Int)) (hr : Hid (r = Vf.turn t [x] st)) :
    Calls Try.prog 56 #[.pointer (some ⟨F, 0, none⟩), .int .i64 t, .slice (some ⟨N, 0, none⟩) 1 1] w fun e w' => SEnds c F f n row r w e w' :=
  turnL_any c F N top st f n row t [x] 1 w h hl (by simp) (by simpa using h64.out) hq hN r hr
theorem turn2_any (c : FC) (F N : Nat) (top : Option Addr) (st : List Int) (f : Vf.Fl) (n : Int) (row : Value) (t x y : Int) (w : World) (h : Hid (FlIn c w F top st f n row)) (hl : st.length < 900) (h64 : Hid (I64 x ∧ I64 y)) (hq : w.heap[N]? = some (.cells #[.int .i64 x, .int .i64 y] 3 (0, 0))) (hN : N ≠ F) (r : Except Int (List Int)) (hr : Hid (r = Vf.turn t [x, y] st)) :
    Calls Try.prog 56 #[.pointer (some ⟨F, 0, none⟩), .int .i64 t, .slice (some ⟨N, 0, none⟩) 2 2] w fun e w' => SEnds c F f n row r w e w' :=
  turnL_any c F N top st f n row t [x, y] 2 w h hl (by simp) (by intro z hz; simp at hz; rcases hz with rfl | rfl; exact h64.out.1; exact h64.out.2) hq hN r hr
theorem take1_any (c : FC) (F N : Nat) (top : Option Addr) (st : List Int) (f : Vf.Fl) (n : Int) (row : Value) (x : Int) (w : World) (h : Hid (FlIn c w F top st f n row)) (hl : st.length < 1000) (h64 : Hid (I64 x)) (hq : w.heap[N]? = some (.cells #[.int .i64 x] 3 (0, 0))) (hN : N ≠ F) (r : Except Int (List Int)) (hr : Hid (r = Vf.takeR [x] st)) :
    Calls Try.prog 54 #[.pointer (some ⟨F, 0, none⟩), .slice (some ⟨N, 0, none⟩) 1 1] w fun e w' => SEnds c F f n row r w e w' :=
  take_any c F w.heap.size top st f n row [x] (some ⟨N, 0, none⟩) 1 w h hl (by simp) (hide (ints_new hq (lt_of_block hq) (by simpa using h64.out))) (Nat.le_refl _) (hide (fun b off e _ => by cases e; exact hN)) r hr

/-- A module whose heads and forms are right. -/
structure Rt (m : Vf.Md) : Prop where
  units : m.units.length ≤ 30
  boxes : ∀ (k : Nat) b, m.boxes[k]? = some b → Vf.plain b.ty = true
  heads : ∀ (k : Nat) u, m.units[k]? = some u → Vf.headE m u = 0 ∧ Vf.Forms m u
theorem headE_zero {m : Vf.Md} {u : Vf.Un} (h : Vf.headE m u = 0) : Vf.kindly u = true ∧ Vf.sized u = true ∧ Vf.typed m u = true := by
  unfold Vf.headE at h
  cases h1 : Vf.kindly u
  · rw [h1] at h; simp at h
  · cases h2 : Vf.sized u
    · rw [h1, h2] at h; simp at h
    · cases h3 : Vf.typed m u
      · rw [h1, h2, h3] at h; simp at h
      · exact ⟨rfl, rfl, rfl⟩
theorem sized_true {u : Vf.Un} (h : Vf.sized u = true) : u.locals.length ≤ 200 ∧ 0 ≤ u.params ∧ u.params ≤ u.locals.length ∧ u.params ≤ 6 ∧ 0 < u.code.length ∧ u.code.length ≤ 4000 := by
  unfold Vf.sized at h
  simp only [Bool.and_eq_true, decide_eq_true_eq] at h
  obtain ⟨⟨⟨⟨h1, h2⟩, h3⟩, h4⟩, h5⟩ := h
  split at h3 <;> omega
theorem formE_zero {m : Vf.Md} {u : Vf.Un} {c : Vf.Ins} (h : Vf.formE m u c = 0) : 1 ≤ c.op ∧ c.op ≤ 32 ∧ Vf.ranged m u c = true := by
  unfold Vf.formE at h
  split at h
  · cases h
  · split at h
    · cases h
    · rename_i h1 h2
      exact ⟨by omega, by omega, by simpa using h2⟩
theorem unit_of {m : Vf.Md} {k : Nat} {u : Vf.Un} (h : m.units[k]? = some u) : Vf.unit m (k : Int) = u := by
  unfold Vf.unit
  simp [h]
theorem box_of {m : Vf.Md} {k : Nat} {b : Vf.Bx} (h : m.boxes[k]? = some b) : Vf.boxTy m (k : Int) = b.ty := by
  unfold Vf.boxTy
  simp [h]
theorem local_of {u : Vf.Un} {k : Nat} {t : Int} (h : u.locals[k]? = some t) : Vf.localTy u (k : Int) = t := by
  unfold Vf.localTy
  simp [h]
theorem ins_cells {w : World} {N : Nat} {op a nn : Int} (h : w.heap[N]? = some (insO op a nn)) : w.cell? ⟨N, 0, none⟩ = some (.int .i64 op) ∧ w.cell? ⟨N, 1, none⟩ = some (.int .i64 a) ∧ w.cell? ⟨N, 2, none⟩ = some (.int .i64 nn) := by
  simp [World.cell?, h]
theorem cell_new (w : World) (o : Obj) {b off : Nat} (h : b < w.heap.size) : (w.alloc o).cell? ⟨b, off, none⟩ = w.cell? ⟨b, off, none⟩ := cell_eq (Below.heap_alloc _ _ _ h) _

end Go.Proofs.Ytbkimpimoclobaa

