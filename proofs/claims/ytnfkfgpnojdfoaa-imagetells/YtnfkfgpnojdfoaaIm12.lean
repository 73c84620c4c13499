/- A reader in memory; the walks of fail, next, unfolded, number, count. -/
import Derived.Test.YtnfkfgpnojdfoaaImP2
import Derived.Test.YtnfkfgpnojdfoaaIm6
namespace Go.Proofs.Ytnfkfgpnojdfoaa
open Go.RowKit

set_option maxHeartbeats 400000 in
theorem fail_any (w : World) : Calls Try.prog 32 #[] w fun e w' => e = .panicked [fltE 2 0] ∧ w' = w := by
  go_enter Try.func32, Try.ntmps32
  go_wp2_with fail
  refine (throw_any 0 2 _).mono ?_
  rintro e w1 ⟨rfl, rfl⟩
  go_wp2
  exact ⟨rfl, rfl, rfl⟩

/-- Nothing but block R has turned. -/
structure Kr (R : Nat) (w w' : World) : Prop where
  os : w'.os = w.os
  tape : w'.tape = w.tape
  output : w'.output = w.output
  size : w.heap.size ≤ w'.heap.size
  blk : ∀ k, k < w.heap.size → k ≠ R → w'.heap[k]? = w.heap[k]?
theorem Kr.refl (R : Nat) (w : World) : Kr R w w := ⟨rfl, rfl, rfl, Nat.le_refl _, fun _ _ _ => rfl⟩
theorem Kr.trans {R : Nat} {a b c : World} (h : Kr R a b) (k : Kr R b c) : Kr R a c :=
  ⟨k.os.trans h.os, k.tape.trans h.tape, k.output.trans h.output, Nat.le_trans h.size k.size, fun j hj hne => (k.blk j (Nat.lt_of_lt_of_le hj h.size) hne).trans (h.blk j hj hne)⟩
theorem Kr.alloc {R : Nat} {w w' : World} (h : Kr R w w') (o : Obj) : Kr R w (w'.alloc o) :=
  h.trans ⟨rfl, rfl, rfl, by simp, fun _ hk _ => Below.heap_alloc _ _ _ hk⟩
theorem Kr.drew {R : Nat} {w w' : World} (h : Kr R w w') : Kr R w w'.drew := h.trans ⟨rfl, rfl, rfl, Nat.le_refl _, fun _ _ _ => rfl⟩
theorem Kr.undrew {R : Nat} {w w' : World} (h : Kr R w.drew w') : Kr R w w' := ⟨h.os, h.tape, h.output, h.size, h.blk⟩
theorem Kr.set {R : Nat} {w w' : World} (h : Kr R w w') {a : Addr} (ha : a.block = R ∨ w.heap.size ≤ a.block) (u : Value) : Kr R w (w'.setCell a u) :=
  ⟨h.os, h.tape, h.output, by simpa [World.setCell] using h.size, fun k hk hne => (Below.heap_setCell _ _ _ _ (by omega)).trans (h.blk k hk hne)⟩

/-- A reader in block R: the bytes l are still to be read, in block b. -/
structure RD (w : World) (R b : Nat) (l : List Nat) : Prop where
  row : ∃ o c, w.heap[R]? = some (.cells #[.slice (some ⟨b, o, none⟩) l.length c] 57 (0, 0)) ∧ l.length < c ∧ ∀ (i x : Nat), l[i]? = some x → w.cell? ⟨b, o + i, none⟩ = some (.int .u8 x)
  ok : Im.Ok l
  few : l.length ≤ 60000
  ne : b ≠ R
  lt : b < w.heap.size
theorem RD.ltR {w : World} {R b : Nat} {l : List Nat} (h : RD w R b l) : R < w.heap.size := by
  obtain ⟨o, c, h1, _⟩ := h.row
  exact lt_of_block h1
theorem RD.far {w w' : World} {R b : Nat} {l : List Nat} (h : RD w R b l) (h1 : w'.heap[R]? = w.heap[R]?) (h2 : w'.heap[b]? = w.heap[b]?) (hs : w.heap.size ≤ w'.heap.size) : RD w' R b l := by
  obtain ⟨o, c, e1, e2, e3⟩ := h.row
  exact ⟨⟨o, c, h1.trans e1, e2, fun i x hx => (cell_eq h2 _).trans (e3 i x hx)⟩, h.ok, h.few, h.ne, Nat.lt_of_lt_of_le h.lt hs⟩
theorem RD.alloc {w : World} {R b : Nat} {l : List Nat} (h : RD w R b l) (o : Obj) : RD (w.alloc o) R b l :=
  h.far (Below.heap_alloc _ _ _ h.ltR) (Below.heap_alloc _ _ _ h.lt) (by simp)
theorem RD.drew {w : World} {R b : Nat} {l : List Nat} (h : RD w R b l) : RD w.drew R b l := h.far rfl rfl (Nat.le_refl _)

theorem rd_cell {w : World} {R : Nat} {v : Value} (h : w.heap[R]? = some (.cells #[v] 57 (0, 0))) : w.cell? ⟨R, 0, none⟩ = some v ∧ w.frozen? ⟨R, 0, none⟩ = false := by
  simp [World.cell?, World.frozen?, h]

set_option maxHeartbeats 400000 in
theorem next_none (R b : Nat) (w : World) (h : Hid (RD w R b [])) :
    Calls Try.prog 40 #[.pointer (some ⟨R, 0, none⟩)] w fun e w' => e = .panicked [fltE 2 0] ∧ w' = w := by
  obtain ⟨o, c, hR, hc, _⟩ := h.out.row
  obtain ⟨c0, f0⟩ := rd_cell hR
  simp only [List.length_nil] at c0
  clear hR
  go_enter Try.func40, Try.ntmps40
  go_wp2_with fail
  refine (fail_any _).mono ?_
  rintro e w1 ⟨rfl, rfl⟩
  go_wp2
  exact ⟨rfl, rfl, rfl⟩

theorem next_end {w : World} {R b o c x : Nat} {l : List Nat} (h : RD w R b (x :: l)) (hR : w.heap[R]? = some (.cells #[.slice (some ⟨b, o, none⟩) (l.length + 1) c] 57 (0, 0))) (hc : l.length + 1 < c) (hx : ∀ (i y : Nat), (x :: l)[i]? = some y → w.cell? ⟨b, o + i, none⟩ = some (.int .u8 y)) :
    RD (w.setCell ⟨R, 0, none⟩ (.slice (some ⟨b, o + 1, none⟩) l.length (c - 1))) R b l := by
  refine ⟨⟨o + 1, c - 1, ?_, by omega, fun i y hy => ?_⟩, fun z hz => h.ok z (by simp [hz]), by have := h.few; simp at this; omega, h.ne, by simpa [World.setCell] using h.lt⟩
  · simp only [World.setCell, Array.getElem?_modify, if_true, hR, Option.map_some]
    rfl
  · rw [cell_eq (Below.heap_setCell _ ⟨R, 0, none⟩ _ _ h.ne), show o + 1 + i = o + (i + 1) by omega]
    exact hx (i + 1) y (by simpa using hy)

set_option maxHeartbeats 400000 in
theorem next_some (R b x : Nat) (l : List Nat) (w : World) (h : Hid (RD w R b (x :: l))) :
    Calls Try.prog 40 #[.pointer (some ⟨R, 0, none⟩)] w fun e w' => e = .returned (.int .u8 x) ∧ RD w' R b l ∧ Kr R w w' := by
  obtain ⟨o, c, hR, hc, hx⟩ := h.out.row
  simp only [List.length_cons] at hR hc
  obtain ⟨c0, f0⟩ := rd_cell hR
  have cx := hx 0 x rfl
  rw [Nat.add_zero] at cx
  have HE := hide (next_end h.out hR hc hx)
  have hne : ¬ b = R := h.out.ne
  have hfew := h.out.few
  simp only [List.length_cons] at hfew
  have e1 : ((l.length : Int) + 1 == 0) = false := by simp; omega
  have n0 : (0 : Int) < (l.length : Int) + 1 := by omega
  clear hR hx
  go_enter Try.func40, Try.ntmps40
  go_wp2
  go_ret
  refine ⟨rfl, ?_, (Kr.refl R w).set (a := ⟨R, 0, none⟩) (.inl rfl) _⟩
  exact HE.out

end Go.Proofs.Ytnfkfgpnojdfoaa
