/- How long a module's bytes are at the most. -/
import Derived.Test.YtnfkfgpnojdfoaaIm30
import Derived.Test.YtnfkfgpnojdfoaaImP2
namespace Go.Proofs.Ytnfkfgpnojdfoaa

theorem Im.ins_len {i : Im.Ins} (h : I64 i.op ∧ I64 i.a ∧ I64 i.n) : (Im.inb i).length ≤ 30 := by
  have h1 := Im.nums_len [i.op, i.a] (by intro x hx; simp at hx; rcases hx with rfl | rfl; exact h.1; exact h.2.1)
  have h2 := Im.num_len h.2.2
  simp only [Im.inb, List.length_append, List.length_cons, List.length_nil] at *
  omega
theorem Im.flat_len {α : Type} (f : α → List Nat) (g : α → Nat) (l : List α) (h : ∀ x ∈ l, (f x).length ≤ g x) : (l.flatMap f).length ≤ (l.map g).sum := by
  rw [List.length_flatMap]
  exact sum_le _ _ l h
theorem sum_mul {α : Type} (k : Nat) (g : α → Nat) : ∀ (l : List α), (l.map (fun x => k * g x)).sum = k * (l.map g).sum
  | [] => by simp
  | x :: l => by have := sum_mul k g l; simp only [List.map_cons, List.sum_cons, Nat.mul_add]; omega
theorem Im.unit_len {u : Im.Un} (h : Im.UnR u) : (Im.unb u).length ≤ 60 * (1 + u.locals.length + u.code.length) := by
  have h1 := Im.nums_len [u.kind, u.params, (u.locals.length : Int)] (by intro x hx; simp at hx; rcases hx with rfl | rfl | rfl; exact h.a.1; exact h.a.2; exact ⟨by omega, by have := h.n.1; omega⟩)
  have h2 := Im.nums_len u.locals h.l
  have h3 := Im.nums_len [u.result, u.takes, (u.code.length : Int)] (by intro x hx; simp at hx; rcases hx with rfl | rfl | rfl; exact h.b.1; exact h.b.2; exact ⟨by omega, by have := h.n.2; omega⟩)
  have h4 := Im.flat_len Im.inb (fun _ => 30 * 1) u.code (fun i hi => Im.ins_len (h.c i hi))
  rw [sum_mul 30 (fun _ => 1), ones] at h4
  simp only [Im.unb, List.length_append, List.length_cons, List.length_nil] at *
  omega
theorem Im.body_len {m : Im.Md} (h : Im.MdR m) : (Im.body m).length ≤ 20 + 60 * Im.cnt m := by
  have h1 := Im.nums_len [(m.boxes.length : Int)] (by intro x hx; simp at hx; subst hx; exact ⟨by omega, by have := h.n.1; omega⟩)
  have h2 := Im.nums_len [(m.units.length : Int)] (by intro x hx; simp at hx; subst hx; exact ⟨by omega, by have := h.n.2; omega⟩)
  have h3 := Im.flat_len Im.bxb (fun _ => 20 * 1) m.boxes (fun b hb => by
    have := Im.nums_len [b.ty, b.cap] (by intro x hx; simp at hx; rcases hx with rfl | rfl; exact (h.b b hb).1; exact (h.b b hb).2)
    simpa [Im.bxb] using this)
  rw [sum_mul 20 (fun _ => 1), ones] at h3
  have h4 := Im.flat_len Im.unb (fun u => 60 * (1 + u.locals.length + u.code.length)) m.units (fun u hu => Im.unit_len (h.u u hu))
  rw [sum_mul 60 (fun u : Im.Un => 1 + u.locals.length + u.code.length)] at h4
  simp only [Im.body, Im.cnt, List.length_append, List.length_cons, List.length_nil] at *
  omega
theorem mem_sum {α : Type} (g : α → Nat) : ∀ (l : List α) (x : α), x ∈ l → g x ≤ (l.map g).sum
  | y :: l, x, h => by
    simp only [List.map_cons, List.sum_cons]
    rcases List.mem_cons.1 h with rfl | h
    · omega
    · have := mem_sum g l x h; omega
theorem Im.locals_len {m : Im.Md} : ∀ u ∈ m.units, u.locals.length ≤ Im.cnt m := fun u hu => by
  have := mem_sum (fun u : Im.Un => 1 + u.locals.length + u.code.length) m.units u hu
  unfold Im.cnt
  omega

end Go.Proofs.Ytnfkfgpnojdfoaa
