/- Modules in memory, out of what an argument reads as. -/
import Derived.Test.YtlicfdligldhdaaDoorM7
import Derived.ChangeArms
import Derived.DataReads
namespace Go.Proofs.YtlicfdligldhdaaDoor
open Go.RowKit

section
variable {H : Type} {enc : TypeId × Value → H} {w : World} {base : Nat} {spare : Nat → Bool} {held : Bool}

theorem list_of {α : Type} {p : Nat → α → Prop} : ∀ (n : Nat), (∀ i, i < n → ∃ y, p i y) → ∃ l : List α, l.length = n ∧ ∀ i y, l[i]? = some y → p i y
  | 0, _ => ⟨[], rfl, fun i y hy => by simp at hy⟩
  | m + 1, hall => by
    obtain ⟨l, h1, h2⟩ := list_of m (fun i hi => hall i (by omega))
    obtain ⟨y, h3⟩ := hall m (by omega)
    refine ⟨l ++ [y], by simp [h1], fun i z hz => ?_⟩
    by_cases hi : i < l.length
    · rw [List.getElem?_append_left hi] at hz; exact h2 i z hz
    · rw [List.getElem?_append_right (by omega)] at hz
      have hi2 : i - l.length = 0 := by
        have := (List.getElem?_eq_some_iff.1 hz).1
        simp at this; omega
      rw [hi2] at hz
      simp at hz
      subst hz
      obtain rfl : i = m := by omega
      exact h3

theorem two {cs : List Value} (h : cs.length = 2) : ∃ a b, cs = [a, b] := by
  match cs, h with
  | [a, b], _ => exact ⟨a, b, rfl⟩

end
end Go.Proofs.YtlicfdligldhdaaDoor

