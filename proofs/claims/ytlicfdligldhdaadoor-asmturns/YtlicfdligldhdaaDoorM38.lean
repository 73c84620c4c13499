/- The walk of AsmJoined. -/
import Derived.Test.YtlicfdligldhdaaDoorM25
import Derived.Test.YtlicfdligldhdaaDoorM33
import Derived.Test.YtlicfdligldhdaaDoorM14
import Derived.Maps.RangeWalk
namespace Go.Proofs.YtlicfdligldhdaaDoor.Aw
open Go.RowKit As

theorem text_ge : ∀ ls : List By, ls.length ≤ (text ls).length
  | [] => Nat.le_refl _
  | l :: ls => by
    have := text_ge ls
    show ls.length + 1 ≤ ((l ++ [10]) ++ text ls).length
    simp
    omega
theorem lines_ge : ∀ us : List Vf.Un, us.length ≤ (us.flatMap linesU).length
  | [] => Nat.le_refl _
  | u :: us => by
    have := lines_ge us
    show us.length + 1 ≤ (linesU u ++ us.flatMap linesU).length
    simp [linesU] at this ⊢
    omega
theorem read_nz {s : By} {e k : Nat} {m : Vf.Md} (h : readA s = ((e, k), m)) (h0 : e = 0) : readA s = ((0, 0), m) := by
  subst h0
  have hk : k = 0 := by
    unfold readA at h
    split at h
    · cases h
    · split at h
      · split at h
        · cases h; rfl
        · cases h
      · cases h
  rw [h, hk]

theorem fault_cellJ {w : World} {k : Nat} {x y : Value} (h : w.heap[k]? = some (.cells #[x, y] 33 (0, 0))) : w.cell? ⟨k, 0, none⟩ = some x := by
  simp [World.cell?, h]

section
variable {P : Program} {w : World}
theorem run_append_nothing (base : Nat) (t ty e : TypeId) (i : TypeInfo) (size : Nat) (ht : P.underlying t = some (.slice e)) (hi : P.info? e = some i) (v : Value) (n : Nat) (xs : List Value) (hown : w.ownsRow base e size v n xs) (c : Nat) :
    (Builtin.append_ #[t, t] ty #[v, .slice none 0 c]).run P w = .ok v w := by
  rcases hown.2 with ⟨rfl, rfl⟩ | ⟨g, cap, cur, rfl, _, _, hnc, _⟩
  · simp [Builtin.append_, run_underlying ht, sizeOf, typeInfo, hi, Builtin.lenOf, Builtin.firstCells]
  · simp [Builtin.append_, run_underlying ht, sizeOf, typeInfo, hi, Builtin.lenOf, Builtin.firstCells, hnc, storeCells]
end
end Go.Proofs.YtlicfdligldhdaaDoor.Aw

