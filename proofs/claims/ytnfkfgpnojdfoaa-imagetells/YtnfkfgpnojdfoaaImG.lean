/- A module's bytes, of which one or two that stand together are others: no image. -/
import Derived.Test.YtnfkfgpnojdfoaaImP
namespace Go.Proofs.Ytnfkfgpnojdfoaa
namespace Im

theorem split2 {l : List Nat} {k x y : Nat} (hx : l[k]? = some x) (hy : l[k + 1]? = some y) : l = l.take k ++ x :: y :: l.drop (k + 2) := by
  obtain ⟨h1, rfl⟩ := List.getElem?_eq_some_iff.1 hx
  obtain ⟨h2, rfl⟩ := List.getElem?_eq_some_iff.1 hy
  conv => lhs; rw [← List.take_append_drop k l, List.drop_eq_getElem_cons h1, List.drop_eq_getElem_cons h2]
theorem set2 {l : List Nat} {k x y u v : Nat} (hx : l[k]? = some x) (hy : l[k + 1]? = some y) : (l.set k u).set (k + 1) v = l.take k ++ u :: v :: l.drop (k + 2) := by
  have hk : k < l.length := (List.getElem?_eq_some_iff.1 hx).1
  have e := split2 hx hy
  conv => lhs; rw [e]
  have hl : (l.take k).length = k := by simp; omega
  rw [List.set_append_right _ _ (by omega), hl, Nat.sub_self, List.set_append_right _ _ (by omega), hl]
  simp
theorem last2 : ∀ {l : List Nat}, 2 ≤ l.length → ∃ p x y, l = p ++ [x, y]
  | [], h => by simp at h
  | [_], h => by simp at h
  | [a, b], _ => ⟨[], a, b, rfl⟩
  | a :: b :: c :: l, _ => by
    obtain ⟨p, x, y, e⟩ := last2 (l := b :: c :: l) (by simp)
    exact ⟨a :: p, x, y, by rw [e]; rfl⟩

theorem guarded {b : List Nat} (hb : ∀ c ∈ b, c < 256) {k x y u v : Nat} (hx : (sealed b)[k]? = some x) (hy : (sealed b)[k + 1]? = some y) (hu : u < 256) (hv : v < 256) (h0 : u ≠ 0 ∨ v ≠ 0) :
    ∃ p x' y', ((sealed b).set k (x ^^^ u)).set (k + 1) (y ^^^ v) = p ++ [x', y'] ∧ sum p ≠ x' * 256 + y' := by
  have hs := sealed_lt hb
  have hx8 := hs x (List.mem_of_getElem? hx)
  have hy8 := hs y (List.mem_of_getElem? hy)
  have hk := (List.getElem?_eq_some_iff.1 hy).1
  obtain ⟨p, x', y', e⟩ := last2 (l := ((sealed b).set k (x ^^^ u)).set (k + 1) (y ^^^ v)) (by simp; omega)
  refine ⟨p, x', y', e, fun hsum => ?_⟩
  have hall : ∀ c ∈ ((sealed b).set k (x ^^^ u)).set (k + 1) (y ^^^ v), c < 256 := by
    intro c hc
    rcases List.mem_or_eq_of_mem_set hc with hc | rfl
    · rcases List.mem_or_eq_of_mem_set hc with hc | rfl
      · exact hs c hc
      · exact Nat.xor_lt_two_pow (n := 8) hx8 hu
    · exact Nat.xor_lt_two_pow (n := 8) hy8 hv
  have hx' : x' < 256 := hall x' (by rw [e]; simp)
  have hy' : y' < 256 := hall y' (by rw [e]; simp)
  have h1 : crc 65535 (((sealed b).set k (x ^^^ u)).set (k + 1) (y ^^^ v)) ≠ 0 := by
    rw [set2 hx hy]
    refine guards hu hv h0 ?_
    rw [← split2 hx hy]
    exact crc_own b
  apply h1
  rw [e]
  have := crc_own p
  rw [show sum p / 256 = x' by omega, show sum p % 256 = y' by omega] at this
  exact this

end Im
end Go.Proofs.Ytnfkfgpnojdfoaa
