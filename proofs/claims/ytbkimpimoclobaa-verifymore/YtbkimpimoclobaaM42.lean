/- Units in a row of their own. -/
import Derived.Test.YtbkimpimoclobaaM41
namespace Go.Proofs.Ytbkimpimoclobaa
open Go.RowKit

theorem Try.infounit : (Try.prog.info? 35).map (fun i => (i.zero, i.size, i.bytes)) = some (some (.agg #[.int .i64 0, .int .i64 0, .slice none 0 0, .int .i64 0, .int .i64 0, .slice none 0 0]), 6, 80) := by kernel_rfl

/-- A unit, and where its rows lie. -/
structure UV where
  u : Vf.Un
  al : Option Addr
  ac : Option Addr
  cl : Nat
  cc : Nat
abbrev uvC (x : UV) : List Value := [.int .i64 x.u.kind, .int .i64 x.u.params, .slice x.al x.u.locals.length x.cl, .int .i64 x.u.result, .int .i64 x.u.takes, .slice x.ac x.u.code.length x.cc]
def uvs (l : List UV) : List Value := l.flatMap uvC
theorem uvs_cons (x : UV) (l : List UV) : uvs (x :: l) = uvC x ++ uvs l := rfl
theorem uvs_len (l : List UV) : (uvs l).length = l.length * 6 := by
  induction l with
  | nil => rfl
  | cons x l ih => rw [uvs_cons, List.length_append, ih]; simp; omega
theorem uvs_at : ∀ (l : List UV) (i : Nat) (x : UV), l[i]? = some x → ∀ j, j < 6 → (uvs l)[i * 6 + j]? = (uvC x)[j]?
  | y :: l, 0, x, h, j, hj => by
    simp at h
    subst h
    rw [uvs_cons, List.getElem?_append_left (by simp; omega)]
    simp
  | y :: l, i + 1, x, h, j, hj => by
    have := uvs_at l i x (by simpa using h) j hj
    rw [uvs_cons, List.getElem?_append_right (by simp; omega)]
    rw [← this]
    congr 1
    simp
    omega
theorem uvs_mem : ∀ (l : List UV) (j : Nat) (v : Value), (uvs l)[j]? = some v → ∃ i k x, j = i * 6 + k ∧ k < 6 ∧ l[i]? = some x ∧ (uvC x)[k]? = some v := by
  intro l j v h
  have hlt := (List.getElem?_eq_some_iff.1 h).1
  rw [uvs_len] at hlt
  have hi : j / 6 < l.length := by omega
  have hx := List.getElem?_eq_getElem hi
  have := uvs_at l (j / 6) _ hx (j % 6) (by omega)
  refine ⟨j / 6, j % 6, l[j / 6], by omega, by omega, hx, ?_⟩
  rw [← this, show j / 6 * 6 + j % 6 = j by omega]
  exact h
theorem uvs_one (l : List UV) : ∀ v ∈ uvs l, v.oneCell' = true := by
  intro v hv
  obtain ⟨x, _, hx⟩ := List.mem_flatMap.1 hv
  simp at hx
  rcases hx with rfl | rfl | rfl | rfl | rfl | rfl <;> rfl
theorem uvs_set (y : UV) : ∀ (l : List UV) (i : Nat) (_ : i < l.length), uvs (l.set i y) = (((((((uvs l).set (i * 6) (.int .i64 y.u.kind)).set (i * 6 + 1) (.int .i64 y.u.params)).set (i * 6 + 2) (.slice y.al y.u.locals.length y.cl)).set (i * 6 + 3) (.int .i64 y.u.result)).set (i * 6 + 4) (.int .i64 y.u.takes)).set (i * 6 + 5) (.slice y.ac y.u.code.length y.cc))
  | x :: l, 0, _ => by simp [uvs]
  | x :: l, i + 1, h => by
    have ih := uvs_set y l i (by simpa using h)
    rw [List.set_cons_succ, uvs_cons, ih, uvs_cons]
    have e : (i + 1) * 6 = i * 6 + 5 + 1 := by omega
    rw [e]
    simp only [uvC, List.cons_append, List.nil_append, List.set_cons_succ]

/-- Units in a row of which nothing else is known but where it lies. -/
structure UsIn (B : Nat) (w : World) (g : Nat) (l : List UV) (cap : Nat) : Prop where
  blk : ∃ cur : List Value, w.heap[g]? = some (.cells (List.toArray cur) 35 (0, 0)) ∧ cur.take (l.length * 6) = uvs l ∧ l.length * 6 ≤ cur.length
  un : ∀ (i : Nat) x, l[i]? = some x → UnIn B w x.u x.al x.ac x.cl x.cc
theorem UsIn.units {B : Nat} {w : World} {g : Nat} {l : List UV} {cap : Nat} (h : UsIn B w g l cap) (hB : w.heap.size ≤ B) : UnitsIn B w (l.map (·.u)) (some ⟨g, 0, none⟩) := by
  obtain ⟨cur, h1, h2, h3⟩ := h.blk
  have hlt := lt_of_block h1
  intro i u hu
  rw [List.getElem?_map] at hu
  obtain ⟨x, hx, rfl⟩ := Option.map_eq_some_iff.1 hu
  have hi := (List.getElem?_eq_some_iff.1 hx).1
  have cell : ∀ j, j < 6 → w.cell? ⟨g, 0 + i * 6 + j, none⟩ = (uvC x)[j]? := fun j hj => by
    rw [← uvs_at l i x hx j hj, ← h2, List.getElem?_take, if_pos (by omega)]
    simp [World.cell?, h1]
  exact ⟨g, 0, x.al, x.cl, x.ac, x.cc, rfl, by omega, h.un i x hx, cell 0 (by decide), cell 1 (by decide), cell 2 (by decide), cell 3 (by decide), cell 4 (by decide), cell 5 (by decide)⟩
/-- Units that lie somewhere, one by one. -/
theorem uvs_of {B : Nat} {w : World} {us : List Vf.Un} {b off : Nat} (h : UnitsIn B w us (some ⟨b, off, none⟩)) : ∃ l : List UV, l.map (·.u) = us ∧ (∀ (i : Nat) x, l[i]? = some x → UnIn B w x.u x.al x.ac x.cl x.cc) ∧ ∀ (j : Nat) v, (uvs l)[j]? = some v → w.cell? ((⟨b, off, none⟩ : Addr).add j) = some v := by
  obtain ⟨l, hl, hp⟩ := list_of (p := fun i (y : UV) => us[i]? = some y.u ∧ UnIn B w y.u y.al y.ac y.cl y.cc ∧ ∀ j, j < 6 → w.cell? ⟨b, off + i * 6 + j, none⟩ = (uvC y)[j]?) us.length (fun i hi => by
    obtain ⟨b', off', al, cl, ac, cc, e, _, hu, c0, c1, c2, c3, c4, c5⟩ := h i _ (List.getElem?_eq_getElem hi)
    cases e
    refine ⟨⟨us[i], al, ac, cl, cc⟩, List.getElem?_eq_getElem hi, hu, fun j hj => ?_⟩
    rcases (by omega : j = 0 ∨ j = 1 ∨ j = 2 ∨ j = 3 ∨ j = 4 ∨ j = 5) with rfl | rfl | rfl | rfl | rfl | rfl
    · exact c0
    · exact c1
    · exact c2
    · exact c3
    · exact c4
    · exact c5)
  refine ⟨l, List.ext_getElem? (fun i => ?_), fun i x hx => (hp i x hx).2.1, fun j v hv => ?_⟩
  · rw [List.getElem?_map]
    by_cases hi : i < l.length
    · rw [List.getElem?_eq_getElem hi, (hp i _ (List.getElem?_eq_getElem hi)).1]
      rfl
    · rw [List.getElem?_eq_none (by omega), List.getElem?_eq_none (by omega)]
      rfl
  · obtain ⟨i, k, x, rfl, hk, hx, hv'⟩ := uvs_mem l j v hv
    have := (hp i x hx).2.2 k hk
    unfold Addr.add
    split
    · rename_i h0
      rw [← hv', ← this]
      have h1 : i * 6 + k = 0 := h0
      rw [show off + i * 6 + k = off by omega]
    · rw [← hv', ← this]
      congr 2
      show off + (i * 6 + k) = off + i * 6 + k
      omega
theorem own_empty6 (X : World) (e : TypeId) {M : Nat} (hM : M ≤ X.heap.size) (size : Nat) : (X.alloc (.cells #[] e)).ownsRow M e size (.slice (some ⟨X.heap.size, 0, none⟩) 0 0) 0 [] :=
  ⟨by simp, .inr ⟨X.heap.size, 0, #[], rfl, hM, heap_alloc_new X _, Nat.le_refl _, by unfold maxLen; omega, by simp, by simp⟩⟩
theorem UnIn.grown {B : Nat} {w w' : World} {u : Vf.Un} {al ac : Option Addr} {cl cc g : Nat} (h : UnIn B w u al ac cl cc) (hg : w.grownBy w' (some g)) (hB : B ≤ g) (hw : B ≤ w.heap.size) : UnIn B w' u al ac cl cc := h.low (fun k hk => hg.block k (by omega) (by simp; omega))

end Go.Proofs.Ytbkimpimoclobaa

