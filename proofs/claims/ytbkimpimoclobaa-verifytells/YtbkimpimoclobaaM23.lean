/- Units in a row of their own. -/
import Derived.Test.YtbkimpimoclobaaM22
namespace Go.Proofs.Ytbkimpimoclobaa
open Go.RowKit

/-- A unit, and where its rows lie. -/
structure UV where
  u : Vf.Un
  al : Option Addr
  ac : Option Addr
  cl : Nat
  cc : Nat
abbrev uvC (x : UV) : List Value := [.int .i64 x.u.kind, .int .i64 x.u.params, .slice x.al x.u.locals.length x.cl, .int .i64 x.u.result, .int .i64 x.u.takes, .slice x.ac x.u.code.length x.cc]
def uvs (l : List UV) : List Value := l.flatMap uvC
theorem uvs_cons (x : UV) (l : List UV) : uvs (x :: l) = uvC x ++ uvs l := rfl
theorem uvs_at : ∀ (l : List UV) (i : Nat) (x : UV), l[i]? = some x → ∀ j, j < 6 → (uvs l)[i * 6 + j]? = (uvC x)[j]?
  | y :: l, 0, x, h, j, hj => by
    simp at h
    subst h
    rw [uvs_cons, List.getElem?_append_left (by simp; omega)]
    simp
  | y :: l, i + 1, x, h, j, hj => by
    have := uvs_at l i x (by simpa using h) j hj
    rw [uvs_cons, List.getElem?_append_right (by simp; omega)]
    rw [← this]
    congr 1
    simp
    omega
theorem uvs_set (y : UV) : ∀ (l : List UV) (i : Nat) (_ : i < l.length), uvs (l.set i y) = (((((((uvs l).set (i * 6) (.int .i64 y.u.kind)).set (i * 6 + 1) (.int .i64 y.u.params)).set (i * 6 + 2) (.slice y.al y.u.locals.length y.cl)).set (i * 6 + 3) (.int .i64 y.u.result)).set (i * 6 + 4) (.int .i64 y.u.takes)).set (i * 6 + 5) (.slice y.ac y.u.code.length y.cc))
  | x :: l, 0, _ => by simp [uvs]
  | x :: l, i + 1, h => by
    have ih := uvs_set y l i (by simpa using h)
    rw [List.set_cons_succ, uvs_cons, ih, uvs_cons]
    have e : (i + 1) * 6 = i * 6 + 5 + 1 := by omega
    rw [e]
    simp only [uvC, List.cons_append, List.nil_append, List.set_cons_succ]

/-- Units in a row of which nothing else is known but where it lies. -/
structure UsIn (B : Nat) (w : World) (g : Nat) (l : List UV) (cap : Nat) : Prop where
  blk : ∃ cur : List Value, w.heap[g]? = some (.cells (List.toArray cur) 35 (0, 0)) ∧ cur.take (l.length * 6) = uvs l ∧ l.length * 6 ≤ cur.length
  un : ∀ (i : Nat) x, l[i]? = some x → UnIn B w x.u x.al x.ac x.cl x.cc
theorem UsIn.units {B : Nat} {w : World} {g : Nat} {l : List UV} {cap : Nat} (h : UsIn B w g l cap) (hB : w.heap.size ≤ B) : UnitsIn B w (l.map (·.u)) (some ⟨g, 0, none⟩) := by
  obtain ⟨cur, h1, h2, h3⟩ := h.blk
  have hlt := lt_of_block h1
  intro i u hu
  rw [List.getElem?_map] at hu
  obtain ⟨x, hx, rfl⟩ := Option.map_eq_some_iff.1 hu
  have hi := (List.getElem?_eq_some_iff.1 hx).1
  have cell : ∀ j, j < 6 → w.cell? ⟨g, 0 + i * 6 + j, none⟩ = (uvC x)[j]? := fun j hj => by
    rw [← uvs_at l i x hx j hj, ← h2, List.getElem?_take, if_pos (by omega)]
    simp [World.cell?, h1]
  exact ⟨g, 0, x.al, x.cl, x.ac, x.cc, rfl, by omega, h.un i x hx, cell 0 (by decide), cell 1 (by decide), cell 2 (by decide), cell 3 (by decide), cell 4 (by decide), cell 5 (by decide)⟩
theorem UnIn.grown {B : Nat} {w w' : World} {u : Vf.Un} {al ac : Option Addr} {cl cc g : Nat} (h : UnIn B w u al ac cl cc) (hg : w.grownBy w' (some g)) (hB : B ≤ g) (hw : B ≤ w.heap.size) : UnIn B w' u al ac cl cc := h.low (fun k hk => hg.block k (by omega) (by simp; omega))

end Go.Proofs.Ytbkimpimoclobaa

/- The small task among units in a row. -/
namespace Go.Proofs.Ytbkimpimoclobaa
open Go.RowKit

end Go.Proofs.Ytbkimpimoclobaa

