/- The tokens of a text, plainly. -/
import Derived.Test.YtfmkhdncbdkpoaaPlain3
namespace Go.Proofs.Ytfmkhdncbdkpoaa
namespace Lx

/-- A token. -/
structure Tk where
  kind : Nat
  text : ByteArray
  num : Nat
  pos : Nat

/-- Its cells. -/
def Tk.cells (t : Tk) : List Value := [.int .i64 t.kind, .string t.text, .int .i64 t.num, .int .i64 t.pos]

/-- The cells of several tokens. -/
def cellsOf (l : List Tk) : List Value := l.flatMap Tk.cells

theorem cellsOf_length (l : List Tk) : (cellsOf l).length = l.length * 4 := by
  induction l with
  | nil => rfl
  | cons t l ih => simp only [cellsOf, List.flatMap_cons, List.length_append] at ih ⊢; rw [ih]; simp [Tk.cells]; omega

theorem cellsOf_snoc (l : List Tk) (t : Tk) : cellsOf (l ++ [t]) = cellsOf l ++ t.cells := by simp [cellsOf]

/-- Where the next token begins, behind place a. -/
def place (s : ByteArray) (a : Nat) : Nat := a + gapL false (s.data.toList.drop a)

theorem place_le (s : ByteArray) (a : Nat) (h : a ≤ s.size) : place s a ≤ s.size := by
  have := gapL_le false (s.data.toList.drop a)
  simp at this
  have e : s.data.size = s.size := rfl
  unfold place; omega

/-- The tokens from place a on, and what is wrong: fuel f. -/
def lexFrom : Nat → ByteArray → Nat → List Tk × Nat × Nat
  | 0, _, _ => ([], 0, 0)
  | f + 1, s, a =>
    if s.size ≤ place s a then ([], 0, 0)
    else if (firstL (s.data.toList.drop (place s a))).1 = 0 then
      (⟨(firstL (s.data.toList.drop (place s a))).2.1, s.extract (place s a) (place s a + (firstL (s.data.toList.drop (place s a))).2.2.1), (firstL (s.data.toList.drop (place s a))).2.2.2, place s a⟩ ::
        (lexFrom f s (place s a + (firstL (s.data.toList.drop (place s a))).2.2.1)).1,
       (lexFrom f s (place s a + (firstL (s.data.toList.drop (place s a))).2.2.1)).2)
    else ([], (firstL (s.data.toList.drop (place s a))).1, place s a)

theorem lexFrom_end {f : Nat} {s : ByteArray} {a p : Nat} (hp : place s a = p) (he : s.size ≤ p) : lexFrom (f + 1) s a = ([], 0, 0) := by
  rw [lexFrom, hp, if_pos he]
theorem lexFrom_tok {f : Nat} {s : ByteArray} {a p K N M : Nat} (hp : place s a = p) (he : ¬ s.size ≤ p) (hF : firstL (s.data.toList.drop p) = (0, K, N, M)) :
    lexFrom (f + 1) s a = (⟨K, s.extract p (p + N), M, p⟩ :: (lexFrom f s (p + N)).1, (lexFrom f s (p + N)).2) := by
  rw [lexFrom, hp, if_neg he, hF]; rfl
theorem lexFrom_err {f : Nat} {s : ByteArray} {a p E K N M : Nat} (hp : place s a = p) (he : ¬ s.size ≤ p) (hF : firstL (s.data.toList.drop p) = (E, K, N, M)) (hE : ¬ E = 0) :
    lexFrom (f + 1) s a = ([], E, p) := by
  rw [lexFrom, hp, if_neg he, hF]; simp [hE]

/-- What Tokens answers. -/
def lexB (s : ByteArray) : List Tk × Nat × Nat :=
  if 6000 < s.size then ([], 4, 0)
  else if (lexFrom (s.size + 1) s 0).2.1 = 0 then lexFrom (s.size + 1) s 0 else ([], (lexFrom (s.size + 1) s 0).2)

end Lx
end Go.Proofs.Ytfmkhdncbdkpoaa
