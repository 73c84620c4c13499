/- More plain functions: the first token of a text, and the number of digits. -/
import Derived.Test.YtfmkhdncbdkpoaaPlain
namespace Go.Proofs.Ytfmkhdncbdkpoaa
namespace Lx

theorem byte_cons (s : ByteArray) (h0 : 0 < s.size) : s.data.toList = s[0] :: s.data.toList.drop 1 := by
  have h := List.drop_eq_getElem_cons (l := s.data.toList) (i := 0) (by simpa using h0)
  rw [List.drop_zero] at h
  exact h

theorem signL_short (s : ByteArray) (h0 : 0 < s.size) (h1 : ¬ 1 < s.size) : signL s.data.toList = if one s[0] then 1 else 0 := by
  rw [byte_cons s h0, List.drop_of_length_le (by simp; omega)]
  simp [signL]

theorem signL_long (s : ByteArray) (h1 : 1 < s.size) : signL s.data.toList = if decide (s[1].toNat = 61) && two s[0] then 2 else if one s[0] then 1 else 0 := by
  have h0 : 0 < s.size := by omega
  have h := List.drop_eq_getElem_cons (l := s.data.toList) (i := 1) (by simpa using h1)
  rw [byte_cons s h0, h]
  have e : s.data.toList[1]'(by simpa using h1) = s[1] := rfl
  rw [e]
  have e2 : (some s[1] == some (61 : UInt8)) = decide (s[1].toNat = 61) := by
    rw [Bool.eq_iff_iff]; simp [← UInt8.toNat_inj]
  simp only [signL, List.head?_cons, e2]

/-- The number of digits. -/
def numL (l : List UInt8) : Nat := l.foldl (fun n c => n * 10 + (c.toNat - 48)) 0

theorem numL_snoc (l : List UInt8) (c : UInt8) : numL (l ++ [c]) = numL l * 10 + (c.toNat - 48) := by
  simp [numL, List.foldl_append]

theorem numL_lt : ∀ (l : List UInt8), (∀ c ∈ l, isDig c = true) → numL l < 10 ^ l.length := by
  intro l
  generalize hn : l.length = n
  induction n generalizing l with
  | zero =>
    intro _
    have e : l = [] := List.length_eq_zero_iff.1 hn
    subst e
    decide
  | succ n ih =>
    intro h
    obtain ⟨xs, x, rfl⟩ : ∃ xs x, l = xs ++ [x] := ⟨l.dropLast, l.getLast (by intro e; simp [e] at hn), (List.dropLast_concat_getLast _).symm⟩
    have hx := h x (by simp)
    have := ih xs (by simpa using hn) (fun c hc => h c (by simp [hc]))
    rw [numL_snoc, Nat.pow_succ]
    have hx2 : x.toNat ≤ 57 := by have := of_decide_eq_true hx; omega
    omega

/-- The first token of l: what is wrong, its kind, its length, its number. -/
def firstL (l : List UInt8) : Nat × Nat × Nat × Nat :=
  match l with
  | [] => (2, 0, 0, 0)
  | c :: r =>
    if isLet c then (0, 1, span isWrd (c :: r), 0)
    else if isDig c then (if 15 < span isDig (c :: r) then (3, 0, 0, 0) else (0, 2, span isDig (c :: r), numL ((c :: r).take (span isDig (c :: r)))))
    else if signL (c :: r) = 0 then (2, 0, 0, 0) else (0, 3, signL (c :: r), 0)

theorem take_span_all (p : UInt8 → Bool) : ∀ (l : List UInt8), ∀ c ∈ l.take (span p l), p c = true
  | [], c, h => by simp at h
  | a :: l, c, h => by
    unfold span at h
    rw [List.takeWhile_cons] at h
    split at h
    · rename_i ha
      simp only [List.length_cons, List.take_succ_cons, List.mem_cons] at h
      rcases h with rfl | h
      · exact ha
      · exact take_span_all p l c h
    · simp at h

theorem signL_le (l : List UInt8) : signL l ≤ l.length := by
  match l with
  | [] => simp [signL]
  | [c] => simp [signL]; split <;> omega
  | c :: d :: l => simp only [signL]; split <;> (try split) <;> simp

theorem signL_le2 (l : List UInt8) : signL l ≤ 2 := by
  match l with
  | [] => simp [signL]
  | c :: l => simp only [signL]; split <;> (try split) <;> omega

end Lx
end Go.Proofs.Ytfmkhdncbdkpoaa
