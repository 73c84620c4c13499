/- The listing, plainly: what a writer that stops when it is full has written. -/
import Derived.Test.YtlicfdligldhdaaDoorM6
namespace Go.Proofs.YtlicfdligldhdaaDoor.As
open Vf

def full (xs : By) : Bool := decide (60000 < xs.length)
def wNum (xs : By) (n : Int) : By := xs ++ 32 :: dig n
def wInts : By → List Int → By
  | xs, [] => xs
  | xs, n :: l => if full xs = true then xs else wInts (wNum xs n) l
def wBox (xs : By) (b : Bx) : By := wInts (xs ++ boxW) [b.ty, b.cap] ++ [10]
def wBoxes : By → List Bx → By
  | xs, [] => xs
  | xs, b :: l => if full xs = true then xs else wBoxes (wBox xs b) l
def wHead (xs w : By) (u : Un) : By := wInts (wInts (xs ++ w) [u.params, u.result, u.takes]) u.locals ++ [10]
def wIns (xs w : By) (k : Int) (i : Ins) : By :=
  if full xs = true then xs else (if k = 1 then wNum (xs ++ 9 :: w) i.n else if k = 2 then wInts (xs ++ 9 :: w) [i.a] else xs ++ 9 :: w) ++ [10]

theorem digN_len : ∀ (k n : Nat), n < 10 ^ (k + 1) → (digN n).length ≤ k + 1
  | 0, n, h => by rw [digN, if_pos (by omega)]; simp
  | k + 1, n, h => by
    rw [digN]
    split
    · simp
    · have := digN_len k (n / 10) (by rw [Nat.pow_succ] at h; omega)
      simp; omega
theorem dig_len {n : Int} (h : i64 n = true) : (dig n).length ≤ 20 := by
  unfold i64 at h
  simp only [Bool.and_eq_true, decide_eq_true_eq] at h
  have := digN_len 18 n.natAbs (by omega)
  unfold dig
  split
  · simp; omega
  · omega
theorem wNum_len {xs : By} {n : Int} (h : i64 n = true) : (wNum xs n).length ≤ xs.length + 21 := by
  have := dig_len h
  simp [wNum]; omega
theorem wInts_len : ∀ (l : List Int) (xs : By), (∀ n ∈ l, i64 n = true) → xs.length ≤ 60040 → (wInts xs l).length ≤ 60040
  | [], _, _, h => h
  | n :: l, xs, hl, h => by
    unfold wInts
    split
    · exact h
    · rename_i hf
      have h1 := wNum_len (xs := xs) (hl n List.mem_cons_self)
      refine wInts_len l _ (fun x hx => hl x (List.mem_cons_of_mem _ hx)) ?_
      simp [full] at hf
      omega
/-- What is written is what is to be written, or both are too long. -/
def Lk (T xs : By) : Prop := xs = T ∨ (60000 < xs.length ∧ 60000 < T.length)
theorem Lk.more {T xs : By} (h : Lk T xs) (y : By) : Lk (T ++ y) (xs ++ y) := by
  rcases h with rfl | ⟨h1, h2⟩
  · exact .inl rfl
  · exact .inr ⟨by simp; omega, by simp; omega⟩
theorem Lk.rest {T xs : By} (h : Lk T xs) (hf : full xs = true) (y : By) : Lk (T ++ y) xs := by
  simp [full] at hf
  rcases h with rfl | ⟨h1, h2⟩
  · exact .inr ⟨hf, by simp; omega⟩
  · exact .inr ⟨hf, by simp; omega⟩
theorem Lk.isFull {T xs : By} (h : Lk T xs) : full xs = decide (60000 < T.length) := by
  rcases h with rfl | ⟨h1, h2⟩
  · rfl
  · simp [full, h1, h2]
theorem Lk.eq {T xs : By} (h : Lk T xs) (hf : full xs = false) : xs = T := by
  simp [full] at hf
  rcases h with h | ⟨h1, h2⟩
  · exact h
  · omega
theorem wInts_lk : ∀ (l : List Int) {T xs : By}, Lk T xs → Lk (T ++ join (l.map dig)) (wInts xs l)
  | [], T, xs, h => by simpa [join, wInts] using h
  | n :: l, T, xs, h => by
    unfold wInts
    split
    · rename_i hf
      exact h.rest hf _
    · have := wInts_lk l (h.more (32 :: dig n))
      have e : T ++ join ((n :: l).map dig) = T ++ (32 :: dig n) ++ join (l.map dig) := by simp [join]
      rw [e]
      exact this
theorem wBox_lk {T xs : By} (h : Lk T xs) (b : Bx) : Lk (T ++ (bxL b ++ [10])) (wBox xs b) := by
  have := (wInts_lk [b.ty, b.cap] (h.more boxW)).more [10]
  have e : T ++ (bxL b ++ [10]) = T ++ boxW ++ join ([b.ty, b.cap].map dig) ++ [10] := by simp [bxL]
  rw [e]
  exact this
theorem wBoxes_lk : ∀ (l : List Bx) {T xs : By}, Lk T xs → Lk (T ++ text (l.map bxL)) (wBoxes xs l)
  | [], T, xs, h => by simpa [text, wBoxes] using h
  | b :: l, T, xs, h => by
    unfold wBoxes
    split
    · rename_i hf
      exact h.rest hf _
    · have := wBoxes_lk l (wBox_lk h b)
      have e : T ++ text ((b :: l).map bxL) = T ++ (bxL b ++ [10]) ++ text (l.map bxL) := by simp [text]
      rw [e]
      exact this
theorem wHead_lk {T xs w : By} (h : Lk T xs) {u : Un} (hw : headW u.kind = some w) : Lk (T ++ (unL u ++ [10])) (wHead xs w u) := by
  have := (wInts_lk u.locals (wInts_lk [u.params, u.result, u.takes] (h.more w))).more [10]
  have e : T ++ (unL u ++ [10]) = T ++ w ++ join ([u.params, u.result, u.takes].map dig) ++ join (u.locals.map dig) ++ [10] := by simp [unL, hw, join]
  rw [e]
  exact this
theorem wIns_lk {T xs w : By} {k : Int} {h' : Nat} (h : Lk T xs) {i : Ins} (hw : wordOf i.op = some (w, h')) (hk : (h' = 2 ∧ k = 1) ∨ (h' = 1 ∧ k = 2) ∨ (h' = 0 ∧ k = 0)) : Lk (T ++ (inL i ++ [10])) (wIns xs w k i) := by
  unfold wIns
  split
  · rename_i hf
    exact h.rest hf _
  · have e : inL i = 9 :: (w ++ join ((args h' i).map dig)) := by unfold inL; rw [hw]
    rw [e]
    rcases hk with ⟨rfl, rfl⟩ | ⟨rfl, rfl⟩ | ⟨rfl, rfl⟩
    · have := ((h.more (9 :: w)).more (32 :: dig i.n)).more [10]
      rw [if_pos rfl]
      have e2 : T ++ (9 :: (w ++ join ((args 2 i).map dig)) ++ [10]) = T ++ (9 :: w) ++ (32 :: dig i.n) ++ [10] := by simp [args, join]
      rw [e2]
      exact this
    · have := (wInts_lk [i.a] (h.more (9 :: w))).more [10]
      rw [if_neg (by decide), if_pos rfl]
      have e2 : T ++ (9 :: (w ++ join ((args 1 i).map dig)) ++ [10]) = T ++ (9 :: w) ++ join ([i.a].map dig) ++ [10] := by simp [args]
      rw [e2]
      exact this
    · have := (h.more (9 :: w)).more [10]
      rw [if_neg (by decide), if_neg (by decide)]
      have e2 : T ++ (9 :: (w ++ join ((args 0 i).map dig)) ++ [10]) = T ++ (9 :: w) ++ [10] := by simp [args, join]
      rw [e2]
      exact this
end Go.Proofs.YtlicfdligldhdaaDoor.As

