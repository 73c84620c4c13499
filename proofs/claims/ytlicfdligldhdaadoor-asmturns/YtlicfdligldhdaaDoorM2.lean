/- The listing (chapter 13), plainly: what is written is read, line by line. Nothing of the program. -/
import Derived.Test.YtlicfdligldhdaaDoorM1
namespace Go.Proofs.YtlicfdligldhdaaDoor.As
open Vf

abbrev By := List UInt8
def i64 (n : Int) : Bool := decide (-9223372036854775808 ≤ n) && decide (n ≤ 9223372036854775807)
def dgt (n : Nat) : UInt8 := UInt8.ofNat (48 + n % 10)
def digN (n : Nat) : By := if n < 10 then [dgt n] else digN (n / 10) ++ [dgt n]
termination_by n
decreasing_by omega
def dig (n : Int) : By := if n < 0 then 45 :: digN n.natAbs else digN n.natAbs
def valN (l : By) : Nat := l.foldl (fun a c => 10 * a + (c.toNat - 48)) 0
def guess (s : By) : Int := if s.head? = some 45 then -(valN s.tail : Int) else (valN s : Int)
def numOf (s : By) : Option Int := if i64 (guess s) = true ∧ dig (guess s) = s then some (guess s) else none

theorem dgt_nat (n : Nat) : (dgt n).toNat = 48 + n % 10 := by
  have : n % 10 < 10 := Nat.mod_lt _ (by decide)
  simp [dgt]
  omega
theorem valN_snoc (l : By) (c : UInt8) : valN (l ++ [c]) = 10 * valN l + (c.toNat - 48) := by simp [valN, List.foldl_append]
theorem valN_dig (n : Nat) : valN (digN n) = n := by
  induction n using Nat.strongRecOn with
  | ind n ih =>
    rw [digN]
    split
    · simp [valN, dgt_nat]; omega
    · rw [valN_snoc, ih (n / 10) (by omega), dgt_nat]; omega
/-- Digits alone. -/
def dgs (l : By) : Prop := ∀ c ∈ l, 48 ≤ c.toNat ∧ c.toNat ≤ 57
theorem digN_dgs (n : Nat) : dgs (digN n) := by
  induction n using Nat.strongRecOn with
  | ind n ih =>
    rw [digN]
    have h1 : 48 ≤ (dgt n).toNat ∧ (dgt n).toNat ≤ 57 := by rw [dgt_nat]; omega
    split
    · intro c hc; simp at hc; subst hc; exact h1
    · intro c hc
      rcases List.mem_append.1 hc with h | h
      · exact ih _ (by omega) c h
      · simp at h; subst h; exact h1
theorem digN_ne (n : Nat) : digN n ≠ [] := by rw [digN]; split <;> simp
theorem digN_head (n : Nat) : (digN n).head? ≠ some 45 := fun h => by
  have := digN_dgs n 45 (List.mem_of_head? h)
  simp at this
theorem guess_dig (n : Int) : guess (dig n) = n := by
  unfold dig
  split
  · simp [guess, valN_dig]; omega
  · unfold guess; rw [if_neg (digN_head _), valN_dig]; omega
theorem num_dig {n : Int} (h : i64 n = true) : numOf (dig n) = some n := by unfold numOf; rw [guess_dig, if_pos ⟨h, rfl⟩]
theorem num_some {s : By} {n : Int} (h : numOf s = some n) : dig n = s ∧ i64 n = true := by
  unfold numOf at h
  split at h
  · rename_i h1; cases h; exact ⟨h1.2, h1.1⟩
  · cases h
/-- Of a word: no blank, no end of a line, no tab. -/
def wordy (l : By) : Prop := ∀ c ∈ l, c ≠ 32 ∧ c ≠ 10 ∧ c ≠ 9
theorem dig_wordy (n : Int) : wordy (dig n) := fun c hc => by
  unfold dig at hc
  have h : c = 45 ∨ (48 ≤ c.toNat ∧ c.toNat ≤ 57) := by
    split at hc
    · rcases List.mem_cons.1 hc with h | h
      · exact .inl h
      · exact .inr (digN_dgs _ c h)
    · exact .inr (digN_dgs _ c hc)
  rcases h with rfl | h
  · decide
  · exact ⟨fun e => by subst e; simp at h, fun e => by subst e; simp at h, fun e => by subst e; simp at h⟩

def words : By → List By
  | [] => [[]]
  | c :: l => if c = 32 then [] :: words l else match words l with
    | [] => [[c]]
    | w :: ws => (c :: w) :: ws
def join (ws : List By) : By := ws.flatMap (32 :: ·)
theorem words_one : ∀ {w : By}, (∀ c ∈ w, c ≠ 32) → words w = [w]
  | [], _ => rfl
  | c :: w, h => by
    rw [words, if_neg (h c List.mem_cons_self), words_one (fun d hd => h d (List.mem_cons_of_mem _ hd))]
theorem words_more : ∀ {w : By} (l : By), (∀ c ∈ w, c ≠ 32) → words (w ++ 32 :: l) = w :: words l
  | [], l, _ => by simp [words]
  | c :: w, l, h => by
    rw [List.cons_append, words, if_neg (h c List.mem_cons_self), words_more l (fun d hd => h d (List.mem_cons_of_mem _ hd))]
theorem words_join : ∀ (ws : List By) {w : By}, (∀ c ∈ w, c ≠ 32) → (∀ x ∈ ws, ∀ c ∈ x, c ≠ 32) → words (w ++ join ws) = w :: ws
  | [], w, h, _ => by rw [show join [] = [] from rfl, List.append_nil]; exact words_one h
  | x :: ws, w, h, hs => by
    rw [show join (x :: ws) = 32 :: (x ++ join ws) from rfl, words_more _ h, words_join ws (hs x List.mem_cons_self) (fun y hy => hs y (List.mem_cons_of_mem _ hy))]
theorem join_words : ∀ (s : By), ∃ w ws, words s = w :: ws ∧ w ++ join ws = s
  | [] => ⟨[], [], rfl, rfl⟩
  | c :: s => by
    obtain ⟨w, ws, h1, h2⟩ := join_words s
    by_cases hc : c = 32
    · subst hc
      exact ⟨[], w :: ws, by simp [words, h1], by show 32 :: (w ++ join ws) = _; rw [h2]⟩
    · exact ⟨c :: w, ws, by rw [words, if_neg hc, h1], by rw [List.cons_append, h2]⟩
end Go.Proofs.YtlicfdligldhdaaDoor.As

