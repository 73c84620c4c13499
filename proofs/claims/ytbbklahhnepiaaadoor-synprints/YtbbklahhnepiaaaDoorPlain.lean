/- The plain functions on bytes that say what the package lex answers; nothing of the program. -/
import Derived.WalkKit
namespace Go.Proofs.YtbbklahhnepiaaaDoor
namespace Lx

def isLet (c : UInt8) : Bool := decide (97 ≤ c.toNat ∧ c.toNat ≤ 122 ∨ c.toNat = 95)
def isDig (c : UInt8) : Bool := decide (48 ≤ c.toNat ∧ c.toNat ≤ 57)
def isBlk (c : UInt8) : Bool := decide (c.toNat = 32 ∨ c.toNat = 9 ∨ c.toNat = 10)
def isWrd (c : UInt8) : Bool := isLet c || isDig c

theorem let_t {c : UInt8} (h : 97 ≤ c.toNat ∧ c.toNat ≤ 122 ∨ c.toNat = 95) : isLet c = true := by unfold isLet; exact decide_eq_true h
theorem let_f {c : UInt8} (h : ¬ (97 ≤ c.toNat ∧ c.toNat ≤ 122 ∨ c.toNat = 95)) : isLet c = false := by unfold isLet; exact decide_eq_false h
theorem dig_t {c : UInt8} (h : 48 ≤ c.toNat ∧ c.toNat ≤ 57) : isDig c = true := by unfold isDig; exact decide_eq_true h
theorem dig_f {c : UInt8} (h : ¬ (48 ≤ c.toNat ∧ c.toNat ≤ 57)) : isDig c = false := by unfold isDig; exact decide_eq_false h
theorem blk_t {c : UInt8} (h : c.toNat = 32 ∨ c.toNat = 9 ∨ c.toNat = 10) : isBlk c = true := by unfold isBlk; exact decide_eq_true h
theorem blk_f {c : UInt8} (h : ¬ (c.toNat = 32 ∨ c.toNat = 9 ∨ c.toNat = 10)) : isBlk c = false := by unfold isBlk; exact decide_eq_false h

/-- How many bytes at the head of l fit. -/
def span (p : UInt8 → Bool) (l : List UInt8) : Nat := (l.takeWhile p).length

theorem span_le (p : UInt8 → Bool) (l : List UInt8) : span p l ≤ l.length := by
  unfold span
  induction l with
  | nil => simp
  | cons a l ih =>
    rw [List.takeWhile_cons]
    split
    · simp; exact ih
    · simp

theorem span_at (p : UInt8 → Bool) : ∀ (l : List UInt8) (k : Nat), (l.take k).all p = true → k ≤ l.length → (∀ x, l[k]? = some x → p x = false) → span p l = k
  | [], k, _, hk, _ => by simp at hk; subst hk; rfl
  | a :: l, 0, _, _, he => by
    have := he a rfl
    simp [span, this]
  | a :: l, k + 1, h, hk, he => by
    simp only [List.take_succ_cons, List.all_cons, Bool.and_eq_true] at h
    have ih := span_at p l k h.2 (by simpa using hk) (fun x hx => he x (by simpa using hx))
    unfold span at ih ⊢
    rw [List.takeWhile_cons, if_pos h.1, List.length_cons, ih]

theorem all_snoc (p : UInt8 → Bool) (l : List UInt8) (x : UInt8) (h : l.all p = true) (hx : p x = true) : (l ++ [x]).all p = true := by
  rw [List.all_append, h]; simp [hx]

/-- Whether one is in a remark behind a byte. -/
def rem1 (r : Bool) (c : UInt8) : Bool := if c.toNat = 10 then false else if c.toNat = 35 then true else r

/-- How many bytes at the head of l make no token. -/
def gapL : Bool → List UInt8 → Nat
  | _, [] => 0
  | r, c :: l => if rem1 r c || isBlk c then gapL (rem1 r c) l + 1 else 0

theorem gapL_le : ∀ (r : Bool) (l : List UInt8), gapL r l ≤ l.length
  | _, [] => by simp [gapL]
  | r, c :: l => by
    have := gapL_le (rem1 r c) l
    unfold gapL
    split <;> simp <;> omega

theorem gapL_yes {r : Bool} {c : UInt8} {l : List UInt8} (h : (rem1 r c || isBlk c) = true) : gapL r (c :: l) = gapL (rem1 r c) l + 1 := by
  rw [gapL, if_pos h]
theorem gapL_no {r : Bool} {c : UInt8} {l : List UInt8} (h : (rem1 r c || isBlk c) = false) : gapL r (c :: l) = 0 := by
  rw [gapL, h]; simp

def two (c : UInt8) : Bool := [61, 33, 60, 62].contains c
def one (c : UInt8) : Bool := [60, 62, 61, 43, 45, 42, 47, 37, 40, 41, 123, 125, 44, 59].contains c

/-- How long the sign is with which l begins. -/
def signL : List UInt8 → Nat
  | [] => 0
  | c :: l => if (l.head? == some 61) && two c then 2 else if one c then 1 else 0

end Lx
end Go.Proofs.YtbbklahhnepiaaaDoor
