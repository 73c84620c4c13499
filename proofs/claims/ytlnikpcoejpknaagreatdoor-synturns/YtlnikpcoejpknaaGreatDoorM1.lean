/- The plain functions on bytes that say what the package lex answers; nothing of the program. -/
import Derived.WalkKit
import Derived.Test.YtlnikpcoejpknaaGreatDoorRows
import Derived.WalkSpells
import Derived.WalkLawsBesides
import Derived.OneCell
import Derived.Laws.RangeString
import Derived.Laws.RangeAny
import Derived.Lib.SlBytesConst
import Derived.Lib.Bytealg
namespace Go.Proofs.YtlnikpcoejpknaaGreatDoor
namespace Lx

def isLet (c : UInt8) : Bool := decide (97 ≤ c.toNat ∧ c.toNat ≤ 122 ∨ c.toNat = 95)
def isDig (c : UInt8) : Bool := decide (48 ≤ c.toNat ∧ c.toNat ≤ 57)
def isBlk (c : UInt8) : Bool := decide (c.toNat = 32 ∨ c.toNat = 9 ∨ c.toNat = 10)
def isWrd (c : UInt8) : Bool := isLet c || isDig c

theorem let_f {c : UInt8} (h : ¬ (97 ≤ c.toNat ∧ c.toNat ≤ 122 ∨ c.toNat = 95)) : isLet c = false := by unfold isLet; exact decide_eq_false h
theorem dig_t {c : UInt8} (h : 48 ≤ c.toNat ∧ c.toNat ≤ 57) : isDig c = true := by unfold isDig; exact decide_eq_true h
theorem blk_t {c : UInt8} (h : c.toNat = 32 ∨ c.toNat = 9 ∨ c.toNat = 10) : isBlk c = true := by unfold isBlk; exact decide_eq_true h
theorem blk_f {c : UInt8} (h : ¬ (c.toNat = 32 ∨ c.toNat = 9 ∨ c.toNat = 10)) : isBlk c = false := by unfold isBlk; exact decide_eq_false h

/-- How many bytes at the head of l fit. -/
def span (p : UInt8 → Bool) (l : List UInt8) : Nat := (l.takeWhile p).length

theorem span_le (p : UInt8 → Bool) (l : List UInt8) : span p l ≤ l.length := by
  unfold span
  induction l with
  | nil => simp
  | cons a l ih =>
    rw [List.takeWhile_cons]
    split
    · simp; exact ih
    · simp

theorem span_at (p : UInt8 → Bool) : ∀ (l : List UInt8) (k : Nat), (l.take k).all p = true → k ≤ l.length → (∀ x, l[k]? = some x → p x = false) → span p l = k
  | [], k, _, hk, _ => by simp at hk; subst hk; rfl
  | a :: l, 0, _, _, he => by
    have := he a rfl
    simp [span, this]
  | a :: l, k + 1, h, hk, he => by
    simp only [List.take_succ_cons, List.all_cons, Bool.and_eq_true] at h
    have ih := span_at p l k h.2 (by simpa using hk) (fun x hx => he x (by simpa using hx))
    unfold span at ih ⊢
    rw [List.takeWhile_cons, if_pos h.1, List.length_cons, ih]

theorem all_snoc (p : UInt8 → Bool) (l : List UInt8) (x : UInt8) (h : l.all p = true) (hx : p x = true) : (l ++ [x]).all p = true := by
  rw [List.all_append, h]; simp [hx]

/-- Whether one is in a remark behind a byte. -/
def rem1 (r : Bool) (c : UInt8) : Bool := if c.toNat = 10 then false else if c.toNat = 35 then true else r

/-- How many bytes at the head of l make no token. -/
def gapL : Bool → List UInt8 → Nat
  | _, [] => 0
  | r, c :: l => if rem1 r c || isBlk c then gapL (rem1 r c) l + 1 else 0

theorem gapL_le : ∀ (r : Bool) (l : List UInt8), gapL r l ≤ l.length
  | _, [] => by simp [gapL]
  | r, c :: l => by
    have := gapL_le (rem1 r c) l
    unfold gapL
    split <;> simp <;> omega

theorem gapL_yes {r : Bool} {c : UInt8} {l : List UInt8} (h : (rem1 r c || isBlk c) = true) : gapL r (c :: l) = gapL (rem1 r c) l + 1 := by
  rw [gapL, if_pos h]
theorem gapL_no {r : Bool} {c : UInt8} {l : List UInt8} (h : (rem1 r c || isBlk c) = false) : gapL r (c :: l) = 0 := by
  rw [gapL, h]; simp

def two (c : UInt8) : Bool := [61, 33, 60, 62].contains c
def one (c : UInt8) : Bool := [60, 62, 61, 43, 45, 42, 47, 37, 40, 41, 123, 125, 44, 59].contains c

/-- How long the sign is with which l begins. -/
def signL : List UInt8 → Nat
  | [] => 0
  | c :: l => if (l.head? == some 61) && two c then 2 else if one c then 1 else 0

end Lx
end Go.Proofs.YtlnikpcoejpknaaGreatDoor

/- Names: the walks of Named, the program's and the document's. -/
namespace Go.Proofs.YtlnikpcoejpknaaGreatDoor
open Go.RowKit

namespace Lx
theorem byte_cons (s : ByteArray) (h0 : 0 < s.size) : s.data.toList = s[0] :: s.data.toList.drop 1 := by
  have h := List.drop_eq_getElem_cons (l := s.data.toList) (i := 0) (by simpa using h0)
  rw [List.drop_zero] at h
  exact h
end Lx

theorem ret_bool {a b : Bool} (h : a = b) : Ending.returned (.bool a) = .returned (.bool b) := by rw [h]

theorem ret_int {k : IntKind} {a b : Int} (h : a = b) : Ending.returned (.int k a) = .returned (.int k b) := by rw [h]

set_option maxHeartbeats 400000 in
theorem isLetter_any (c : UInt8) (w : World) :
    Calls Tryz.prog 95 #[.int .u8 (c.toNat : Int)] w fun e w' => e = .returned (.bool (Lx.isLet c)) ∧ w' = w := by
  go_enter Tryz.func95, Tryz.ntmps95
  go_wp2
  all_goals go_ret
  all_goals refine ⟨ret_bool ?_, rfl⟩
  all_goals unfold Lx.isLet; rw [Bool.eq_iff_iff]; simp; omega

set_option maxHeartbeats 400000 in
theorem isDigit_any (c : UInt8) (w : World) :
    Calls Tryz.prog 98 #[.int .u8 (c.toNat : Int)] w fun e w' => e = .returned (.bool (Lx.isDig c)) ∧ w' = w := by
  go_enter Tryz.func98, Tryz.ntmps98
  go_wp2
  all_goals go_ret
  all_goals refine ⟨ret_bool ?_, rfl⟩
  all_goals unfold Lx.isDig; rw [Bool.eq_iff_iff]; simp; omega

set_option maxHeartbeats 400000 in
theorem isWordByte_any (c : UInt8) (w : World) :
    Calls Tryz.prog 97 #[.int .u8 (c.toNat : Int)] w fun e w' => e = .returned (.bool (Lx.isWrd c)) ∧ w' = w := by
  unfold Lx.isWrd
  cases hl : Lx.isLet c
  · go_enter Tryz.func97, Tryz.ntmps97
    go_wp2_with (first | (go_at_call 95; refine (isLetter_any _ _).mono ?_; rintro e w' ⟨rfl, rfl⟩) | (go_at_call 98; refine (isDigit_any _ _).mono ?_; rintro e w' ⟨rfl, rfl⟩))
    go_ret
    exact ⟨rfl, rfl⟩
  · go_enter Tryz.func97, Tryz.ntmps97
    go_wp2_with (first | (go_at_call 95; refine (isLetter_any _ _).mono ?_; rintro e w' ⟨rfl, rfl⟩) | (go_at_call 98; refine (isDigit_any _ _).mono ?_; rintro e w' ⟨rfl, rfl⟩))
    go_ret
    exact ⟨rfl, rfl⟩

theorem take_snoc (s : ByteArray) (k : Nat) (h : k < s.size) : s.data.toList.take (k + 1) = s.data.toList.take k ++ [s[k]] := by
  rw [List.take_succ_eq_append_getElem (by simpa using h)]; rfl

theorem span_of (p : UInt8 → Bool) (s : ByteArray) (k : Nat) (h : (s.data.toList.take k).all p = true) (hk : k ≤ s.size) (he : ∀ hl : k < s.size, p s[k] = false) : Lx.span p s.data.toList = k := by
  refine Lx.span_at p _ k h (by simpa using hk) (fun x hx => ?_)
  obtain ⟨hl, hx⟩ := List.getElem?_eq_some_iff.1 hx
  have hl' : k < s.size := by simpa using hl
  have := he hl'
  rw [← hx]; exact this

set_option maxHeartbeats 400000 in
theorem run_word (s : ByteArray) (w : World) (hs : s.size ≤ maxLen) :
    Calls Tryz.prog 92 #[.string s, .func (.func 97) #[] #[]] w fun e w' => e = .returned (.int .i64 (Lx.span Lx.isWrd s.data.toList : Nat)) ∧ w' = w := by
  unfold maxLen at hs
  go_enter Tryz.func92, Tryz.ntmps92
  go_wp2
  go_loop [5] (fun i => ∃ k : Nat, k ≤ s.size ∧ i = .int .i64 k ∧ (s.data.toList.take k).all Lx.isWrd = true) (fun i => s.size - (intOf i).toNat)
  case atStart => exact ⟨0, Nat.zero_le _, rfl, rfl⟩
  case round =>
    obtain ⟨k, hk, rfl, hall⟩ := hrel
    have HA : Hid ((s.data.toList.take k).all Lx.isWrd = true) := hall
    clear hall
    by_cases hlt : k < s.size
    · cases hp : Lx.isWrd s[k]
      · have HP : Hid (Lx.isWrd s[k] = false) := hp
        go_wp2_with (go_at_call 97; refine (isWordByte_any _ _).mono ?_; rintro e w' ⟨rfl, rfl⟩)
        go_ret
        exact ⟨ret_int (by rw [span_of _ s k HA.out hk (fun _ => HP.out)]), rfl⟩
      · have HP : Hid (Lx.isWrd s[k] = true) := hp
        go_wp2_with (go_at_call 97; refine (isWordByte_any _ _).mono ?_; rintro e w' ⟨rfl, rfl⟩)
        go_round
        case rel => exact ⟨k + 1, by omega, by go_num, by rw [take_snoc s k hlt]; exact Lx.all_snoc _ _ _ HA.out HP.out⟩
        case measure => simp [intOf]; omega
    · go_wp2
      go_ret
      exact ⟨ret_int (by rw [span_of _ s k HA.out hk (fun h => absurd h hlt)]), rfl⟩

theorem grown_set (w : World) (b : Nat) (v : Value) : w.grownBy (w.setCell ⟨b, 0, none⟩ v) (some b) :=
  ⟨rfl, rfl, rfl, by simp [World.setCell], fun k _ hne => Below.heap_setCell _ _ _ _ (by intro h; apply hne; simp [h])⟩

theorem grown_refl (w : World) (r : Option Nat) : w.grownBy w r := ⟨rfl, rfl, rfl, Nat.le_refl _, fun _ _ _ => rfl⟩

theorem grown_trans {a b c : World} {r : Option Nat} (h : a.grownBy b r) (k : b.grownBy c r) : a.grownBy c r :=
  ⟨k.os.trans h.os, k.tape.trans h.tape, k.output.trans h.output, Nat.le_trans h.size k.size, fun i hi hne => (k.block i (Nat.lt_of_lt_of_le hi h.size) hne).trans (h.block i hi hne)⟩

/-- The words that are no names. -/
def Lx.words : List (List UInt8) := [[98, 111, 120], [102, 110], [103, 101, 110], [116, 97, 115, 107], [116, 97, 107, 101, 115], [121, 105, 101, 108, 100, 115], [108, 101, 116], [105, 102], [101, 108, 115, 101], [119, 104, 105, 108, 101], [114, 101, 116, 117, 114, 110], [115, 116, 111, 112], [115, 101, 110, 100], [111, 117, 116], [100, 111], [114, 101, 99, 118], [121, 105, 101, 108, 100], [115, 116, 97, 114, 116], [114, 101, 115, 117, 109, 101], [97, 108, 105, 118, 101], [110, 117, 109], [98, 111, 111, 108], [116, 114, 117, 101], [102, 97, 108, 115, 101], [97, 110, 100], [111, 114], [110, 111, 116]]

def Lx.kept (l : List UInt8) : Bool := Lx.words.contains l

set_option maxHeartbeats 1000000 in
set_option maxRecDepth 100000 in
theorem isKept_any (s : ByteArray) (w : World) :
    Calls Tryz.prog 119 #[.string s] w fun e w' => e = .returned (.bool (Lx.kept s.toList)) ∧ w' = w := by
  go_enter Tryz.func119, Tryz.ntmps119
  go_wp2
  all_goals go_ret
  all_goals refine ⟨ret_bool ?_, rfl⟩
  all_goals
    generalize s.toList = l at *
    simp only [Lx.kept, Lx.words, List.contains_cons]
    simp_all

/-- Whether l is a name. -/
def Lx.named (l : List UInt8) : Bool := decide (0 < l.length) && decide (l.length ≤ 12) && l.all Lx.isWrd && (l.head?.map Lx.isLet).getD false && !Lx.kept l

theorem toList_eq (s : ByteArray) : s.toList = s.data.toList := Lib.toList_data s

theorem span_all (p : UInt8 → Bool) : ∀ l : List UInt8, decide (Lx.span p l = l.length) = l.all p
  | [] => by simp [Lx.span]
  | a :: l => by
    have ih := span_all p l
    unfold Lx.span at ih ⊢
    rw [List.takeWhile_cons, List.all_cons]
    cases h : p a
    · simp
    · simp only [if_true, List.length_cons, Bool.true_and]
      rw [← ih]
      simp

theorem named_bad {s : ByteArray} (h : s.size = 0 ∨ 12 < s.size) : Lx.named s.toList = false := by
  rw [toList_eq]
  have e : s.data.toList.length = s.size := rfl
  unfold Lx.named
  rw [e]
  rcases h with h | h
  · simp [h]
  · have : decide (s.size ≤ 12) = false := by simp; omega
    rw [this]; simp

theorem named_good {s : ByteArray} (h0 : 0 < s.size) (h1 : s.size ≤ 12) : Lx.named s.toList = (Lx.isLet s[0] && (decide (Lx.span Lx.isWrd s.data.toList = s.size) && !Lx.kept s.toList)) := by
  rw [toList_eq]
  have e : s.data.toList.length = s.size := rfl
  have hs := span_all Lx.isWrd s.data.toList
  rw [e] at hs
  have hh : (s.data.toList.head?.map Lx.isLet).getD false = Lx.isLet s[0] := by rw [Lx.byte_cons s h0]; rfl
  unfold Lx.named
  rw [hs, hh, e, decide_eq_true h0, decide_eq_true h1]
  simp only [Bool.true_and]
  cases Lx.isLet s[0] <;> cases s.data.toList.all Lx.isWrd <;> simp

theorem isEmpty_of {s : ByteArray} (h : 0 < s.size) : s.toList.isEmpty = false := by
  rw [toList_eq, Lx.byte_cons s h]; rfl

set_option maxHeartbeats 1000000 in
theorem named_any (s : ByteArray) (w : World) (hs : s.size ≤ maxLen) :
    Calls Tryz.prog 90 #[.string s] w fun e w' => e = .returned (.bool (Lx.named s.toList)) ∧ w' = w := by
  have hs' := hs
  unfold maxLen at hs'
  by_cases h0 : s.size = 0
  · have HB : Hid (Lx.named s.toList = false) := named_bad (.inl h0)
    have he : s.toList.isEmpty = true := by
      rw [toList_eq]
      have : s.data.toList.length = 0 := h0
      rw [List.length_eq_zero_iff.1 this]; rfl
    clear h0
    go_enter Tryz.func90, Tryz.ntmps90
    go_wp2
    go_ret
    exact ⟨ret_bool HB.out.symm, rfl⟩
  · have h0' : 0 < s.size := by omega
    have he : s.toList.isEmpty = false := isEmpty_of h0'
    by_cases h12 : 12 < s.size
    · have HB : Hid (Lx.named s.toList = false) := named_bad (.inr h12)
      go_enter Tryz.func90, Tryz.ntmps90
      go_wp2
      go_ret
      exact ⟨ret_bool HB.out.symm, rfl⟩
    · have HG : Hid (Lx.named s.toList = (Lx.isLet s[0] && (decide (Lx.span Lx.isWrd s.data.toList = s.size) && !Lx.kept s.toList))) := named_good h0' (by omega)
      cases hl : Lx.isLet s[0]
      · rw [hl] at HG
        go_enter Tryz.func90, Tryz.ntmps90
        go_wp2_with fail
        refine (isLetter_any _ _).mono ?_
        rintro e w1 ⟨rfl, rfl⟩
        go_wp2
        go_ret
        exact ⟨ret_bool (by rw [HG.out]; rfl), rfl⟩
      · rw [hl] at HG
        by_cases hsp : Lx.span Lx.isWrd s.data.toList = s.size
        · rw [decide_eq_true hsp] at HG
          have e1 : (((Lx.span Lx.isWrd s.data.toList : Nat) : Int) == (s.size : Int)) = true := by simp; omega
          clear hsp
          go_enter Tryz.func90, Tryz.ntmps90
          go_wp2_with fail
          refine (isLetter_any _ _).mono ?_
          rintro e w1 ⟨rfl, rfl⟩
          go_wp2_with fail
          refine (run_word s _ hs).mono ?_
          rintro e w1 ⟨rfl, rfl⟩
          go_wp2_with fail
          refine (isKept_any s _).mono ?_
          rintro e w1 ⟨rfl, rfl⟩
          go_wp2
          go_ret
          exact ⟨ret_bool (by rw [HG.out]; simp), rfl⟩
        · rw [decide_eq_false hsp] at HG
          have e1 : (((Lx.span Lx.isWrd s.data.toList : Nat) : Int) == (s.size : Int)) = false := by simp; omega
          clear hsp
          go_enter Tryz.func90, Tryz.ntmps90
          go_wp2_with fail
          refine (isLetter_any _ _).mono ?_
          rintro e w1 ⟨rfl, rfl⟩
          go_wp2_with fail
          refine (run_word s _ hs).mono ?_
          rintro e w1 ⟨rfl, rfl⟩
          go_wp2
          go_ret
          exact ⟨ret_bool (by rw [HG.out]; rfl), rfl⟩

end Go.Proofs.YtlnikpcoejpknaaGreatDoor

/- Programs as plain data, and what is wrong with their form; nothing of the program. -/
namespace Go.Proofs.YtlnikpcoejpknaaGreatDoor
namespace Sy

structure Ty where
  kind : Int
  gen : ByteArray
structure Ex where
  kind : Int
  n : Int
  name : ByteArray
  kids : List Ex
structure St where
  kind : Int
  name : ByteArray
  x : Ex
  body : List St
  els : List St
structure Pm where
  name : ByteArray
  ty : Ty
structure Df where
  kind : Int
  name : ByteArray
  ty : Ty
  takes : Ty
  cap : Int
  params : List Pm
  body : List St

def nm (s : ByteArray) : Bool := Lx.named s.toList

/-- One behind the other, each with the count of nodes so far. -/
def runs {α : Type} (f : α → Nat → Except Int Nat) : List α → Nat → Except Int Nat
  | [], n => .ok n
  | a :: l, n => match f a n with
    | .ok m => runs f l m
    | .error e => .error e

/-- What is wrong with a node: its kind, how many kinds there are, how many levels are left, how many nodes there were. -/
def nodeW (kind most : Int) (d n : Nat) : Int := if 2000 < n + 1 ∨ d = 0 then 4 else if kind < 1 ∨ most < kind then 1 else 0

def tyW (t : Ty) : Int := if t.kind < 1 ∨ 3 < t.kind then 1 else if t.kind = 3 ∧ nm t.gen = false then 7 else 0

/-- How many kids a kind has: at least, at most. -/
def least (k : Int) : Int := if k = 1 ∨ k = 2 ∨ k = 3 ∨ k = 20 then 0 else if k = 4 ∨ k = 5 ∨ k = 21 ∨ k = 24 then 1 else if k = 19 ∨ k = 22 then 0 else 2
def most (k : Int) : Int := if k = 1 ∨ k = 2 ∨ k = 3 ∨ k = 20 then 0 else if k = 4 ∨ k = 5 ∨ k = 21 ∨ k = 24 then 1 else if k = 19 ∨ k = 22 then 6 else 2

/-- What is wrong with the head of an expression. -/
def exHead (x : Ex) : Int :=
  if x.kind = 1 ∧ (x.n < 0 ∨ 999999999999999 < x.n) ∨ x.kind = 2 ∧ (x.n < 0 ∨ 1 < x.n) then 3
  else if (x.kind = 3 ∨ x.kind = 19 ∨ x.kind = 20 ∨ x.kind = 22) ∧ nm x.name = false then 7
  else if (x.kids.length : Int) < least x.kind ∨ most x.kind < x.kids.length then 5
  else 0

def exW : Nat → Ex → Nat → Except Int Nat
  | 0, _, _ => .error 4
  | d + 1, x, n =>
    if nodeW x.kind 24 (d + 1) n ≠ 0 then .error (nodeW x.kind 24 (d + 1) n)
    else if exHead x ≠ 0 then .error (exHead x)
    else runs (exW d) x.kids (n + 1)

def bodyOf (f : St → Nat → Except Int Nat) (l : List St) (n : Nat) : Except Int Nat := if 50 < l.length then .error 5 else runs f l n

/-- The rest of a statement behind its expression. -/
def stTail (f : St → Nat → Except Int Nat) (s : St) (m : Nat) : Except Int Nat :=
  if s.kind = 3 ∨ s.kind = 4 then
    match bodyOf f s.body m with
    | .error e => .error e
    | .ok m2 => if s.kind = 3 then bodyOf f s.els m2 else .ok m2
  else .ok m

def stW : Nat → St → Nat → Except Int Nat
  | 0, _, _ => .error 4
  | d + 1, s, n =>
    if nodeW s.kind 9 (d + 1) n ≠ 0 then .error (nodeW s.kind 9 (d + 1) n)
    else if (s.kind = 1 ∨ s.kind = 2 ∨ s.kind = 7) ∧ nm s.name = false then .error 7
    else if s.kind = 6 then .ok (n + 1)
    else match exW d s.x (n + 1) with
      | .error e => .error e
      | .ok m => stTail (stW d) s m

def bodyW (d : Nat) (l : List St) (n : Nat) : Except Int Nat := bodyOf (stW d) l n

/-- Parameter by parameter. -/
def pmsW : List Pm → Int
  | [] => 0
  | p :: l => if nm p.name = false then 7 else if tyW p.ty ≠ 0 then tyW p.ty else pmsW l

/-- What is wrong with a definition ahead of its body. -/
def dfHead (d : Df) (n : Nat) : Int :=
  if nodeW d.kind 4 40 n ≠ 0 then nodeW d.kind 4 40 n
  else if nm d.name = false then 7
  else if (d.kind = 2 ∨ d.kind = 3) ∧ 6 < d.params.length then 5
  else if (d.kind = 2 ∨ d.kind = 3) ∧ pmsW d.params ≠ 0 then pmsW d.params
  else if d.kind = 3 ∧ tyW d.takes ≠ 0 then tyW d.takes
  else if d.kind ≠ 4 ∧ tyW d.ty ≠ 0 then tyW d.ty
  else if d.kind = 1 ∧ (d.cap < 1 ∨ 20 < d.cap) then 3
  else 0

def dfW (d : Df) (n : Nat) : Except Int Nat :=
  if dfHead d n ≠ 0 then .error (dfHead d n) else if d.kind = 1 then .ok (n + 1) else bodyW 39 d.body (n + 1)

/-- Definition by definition: the error, and at which. -/
def defsW : List Df → Nat → Nat → Int × Nat
  | [], _, _ => (0, 0)
  | d :: l, i, n => match dfW d n with
    | .error e => (e, i)
    | .ok m => defsW l (i + 1) m

def wrongL (l : List Df) : Int × Nat := if 30 < l.length then (5, 0) else defsW l 0 0

theorem nodeW_zero {kind most : Int} {d n : Nat} (h : nodeW kind most d n = 0) : n + 1 ≤ 2000 ∧ 1 ≤ kind ∧ kind ≤ most ∧ d ≠ 0 := by
  unfold nodeW at h
  split at h
  · omega
  · split at h
    · omega
    · omega

theorem runs_le {α : Type} {f : α → Nat → Except Int Nat} (hf : ∀ a n m, n ≤ 2000 → f a n = .ok m → m ≤ 2000) : ∀ (l : List α) (n m : Nat), n ≤ 2000 → runs f l n = .ok m → m ≤ 2000
  | [], n, m, hn, h => by simp [runs] at h; omega
  | a :: l, n, m, hn, h => by
    unfold runs at h
    cases ha : f a n with
    | error e => rw [ha] at h; simp at h
    | ok k => rw [ha] at h; exact runs_le hf l k m (hf a n k hn ha) h

theorem exW_le : ∀ (d : Nat) (x : Ex) (n m : Nat), n ≤ 2000 → exW d x n = .ok m → m ≤ 2000
  | 0, x, n, m, _, h => by simp [exW] at h
  | d + 1, x, n, m, hn, h => by
    unfold exW at h
    split at h
    · simp at h
    · rename_i h0
      have := nodeW_zero (by simpa using h0 : nodeW x.kind 24 (d + 1) n = 0)
      split at h
      · simp at h
      · exact runs_le (exW_le d) _ _ _ (by omega) h

theorem bodyOf_le {f : St → Nat → Except Int Nat} (hf : ∀ a n m, n ≤ 2000 → f a n = .ok m → m ≤ 2000) {l : List St} {n m : Nat} (hn : n ≤ 2000) (h : bodyOf f l n = .ok m) : m ≤ 2000 := by
  unfold bodyOf at h
  split at h
  · simp at h
  · exact runs_le hf _ _ _ hn h

theorem stW_le : ∀ (d : Nat) (x : St) (n m : Nat), n ≤ 2000 → stW d x n = .ok m → m ≤ 2000
  | 0, x, n, m, _, h => by simp [stW] at h
  | d + 1, x, n, m, hn, h => by
    unfold stW at h
    split at h
    · simp at h
    · rename_i h0
      have := nodeW_zero (by simpa using h0 : nodeW x.kind 9 (d + 1) n = 0)
      split at h
      · simp at h
      · split at h
        · simp at h; omega
        · cases he : exW d x.x (n + 1) with
          | error e => rw [he] at h; simp at h
          | ok k =>
            rw [he] at h
            have hk := exW_le _ _ _ _ (by omega) he
            simp only [stTail] at h
            split at h
            · cases hb : bodyOf (stW d) x.body k with
              | error e => rw [hb] at h; simp at h
              | ok k2 =>
                rw [hb] at h
                have hk2 := bodyOf_le (stW_le d) hk hb
                simp only at h
                split at h
                · exact bodyOf_le (stW_le d) hk2 h
                · simp at h; omega
            · simp at h; omega

theorem runs_at {α : Type} {f : α → Nat → Except Int Nat} {l : List α} {k : Nat} {a : α} (h : l[k]? = some a) (n : Nat) :
    runs f (l.drop k) n = match f a n with
      | .ok m => runs f (l.drop (k + 1)) m
      | .error e => .error e := by
  obtain ⟨hk, rfl⟩ := List.getElem?_eq_some_iff.1 h
  rw [List.drop_eq_getElem_cons hk]
  rfl

end Sy
end Go.Proofs.YtlnikpcoejpknaaGreatDoor

