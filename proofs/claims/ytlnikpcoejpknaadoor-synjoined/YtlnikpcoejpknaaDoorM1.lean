/- The plain functions on bytes that say what the package lex answers; nothing of the program. -/
import Derived.WalkKit
import Derived.Test.YtlnikpcoejpknaaDoorRows
import Derived.WalkSpells
import Derived.WalkLawsBesides
import Derived.OneCell
import Derived.Laws.RangeString
import Derived.Laws.RangeAny
import Derived.Lib.SlBytesConst
import Derived.Lib.Bytealg
namespace Go.Proofs.YtlnikpcoejpknaaDoor
namespace Lx

def isLet (c : UInt8) : Bool := decide (97 ≤ c.toNat ∧ c.toNat ≤ 122 ∨ c.toNat = 95)
def isDig (c : UInt8) : Bool := decide (48 ≤ c.toNat ∧ c.toNat ≤ 57)
def isBlk (c : UInt8) : Bool := decide (c.toNat = 32 ∨ c.toNat = 9 ∨ c.toNat = 10)
def isWrd (c : UInt8) : Bool := isLet c || isDig c

theorem let_t {c : UInt8} (h : 97 ≤ c.toNat ∧ c.toNat ≤ 122 ∨ c.toNat = 95) : isLet c = true := by unfold isLet; exact decide_eq_true h
theorem let_f {c : UInt8} (h : ¬ (97 ≤ c.toNat ∧ c.toNat ≤ 122 ∨ c.toNat = 95)) : isLet c = false := by unfold isLet; exact decide_eq_false h
theorem dig_t {c : UInt8} (h : 48 ≤ c.toNat ∧ c.toNat ≤ 57) : isDig c = true := by unfold isDig; exact decide_eq_true h
theorem dig_f {c : UInt8} (h : ¬ (48 ≤ c.toNat ∧ c.toNat ≤ 57)) : isDig c = false := by unfold isDig; exact decide_eq_false h
theorem blk_t {c : UInt8} (h : c.toNat = 32 ∨ c.toNat = 9 ∨ c.toNat = 10) : isBlk c = true := by unfold isBlk; exact decide_eq_true h
theorem blk_f {c : UInt8} (h : ¬ (c.toNat = 32 ∨ c.toNat = 9 ∨ c.toNat = 10)) : isBlk c = false := by unfold isBlk; exact decide_eq_false h

/-- How many bytes at the head of l fit. -/
def span (p : UInt8 → Bool) (l : List UInt8) : Nat := (l.takeWhile p).length

theorem span_le (p : UInt8 → Bool) (l : List UInt8) : span p l ≤ l.length := by
  unfold span
  induction l with
  | nil => simp
  | cons a l ih =>
    rw [List.takeWhile_cons]
    split
    · simp; exact ih
    · simp

theorem span_at (p : UInt8 → Bool) : ∀ (l : List UInt8) (k : Nat), (l.take k).all p = true → k ≤ l.length → (∀ x, l[k]? = some x → p x = false) → span p l = k
  | [], k, _, hk, _ => by simp at hk; subst hk; rfl
  | a :: l, 0, _, _, he => by
    have := he a rfl
    simp [span, this]
  | a :: l, k + 1, h, hk, he => by
    simp only [List.take_succ_cons, List.all_cons, Bool.and_eq_true] at h
    have ih := span_at p l k h.2 (by simpa using hk) (fun x hx => he x (by simpa using hx))
    unfold span at ih ⊢
    rw [List.takeWhile_cons, if_pos h.1, List.length_cons, ih]

theorem all_snoc (p : UInt8 → Bool) (l : List UInt8) (x : UInt8) (h : l.all p = true) (hx : p x = true) : (l ++ [x]).all p = true := by
  rw [List.all_append, h]; simp [hx]

/-- Whether one is in a remark behind a byte. -/
def rem1 (r : Bool) (c : UInt8) : Bool := if c.toNat = 10 then false else if c.toNat = 35 then true else r

/-- How many bytes at the head of l make no token. -/
def gapL : Bool → List UInt8 → Nat
  | _, [] => 0
  | r, c :: l => if rem1 r c || isBlk c then gapL (rem1 r c) l + 1 else 0

theorem gapL_le : ∀ (r : Bool) (l : List UInt8), gapL r l ≤ l.length
  | _, [] => by simp [gapL]
  | r, c :: l => by
    have := gapL_le (rem1 r c) l
    unfold gapL
    split <;> simp <;> omega

theorem gapL_yes {r : Bool} {c : UInt8} {l : List UInt8} (h : (rem1 r c || isBlk c) = true) : gapL r (c :: l) = gapL (rem1 r c) l + 1 := by
  rw [gapL, if_pos h]
theorem gapL_no {r : Bool} {c : UInt8} {l : List UInt8} (h : (rem1 r c || isBlk c) = false) : gapL r (c :: l) = 0 := by
  rw [gapL, h]; simp

def two (c : UInt8) : Bool := [61, 33, 60, 62].contains c
def one (c : UInt8) : Bool := [60, 62, 61, 43, 45, 42, 47, 37, 40, 41, 123, 125, 44, 59].contains c

/-- How long the sign is with which l begins. -/
def signL : List UInt8 → Nat
  | [] => 0
  | c :: l => if (l.head? == some 61) && two c then 2 else if one c then 1 else 0

end Lx
end Go.Proofs.YtlnikpcoejpknaaDoor

/- Names: the walks of Named, the program's and the document's. -/
namespace Go.Proofs.YtlnikpcoejpknaaDoor
open Go.RowKit

namespace Lx
theorem byte_cons (s : ByteArray) (h0 : 0 < s.size) : s.data.toList = s[0] :: s.data.toList.drop 1 := by
  have h := List.drop_eq_getElem_cons (l := s.data.toList) (i := 0) (by simpa using h0)
  rw [List.drop_zero] at h
  exact h
end Lx

theorem ret_bool {a b : Bool} (h : a = b) : Ending.returned (.bool a) = .returned (.bool b) := by rw [h]

theorem ret_int {k : IntKind} {a b : Int} (h : a = b) : Ending.returned (.int k a) = .returned (.int k b) := by rw [h]

set_option maxHeartbeats 400000 in
theorem isLetter_any (c : UInt8) (w : World) :
    Calls Tryd.prog 90 #[.int .u8 (c.toNat : Int)] w fun e w' => e = .returned (.bool (Lx.isLet c)) ∧ w' = w := by
  go_enter Tryd.func90, Tryd.ntmps90
  go_wp2
  all_goals go_ret
  all_goals refine ⟨ret_bool ?_, rfl⟩
  all_goals unfold Lx.isLet; rw [Bool.eq_iff_iff]; simp; omega

set_option maxHeartbeats 400000 in
theorem isDigit_any (c : UInt8) (w : World) :
    Calls Tryd.prog 99 #[.int .u8 (c.toNat : Int)] w fun e w' => e = .returned (.bool (Lx.isDig c)) ∧ w' = w := by
  go_enter Tryd.func99, Tryd.ntmps99
  go_wp2
  all_goals go_ret
  all_goals refine ⟨ret_bool ?_, rfl⟩
  all_goals unfold Lx.isDig; rw [Bool.eq_iff_iff]; simp; omega

set_option maxHeartbeats 400000 in
theorem isWordByte_any (c : UInt8) (w : World) :
    Calls Tryd.prog 92 #[.int .u8 (c.toNat : Int)] w fun e w' => e = .returned (.bool (Lx.isWrd c)) ∧ w' = w := by
  unfold Lx.isWrd
  cases hl : Lx.isLet c
  · go_enter Tryd.func92, Tryd.ntmps92
    go_wp2_with (first | (go_at_call 90; refine (isLetter_any _ _).mono ?_; rintro e w' ⟨rfl, rfl⟩) | (go_at_call 99; refine (isDigit_any _ _).mono ?_; rintro e w' ⟨rfl, rfl⟩))
    go_ret
    exact ⟨rfl, rfl⟩
  · go_enter Tryd.func92, Tryd.ntmps92
    go_wp2_with (first | (go_at_call 90; refine (isLetter_any _ _).mono ?_; rintro e w' ⟨rfl, rfl⟩) | (go_at_call 99; refine (isDigit_any _ _).mono ?_; rintro e w' ⟨rfl, rfl⟩))
    go_ret
    exact ⟨rfl, rfl⟩

theorem take_snoc (s : ByteArray) (k : Nat) (h : k < s.size) : s.data.toList.take (k + 1) = s.data.toList.take k ++ [s[k]] := by
  rw [List.take_succ_eq_append_getElem (by simpa using h)]; rfl

theorem span_of (p : UInt8 → Bool) (s : ByteArray) (k : Nat) (h : (s.data.toList.take k).all p = true) (hk : k ≤ s.size) (he : ∀ hl : k < s.size, p s[k] = false) : Lx.span p s.data.toList = k := by
  refine Lx.span_at p _ k h (by simpa using hk) (fun x hx => ?_)
  obtain ⟨hl, hx⟩ := List.getElem?_eq_some_iff.1 hx
  have hl' : k < s.size := by simpa using hl
  have := he hl'
  rw [← hx]; exact this

set_option maxHeartbeats 400000 in
theorem run_word (s : ByteArray) (w : World) (hs : s.size ≤ maxLen) :
    Calls Tryd.prog 91 #[.string s, .func (.func 92) #[] #[]] w fun e w' => e = .returned (.int .i64 (Lx.span Lx.isWrd s.data.toList : Nat)) ∧ w' = w := by
  unfold maxLen at hs
  go_enter Tryd.func91, Tryd.ntmps91
  go_wp2
  go_loop [5] (fun i => ∃ k : Nat, k ≤ s.size ∧ i = .int .i64 k ∧ (s.data.toList.take k).all Lx.isWrd = true) (fun i => s.size - (intOf i).toNat)
  case atStart => exact ⟨0, Nat.zero_le _, rfl, rfl⟩
  case round =>
    obtain ⟨k, hk, rfl, hall⟩ := hrel
    have HA : Hid ((s.data.toList.take k).all Lx.isWrd = true) := hall
    clear hall
    by_cases hlt : k < s.size
    · cases hp : Lx.isWrd s[k]
      · have HP : Hid (Lx.isWrd s[k] = false) := hp
        go_wp2_with (go_at_call 92; refine (isWordByte_any _ _).mono ?_; rintro e w' ⟨rfl, rfl⟩)
        go_ret
        exact ⟨ret_int (by rw [span_of _ s k HA.out hk (fun _ => HP.out)]), rfl⟩
      · have HP : Hid (Lx.isWrd s[k] = true) := hp
        go_wp2_with (go_at_call 92; refine (isWordByte_any _ _).mono ?_; rintro e w' ⟨rfl, rfl⟩)
        go_round
        case rel => exact ⟨k + 1, by omega, by go_num, by rw [take_snoc s k hlt]; exact Lx.all_snoc _ _ _ HA.out HP.out⟩
        case measure => simp [intOf]; omega
    · go_wp2
      go_ret
      exact ⟨ret_int (by rw [span_of _ s k HA.out hk (fun h => absurd h hlt)]), rfl⟩

theorem grown_set (w : World) (b : Nat) (v : Value) : w.grownBy (w.setCell ⟨b, 0, none⟩ v) (some b) :=
  ⟨rfl, rfl, rfl, by simp [World.setCell], fun k _ hne => Below.heap_setCell _ _ _ _ (by intro h; apply hne; simp [h])⟩

theorem grown_refl (w : World) (r : Option Nat) : w.grownBy w r := ⟨rfl, rfl, rfl, Nat.le_refl _, fun _ _ _ => rfl⟩

theorem grown_trans {a b c : World} {r : Option Nat} (h : a.grownBy b r) (k : b.grownBy c r) : a.grownBy c r :=
  ⟨k.os.trans h.os, k.tape.trans h.tape, k.output.trans h.output, Nat.le_trans h.size k.size, fun i hi hne => (k.block i (Nat.lt_of_lt_of_le hi h.size) hne).trans (h.block i hi hne)⟩

/-- The class of a byte. -/
def Lx.cls (c : UInt8) : Nat := if Lx.isLet c then 1 else if Lx.isDig c then 2 else if Lx.isBlk c then 3 else if c.toNat = 35 then 4 else 5

set_option maxHeartbeats 400000 in
theorem class_any (c : UInt8) (w : World) :
    Calls Tryd.prog 66 #[.int .u8 (c.toNat : Int)] w fun e w' => e = .returned (.int .i64 (Lx.cls c : Nat)) ∧ w' = w := by
  go_enter Tryd.func66, Tryd.ntmps66
  go_wp2
  all_goals go_ret
  all_goals refine ⟨ret_int ?_, rfl⟩
  all_goals
    unfold Lx.cls Lx.isLet Lx.isDig Lx.isBlk
    simp only [decide_eq_true_eq, beq_iff_eq, beq_eq_false_iff_ne, ne_eq] at *
    repeat' split
    all_goals omega

/-- The words that are no names. -/
def Lx.words : List (List UInt8) := [[98, 111, 120], [102, 110], [103, 101, 110], [116, 97, 115, 107], [116, 97, 107, 101, 115], [121, 105, 101, 108, 100, 115], [108, 101, 116], [105, 102], [101, 108, 115, 101], [119, 104, 105, 108, 101], [114, 101, 116, 117, 114, 110], [115, 116, 111, 112], [115, 101, 110, 100], [111, 117, 116], [100, 111], [114, 101, 99, 118], [121, 105, 101, 108, 100], [115, 116, 97, 114, 116], [114, 101, 115, 117, 109, 101], [97, 108, 105, 118, 101], [110, 117, 109], [98, 111, 111, 108], [116, 114, 117, 101], [102, 97, 108, 115, 101], [97, 110, 100], [111, 114], [110, 111, 116]]

def Lx.kept (l : List UInt8) : Bool := Lx.words.contains l

set_option maxHeartbeats 1000000 in
set_option maxRecDepth 100000 in
theorem isKept_any (s : ByteArray) (w : World) :
    Calls Tryd.prog 93 #[.string s] w fun e w' => e = .returned (.bool (Lx.kept s.toList)) ∧ w' = w := by
  go_enter Tryd.func93, Tryd.ntmps93
  go_wp2
  all_goals go_ret
  all_goals refine ⟨ret_bool ?_, rfl⟩
  all_goals
    generalize s.toList = l at *
    simp only [Lx.kept, Lx.words, List.contains_cons]
    simp_all

theorem contains_at {α : Type} [BEq α] [LawfulBEq α] (c : α) (l : List α) (k : Nat) (h : (l.take k).contains c = false) (hk : k < l.length) (hc : (l[k] == c) = false) : (l.take (k + 1)).contains c = false := by
  rw [List.take_succ_eq_append_getElem hk, List.contains_eq_any_beq, List.any_append, ← List.contains_eq_any_beq, h]
  have : (c == l[k]) = false := by
    cases h2 : (c == l[k])
    · rfl
    · rw [eq_of_beq h2] at hc; simp at hc
  simp [this]

theorem words_cells (w : World) (C : Array Value) (hC : C = (Lx.words.map (fun l => Value.string ⟨l.toArray⟩)).toArray) : ∀ j (h : j < Lx.words.length), (w.alloc (.cells C 9)).cell? ⟨w.heap.size, j, none⟩ = some (.string ⟨(Lx.words[j]'h).toArray⟩) := by
  intro j h
  rw [World.cell?_alloc_mark, hC, List.getElem?_toArray, List.getElem?_map, List.getElem?_eq_getElem h]
  rfl

set_option maxHeartbeats 1000000 in
theorem reserved_any (s : ByteArray) (w : World) :
    Calls Tryd.prog 67 #[.string s] w fun e w' => e = .returned (.bool (Lx.kept s.toList)) ∧ Below w.heap.size w w' := by
  go_enter Tryd.func67, Tryd.ntmps67
  go_wp2
  go_loopw [7] (fun i wr => ∃ k : Nat, k ≤ 27 ∧ i = .int .i64 k ∧ Below w.heap.size w wr ∧ Hid (∀ j (h : j < Lx.words.length), wr.cell? ⟨w.heap.size, j, none⟩ = some (.string ⟨(Lx.words[j]'h).toArray⟩)) ∧ Hid ((Lx.words.take k).contains s.toList = false)) (fun i _ => 27 - (intOf i).toNat)
  case atStart => exact ⟨0, Nat.zero_le _, rfl, (Below.refl _ w).alloc (Nat.le_refl _) _, words_cells w _ rfl, by unfold Hid; simp⟩
  case round =>
    obtain ⟨k, hk, rfl, hbel, HC, HN⟩ := hrel
    by_cases hk1 : k < 27
    · have hcell := HC.out k hk1
      obtain ⟨d, hd⟩ : ∃ d, Lx.words[k]'hk1 = d := ⟨_, rfl⟩
      rw [hd] at hcell
      have HD : Hid (Lx.words[k]'hk1 = d) := hd
      clear hd
      go_wp2
      · have h : (d == s.toList) = true := by assumption
        go_ret
        refine ⟨ret_bool ?_, hbel⟩
        have h2 := eq_of_beq h
        rw [← h2, ← HD.out]
        exact (List.contains_iff_mem.2 (List.getElem_mem _)).symm
      · have h : (d == s.toList) = false := by assumption
        go_roundw
        case rel => exact ⟨k + 1, by omega, by go_num, hbel, HC, contains_at s.toList Lx.words k HN.out hk1 (by rw [HD.out]; exact h)⟩
        case measure => simp [intOf]; omega
    · go_wp2
      go_ret
      refine ⟨ret_bool ?_, hbel⟩
      have h := HN.out
      rw [List.take_of_length_le (by show 27 ≤ k; omega)] at h
      unfold Lx.kept
      rw [h]

/-- Whether l is a name. -/
def Lx.named (l : List UInt8) : Bool := decide (0 < l.length) && decide (l.length ≤ 12) && l.all Lx.isWrd && (l.head?.map Lx.isLet).getD false && !Lx.kept l

theorem toList_eq (s : ByteArray) : s.toList = s.data.toList := Lib.toList_data s

theorem span_all (p : UInt8 → Bool) : ∀ l : List UInt8, decide (Lx.span p l = l.length) = l.all p
  | [] => by simp [Lx.span]
  | a :: l => by
    have ih := span_all p l
    unfold Lx.span at ih ⊢
    rw [List.takeWhile_cons, List.all_cons]
    cases h : p a
    · simp
    · simp only [if_true, List.length_cons, Bool.true_and]
      rw [← ih]
      simp

theorem named_bad {s : ByteArray} (h : s.size = 0 ∨ 12 < s.size) : Lx.named s.toList = false := by
  rw [toList_eq]
  have e : s.data.toList.length = s.size := rfl
  unfold Lx.named
  rw [e]
  rcases h with h | h
  · simp [h]
  · have : decide (s.size ≤ 12) = false := by simp; omega
    rw [this]; simp

theorem named_good {s : ByteArray} (h0 : 0 < s.size) (h1 : s.size ≤ 12) : Lx.named s.toList = (Lx.isLet s[0] && (decide (Lx.span Lx.isWrd s.data.toList = s.size) && !Lx.kept s.toList)) := by
  rw [toList_eq]
  have e : s.data.toList.length = s.size := rfl
  have hs := span_all Lx.isWrd s.data.toList
  rw [e] at hs
  have hh : (s.data.toList.head?.map Lx.isLet).getD false = Lx.isLet s[0] := by rw [Lx.byte_cons s h0]; rfl
  unfold Lx.named
  rw [hs, hh, e, decide_eq_true h0, decide_eq_true h1]
  simp only [Bool.true_and]
  cases Lx.isLet s[0] <;> cases s.data.toList.all Lx.isWrd <;> simp

theorem isEmpty_of {s : ByteArray} (h : 0 < s.size) : s.toList.isEmpty = false := by
  rw [toList_eq, Lx.byte_cons s h]; rfl

set_option maxHeartbeats 1000000 in
theorem named_any (s : ByteArray) (w : World) (hs : s.size ≤ maxLen) :
    Calls Tryd.prog 64 #[.string s] w fun e w' => e = .returned (.bool (Lx.named s.toList)) ∧ w' = w := by
  have hs' := hs
  unfold maxLen at hs'
  by_cases h0 : s.size = 0
  · have HB : Hid (Lx.named s.toList = false) := named_bad (.inl h0)
    have he : s.toList.isEmpty = true := by
      rw [toList_eq]
      have : s.data.toList.length = 0 := h0
      rw [List.length_eq_zero_iff.1 this]; rfl
    clear h0
    go_enter Tryd.func64, Tryd.ntmps64
    go_wp2
    go_ret
    exact ⟨ret_bool HB.out.symm, rfl⟩
  · have h0' : 0 < s.size := by omega
    have he : s.toList.isEmpty = false := isEmpty_of h0'
    by_cases h12 : 12 < s.size
    · have HB : Hid (Lx.named s.toList = false) := named_bad (.inr h12)
      go_enter Tryd.func64, Tryd.ntmps64
      go_wp2
      go_ret
      exact ⟨ret_bool HB.out.symm, rfl⟩
    · have HG : Hid (Lx.named s.toList = (Lx.isLet s[0] && (decide (Lx.span Lx.isWrd s.data.toList = s.size) && !Lx.kept s.toList))) := named_good h0' (by omega)
      cases hl : Lx.isLet s[0]
      · rw [hl] at HG
        go_enter Tryd.func64, Tryd.ntmps64
        go_wp2_with fail
        refine (isLetter_any _ _).mono ?_
        rintro e w1 ⟨rfl, rfl⟩
        go_wp2
        go_ret
        exact ⟨ret_bool (by rw [HG.out]; rfl), rfl⟩
      · rw [hl] at HG
        by_cases hsp : Lx.span Lx.isWrd s.data.toList = s.size
        · rw [decide_eq_true hsp] at HG
          have e1 : (((Lx.span Lx.isWrd s.data.toList : Nat) : Int) == (s.size : Int)) = true := by simp; omega
          clear hsp
          go_enter Tryd.func64, Tryd.ntmps64
          go_wp2_with fail
          refine (isLetter_any _ _).mono ?_
          rintro e w1 ⟨rfl, rfl⟩
          go_wp2_with fail
          refine (run_word s _ hs).mono ?_
          rintro e w1 ⟨rfl, rfl⟩
          go_wp2_with fail
          refine (isKept_any s _).mono ?_
          rintro e w1 ⟨rfl, rfl⟩
          go_wp2
          go_ret
          exact ⟨ret_bool (by rw [HG.out]; simp), rfl⟩
        · rw [decide_eq_false hsp] at HG
          have e1 : (((Lx.span Lx.isWrd s.data.toList : Nat) : Int) == (s.size : Int)) = false := by simp; omega
          clear hsp
          go_enter Tryd.func64, Tryd.ntmps64
          go_wp2_with fail
          refine (isLetter_any _ _).mono ?_
          rintro e w1 ⟨rfl, rfl⟩
          go_wp2_with fail
          refine (run_word s _ hs).mono ?_
          rintro e w1 ⟨rfl, rfl⟩
          go_wp2
          go_ret
          exact ⟨ret_bool (by rw [HG.out]; rfl), rfl⟩

/-- The first pos bytes are as a name's. -/
def NamePre (s : ByteArray) (pos : Nat) : Prop := (s.data.toList.take pos).all Lx.isWrd = true ∧ ∀ h : 0 < s.size, 0 < pos → Lx.isLet s[0] = true

theorem namePre_next {s : ByteArray} {pos : Nat} (h : NamePre s pos) (hp : pos < s.size) (hk : Lx.isLet s[pos] = true ∨ (Lx.isDig s[pos] = true ∧ 0 < pos)) : NamePre s (pos + 1) := by
  refine ⟨?_, ?_⟩
  · rw [take_snoc s pos hp]
    refine Lx.all_snoc _ _ _ h.1 ?_
    unfold Lx.isWrd
    rcases hk with hk | hk
    · rw [hk]; rfl
    · rw [hk.1]; simp
  · intro h0 _
    by_cases hz : 0 < pos
    · exact h.2 h0 hz
    · obtain rfl : pos = 0 := by omega
      rcases hk with hk | hk
      · exact hk
      · omega

theorem named_no {s : ByteArray} {pos : Nat} (hp : pos < s.size) (h1 : Lx.isLet s[pos] = false) (h2 : Lx.isDig s[pos] = false ∨ pos = 0) : Lx.named s.toList = false := by
  rw [toList_eq]
  have h0 : 0 < s.size := by omega
  have hh : (s.data.toList.head?.map Lx.isLet).getD false = Lx.isLet s[0] := by rw [Lx.byte_cons s h0]; rfl
  unfold Lx.named
  rw [hh]
  rcases h2 with h2 | h2
  · have : s.data.toList.all Lx.isWrd = false := by
      cases hb : s.data.toList.all Lx.isWrd
      · rfl
      · have := List.all_eq_true.1 hb s[pos] (List.getElem_mem (l := s.data.toList) (by simpa using hp))
        unfold Lx.isWrd at this
        rw [h1, h2] at this
        simp at this
    rw [this]; simp
  · subst h2
    rw [h1]; simp

theorem named_yes {s : ByteArray} (h : NamePre s s.size) (h0 : 0 < s.size) (h12 : s.size ≤ 12) : Lx.named s.toList = !Lx.kept s.toList := by
  rw [toList_eq]
  have hh : (s.data.toList.head?.map Lx.isLet).getD false = Lx.isLet s[0] := by rw [Lx.byte_cons s h0]; rfl
  have e : s.data.toList.length = s.size := rfl
  have ha := h.1
  rw [List.take_of_length_le (by omega)] at ha
  unfold Lx.named
  rw [hh, h.2 h0 h0, ha, e, decide_eq_true h0, decide_eq_true h12]
  simp

theorem cls_let {c : UInt8} (h : Lx.isLet c = true) : Lx.cls c = 1 := by unfold Lx.cls; rw [h]; rfl

theorem cls_dig {c : UInt8} (h1 : Lx.isLet c = false) (h : Lx.isDig c = true) : Lx.cls c = 2 := by unfold Lx.cls; rw [h1, h]; rfl

theorem cls_else {c : UInt8} (h1 : Lx.isLet c = false) (h : Lx.isDig c = false) : 3 ≤ Lx.cls c := by
  unfold Lx.cls; rw [h1, h]
  simp only [if_false, Bool.false_eq_true]
  split
  · omega
  · split <;> omega

theorem ascii_of {c : UInt8} (h : Lx.isLet c = true ∨ Lx.isDig c = true) : c.toNat < 128 := by
  rcases h with h | h
  · have := of_decide_eq_true h; omega
  · have := of_decide_eq_true h; omega

set_option maxRecDepth 100000 in
set_option maxHeartbeats 1000000 in
theorem refNamed_any (s : ByteArray) (w : World) (hs : s.size ≤ maxLen) :
    Calls Tryd.prog 44 #[.string s] w fun e w' => e = .returned (.bool (Lx.named s.toList)) ∧ Below w.heap.size w w' := by
  unfold maxLen at hs
  go_enter Tryd.func44, Tryd.ntmps44
  go_wp2
  go_loopw [] (fun wr => ∃ pos : Nat, pos ≤ s.size ∧ w.iter s pos = wr ∧ Hid (NamePre s pos)) (fun wr => s.size - wr.iterPos w.heap.size)
  case atStart => exact ⟨0, Nat.zero_le _, rfl, by exact ⟨by simp, fun _ h => by omega⟩⟩
  case round =>
    obtain ⟨pos, hpos, rfl, HN⟩ := hrel
    have hbel : Below w.heap.size w (w.iter s pos) := (Below.refl _ w).alloc (Nat.le_refl _) _
    by_cases hp : pos < s.size
    · have hnx : ∀ ty, (Instr.next (.pointer (some ⟨w.heap.size, 0, none⟩)) true ty).run Tryd.prog (w.iter s pos) = _ := fun ty => run_next_any w s pos ty hp
      cases hl : Lx.isLet s[pos]
      · cases hd : Lx.isDig s[pos]
        · have HF : Hid (Lx.named s.toList = false) := named_no hp hl (.inl hd)
          have hc := cls_else hl hd
          have e1 : (((Lx.cls s[pos] : Nat) : Int) != 1) = true := by simp; omega
          have e2 : (((Lx.cls s[pos] : Nat) : Int) != 2) = true := by simp; omega
          clear hl hd
          go_wp2_with fail
          refine (class_any _ _).mono ?_
          rintro e w1 ⟨rfl, rfl⟩
          go_wp2
          go_ret
          exact ⟨ret_bool HF.out.symm, (Below.refl _ w).alloc (Nat.le_refl _) _⟩
        · have hc := cls_dig hl hd
          have ha := decode_ascii s pos hp (ascii_of (.inr hd))
          rw [ha] at hnx
          by_cases h0 : pos = 0
          · have HF : Hid (Lx.named s.toList = false) := named_no hp hl (.inr h0)
            have e3 : ((pos : Int) == 0) = true := by simp; omega
            clear hl hd ha h0
            go_wp2_with fail
            refine (class_any _ _).mono ?_
            rintro e w1 ⟨rfl, rfl⟩
            go_wp2
            go_ret
            exact ⟨ret_bool HF.out.symm, (Below.refl _ w).alloc (Nat.le_refl _) _⟩
          · have HN2 : Hid (NamePre s (pos + 1)) := namePre_next HN.out hp (.inr ⟨hd, by omega⟩)
            have e3 : ((pos : Int) == 0) = false := by simp; omega
            clear hl hd ha h0
            go_wp2_with fail
            refine (class_any _ _).mono ?_
            rintro e w1 ⟨rfl, rfl⟩
            go_wp2
            go_roundw
            case rel => exact ⟨pos + 1, by omega, rfl, HN2⟩
            case measure => simp; omega
      · have hc := cls_let hl
        have ha := decode_ascii s pos hp (ascii_of (.inl hl))
        rw [ha] at hnx
        have HN2 : Hid (NamePre s (pos + 1)) := namePre_next HN.out hp (.inl hl)
        clear hl ha
        go_wp2_with fail
        refine (class_any _ _).mono ?_
        rintro e w1 ⟨rfl, rfl⟩
        go_wp2
        go_roundw
        case rel => exact ⟨pos + 1, by omega, rfl, HN2⟩
        case measure => simp; omega
    · have hnx : ∀ ty, (Instr.next (.pointer (some ⟨w.heap.size, 0, none⟩)) true ty).run Tryd.prog (w.iter s pos) = _ := fun ty => run_next_end w s pos ty hp
      obtain rfl : pos = s.size := by omega
      by_cases h0 : 0 < s.size
      · by_cases h12 : s.size ≤ 12
        · have HY : Hid (Lx.named s.toList = !Lx.kept s.toList) := named_yes HN.out h0 h12
          go_wp2_with fail
          refine (reserved_any s _).mono ?_
          rintro e w1 ⟨rfl, hb1⟩
          go_wp2
          go_ret
          exact ⟨ret_bool (by rw [HY.out]), hbel.trans (hb1.mono (by have := hbel.size; omega))⟩
        · have HF : Hid (Lx.named s.toList = false) := named_bad (.inr (by omega))
          go_wp2
          go_ret
          exact ⟨ret_bool HF.out.symm, hbel⟩
      · have HF : Hid (Lx.named s.toList = false) := named_bad (.inl (by omega))
        go_wp2
        go_ret
        exact ⟨ret_bool HF.out.symm, hbel⟩

end Go.Proofs.YtlnikpcoejpknaaDoor

