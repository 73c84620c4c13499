/- The walks of the document's own small functions: Class, one, Reserved; and of isKept. -/
import Derived.Test.YtfmkhdncbdkpoaaW2
import Derived.Lib.SlBytesConst
namespace Go.Proofs.Ytfmkhdncbdkpoaa
open Go.RowKit

/-- The class of a byte. -/
def Lx.cls (c : UInt8) : Nat := if Lx.isLet c then 1 else if Lx.isDig c then 2 else if Lx.isBlk c then 3 else if c.toNat = 35 then 4 else 5

set_option maxHeartbeats 400000 in
theorem class_any (c : UInt8) (w : World) :
    Calls Try.prog 13 #[.int .u8 (c.toNat : Int)] w fun e w' => e = .returned (.int .i64 (Lx.cls c : Nat)) ∧ w' = w := by
  go_enter Try.func13, Try.ntmps13
  go_wp2
  all_goals go_ret
  all_goals refine ⟨ret_int ?_, rfl⟩
  all_goals
    unfold Lx.cls Lx.isLet Lx.isDig Lx.isBlk
    simp only [decide_eq_true_eq, beq_iff_eq, beq_eq_false_iff_ne, ne_eq] at *
    repeat' split
    all_goals omega

/-- The words that are no names. -/
def Lx.words : List (List UInt8) := [[98, 111, 120], [102, 110], [103, 101, 110], [116, 97, 115, 107], [116, 97, 107, 101, 115], [121, 105, 101, 108, 100, 115], [108, 101, 116], [105, 102], [101, 108, 115, 101], [119, 104, 105, 108, 101], [114, 101, 116, 117, 114, 110], [115, 116, 111, 112], [115, 101, 110, 100], [111, 117, 116], [100, 111], [114, 101, 99, 118], [121, 105, 101, 108, 100], [115, 116, 97, 114, 116], [114, 101, 115, 117, 109, 101], [97, 108, 105, 118, 101], [110, 117, 109], [98, 111, 111, 108], [116, 114, 117, 101], [102, 97, 108, 115, 101], [97, 110, 100], [111, 114], [110, 111, 116]]

def Lx.kept (l : List UInt8) : Bool := Lx.words.contains l

set_option maxHeartbeats 1000000 in
set_option maxRecDepth 100000 in
theorem isKept_any (s : ByteArray) (w : World) :
    Calls Try.prog 18 #[.string s] w fun e w' => e = .returned (.bool (Lx.kept s.toList)) ∧ w' = w := by
  go_enter Try.func18, Try.ntmps18
  go_wp2
  all_goals go_ret
  all_goals refine ⟨ret_bool ?_, rfl⟩
  all_goals
    generalize s.toList = l at *
    simp only [Lx.kept, Lx.words, List.contains_cons]
    simp_all

def Lx.ones : List UInt8 := [60, 62, 61, 43, 45, 42, 47, 37, 40, 41, 123, 125, 44, 59]

theorem contains_at {α : Type} [BEq α] [LawfulBEq α] (c : α) (l : List α) (k : Nat) (h : (l.take k).contains c = false) (hk : k < l.length) (hc : (l[k] == c) = false) : (l.take (k + 1)).contains c = false := by
  rw [List.take_succ_eq_append_getElem hk, List.contains_eq_any_beq, List.any_append, ← List.contains_eq_any_beq, h]
  have : (c == l[k]) = false := by
    cases h2 : (c == l[k])
    · rfl
    · rw [eq_of_beq h2] at hc; simp at hc
  simp [this]


end Go.Proofs.Ytfmkhdncbdkpoaa
