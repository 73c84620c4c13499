/- The walks of Named, the program's and the document's. -/
import Derived.Test.YtfmkhdncbdkpoaaR2
namespace Go.Proofs.Ytfmkhdncbdkpoaa
open Go.RowKit

/-- Whether l is a name. -/
def Lx.named (l : List UInt8) : Bool := decide (0 < l.length) && decide (l.length ≤ 12) && l.all Lx.isWrd && (l.head?.map Lx.isLet).getD false && !Lx.kept l

theorem toList_eq (s : ByteArray) : s.toList = s.data.toList := Lib.toList_data s

theorem span_all (p : UInt8 → Bool) : ∀ l : List UInt8, decide (Lx.span p l = l.length) = l.all p
  | [] => by simp [Lx.span]
  | a :: l => by
    have ih := span_all p l
    unfold Lx.span at ih ⊢
    rw [List.takeWhile_cons, List.all_cons]
    cases h : p a
    · simp
    · simp only [if_true, List.length_cons, Bool.true_and]
      rw [← ih]
      simp

theorem named_bad {s : ByteArray} (h : s.size = 0 ∨ 12 < s.size) : Lx.named s.toList = false := by
  rw [toList_eq]
  have e : s.data.toList.length = s.size := rfl
  unfold Lx.named
  rw [e]
  rcases h with h | h
  · simp [h]
  · have : decide (s.size ≤ 12) = false := by simp; omega
    rw [this]; simp

theorem named_good {s : ByteArray} (h0 : 0 < s.size) (h1 : s.size ≤ 12) : Lx.named s.toList = (Lx.isLet s[0] && (decide (Lx.span Lx.isWrd s.data.toList = s.size) && !Lx.kept s.toList)) := by
  rw [toList_eq]
  have e : s.data.toList.length = s.size := rfl
  have hs := span_all Lx.isWrd s.data.toList
  rw [e] at hs
  have hh : (s.data.toList.head?.map Lx.isLet).getD false = Lx.isLet s[0] := by rw [Lx.byte_cons s h0]; rfl
  unfold Lx.named
  rw [hs, hh, e, decide_eq_true h0, decide_eq_true h1]
  simp only [Bool.true_and]
  cases Lx.isLet s[0] <;> cases s.data.toList.all Lx.isWrd <;> simp

theorem isEmpty_of {s : ByteArray} (h : 0 < s.size) : s.toList.isEmpty = false := by
  rw [toList_eq, Lx.byte_cons s h]; rfl

set_option maxHeartbeats 1000000 in
theorem named_any (s : ByteArray) (w : World) (hs : s.size ≤ maxLen) :
    Calls Try.prog 9 #[.string s] w fun e w' => e = .returned (.bool (Lx.named s.toList)) ∧ w' = w := by
  have hs' := hs
  unfold maxLen at hs'
  by_cases h0 : s.size = 0
  · have HB : Hid (Lx.named s.toList = false) := named_bad (.inl h0)
    have he : s.toList.isEmpty = true := by
      rw [toList_eq]
      have : s.data.toList.length = 0 := h0
      rw [List.length_eq_zero_iff.1 this]; rfl
    clear h0
    go_enter Try.func9, Try.ntmps9
    go_wp2
    go_ret
    exact ⟨ret_bool HB.out.symm, rfl⟩
  · have h0' : 0 < s.size := by omega
    have he : s.toList.isEmpty = false := isEmpty_of h0'
    by_cases h12 : 12 < s.size
    · have HB : Hid (Lx.named s.toList = false) := named_bad (.inr h12)
      go_enter Try.func9, Try.ntmps9
      go_wp2
      go_ret
      exact ⟨ret_bool HB.out.symm, rfl⟩
    · have HG : Hid (Lx.named s.toList = (Lx.isLet s[0] && (decide (Lx.span Lx.isWrd s.data.toList = s.size) && !Lx.kept s.toList))) := named_good h0' (by omega)
      cases hl : Lx.isLet s[0]
      · rw [hl] at HG
        go_enter Try.func9, Try.ntmps9
        go_wp2_with fail
        refine (isLetter_any _ _).mono ?_
        rintro e w1 ⟨rfl, rfl⟩
        go_wp2
        go_ret
        exact ⟨ret_bool (by rw [HG.out]; rfl), rfl⟩
      · rw [hl] at HG
        by_cases hsp : Lx.span Lx.isWrd s.data.toList = s.size
        · rw [decide_eq_true hsp] at HG
          have e1 : (((Lx.span Lx.isWrd s.data.toList : Nat) : Int) == (s.size : Int)) = true := by simp; omega
          clear hsp
          go_enter Try.func9, Try.ntmps9
          go_wp2_with fail
          refine (isLetter_any _ _).mono ?_
          rintro e w1 ⟨rfl, rfl⟩
          go_wp2_with fail
          refine (run_word s _ hs).mono ?_
          rintro e w1 ⟨rfl, rfl⟩
          go_wp2_with fail
          refine (isKept_any s _).mono ?_
          rintro e w1 ⟨rfl, rfl⟩
          go_wp2
          go_ret
          exact ⟨ret_bool (by rw [HG.out]; simp), rfl⟩
        · rw [decide_eq_false hsp] at HG
          have e1 : (((Lx.span Lx.isWrd s.data.toList : Nat) : Int) == (s.size : Int)) = false := by simp; omega
          clear hsp
          go_enter Try.func9, Try.ntmps9
          go_wp2_with fail
          refine (isLetter_any _ _).mono ?_
          rintro e w1 ⟨rfl, rfl⟩
          go_wp2_with fail
          refine (run_word s _ hs).mono ?_
          rintro e w1 ⟨rfl, rfl⟩
          go_wp2
          go_ret
          exact ⟨ret_bool (by rw [HG.out]; rfl), rfl⟩

end Go.Proofs.Ytfmkhdncbdkpoaa
