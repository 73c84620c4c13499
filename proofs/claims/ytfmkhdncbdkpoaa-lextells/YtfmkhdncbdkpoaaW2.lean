/- The walks of strings.Clone, token, strings.IndexByte, isOneOf and signLen. -/
import Derived.Test.YtfmkhdncbdkpoaaW1
import Derived.Test.YtfmkhdncbdkpoaaPlain2
import Derived.Test.YtfmkhdncbdkpoaaShelf
import Derived.Lib.Bytealg
namespace Go.Proofs.Ytfmkhdncbdkpoaa
open Go.RowKit

set_option maxHeartbeats 400000 in
theorem clone_any (s : ByteArray) (w : World) (hlim : s.size ≤ 281474976710656) :
    Calls Try.prog 29 #[.string s] w fun e w' => e = .returned (.string s) ∧ Below w.heap.size w w' := by
  go_enter Try.func29, Try.ntmps29
  go_wp2_with (go_at_call 31; refine (Try.stringslite_Clone _ _ hlim).mono ?_; rintro e w1 ⟨rfl, hb⟩)
  go_ret
  exact ⟨rfl, by assumption⟩

/-- What lies below a 'Below' reads as it did: two rules for the walk. -/
theorem bcell {B : Nat} {W w1 : World} (hb : Below B W w1) : (∀ b o, b < B → w1.cell? ⟨b, o, none⟩ = W.cell? ⟨b, o, none⟩) ∧ (∀ b o, b < B → w1.frozen? ⟨b, o, none⟩ = W.frozen? ⟨b, o, none⟩) :=
  ⟨fun b o h => hb.cell (p := ⟨b, o, none⟩) h, fun b o h => hb.frozen (p := ⟨b, o, none⟩) h⟩

theorem below_set4 {B b : Nat} {a w : World} (h : Below B a w) (hb : B ≤ b) (v0 v1 v2 v3 : Value) :
    Below B a ((((w.setCell ⟨b, 0, none⟩ v0).setCell ⟨b, 1, none⟩ v1).setCell ⟨b, 2, none⟩ v2).setCell ⟨b, 3, none⟩ v3) :=
  (((h.setCell (p := ⟨b, 0, none⟩) hb _).setCell (p := ⟨b, 1, none⟩) hb _).setCell (p := ⟨b, 2, none⟩) hb _).setCell (p := ⟨b, 3, none⟩) hb _

set_option maxHeartbeats 400000 in
theorem token_any (n : Int) (s : ByteArray) (w : World) (hlim : s.size ≤ 281474976710656) :
    Calls Try.prog 26 #[.int .i64 n, .string s] w fun e w' => e = .returned (.agg #[.int .i64 n, .string s, .int .i64 0, .int .i64 0]) ∧ Below w.heap.size w w' := by
  go_enter Try.func26, Try.ntmps26
  go_wp2_with fail
  refine (clone_any _ _ hlim).mono ?_
  rintro e w1 ⟨rfl, hb⟩
  obtain ⟨hc, hf⟩ := bcell hb
  have hlt : w.heap.size < w1.heap.size := by have := hb.size; simp at this; omega
  go_wp2
  refine bodyPost_ret (v := .agg #[.int .i64 n, .string s, .int .i64 0, .int .i64 0]) (by simp [results, Try.results26, go_sem, hc]) rfl ⟨rfl, ?_⟩
  exact below_set4 (((Below.refl _ w).alloc (Nat.le_refl _) _).trans (hb.mono (by simp))) (Nat.le_refl _) _ _ _ _

theorem indexByte_contains (c : UInt8) : ∀ l : List UInt8, decide (0 ≤ Lib.indexByte l c) = l.contains c
  | [] => by simp [Lib.indexByte]
  | b :: l => by
    have ih := indexByte_contains c l
    have hge := Lib.indexByte_ge l c
    rw [Bool.eq_iff_iff] at ih ⊢
    simp only [decide_eq_true_eq, List.contains_cons, Bool.or_eq_true, beq_iff_eq, Lib.indexByte] at ih ⊢
    by_cases h : b = c
    · simp [h]
    · have h' : ¬ c = b := fun e => h e.symm
      simp only [h, h', if_false, false_or]
      rw [← ih]
      split <;> omega

theorem toUInt8_toNat (c : UInt8) : ((c.toNat : Int).toNat).toUInt8 = c := by simp

set_option maxHeartbeats 400000 in
theorem indexByte1_any (s : ByteArray) (c : UInt8) (w : World) :
    Calls Try.prog 33 #[.string s, .int .u8 (c.toNat : Int)] w fun e w' => e = .returned (.int .i64 (Lib.indexByte s.data.toList c)) ∧ w' = w := by
  go_enter Try.func33, Try.ntmps33
  go_wp2
  rw [run_callFunc_extern Try.func34 (by kernel_rfl) (by kernel_rfl) (by kernel_rfl) (e := Extern.BytealgIndexByte.indexByte) (by kernel_rfl), Lib.run_indexByteString, toUInt8_toNat]
  simp only [Result.andThen]
  rw [Oper.upon_value]
  go_wp2
  go_ret
  exact ⟨rfl, rfl⟩

set_option maxHeartbeats 400000 in
theorem isOneOf_any (s : ByteArray) (c : UInt8) (w : World) :
    Calls Try.prog 30 #[.int .u8 (c.toNat : Int), .string s] w fun e w' => e = .returned (.bool (s.data.toList.contains c)) ∧ w' = w := by
  rw [← indexByte_contains]
  go_enter Try.func30, Try.ntmps30
  go_wp2_with (first | (go_at_call 33; refine (indexByte1_any _ _ _).mono ?_; rintro e w' ⟨rfl, rfl⟩) | go_in)
  go_ret
  exact ⟨rfl, rfl⟩

theorem isOneOf_two (c : UInt8) (w : World) :
    Calls Try.prog 30 #[.int .u8 (c.toNat : Int), .string ⟨#[61, 33, 60, 62]⟩] w fun e w' => e = .returned (.bool (Lx.two c)) ∧ w' = w := isOneOf_any _ _ _
theorem isOneOf_one (c : UInt8) (w : World) :
    Calls Try.prog 30 #[.int .u8 (c.toNat : Int), .string ⟨#[60, 62, 61, 43, 45, 42, 47, 37, 40, 41, 123, 125, 44, 59]⟩] w fun e w' => e = .returned (.bool (Lx.one c)) ∧ w' = w := isOneOf_any _ _ _

set_option maxHeartbeats 1000000 in
theorem signLen_any (s : ByteArray) (w : World) (h0 : 0 < s.size) :
    Calls Try.prog 28 #[.string s] w fun e w' => e = .returned (.int .i64 (Lx.signL s.data.toList : Nat)) ∧ w' = w := by
  by_cases h1 : 1 < s.size
  · have HF : Hid (Lx.signL s.data.toList = if decide (s[1].toNat = 61) && Lx.two s[0] then 2 else if Lx.one s[0] then 1 else 0) := Lx.signL_long s h1
    by_cases h61 : s[1].toNat = 61
    · have e61 : ((s[1].toNat : Int) == 61) = true := by simp; omega
      have H61 : Hid (s[1].toNat = 61) := h61
      clear h61
      cases ht : Lx.two s[0]
      · cases ho : Lx.one s[0]
        all_goals
          go_enter Try.func28, Try.ntmps28
          go_wp2_with fail
          refine (isOneOf_two _ _).mono ?_
          rintro e w1 ⟨rfl, rfl⟩
          go_wp2_with fail
          refine (isOneOf_one _ _).mono ?_
          rintro e w1 ⟨rfl, rfl⟩
          go_wp2
          go_ret
          exact ⟨ret_int (by rw [HF.out, H61.out, ht, ho]; rfl), rfl⟩
      · go_enter Try.func28, Try.ntmps28
        go_wp2_with fail
        refine (isOneOf_two _ _).mono ?_
        rintro e w1 ⟨rfl, rfl⟩
        go_wp2
        go_ret
        exact ⟨ret_int (by rw [HF.out, H61.out, ht]; rfl), rfl⟩
    · have e61 : ((s[1].toNat : Int) == 61) = false := by simp; omega
      have H61 : Hid (¬ s[1].toNat = 61) := h61
      clear h61
      cases ho : Lx.one s[0]
      all_goals
        go_enter Try.func28, Try.ntmps28
        go_wp2_with (go_at_call 30; refine (isOneOf_one _ _).mono ?_; rintro e w' ⟨rfl, rfl⟩)
        go_ret
        exact ⟨ret_int (by rw [HF.out, decide_eq_false H61.out, ho]; rfl), rfl⟩
  · have HF : Hid (Lx.signL s.data.toList = if Lx.one s[0] then 1 else 0) := Lx.signL_short s h0 h1
    cases ho : Lx.one s[0]
    all_goals
      go_enter Try.func28, Try.ntmps28
      go_wp2_with (go_at_call 30; refine (isOneOf_one _ _).mono ?_; rintro e w' ⟨rfl, rfl⟩)
      go_ret
      exact ⟨ret_int (by rw [HF.out, ho]; rfl), rfl⟩

end Go.Proofs.Ytfmkhdncbdkpoaa
