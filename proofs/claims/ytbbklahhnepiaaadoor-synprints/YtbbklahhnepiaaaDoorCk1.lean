/- The walks of the checker's small methods. -/
import Derived.Test.YtbbklahhnepiaaaDoorIn
import Derived.Recover
namespace Go.Proofs.YtbbklahhnepiaaaDoor
open Go.RowKit

theorem fate0_ok {num er : Int} {w w' : World} (hg : w.grownBy w' none) (h : er = 0) : Fate0 num er w (.returned (.tuple #[])) w' := ⟨hg, by rw [if_pos h]⟩
theorem fate0_bad {num er k : Int} {w w' : World} (hg : w.grownBy w' none) (h : er = k) (hk : k ≠ 0) : Fate0 num er w (.panicked [fltE k num]) w' := ⟨hg, by rw [h, if_neg hk]⟩
theorem fate0_not {num er : Int} {w w' : World} {e : Ending} (h : Fate0 num er w e w') (h0 : er = 0) : e = .returned (.tuple #[]) := by rw [h.2, if_pos h0]
theorem fate0_err {num er : Int} {w w' : World} {e : Ending} (h : Fate0 num er w e w') (h0 : er ≠ 0) : e = .panicked [fltE er num] := by rw [h.2, if_neg h0]

set_option maxHeartbeats 400000 in
theorem throw_any (num er : Int) (w : World) :
    Calls Tryd.prog 47 #[.int .i64 er, .int .i64 num] w fun e w' => e = .panicked [fltE er num] ∧ Below w.heap.size w w' ∧ w' = w := by
  go_enter Tryd.func47, Tryd.ntmps47
  go_wp2
  exact ⟨rfl, rfl, Below.refl _ _, rfl⟩

set_option maxHeartbeats 400000 in
theorem fail_any (C n : Nat) (num er : Int) (w : World) (hC : CK w C num n) :
    Calls Tryd.prog 27 #[.pointer (some ⟨C, 0, none⟩), .int .i64 er] w fun e w' => e = .panicked [fltE er num] ∧ w' = w := by
  obtain ⟨c0, c1, f0, f1⟩ := hC.cells
  clear hC
  go_enter Tryd.func27, Tryd.ntmps27
  go_wp2_with fail
  refine (throw_any num er _).mono ?_
  rintro e w1 ⟨rfl, _, rfl⟩
  go_wp2
  exact ⟨rfl, rfl, rfl⟩

set_option maxHeartbeats 400000 in
theorem atMost_any (C n : Nat) (num k most er : Int) (w : World) (hC : Hid (CK w C num n)) (he : Hid (er = if most < k then 5 else 0)) :
    Calls Tryd.prog 16 #[.pointer (some ⟨C, 0, none⟩), .int .i64 k, .int .i64 most] w fun e w' => Fate0 num er w e w' := by
  by_cases h : most < k
  · have HE : Hid (er = 5) := by rw [if_pos h] at he; exact he
    go_enter Tryd.func16, Tryd.ntmps16
    go_wp2_with fail
    refine (fail_any C n num 5 _ hC.out).mono ?_
    rintro e w1 ⟨rfl, rfl⟩
    go_wp2
    exact ⟨rfl, fate0_bad (grown_refl _ _) HE.out (by decide)⟩
  · have HE : Hid (er = 0) := by rw [if_neg h] at he; exact he
    go_enter Tryd.func16, Tryd.ntmps16
    go_wp2
    go_end0
    exact fate0_ok (grown_refl _ _) HE.out

set_option maxHeartbeats 400000 in
theorem kind_any (C n : Nat) (num k most er : Int) (w : World) (hC : Hid (CK w C num n)) (he : Hid (er = if k < 1 ∨ most < k then 1 else 0)) :
    Calls Tryd.prog 48 #[.pointer (some ⟨C, 0, none⟩), .int .i64 k, .int .i64 most] w fun e w' => Fate0 num er w e w' := by
  by_cases h : k < 1
  · have HE : Hid (er = 1) := by rw [if_pos (.inl h)] at he; exact he
    go_enter Tryd.func48, Tryd.ntmps48
    go_wp2_with fail
    refine (fail_any C n num 1 _ hC.out).mono ?_
    rintro e w1 ⟨rfl, rfl⟩
    go_wp2
    exact ⟨rfl, fate0_bad (grown_refl _ _) HE.out (by decide)⟩
  · by_cases h2 : most < k
    · have HE : Hid (er = 1) := by rw [if_pos (.inr h2)] at he; exact he
      go_enter Tryd.func48, Tryd.ntmps48
      go_wp2_with fail
      refine (fail_any C n num 1 _ hC.out).mono ?_
      rintro e w1 ⟨rfl, rfl⟩
      go_wp2
      exact ⟨rfl, fate0_bad (grown_refl _ _) HE.out (by decide)⟩
    · have HE : Hid (er = 0) := by rw [if_neg (by omega)] at he; exact he
      go_enter Tryd.func48, Tryd.ntmps48
      go_wp2
      go_end0
      exact fate0_ok (grown_refl _ _) HE.out

set_option maxHeartbeats 400000 in
theorem within_any (C n : Nat) (num k least most er : Int) (w : World) (hC : Hid (CK w C num n)) (he : Hid (er = if k < least ∨ most < k then 3 else 0)) :
    Calls Tryd.prog 32 #[.pointer (some ⟨C, 0, none⟩), .int .i64 k, .int .i64 least, .int .i64 most] w fun e w' => Fate0 num er w e w' := by
  by_cases h : k < least
  · have HE : Hid (er = 3) := by rw [if_pos (.inl h)] at he; exact he
    go_enter Tryd.func32, Tryd.ntmps32
    go_wp2_with fail
    refine (fail_any C n num 3 _ hC.out).mono ?_
    rintro e w1 ⟨rfl, rfl⟩
    go_wp2
    exact ⟨rfl, fate0_bad (grown_refl _ _) HE.out (by decide)⟩
  · by_cases h2 : most < k
    · have HE : Hid (er = 3) := by rw [if_pos (.inr h2)] at he; exact he
      go_enter Tryd.func32, Tryd.ntmps32
      go_wp2_with fail
      refine (fail_any C n num 3 _ hC.out).mono ?_
      rintro e w1 ⟨rfl, rfl⟩
      go_wp2
      exact ⟨rfl, fate0_bad (grown_refl _ _) HE.out (by decide)⟩
    · have HE : Hid (er = 0) := by rw [if_neg (by omega)] at he; exact he
      go_enter Tryd.func32, Tryd.ntmps32
      go_wp2
      go_end0
      exact fate0_ok (grown_refl _ _) HE.out

set_option maxHeartbeats 400000 in
theorem cname_any (C n : Nat) (num er : Int) (s : ByteArray) (w : World) (hC : Hid (CK w C num n)) (hs : s.size ≤ maxLen) (he : Hid (er = if Sy.nm s = false then 7 else 0)) :
    Calls Tryd.prog 29 #[.pointer (some ⟨C, 0, none⟩), .string s] w fun e w' => Fate0 num er w e w' := by
  cases h : Sy.nm s
  · have HE : Hid (er = 7) := by rw [if_pos h] at he; exact he
    have HN : Hid (Lx.named s.toList = false) := h
    clear h
    go_enter Tryd.func29, Tryd.ntmps29
    go_wp2_with fail
    refine (named_any s _ hs).mono ?_
    rintro e w1 ⟨rfl, rfl⟩
    rw [HN.out]
    go_wp2_with fail
    refine (fail_any C n num 7 _ hC.out).mono ?_
    rintro e w1 ⟨rfl, rfl⟩
    go_wp2
    exact ⟨rfl, fate0_bad (grown_refl _ _) HE.out (by decide)⟩
  · have HE : Hid (er = 0) := by rw [if_neg (by rw [h]; decide)] at he; exact he
    have HN : Hid (Lx.named s.toList = true) := h
    clear h
    go_enter Tryd.func29, Tryd.ntmps29
    go_wp2_with fail
    refine (named_any s _ hs).mono ?_
    rintro e w1 ⟨rfl, rfl⟩
    rw [HN.out]
    go_wp2
    go_end0
    exact fate0_ok (grown_refl _ _) HE.out

end Go.Proofs.YtbbklahhnepiaaaDoor
