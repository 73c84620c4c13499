/- The walks of the small byte tests and of run. -/
import Derived.Test.YtfmkhdncbdkpoaaRows
import Derived.Test.YtfmkhdncbdkpoaaPlain
import Derived.WalkKit
import Derived.WalkSpells
import Derived.WalkLawsBesides
namespace Go.Proofs.Ytfmkhdncbdkpoaa
open Go.RowKit

theorem ret_bool {a b : Bool} (h : a = b) : Ending.returned (.bool a) = .returned (.bool b) := by rw [h]
theorem ret_int {k : IntKind} {a b : Int} (h : a = b) : Ending.returned (.int k a) = .returned (.int k b) := by rw [h]

set_option maxHeartbeats 400000 in
theorem isLetter_any (c : UInt8) (w : World) :
    Calls Try.prog 15 #[.int .u8 (c.toNat : Int)] w fun e w' => e = .returned (.bool (Lx.isLet c)) ∧ w' = w := by
  go_enter Try.func15, Try.ntmps15
  go_wp2
  all_goals go_ret
  all_goals refine ⟨ret_bool ?_, rfl⟩
  all_goals unfold Lx.isLet; rw [Bool.eq_iff_iff]; simp; omega

set_option maxHeartbeats 400000 in
theorem isDigit_any (c : UInt8) (w : World) :
    Calls Try.prog 23 #[.int .u8 (c.toNat : Int)] w fun e w' => e = .returned (.bool (Lx.isDig c)) ∧ w' = w := by
  go_enter Try.func23, Try.ntmps23
  go_wp2
  all_goals go_ret
  all_goals refine ⟨ret_bool ?_, rfl⟩
  all_goals unfold Lx.isDig; rw [Bool.eq_iff_iff]; simp; omega

set_option maxHeartbeats 400000 in
theorem isBlank_any (c : UInt8) (w : World) :
    Calls Try.prog 25 #[.int .u8 (c.toNat : Int)] w fun e w' => e = .returned (.bool (Lx.isBlk c)) ∧ w' = w := by
  go_enter Try.func25, Try.ntmps25
  go_wp2
  all_goals go_ret
  all_goals refine ⟨ret_bool ?_, rfl⟩
  all_goals unfold Lx.isBlk; rw [Bool.eq_iff_iff]; simp; omega

set_option maxHeartbeats 400000 in
theorem isWordByte_any (c : UInt8) (w : World) :
    Calls Try.prog 17 #[.int .u8 (c.toNat : Int)] w fun e w' => e = .returned (.bool (Lx.isWrd c)) ∧ w' = w := by
  unfold Lx.isWrd
  cases hl : Lx.isLet c
  · go_enter Try.func17, Try.ntmps17
    go_wp2_with (first | (go_at_call 15; refine (isLetter_any _ _).mono ?_; rintro e w' ⟨rfl, rfl⟩) | (go_at_call 23; refine (isDigit_any _ _).mono ?_; rintro e w' ⟨rfl, rfl⟩))
    go_ret
    exact ⟨rfl, rfl⟩
  · go_enter Try.func17, Try.ntmps17
    go_wp2_with (first | (go_at_call 15; refine (isLetter_any _ _).mono ?_; rintro e w' ⟨rfl, rfl⟩) | (go_at_call 23; refine (isDigit_any _ _).mono ?_; rintro e w' ⟨rfl, rfl⟩))
    go_ret
    exact ⟨rfl, rfl⟩

theorem take_snoc (s : ByteArray) (k : Nat) (h : k < s.size) : s.data.toList.take (k + 1) = s.data.toList.take k ++ [s[k]] := by
  rw [List.take_succ_eq_append_getElem (by simpa using h)]; rfl

theorem span_of (p : UInt8 → Bool) (s : ByteArray) (k : Nat) (h : (s.data.toList.take k).all p = true) (hk : k ≤ s.size) (he : ∀ hl : k < s.size, p s[k] = false) : Lx.span p s.data.toList = k := by
  refine Lx.span_at p _ k h (by simpa using hk) (fun x hx => ?_)
  obtain ⟨hl, hx⟩ := List.getElem?_eq_some_iff.1 hx
  have hl' : k < s.size := by simpa using hl
  have := he hl'
  rw [← hx]; exact this

set_option maxHeartbeats 400000 in
theorem run_word (s : ByteArray) (w : World) (hs : s.size ≤ maxLen) :
    Calls Try.prog 16 #[.string s, .func (.func 17) #[] #[]] w fun e w' => e = .returned (.int .i64 (Lx.span Lx.isWrd s.data.toList : Nat)) ∧ w' = w := by
  unfold maxLen at hs
  go_enter Try.func16, Try.ntmps16
  go_wp2
  go_loop [5] (fun i => ∃ k : Nat, k ≤ s.size ∧ i = .int .i64 k ∧ (s.data.toList.take k).all Lx.isWrd = true) (fun i => s.size - (intOf i).toNat)
  case atStart => exact ⟨0, Nat.zero_le _, rfl, rfl⟩
  case round =>
    obtain ⟨k, hk, rfl, hall⟩ := hrel
    have HA : Hid ((s.data.toList.take k).all Lx.isWrd = true) := hall
    clear hall
    by_cases hlt : k < s.size
    · cases hp : Lx.isWrd s[k]
      · have HP : Hid (Lx.isWrd s[k] = false) := hp
        go_wp2_with (go_at_call 17; refine (isWordByte_any _ _).mono ?_; rintro e w' ⟨rfl, rfl⟩)
        go_ret
        exact ⟨ret_int (by rw [span_of _ s k HA.out hk (fun _ => HP.out)]), rfl⟩
      · have HP : Hid (Lx.isWrd s[k] = true) := hp
        go_wp2_with (go_at_call 17; refine (isWordByte_any _ _).mono ?_; rintro e w' ⟨rfl, rfl⟩)
        go_round
        case rel => exact ⟨k + 1, by omega, by go_num, by rw [take_snoc s k hlt]; exact Lx.all_snoc _ _ _ HA.out HP.out⟩
        case measure => simp [intOf]; omega
    · go_wp2
      go_ret
      exact ⟨ret_int (by rw [span_of _ s k HA.out hk (fun h => absurd h hlt)]), rfl⟩

set_option maxHeartbeats 400000 in
theorem run_digit (s : ByteArray) (w : World) (hs : s.size ≤ maxLen) :
    Calls Try.prog 16 #[.string s, .func (.func 23) #[] #[]] w fun e w' => e = .returned (.int .i64 (Lx.span Lx.isDig s.data.toList : Nat)) ∧ w' = w := by
  unfold maxLen at hs
  go_enter Try.func16, Try.ntmps16
  go_wp2
  go_loop [5] (fun i => ∃ k : Nat, k ≤ s.size ∧ i = .int .i64 k ∧ (s.data.toList.take k).all Lx.isDig = true) (fun i => s.size - (intOf i).toNat)
  case atStart => exact ⟨0, Nat.zero_le _, rfl, rfl⟩
  case round =>
    obtain ⟨k, hk, rfl, hall⟩ := hrel
    have HA : Hid ((s.data.toList.take k).all Lx.isDig = true) := hall
    clear hall
    by_cases hlt : k < s.size
    · cases hp : Lx.isDig s[k]
      · have HP : Hid (Lx.isDig s[k] = false) := hp
        go_wp2_with (go_at_call 23; refine (isDigit_any _ _).mono ?_; rintro e w' ⟨rfl, rfl⟩)
        go_ret
        exact ⟨ret_int (by rw [span_of _ s k HA.out hk (fun _ => HP.out)]), rfl⟩
      · have HP : Hid (Lx.isDig s[k] = true) := hp
        go_wp2_with (go_at_call 23; refine (isDigit_any _ _).mono ?_; rintro e w' ⟨rfl, rfl⟩)
        go_round
        case rel => exact ⟨k + 1, by omega, by go_num, by rw [take_snoc s k hlt]; exact Lx.all_snoc _ _ _ HA.out HP.out⟩
        case measure => simp [intOf]; omega
    · go_wp2
      go_ret
      exact ⟨ret_int (by rw [span_of _ s k HA.out hk (fun h => absurd h hlt)]), rfl⟩


theorem drop_byte (s : ByteArray) (k : Nat) (h : k < s.size) : s.data.toList.drop k = s[k] :: s.data.toList.drop (k + 1) := by
  rw [List.drop_eq_getElem_cons (by simpa using h)]; rfl

theorem grown_set (w : World) (b : Nat) (v : Value) : w.grownBy (w.setCell ⟨b, 0, none⟩ v) (some b) :=
  ⟨rfl, rfl, rfl, by simp [World.setCell], fun k _ hne => Below.heap_setCell _ _ _ _ (by intro h; apply hne; simp [h])⟩
theorem grown_refl (w : World) (r : Option Nat) : w.grownBy w r := ⟨rfl, rfl, rfl, Nat.le_refl _, fun _ _ _ => rfl⟩
theorem grown_trans {a b c : World} {r : Option Nat} (h : a.grownBy b r) (k : b.grownBy c r) : a.grownBy c r :=
  ⟨k.os.trans h.os, k.tape.trans h.tape, k.output.trans h.output, Nat.le_trans h.size k.size, fun i hi hne => (k.block i (Nat.lt_of_lt_of_le hi h.size) hne).trans (h.block i hi hne)⟩

set_option maxHeartbeats 400000 in
theorem gapf_any (c : UInt8) (r : Bool) (B : Nat) (w : World) (hB : w.heap[B]? = some (.cells #[.bool r] 4 (0, 0))) :
    Calls Try.prog 24 #[.int .u8 (c.toNat : Int), .pointer (some ⟨B, 0, none⟩)] w fun e w' => e = .returned (.bool (Lx.rem1 r c || Lx.isBlk c)) ∧ w'.heap[B]? = some (.cells #[.bool (Lx.rem1 r c)] 4 (0, 0)) ∧ w.grownBy w' (some B) := by
  have hc := cell_of_one hB
  have hf := free_of_one hB
  have HB : Hid (w.heap[B]? = some (.cells #[.bool r] 4 (0, 0))) := hB
  clear hB
  by_cases h10 : c.toNat = 10
  · have H10 : Hid (c.toNat = 10) := h10
    have e1 : ((c.toNat : Int) == 35) = false := by simp; omega
    have e2 : ((c.toNat : Int) == 10) = true := by simp; omega
    have hblk : Lx.isBlk c = true := Lx.blk_t (by omega)
    clear h10
    go_enter Try.func24, Try.ntmps24
    go_wp2_with (go_at_call 25; refine (isBlank_any _ _).mono ?_; rintro e w' ⟨rfl, rfl⟩)
    go_ret
    refine ⟨ret_bool (by simp [hblk]), ?_, grown_set _ _ _⟩
    rw [one_setCell HB.out]; simp [Lx.rem1, H10.out]
  · by_cases h35 : c.toNat = 35
    · have H35 : Hid (c.toNat = 35) := h35
      have e1 : ((c.toNat : Int) == 35) = true := by simp; omega
      have e2 : ((c.toNat : Int) == 10) = false := by simp; omega
      clear h35 h10
      go_enter Try.func24, Try.ntmps24
      go_wp2_with (go_at_call 25; refine (isBlank_any _ _).mono ?_; rintro e w' ⟨rfl, rfl⟩)
      go_ret
      refine ⟨ret_bool (by simp [Lx.rem1, H35.out]), ?_, grown_set _ _ _⟩
      rw [one_setCell HB.out]; simp [Lx.rem1, H35.out]
    · have e1 : ((c.toNat : Int) == 35) = false := by simp; omega
      have e2 : ((c.toNat : Int) == 10) = false := by simp; omega
      have hr : Lx.rem1 r c = r := by simp [Lx.rem1, h10, h35]
      have HR : Hid (Lx.rem1 r c = r) := hr
      clear h35 h10 hr
      cases r
      · go_enter Try.func24, Try.ntmps24
        go_wp2_with (go_at_call 25; refine (isBlank_any _ _).mono ?_; rintro e w' ⟨rfl, rfl⟩)
        go_ret
        exact ⟨ret_bool (by rw [HR.out]; rfl), by rw [HR.out]; exact HB.out, grown_refl _ _⟩
      · go_enter Try.func24, Try.ntmps24
        go_wp2_with (go_at_call 25; refine (isBlank_any _ _).mono ?_; rintro e w' ⟨rfl, rfl⟩)
        go_ret
        exact ⟨ret_bool (by rw [HR.out]; rfl), by rw [HR.out]; exact HB.out, grown_refl _ _⟩

set_option maxHeartbeats 400000 in
theorem run_gap (s : ByteArray) (B : Nat) (w : World) (hB : w.heap[B]? = some (.cells #[.bool false] 4 (0, 0))) (hs : s.size ≤ maxLen) :
    Calls Try.prog 16 #[.string s, .func (.func 24) #[] #[.pointer (some ⟨B, 0, none⟩)]] w fun e w' => e = .returned (.int .i64 (Lx.gapL false s.data.toList : Nat)) ∧ w.grownBy w' (some B) := by
  unfold maxLen at hs
  have HB : Hid (w.heap[B]? = some (.cells #[.bool false] 4 (0, 0))) := hB
  clear hB
  go_enter Try.func16, Try.ntmps16
  go_wp2
  go_loopw [5] (fun i wr => ∃ k : Nat, ∃ r : Bool, k ≤ s.size ∧ i = .int .i64 k ∧ wr.heap[B]? = some (.cells #[.bool r] 4 (0, 0)) ∧ w.grownBy wr (some B) ∧ Lx.gapL false s.data.toList = k + Lx.gapL r (s.data.toList.drop k)) (fun i _ => s.size - (intOf i).toNat)
  case atStart => exact ⟨0, false, Nat.zero_le _, rfl, HB.out, grown_refl _ _, by simp⟩
  case round =>
    obtain ⟨k, r, hk, rfl, hb, hg, he⟩ := hrel
    have HE : Hid (Lx.gapL false s.data.toList = k + Lx.gapL r (s.data.toList.drop k)) := he
    have HH : Hid (wr.heap[B]? = some (.cells #[.bool r] 4 (0, 0))) := hb
    clear he hb
    by_cases hlt : k < s.size
    · cases hp : (Lx.rem1 r s[k] || Lx.isBlk s[k])
      · have HP : Hid ((Lx.rem1 r s[k] || Lx.isBlk s[k]) = false) := hp
        clear hp
        go_wp2_with (go_at_call 24; refine (gapf_any _ r B _ HH.out).mono ?_; rintro e w1 ⟨rfl, hb1, hg1⟩; rw [HP.out])
        go_ret
        exact ⟨ret_int (by rw [HE.out, drop_byte s k hlt, Lx.gapL_no HP.out]; rfl), grown_trans hg (by assumption)⟩
      · have HP : Hid ((Lx.rem1 r s[k] || Lx.isBlk s[k]) = true) := hp
        clear hp
        go_wp2_with (go_at_call 24; refine (gapf_any _ r B _ HH.out).mono ?_; rintro e w1 ⟨rfl, hb1, hg1⟩; rw [HP.out]; have HB1 : Hid (w1.heap[B]? = some (.cells #[.bool (Lx.rem1 r s[k])] 4 (0, 0))) := hb1; clear hb1)
        go_roundw
        case rel => exact ⟨k + 1, _, by omega, by go_num, Hid.out (by assumption), grown_trans hg (by assumption), by rw [HE.out, drop_byte s k hlt, Lx.gapL_yes HP.out]; omega⟩
        case measure => simp [intOf]; omega
    · go_wp2
      go_ret
      exact ⟨ret_int (by rw [HE.out, List.drop_of_length_le (by simp; omega)]; rfl), hg⟩

set_option maxHeartbeats 400000 in
theorem gap_any (s : ByteArray) (w : World) (hs : s.size ≤ maxLen) :
    Calls Try.prog 21 #[.string s] w fun e w' => e = .returned (.int .i64 (Lx.gapL false s.data.toList : Nat)) ∧ Below w.heap.size w w' := by
  go_enter Try.func21, Try.ntmps21
  go_wp2_with fail
  refine (run_gap s w.heap.size _ (heap_alloc_new w _) hs).mono ?_
  rintro e w1 ⟨rfl, hg⟩
  go_wp2
  go_ret
  exact ⟨rfl, ((Below.refl _ w).alloc (Nat.le_refl _) _).grown hg (by simp) (by intro k hk; cases hk; exact Nat.le_refl _)⟩

end Go.Proofs.Ytfmkhdncbdkpoaa
