/- The walks of unfolded, number, count. -/
import Derived.Test.YtnfkfgpnojdfoaaIm12
namespace Go.Proofs.Ytnfkfgpnojdfoaa
open Go.RowKit

theorem not_i64 (x : Int) (h0 : 0 ≤ x) (h1 : x < 9223372036854775808) : bits .xor .i64 (-1) x = -x - 1 := by
  obtain ⟨y, rfl⟩ : ∃ y : Nat, x = y := ⟨x.toNat, by omega⟩
  have e1 : (BitVec.ofInt 64 (-1)) = BitVec.allOnes 64 := by decide
  show IntKind.i64.wrap ((BitVec.ofInt 64 (-1) ^^^ BitVec.ofInt 64 (y : Int)).toNat : Int) = _
  rw [e1, BitVec.allOnes_xor, BitVec.toNat_not, BitVec.ofInt_natCast, BitVec.toNat_ofNat, Nat.mod_eq_of_lt (by omega)]
  simp [IntKind.wrap, IntKind.bits, IntKind.signed]
  omega

set_option maxHeartbeats 400000 in
theorem unfolded_any (b : Nat) (hb : b < 18446744073709551616) (w : World) (n : Int) (hn : Hid (n = Im.unf b)) :
    Calls Try.prog 41 #[.int .u64 b] w fun e w' => e = .returned (.int .i64 n) ∧ w' = w := by
  have e0 : bits .and .u64 (b : Int) 1 = ((b % 2 : Nat) : Int) := by
    have e := u64_and_nat b 1 hb (by decide)
    rw [Nat.and_one_is_mod] at e
    simpa using e
  obtain ⟨t, ht⟩ : ∃ t, t = b % 2 := ⟨_, rfl⟩
  rw [← ht] at e0
  have hn' := hn.out
  unfold Im.unf at hn'
  rw [← ht] at hn'
  by_cases h : t = 1
  · rw [if_pos h] at hn'
    have e1 : ((t : Int) == 1) = true := by simp; omega
    have HN := hide hn'
    clear hn hn' ht h
    go_enter Try.func41, Try.ntmps41
    go_wp2
    go_ret
    refine ⟨?_, rfl⟩
    rw [HN.out]
    show Ending.returned (.int .i64 (bits .xor .i64 (-1) ((b : Int) / 2))) = _
    rw [not_i64 _ (by omega) (by omega)]
    congr 2
  · rw [if_neg h] at hn'
    have e1 : ((t : Int) == 1) = false := by simp; omega
    have HN := hide hn'
    clear hn hn' ht h
    go_enter Try.func41, Try.ntmps41
    go_wp2
    go_ret
    refine ⟨?_, rfl⟩
    rw [HN.out]
    show Ending.returned (.int .i64 ((b : Int) / 2)) = _
    congr 2

/-- What comes of a reading. -/
def Rf {α : Type} (R b : Nat) (f : α → World → Ending → Prop) (w : World) (r : Option (α × List Nat)) (e : Ending) (w' : World) : Prop :=
  Kr R w w' ∧ match r with
    | none => e = .panicked [fltE 2 0]
    | some p => f p.1 w' e ∧ RD w' R b p.2
abbrev Rint (n : Int) (_ : World) (e : Ending) : Prop := e = .returned (.int .i64 n)

theorem Im.rnum_nil (sh bits : Nat) : Im.rnum sh bits [] = none := rfl
theorem Im.rnum_cons (sh bits c : Nat) (l : List Nat) : Im.rnum sh bits (c :: l) = if sh = 63 ∧ 1 < c then none else if 128 ≤ c then Im.rnum (sh + 7) (bits + c % 128 * 2 ^ sh) l else if c = 0 ∧ 0 < sh then none else some (Im.unf (bits + c * 2 ^ sh), l) := rfl

/-- What holds at the head of number's loop. -/
structure NrAt (R b : Nat) (w : World) (r : Option (Int × List Nat)) (sh bits : Nat) (l : List Nat) (W : World) : Prop where
  seven : ∃ j, sh = 7 * j ∧ j ≤ 9
  under : bits < 2 ^ sh
  kr : Kr R w W
  rd : RD W R b l
  is : r = Im.rnum sh bits l

theorem sh_le {R b sh bits : Nat} {w W : World} {r : Option (Int × List Nat)} {l : List Nat} (h : NrAt R b w r sh bits l W) : sh ≤ 63 := by
  obtain ⟨j, h1, h2⟩ := h.seven
  omega
theorem low_and {c : Nat} (h : c < 256) : bits .and .u8 (c : Int) 127 = ((c % 128 : Nat) : Int) := by
  have e := u8_and_nat c 127 h (by decide)
  have e2 := Nat.and_two_pow_sub_one_eq_mod c 7
  simp at e2
  rw [e2] at e
  simpa using e
theorem or_add {x y sh : Nat} (hx : x < 2 ^ sh) (h : x + y * 2 ^ sh < 18446744073709551616) : bits .or .u64 (x : Int) ((y * 2 ^ sh : Nat) : Int) = ((x + y * 2 ^ sh : Nat) : Int) := by
  rw [u64_or_nat _ _ (by omega) (by omega)]
  have := Nat.two_pow_add_eq_or_of_lt (i := sh) (b := x) hx y
  rw [Nat.or_comm, Nat.mul_comm y, ← this, Nat.add_comm]

theorem fits_in {x sh c : Nat} (hx : x < 2 ^ sh) (h : sh ≤ 56 ∨ (sh = 63 ∧ c ≤ 1)) (hc : c < 256) : x + c % 128 * 2 ^ sh < 18446744073709551616 ∧ (sh ≤ 56 → x + c % 128 * 2 ^ sh < 2 ^ (sh + 7)) := by
  rcases h with h | ⟨rfl, h⟩
  · have h1 : 2 ^ sh ≤ 2 ^ 56 := Nat.pow_le_pow_right (by decide) h
    have h2 : c % 128 * 2 ^ sh ≤ 127 * 2 ^ sh := Nat.mul_le_mul_right _ (by omega)
    have h3 : 2 ^ (sh + 7) = 2 ^ sh * 128 := by rw [Nat.pow_add]
    refine ⟨by omega, fun _ => by omega⟩
  · have h2 : c % 128 * 2 ^ 63 ≤ 1 * 2 ^ 63 := Nat.mul_le_mul_right _ (by omega)
    refine ⟨by omega, fun h => by omega⟩



theorem seven_up {sh : Nat} (h : ∃ j, sh = 7 * j ∧ j ≤ 9) (hs : sh ≤ 56) : ∃ j, sh + 7 = 7 * j ∧ j ≤ 9 := by
  obtain ⟨j, h1, h2⟩ := h
  exact ⟨j + 1, by omega, by omega⟩

set_option maxRecDepth 100000 in
set_option maxHeartbeats 2000000 in
theorem number_r (R b : Nat) (l : List Nat) (w : World) (h : Hid (RD w R b l)) (r : Option (Int × List Nat)) (hr : Hid (r = Im.rn l)) :
    Calls Try.prog 34 #[.pointer (some ⟨R, 0, none⟩)] w fun e w' => Rf R b Rint w r e w' := by
  go_enter Try.func34, Try.ntmps34
  go_wp2
  go_loopw [3, 4] (fun v s wr => ∃ (sh x : Nat) (lk : List Nat), v = .int .u64 x ∧ s = .int .i64 sh ∧ NrAt R b w r sh x lk wr) (fun _ s _ => 63 - (intOf s).toNat)
  case atStart => exact ⟨0, 0, l, rfl, rfl, ⟨0, rfl, by decide⟩, by decide, Kr.refl _ _, h.out, hr.out⟩
  case round =>
    obtain ⟨sh, x, lk, rfl, rfl, hA⟩ := hrel
    have HA := hide hA
    have hsh := sh_le hA
    clear hA
    have HRD := hide HA.out.rd
    cases lk with
    | nil =>
      have HN : Hid (r = none) := HA.out.is
      go_wp2_with fail
      refine (next_none R b _ HRD).mono ?_
      rintro e w2 ⟨rfl, rfl⟩
      go_wp2
      exact ⟨rfl, HA.out.kr, by rw [HN.out]⟩
    | cons c lk =>
      have hc := HRD.out.ok c (by simp)
      have HI : Hid (r = if sh = 63 ∧ 1 < c then none else if 128 ≤ c then Im.rnum (sh + 7) (x + c % 128 * 2 ^ sh) lk else if c = 0 ∧ 0 < sh then none else some (Im.unf (x + c * 2 ^ sh), lk)) := HA.out.is
      go_wp2_with fail
      refine (next_some R b c lk _ HRD).mono ?_
      rintro e w2 ⟨rfl, hrd2, hk2⟩
      have HRD2 := hide hrd2
      have HK2 : Hid (Kr R w w2) := HA.out.kr.trans hk2
      clear hrd2 hk2
      by_cases h1 : sh = 63 ∧ 1 < c
      · have HN : Hid (r = none) := by have := HI.out; rw [if_pos h1] at this; exact this
        obtain ⟨h2, h3⟩ := h1
        have e1 : ((sh : Int) == 63) = true := by simp; omega
        have e2 : (1 : Int) < (c : Int) := by omega
        clear h2 h3
        go_wp2_with fail
        refine (fail_any _).mono ?_
        rintro e w3 ⟨rfl, rfl⟩
        go_wp2
        exact ⟨rfl, HK2.out, by rw [HN.out]⟩
      · have h9 : sh ≤ 56 ∨ (sh = 63 ∧ c ≤ 1) := by
          obtain ⟨j, h2, h3⟩ := HA.out.seven
          omega
        obtain ⟨hfit, hup⟩ := fits_in HA.out.under h9 hc
        have e3 : bits .and .u8 (c : Int) 127 = ((c % 128 : Nat) : Int) := low_and hc
        obtain ⟨lo, hlo⟩ : ∃ lo, lo = c % 128 := ⟨_, rfl⟩
        rw [← hlo] at e3 hfit hup
        have e4 : IntKind.u64.wrap (lo : Int) = (lo : Int) := by rw [wrap_u64]; omega
        have e5 : IntKind.u64.wrap ((lo : Int) * 2 ^ sh) = ((lo * 2 ^ sh : Nat) : Int) := by
          rw [wrap_u64, show ((lo : Int) * 2 ^ sh) = ((lo * 2 ^ sh : Nat) : Int) by simp]
          omega
        have e6 := or_add HA.out.under hfit
        obtain ⟨y, hy⟩ : ∃ y, y = x + lo * 2 ^ sh := ⟨_, rfl⟩
        obtain ⟨z, hz⟩ : ∃ z, z = lo * 2 ^ sh := ⟨_, rfl⟩
        rw [← hy] at e6 hfit hup
        rw [← hz] at e5 e6
        have HI2 : Hid (r = if 128 ≤ c then Im.rnum (sh + 7) y lk else if c = 0 ∧ 0 < sh then none else some (Im.unf (x + c * 2 ^ sh), lk)) := by
          have := HI.out
          rw [if_neg h1, ← hlo, ← hy] at this
          exact this
        have HLO : Hid (c < 128 → x + c * 2 ^ sh = y) := fun h => by rw [hy, hlo, Nat.mod_eq_of_lt h]
        have HUP := hide hup
        have H9 := hide h9
        clear hlo hy hz HI h1 hup
        by_cases hs : sh = 63
        · have e1 : ((sh : Int) == 63) = true := by simp; omega
          have e2 : ¬ (1 : Int) < (c : Int) := by have := H9.out; omega
          have h128 : ¬ 128 ≤ c := by have := H9.out; omega
          clear hs
          have e7 : ¬ (128 : Int) ≤ (c : Int) := by omega
          by_cases h0 : c = 0 ∧ 0 < sh
          · have HN : Hid (r = none) := by have := HI2.out; rw [if_neg h128, if_pos h0] at this; exact this
            obtain ⟨h01, h02⟩ := h0
            have e8 : ((c : Int) == 0) = true := by simp; omega
            have e9 : (0 : Int) < (sh : Int) := by omega
            clear h01 h02
            go_wp2_with fail
            refine (fail_any _).mono ?_
            rintro e w3 ⟨rfl, rfl⟩
            go_wp2
            exact ⟨rfl, HK2.out, by rw [HN.out]⟩
          · have HN : Hid (r = some (Im.unf y, lk)) := by have := HI2.out; rw [if_neg h128, if_neg h0, HLO.out (by omega)] at this; exact this
            by_cases hz : c = 0
            · have e8 : ((c : Int) == 0) = true := by simp; omega
              have e9 : ¬ (0 : Int) < (sh : Int) := by omega
              clear hz h0
              go_wp2_with fail
              refine (unfolded_any y hfit _ (Im.unf y) (hide rfl)).mono ?_
              rintro e w3 ⟨rfl, rfl⟩
              go_wp2
              go_ret
              exact ⟨HK2.out, by rw [HN.out]; exact ⟨rfl, HRD2.out⟩⟩
            · have e8 : ((c : Int) == 0) = false := by simp; omega
              clear hz h0
              go_wp2_with fail
              refine (unfolded_any y hfit _ (Im.unf y) (hide rfl)).mono ?_
              rintro e w3 ⟨rfl, rfl⟩
              go_wp2
              go_ret
              exact ⟨HK2.out, by rw [HN.out]; exact ⟨rfl, HRD2.out⟩⟩
        · have e1 : ((sh : Int) == 63) = false := by simp; omega
          clear hs
          by_cases h128 : 128 ≤ c
          · skip
            have e7 : (128 : Int) ≤ (c : Int) := by omega
            have hs56 : sh ≤ 56 := by have := H9.out; omega
            have HN : Hid (r = Im.rnum (sh + 7) y lk) := by have := HI2.out; rw [if_pos h128] at this; exact this
            go_wp2
            go_roundw
            case rel => exact ⟨sh + 7, y, lk, rfl, by go_num, seven_up HA.out.seven hs56, HUP.out hs56, HK2.out, HRD2.out, HN.out⟩
            case measure => simp [intOf]; omega
          · skip
            have e7 : ¬ (128 : Int) ≤ (c : Int) := by omega
            by_cases h0 : c = 0 ∧ 0 < sh
            · have HN : Hid (r = none) := by have := HI2.out; rw [if_neg h128, if_pos h0] at this; exact this
              obtain ⟨h01, h02⟩ := h0
              have e8 : ((c : Int) == 0) = true := by simp; omega
              have e9 : (0 : Int) < (sh : Int) := by omega
              clear h01 h02
              go_wp2_with fail
              refine (fail_any _).mono ?_
              rintro e w3 ⟨rfl, rfl⟩
              go_wp2
              exact ⟨rfl, HK2.out, by rw [HN.out]⟩
            · have HN : Hid (r = some (Im.unf y, lk)) := by have := HI2.out; rw [if_neg h128, if_neg h0, HLO.out (by omega)] at this; exact this
              by_cases hz : c = 0
              · have e8 : ((c : Int) == 0) = true := by simp; omega
                have e9 : ¬ (0 : Int) < (sh : Int) := by omega
                clear hz h0
                go_wp2_with fail
                refine (unfolded_any y hfit _ (Im.unf y) (hide rfl)).mono ?_
                rintro e w3 ⟨rfl, rfl⟩
                go_wp2
                go_ret
                exact ⟨HK2.out, by rw [HN.out]; exact ⟨rfl, HRD2.out⟩⟩
              · have e8 : ((c : Int) == 0) = false := by simp; omega
                clear hz h0
                go_wp2_with fail
                refine (unfolded_any y hfit _ (Im.unf y) (hide rfl)).mono ?_
                rintro e w3 ⟨rfl, rfl⟩
                go_wp2
                go_ret
                exact ⟨HK2.out, by rw [HN.out]; exact ⟨rfl, HRD2.out⟩⟩

end Go.Proofs.Ytnfkfgpnojdfoaa
