/- The walks of the document's Sum, Num and nums. -/
import Derived.Test.YtnfkfgpnojdfoaaIm7
import Derived.Laws.BitsLemmas
namespace Go.Proofs.Ytnfkfgpnojdfoaa
open Go.RowKit

theorem keep_i64 (n : Int) (h0 : 0 ≤ n) (h1 : n < 2 ^ 62) : IntKind.i64.wrap n = n := by rw [IntKind.wrap_i64]; omega
theorem bits_and_i64_nat (a b : Nat) (ha : a < 4611686018427387904) (hb : b < 4611686018427387904) : bits .and .i64 (a : Int) (b : Int) = ((a &&& b : Nat) : Int) := (bits_nat .i64 62 (by decide) keep_i64 a b (by omega) (by omega)).1
theorem bits_xor_i64_nat (a b : Nat) (ha : a < 4611686018427387904) (hb : b < 4611686018427387904) : bits .xor .i64 (a : Int) (b : Int) = ((a ^^^ b : Nat) : Int) := by
  have hx : a ^^^ b < 2 ^ 62 := Nat.xor_lt_two_pow (by omega) (by omega)
  have h1 : (BitVec.ofInt 64 (a : Int)).toNat = a := by rw [BitVec.ofInt_natCast, BitVec.toNat_ofNat]; exact Nat.mod_eq_of_lt (by omega)
  have h2 : (BitVec.ofInt 64 (b : Int)).toNat = b := by rw [BitVec.ofInt_natCast, BitVec.toNat_ofNat]; exact Nat.mod_eq_of_lt (by omega)
  show IntKind.i64.wrap ((BitVec.ofInt 64 (a : Int) ^^^ BitVec.ofInt 64 (b : Int)).toNat : Int) = _
  rw [BitVec.toNat_xor, h1, h2]
  exact keep_i64 _ (by omega) (by omega)
theorem i64_and_nat1 (d j : Nat) (hd : d < 256) : bits .and .i64 ((d : Int) / 2 ^ j) 1 = ((Im.bit d j : Nat) : Int) := by
  have e0 : ((d : Int) / 2 ^ j) = ((d / 2 ^ j : Nat) : Int) := by simp
  have h1 : d / 2 ^ j < 256 := Nat.lt_of_le_of_lt (Nat.div_le_self _ _) hd
  have e2 := bits_and_i64_nat (d / 2 ^ j) 1 (by omega) (by decide)
  rw [e0]
  refine e2.trans ?_
  unfold Im.bit
  rw [Nat.and_one_is_mod]

set_option maxHeartbeats 1000000 in
theorem rsum_any (l : List Nat) (a : Option Addr) (c : Nat) (hl : l.length ≤ 9223372036854775807) (w : World) (hin : Hid (BIn w l a)) (s : Nat) (hs : Hid (s = Im.sum l)) :
    Calls Try.prog 10 #[.slice a l.length c] w fun e w' => e = .returned (.int .u16 s) ∧ w' = w := by
  go_enter Try.func10, Try.ntmps10
  go_wp2
  go_loopw [3, 10] (fun r i wr => ∃ k x : Nat, k ≤ l.length ∧ i = .int .i64 k ∧ r = .int .i64 x ∧ x < 65536 ∧ Hid (x = Im.crc 65535 (l.take k)) ∧ wr = w) (fun _ i _ => l.length - (intOf i).toNat)
  case atStart => exact ⟨0, 65535, Nat.zero_le _, rfl, rfl, by decide, rfl, rfl⟩
  case round =>
    obtain ⟨k, x, hk, rfl, rfl, hx, HX, rfl⟩ := hrel
    by_cases hlt : k < l.length
    · obtain ⟨d, hd⟩ : ∃ d, l[k]? = some d := ⟨_, List.getElem?_eq_getElem hlt⟩
      obtain ⟨hd256, b, off, rfl, cd⟩ := hin.out k d hd
      obtain ⟨y, hy⟩ : ∃ y, y = Im.low x d 8 := ⟨_, rfl⟩
      have HY : Hid (y = Im.crc 65535 (l.take (k + 1))) := by unfold Hid; rw [Im.crc_take hd, ← HX.out, hy]
      have HY2 := hide hy
      clear hy hd HX
      go_wp2
      go_loopw [3, 6] (fun r p wr2 => ∃ j z : Nat, j ≤ 8 ∧ p = .int .i64 ((j : Int) - 1) ∧ r = .int .i64 z ∧ z < 65536 ∧ Hid (y = Im.low z d j) ∧ wr2 = wr) (fun _ p _ => (intOf p + 1).toNat)
      case atStart => exact ⟨8, x, by decide, rfl, rfl, hx, HY2, rfl⟩
      case round =>
        obtain ⟨j, z, hj, rfl, rfl, hz, HZ, rfl⟩ := hrel
        clear HY2
        cases j with
        | zero =>
          have HE : Hid (y = z) := HZ.out
          go_wp2
          go_roundw
          case rel => exact ⟨k + 1, y, hlt, by go_num, by rw [HE.out], by rw [HE.out]; exact hz, HY, trivial⟩
          case measure => simp [intOf]; omega
        | succ j =>
          obtain ⟨t, ht⟩ : ∃ t, t = Im.bit d j := ⟨_, rfl⟩
          have e1 : bits .and .i64 ((d : Int) / 2 ^ j) 1 = (t : Int) := by rw [ht]; exact i64_and_nat1 d j hd256
          obtain ⟨z2, hz2⟩ : ∃ z2, z2 = z * 2 % 65536 := ⟨_, rfl⟩
          have e2 : bits .and .i64 ((z : Int) * 2) 65535 = (z2 : Int) := by
            have e := bits_and_i64_nat (z * 2) 65535 (by omega) (by decide)
            have e' := Nat.and_two_pow_sub_one_eq_mod (z * 2) 16
            simp at e'
            rw [e'] at e
            rw [hz2]
            simpa using e
          by_cases hb : t = z / 32768
          · have e3 : ((z : Int) / 32768 != (t : Int)) = false := by simp; omega
            have HE : Hid (y = Im.low z2 d j) := by have := HZ.out; unfold Im.low at this; unfold Im.stp at this; rw [← ht, if_pos hb, ← hz2] at this; exact this
            have hzl : z2 < 65536 := by omega
            clear ht hz2 hb HZ
            go_wp2
            go_roundw
            case rel => exact ⟨j, z2, by omega, rfl, rfl, hzl, HE, trivial⟩
            case measure => simp [intOf]
          · have e3 : ((z : Int) / 32768 != (t : Int)) = true := by simp; omega
            obtain ⟨z3, hz3⟩ : ∃ z3, z3 = z2 ^^^ 4129 := ⟨_, rfl⟩
            have e4 : bits .xor .i64 (z2 : Int) 4129 = (z3 : Int) := by rw [hz3]; exact bits_xor_i64_nat z2 4129 (by omega) (by decide)
            have HE : Hid (y = Im.low z3 d j) := by have := HZ.out; unfold Im.low at this; unfold Im.stp at this; rw [← ht, if_neg hb, ← hz2, ← hz3] at this; exact this
            have hzl : z3 < 65536 := by rw [hz3]; exact Nat.xor_lt_two_pow (n := 16) (by omega) (by decide)
            clear ht hz2 hb HZ hz3
            go_wp2
            go_roundw
            case rel => exact ⟨j, z3, by omega, rfl, rfl, hzl, HE, trivial⟩
            case measure => simp [intOf]
    · obtain rfl : k = l.length := by omega
      have HE : Hid (s = x) := by unfold Hid; rw [hs.out, HX.out, List.take_length]; rfl
      have e1 : IntKind.u16.wrap (x : Int) = (x : Int) := by rw [wrap_u16]; omega
      go_wp2
      go_ret
      exact ⟨by rw [HE.out]; rfl, rfl⟩

end Go.Proofs.Ytnfkfgpnojdfoaa
