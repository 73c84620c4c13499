/- The walks of folded, number and ints. -/
import Derived.Test.YtnfkfgpnojdfoaaIm1
namespace Go.Proofs.Ytnfkfgpnojdfoaa
open Go.RowKit

abbrev I64 (n : Int) : Prop := -9223372036854775808 ≤ n ∧ n ≤ 9223372036854775807

theorem Im.fold_lt {n : Int} (h : I64 n) : Im.fold n < 18446744073709551616 := by
  obtain ⟨h1, h2⟩ := h
  unfold Im.fold
  split <;> omega

theorem wrap_u64 (n : Int) : IntKind.u64.wrap n = n % 18446744073709551616 := by simp [IntKind.wrap, IntKind.bits, IntKind.signed]
theorem not_nat {x : Nat} (h : x < 18446744073709551616) : 18446744073709551615 ^^^ x = 18446744073709551615 - x := by
  have h1 := congrArg BitVec.toNat (BitVec.allOnes_xor (x := BitVec.ofNat 64 x))
  simp only [BitVec.toNat_xor, BitVec.toNat_allOnes, BitVec.toNat_ofNat, BitVec.toNat_not] at h1
  rw [Nat.mod_eq_of_lt h] at h1
  simpa using h1
theorem not_u64 {x : Int} (h0 : 0 ≤ x) (h1 : x < 18446744073709551616) : bits .xor .u64 IntKind.u64.max x = 18446744073709551615 - x := by
  obtain ⟨y, rfl⟩ : ∃ y : Nat, x = y := ⟨x.toNat, by omega⟩
  have e := u64_xor_nat 18446744073709551615 y (by decide) (by omega)
  have e2 := not_nat (x := y) (by omega)
  rw [e2] at e
  have e3 : IntKind.u64.max = ((18446744073709551615 : Nat) : Int) := by decide
  rw [e3, e]
  omega

set_option maxHeartbeats 400000 in
theorem folded_any (n : Int) (hn : I64 n) (w : World) :
    Calls Try.prog 38 #[.int .i64 n] w fun e w' => e = .returned (.int .u64 (Im.fold n)) ∧ w' = w := by
  obtain ⟨h1, h2⟩ := hn
  obtain ⟨f, hf⟩ : ∃ f, f = Im.fold n := ⟨_, rfl⟩
  rw [← hf]
  unfold Im.fold at hf
  by_cases h : n < 0
  · have HF : Hid (f = (-2 * n - 1).toNat) := by rw [if_pos h] at hf; exact hf
    clear hf
    go_enter Try.func38, Try.ntmps38
    go_wp2
    go_ret
    rw [HF.out]
    refine ⟨?_, rfl⟩
    show Ending.returned (.int .u64 (bits .xor .u64 IntKind.u64.max (IntKind.u64.wrap (IntKind.u64.wrap n * 2)))) = _
    rw [not_u64 (by rw [wrap_u64]; omega) (by rw [wrap_u64]; omega), wrap_u64, wrap_u64]
    congr 2
    omega
  · have HF : Hid (f = (2 * n).toNat) := by rw [if_neg h] at hf; exact hf
    clear hf
    go_enter Try.func38, Try.ntmps38
    go_wp2
    go_ret
    rw [HF.out]
    refine ⟨?_, rfl⟩
    show Ending.returned (.int .u64 (n * 2)) = _
    congr 2
    omega

/-- What is left of a number's bytes at the head of number's loop. -/
structure NbAt (B S : Nat) (xs : List Nat) (f : Nat) (w : World) (x : Nat) (ys : List Nat) (W : World) : Prop where
  rest : ys ++ Im.vb x = Im.vb f
  lt : x < 18446744073709551616
  kp : Kp B w W
  wr : WR W B S (xs ++ ys)

theorem bit_and {x : Nat} (h : x < 18446744073709551616) : bits .and .u64 (x : Int) 127 = ((x % 128 : Nat) : Int) := by
  have e := u64_and_nat x 127 h (by decide)
  have e2 := Nat.and_two_pow_sub_one_eq_mod x 7
  simp at e2
  rw [e2] at e
  simpa using e
theorem bit_or {x : Nat} (h : x < 128) : bits .or .u8 (x : Int) 128 = ((x + 128 : Nat) : Int) := by
  have e := u8_or_nat x 128 (by omega) (by decide)
  have e2 := Nat.two_pow_add_eq_or_of_lt (i := 7) (b := x) (by omega) 1
  simp at e2
  rw [Nat.or_comm] at e2
  rw [← e2] at e
  simpa [Nat.add_comm] using e

/-- The last of what is written. -/
theorem Wrote.last {B S : Nat} {xs ys zs nb : List Nat} {w W w2 : World} {e : Ending} (h : Wrote B S (xs ++ ys) zs W e w2) (hk : Kp B w W) (hn : ys ++ zs = nb) : Wrote B S xs nb w e w2 := by
  subst hn
  have e1 : xs ++ (ys ++ zs) = xs ++ ys ++ zs := by simp
  exact ⟨hk.trans h.kp, by rw [e1]; exact h.yes, by rw [e1]; exact h.no⟩
/-- What does not fit: nor does more. -/
theorem Wrote.stop {B S : Nat} {xs ys zs us nb : List Nat} {w W w2 : World} {e : Ending} (h : Wrote B S (xs ++ ys) zs W e w2) (hk : Kp B w W) (hn : ys ++ zs ++ us = nb) (hf : ¬ (xs ++ ys ++ zs).length ≤ 59998) : Wrote B S xs nb w e w2 := by
  subst hn
  refine ⟨hk.trans h.kp, fun h1 => absurd ?_ hf, fun _ => h.no hf⟩
  simp at h1 ⊢
  omega

set_option maxHeartbeats 1000000 in
theorem number_any (B S : Nat) (n : Int) (hn : Hid (I64 n)) (xs : List Nat) (w : World) (h : Hid (WR w B S xs)) (nb : List Nat) (hnb : Hid (nb = Im.num n)) :
    Calls Try.prog 33 #[.pointer (some ⟨S, 0, none⟩), .int .i64 n] w fun e w' => Wrote B S xs nb w e w' := by
  have hlt := Im.fold_lt hn.out
  have HN : Hid (nb = Im.vb (Im.fold n)) := hnb.out
  clear hnb
  go_enter Try.func33, Try.ntmps33
  go_wp2_with fail
  refine (folded_any n hn.out _).mono ?_
  rintro e w1 ⟨rfl, rfl⟩
  generalize Im.fold n = f at *
  go_wp2
  go_loopw [4] (fun v wr => ∃ (x : Nat) (ys : List Nat), v = .int .u64 x ∧ NbAt B S xs f w1 x ys wr) (fun v _ => (intOf v).toNat)
  case atStart => exact ⟨f, [], rfl, rfl, hlt, Kp.refl _ _, by simpa using h.out⟩
  case round =>
    obtain ⟨x, ys, rfl, hA⟩ := hrel
    have HA := hide hA
    have hx := hA.lt
    clear hA
    have HW := hide HA.out.wr
    by_cases hx1 : x < 128
    · have e0 : ¬ (127 : Int) < (x : Int) := by omega
      have e1 : IntKind.u8.wrap (x : Int) = (x : Int) := by simp [IntKind.wrap, IntKind.bits, IntKind.signed]; omega
      have HE : Hid (ys ++ [x] = nb) := by unfold Hid; rw [HN.out, ← HA.out.rest, Im.vb_end hx1]
      go_wp2_with fail
      refine (put_any B S x (xs ++ ys) _ HW).mono ?_
      rintro e w2 hw2
      have HR : Hid (Wrote B S xs nb w1 e w2) := hw2.last HA.out.kp HE.out
      by_cases hf : (xs ++ ys ++ [x]).length ≤ 59998
      · obtain ⟨rfl, _⟩ := hw2.yes hf
        clear hw2
        go_wp2
        go_end0
        exact HR.out
      · obtain rfl := hw2.no hf
        clear hw2
        go_wp2
        exact ⟨rfl, HR.out⟩
    · have e0 : (127 : Int) < (x : Int) := by omega
      have e1 : bits .and .u64 (x : Int) 127 = ((x % 128 : Nat) : Int) := bit_and hx
      have e2 : IntKind.u8.wrap ((x % 128 : Nat) : Int) = ((x % 128 : Nat) : Int) := by simp [IntKind.wrap, IntKind.bits, IntKind.signed]; omega
      have e3 : bits .or .u8 ((x % 128 : Nat) : Int) 128 = ((x % 128 + 128 : Nat) : Int) := bit_or (by omega)
      have HE : Hid (ys ++ [x % 128 + 128] ++ Im.vb (x / 128) = nb) := by unfold Hid; rw [HN.out, ← HA.out.rest, Im.vb_more hx1]; simp
      obtain ⟨c, hc⟩ : ∃ c, c = x % 128 + 128 := ⟨_, rfl⟩
      obtain ⟨lo, hlo⟩ : ∃ lo, lo = x % 128 := ⟨_, rfl⟩
      rw [← hc] at e3 HE
      rw [← hlo] at e1 e2 e3
      clear hc hlo
      go_wp2_with fail
      refine (put_any B S c (xs ++ ys) _ HW).mono ?_
      rintro e w2 hw2
      by_cases hf : (xs ++ ys ++ [c]).length ≤ 59998
      · obtain ⟨rfl, hw3⟩ := hw2.yes hf
        have HR : Hid (NbAt B S xs f w1 (x / 128) (ys ++ [c]) w2) := ⟨by rw [HE.out, HN.out], by omega, HA.out.kp.trans hw2.kp, by rw [← List.append_assoc]; exact hw3⟩
        clear hw2 hw3
        go_wp2
        go_roundw
        case rel => exact ⟨x / 128, ys ++ [c], rfl, HR.out⟩
        case measure => simp [intOf]; omega
      · obtain rfl := hw2.no hf
        have HR : Hid (Wrote B S xs nb w1 (.panicked [fltE 4 0]) w2) := hw2.stop HA.out.kp HE.out hf
        clear hw2
        go_wp2
        exact ⟨rfl, HR.out⟩

/-- Blocks that no writing turns. -/
def Stays (B : Nat) (w : World) (b : Nat) : Prop := b < B ∨ ∃ cs t fr, w.heap[b]? = some (Obj.cells cs t fr) ∧ t ≠ 5 ∧ t ≠ 40

theorem Kp.stays {B : Nat} {w w' : World} (h : Kp B w w') {b : Nat} (hs : Stays B w b) : Stays B w' b ∧ w'.heap[b]? = w.heap[b]? := by
  rcases hs with hs | ⟨cs, t, fr, hb, h1, h2⟩
  · exact ⟨.inl hs, h.below.block b hs⟩
  · exact ⟨.inr ⟨cs, t, fr, h.blk b cs t fr hb h1 h2, h1, h2⟩, (h.blk b cs t fr hb h1 h2).trans hb.symm⟩
theorem cell_eq {w w' : World} {b : Nat} (h : w'.heap[b]? = w.heap[b]?) (o : Nat) : w'.cell? ⟨b, o, none⟩ = w.cell? ⟨b, o, none⟩ := by
  simp [World.cell?, h]

/-- Numbers lie at a. -/
def IntsIn (B : Nat) (w : World) (l : List Int) (a : Option Addr) : Prop :=
  ∀ i x, l[i]? = some x → I64 x ∧ ∃ b off, a = some ⟨b, off, none⟩ ∧ Stays B w b ∧ w.cell? ⟨b, off + i, none⟩ = some (.int .i64 x)
theorem IntsIn.kp {B : Nat} {w w' : World} {l : List Int} {a : Option Addr} (h : IntsIn B w l a) (hk : Kp B w w') : IntsIn B w' l a := fun i x hx => by
  obtain ⟨h1, b, off, e, hs, hc⟩ := h i x hx
  exact ⟨h1, b, off, e, (hk.stays hs).1, (cell_eq (hk.stays hs).2 _).trans hc⟩

theorem Im.nums_take {l : List Int} {k : Nat} {x : Int} (h : l[k]? = some x) : Im.nums l = Im.nums (l.take k) ++ Im.num x ++ Im.nums (l.drop (k + 1)) := by
  obtain ⟨hk, rfl⟩ := List.getElem?_eq_some_iff.1 h
  conv => lhs; rw [← List.take_append_drop k l, List.drop_eq_getElem_cons hk]
  simp only [Im.nums, List.flatMap_append, List.flatMap_cons, List.append_assoc]
theorem Im.nums_next {l : List Int} {k : Nat} {x : Int} (h : l[k]? = some x) : Im.nums (l.take (k + 1)) = Im.nums (l.take k) ++ Im.num x := by
  obtain ⟨hk, rfl⟩ := List.getElem?_eq_some_iff.1 h
  rw [List.take_succ_eq_append_getElem hk]
  simp only [Im.nums, List.flatMap_append, List.flatMap_cons, List.flatMap_nil, List.append_nil]

structure IsAt (B S : Nat) (xs : List Nat) (l : List Int) (w : World) (k : Nat) (W : World) : Prop where
  le : k ≤ l.length
  kp : Kp B w W
  wr : WR W B S (xs ++ Im.nums (l.take k))

set_option maxHeartbeats 1000000 in
theorem ints_any (B S : Nat) (l : List Int) (a : Option Addr) (c : Nat) (hl : l.length ≤ 9223372036854775807) (xs : List Nat) (w : World) (hin : Hid (IntsIn B w l a)) (h : Hid (WR w B S xs)) (nb : List Nat) (hnb : Hid (nb = Im.nums l)) :
    Calls Try.prog 27 #[.pointer (some ⟨S, 0, none⟩), .slice a l.length c] w fun e w' => Wrote B S xs nb w e w' := by
  go_enter Try.func27, Try.ntmps27
  go_wp2
  go_loopw [8] (fun i wr => ∃ k : Nat, i = .int .i64 k ∧ IsAt B S xs l w k wr) (fun i _ => l.length - (intOf i).toNat)
  case atStart => exact ⟨0, rfl, Nat.zero_le _, Kp.refl _ _, by simpa [Im.nums] using h.out⟩
  case round =>
    obtain ⟨k, rfl, hA⟩ := hrel
    have HA := hide hA
    have hk := hA.le
    clear hA
    by_cases hlt : k < l.length
    · obtain ⟨x, hx⟩ : ∃ x, l[k]? = some x := ⟨_, List.getElem?_eq_getElem hlt⟩
      obtain ⟨hx64, b, off, rfl, _, cx⟩ := hin.out.kp HA.out.kp k x hx
      have HX := hide hx
      have H64 := hide hx64
      have HW := hide HA.out.wr
      clear hx hx64
      go_wp2_with fail
      refine (number_any B S x H64 _ _ HW (Im.num x) (hide rfl)).mono ?_
      rintro e w2 hw2
      by_cases hf : (xs ++ Im.nums (l.take k) ++ Im.num x).length ≤ 59998
      · obtain ⟨rfl, hw3⟩ := hw2.yes hf
        have HR : Hid (IsAt B S xs l w (k + 1) w2) := ⟨hlt, HA.out.kp.trans hw2.kp, by rw [Im.nums_next HX.out, ← List.append_assoc]; exact hw3⟩
        clear hw2 hw3 cx
        go_wp2
        go_roundw
        case rel => exact ⟨k + 1, by go_num, HR.out⟩
        case measure => simp [intOf]; omega
      · obtain rfl := hw2.no hf
        have HR : Hid (Wrote B S xs nb w (.panicked [fltE 4 0]) w2) := hw2.stop HA.out.kp (by rw [hnb.out]; exact (Im.nums_take HX.out).symm) hf
        clear hw2 cx
        go_wp2
        exact ⟨rfl, HR.out⟩
    · obtain rfl : k = l.length := by omega
      have HR : Hid (WR wr B S (xs ++ nb)) := by have := HA.out.wr; rw [List.take_length, ← hnb.out] at this; exact this
      go_wp2
      go_end0
      exact ⟨HA.out.kp, fun _ => ⟨rfl, HR.out⟩, fun h1 => absurd HR.out.few h1⟩

end Go.Proofs.Ytnfkfgpnojdfoaa
