/- The walks of the document's Num and nums. -/
import Derived.Test.YtnfkfgpnojdfoaaIm23
import Derived.Laws.AppendOwnNone
namespace Go.Proofs.Ytnfkfgpnojdfoaa
open Go.RowKit

theorem Im.vb_len : ∀ (k x : Nat), x < 128 ^ (k + 1) → (Im.vb x).length ≤ k + 1
  | 0, x, h => by rw [Im.vb_end (by simpa using h)]; simp
  | k + 1, x, h => by
    by_cases h1 : x < 128
    · rw [Im.vb_end h1]; simp
    · rw [Im.vb_more h1]
      have := Im.vb_len k (x / 128) (by rw [Nat.pow_succ] at h; exact Nat.div_lt_of_lt_mul (by rw [Nat.mul_comm]; exact h))
      simp; omega
theorem Im.num_len {n : Int} (h : I64 n) : (Im.num n).length ≤ 10 := Im.vb_len 9 _ (Nat.lt_of_lt_of_le (Im.fold_lt h) (by decide))
theorem Im.nums_len : ∀ (l : List Int), (∀ x ∈ l, I64 x) → (Im.nums l).length ≤ 10 * l.length
  | [], _ => by simp [Im.nums]
  | x :: l, h => by
    have h1 := Im.num_len (h x (by simp))
    have h2 := Im.nums_len l (fun y hy => h y (by simp [hy]))
    simp only [Im.nums, List.flatMap_cons, List.length_append, List.length_cons] at h2 ⊢
    omega

/-- The same append, where the order is the text's. -/
theorem wpList_append_rows {P : Program} {w : World} {ops : Array Oper} {rest : List Oper} {o : Oper} {a : Act} {Q : Exit → Act → World → Prop} (hgd : o.guard = none) (s x : Operand) (t : TypeId)
    (ho : o.op = .call { callee := .builtin .append, args := #[s, x], argTypes := #[t, t] })
    (base : Nat) (e : TypeId) (i : TypeInfo) (z : Value) (size bytes : Nat) (ht : P.underlying t = some (.slice e)) (hi : P.info? e = some i) (hz : i.zero = some z)
    (hsize : i.size = size) (hby : i.bytes = bytes) (hzs : z.cells.size = size) (hsz : 0 < size)
    (v : Value) (n : Nat) (xs : List Value) (hs : a.eval s = v) (hown : w.ownsRow base e size v n xs)
    (b2 : Nat) (vx : Value) (m : Nat) (news : List Value) (hx : a.eval x = vx) (hown2 : w.ownsRow b2 e size vx m news) (h1 : ∀ u ∈ news, u.oneCell' = true)
    (h63 : n + m ≤ maxLen) (hbytes : (n + m) * bytes ≤ 140737488355328) (hbase : base ≤ w.heap.size)
    (h : ∀ v' w', w'.ownsRow base e size v' (n + m) (xs ++ news) → w.grownBy w' v.ownBlock → wpList P ops Q rest (a.put o.dst v') w') : wpList P ops Q (o :: rest) a w := by
  have hl := hown2.1
  rcases hown2.2 with ⟨rfl, rfl⟩ | ⟨g, cap, cur, rfl, r⟩
  · obtain rfl : news = [] := List.eq_nil_of_length_eq_zero (by simpa using hl)
    exact wpList_append_own_none hgd s x t ho base e i size ht hi v n xs hs hown hx (h v w (by simpa using hown) (World.grownBy.refl _ _))
  · exact wpList_append_own w hgd s x t ho base e i z size bytes ht hi hz hsize hby hzs hsz v n xs hs hown ⟨g, 0, none⟩ m cap news hx hl (hown2.cells (g := g) rfl) h1 h63 hbytes hbase (fun v' w' h2 h3 _ => h v' w' h2 h3)
theorem bts_cell (l : List Nat) : ∀ u ∈ bts l, u.oneCell' = true := by intro u hu; obtain ⟨c, _, rfl⟩ := List.mem_map.1 hu; rfl

/-- Bytes so far, of one's own. -/
structure BAt (B : Nat) (w : World) (ys : List Nat) (v : Value) (W : World) : Prop where
  kp : Kp B w W
  own : W.ownsRow B 5 1 v ys.length (bts ys)
  base : B ≤ w.heap.size
theorem Kp.of_below {B : Nat} {w w' : World} (h : Below w.heap.size w w') (hB : B ≤ w.heap.size) : Kp B w w' :=
  ⟨h.mono hB, h.size, fun k _ _ _ hk _ _ => (h.block k (lt_of_block hk)).trans hk⟩
theorem BAt.next {B : Nat} {w W W1 w3 : World} {ys zs : List Nat} {v v' : Value} (h : BAt B w ys v W) (hW : Below W.heap.size W W1) (hown : w3.ownsRow B 5 1 v' (ys.length + zs.length) (bts ys ++ bts zs)) (hg : W1.grownBy w3 v.ownBlock) : BAt B w (ys ++ zs) v' w3 := by
  have hs := h.kp.size
  have hs2 := hW.size
  have hB := h.base
  refine ⟨(h.kp.trans (Kp.of_below hW (by omega))).trans ⟨⟨hg.os, hg.tape, hg.output, by have := hg.size; omega, fun k hk => hg.block k (by omega) (fun e => ?_)⟩, hg.size, fun k cs t fr hk h1 h2 => (hg.block k (lt_of_block hk) (fun e => ?_)).trans hk⟩, by simpa [bts] using hown, hB⟩
  · have := (h.own.lt k e.symm).1
    omega
  · have h3 : W1.ownsRow B 5 1 v ys.length (bts ys) := own_keep h.own (fun j hj => hW.block j (h.own.lt j hj).2)
    exact own_ty h3 hk h1 e.symm
theorem BAt.row {B : Nat} {w W W1 : World} {ys : List Nat} {v : Value} (h : BAt B w ys v W) (hW : Below W.heap.size W W1) : W1.ownsRow B 5 1 v ys.length (bts ys) := own_keep h.own (fun j hj => hW.block j (h.own.lt j hj).2)

structure RnAt (w : World) (f x : Nat) (ys : List Nat) (v : Value) (W : World) : Prop where
  rest : ys ++ Im.vb x = Im.vb f
  lt : x < 18446744073709551616
  at' : BAt w.heap.size w ys v W


set_option maxRecDepth 100000 in
set_option maxHeartbeats 1000000 in
theorem rNum_any (n : Int) (hn : I64 n) (w : World) (nb : List Nat) (hnb : Hid (nb = Im.num n)) :
    Calls Try.prog 19 #[.int .i64 n] w fun e w' => ∃ v, e = .returned v ∧ w'.ownsRow w.heap.size 5 1 v nb.length (bts nb) ∧ Below w.heap.size w w' := by
  obtain ⟨i0, hi, hz0, hz1, hz2⟩ := info_parts Try.info5
  have hlt := Im.fold_lt hn
  have HV : Hid (nb = Im.vb (Im.fold n)) := hnb.out
  have hvl : (Im.vb (Im.fold n)).length ≤ 10 := Im.num_len hn
  obtain ⟨h1, h2⟩ := hn
  have hff : Im.fold n = if n < 0 then (-2 * n - 1).toNat else (2 * n).toNat := rfl
  clear hnb
  by_cases h : n < 0
  · rw [if_pos h] at hff
    have HF : Hid ((2 * -(n + 1) + 1 : Int) = ((Im.fold n : Nat) : Int)) := by unfold Hid; omega
    clear hff
    go_enter Try.func19, Try.ntmps19
    generalize Im.fold n = f at *
    go_wp2
    go_loopw [3, 4] (fun xv v wr => ∃ (x : Nat) (ys : List Nat), xv = .int .u64 x ∧ RnAt w f x ys v wr) (fun xv _ _ => (intOf xv).toNat)
    case atStart => exact ⟨f, [], by rw [HF.out], rfl, hlt, Kp.refl _ _, World.ownsRow_nil _ _ _ _, Nat.le_refl _⟩
    case round =>
      obtain ⟨x, ys, rfl, hA⟩ := hrel
      have HA := hide hA
      have hx := hA.lt
      have hs := hA.at'.kp.size
      have hlen : ys.length ≤ 10 := by have := congrArg List.length hA.rest; simp at this; omega
      clear hA
      by_cases hx1 : x < 128
      · have e0 : ¬ (128 : Int) ≤ (x : Int) := by omega
        have e1 : IntKind.u8.wrap (x : Int) = (x : Int) := by rw [wrap_u8]; omega
        have HE : Hid (ys ++ [x] = Im.vb f) := by unfold Hid; rw [← HA.out.rest, Im.vb_end hx1]
        go_wp2_with (at_builtin; refine wpList_append_own _ rfl _ _ 26 rfl w.heap.size 5 i0 (.int .u8 0) 1 1 Try.underlying26 hi hz0 hz1 hz2 rfl (by decide) _ _ _ rfl (HA.out.at'.own.alloc _) ⟨wr.heap.size, 0, none⟩ 1 1 [.int .u8 x] rfl rfl (one_news _ _ _) (one_cellu _) (by unfold maxLen; omega) (by omega) (by simp; omega) ?_; intro v' w2 hown' hgrow _)
        have HR := hide (HA.out.at'.next (zs := [x]) ((Below.refl _ wr).alloc (Nat.le_refl _) _) hown' hgrow)
        clear hown' hgrow
        go_wp2
        go_ret
        exact ⟨_, rfl, by rw [HV.out, ← HE.out]; exact HR.out.own, HR.out.kp.below⟩
      · have e0 : (128 : Int) ≤ (x : Int) := by omega
        have e3 : IntKind.u8.wrap (128 + (x : Int) % 128) = ((x % 128 + 128 : Nat) : Int) := by rw [wrap_u8]; omega
        have HE : Hid (ys ++ [x % 128 + 128] ++ Im.vb (x / 128) = Im.vb f) := by unfold Hid; rw [← HA.out.rest, Im.vb_more hx1]; simp
        obtain ⟨c, hc⟩ : ∃ c, c = x % 128 + 128 := ⟨_, rfl⟩
        rw [← hc] at e3 HE
        clear hc
        go_wp2_with (at_builtin; refine wpList_append_own _ rfl _ _ 26 rfl w.heap.size 5 i0 (.int .u8 0) 1 1 Try.underlying26 hi hz0 hz1 hz2 rfl (by decide) _ _ _ rfl (HA.out.at'.own.alloc _) ⟨wr.heap.size, 0, none⟩ 1 1 [.int .u8 c] rfl rfl (one_news _ _ _) (one_cellu _) (by unfold maxLen; omega) (by omega) (by simp; omega) ?_; intro v' w2 hown' hgrow _)
        have HR := hide (HA.out.at'.next (zs := [c]) ((Below.refl _ wr).alloc (Nat.le_refl _) _) hown' hgrow)
        clear hown' hgrow
        go_wp2
        go_roundw
        case rel => exact ⟨x / 128, ys ++ [c], rfl, HE.out, by omega, HR.out⟩
        case measure => simp [intOf]; omega
  · rw [if_neg h] at hff
    have HF : Hid ((2 * n : Int) = ((Im.fold n : Nat) : Int)) := by unfold Hid; omega
    clear hff
    go_enter Try.func19, Try.ntmps19
    generalize Im.fold n = f at *
    go_wp2
    go_loopw [3, 4] (fun xv v wr => ∃ (x : Nat) (ys : List Nat), xv = .int .u64 x ∧ RnAt w f x ys v wr) (fun xv _ _ => (intOf xv).toNat)
    case atStart => exact ⟨f, [], by rw [HF.out], rfl, hlt, Kp.refl _ _, World.ownsRow_nil _ _ _ _, Nat.le_refl _⟩
    case round =>
      obtain ⟨x, ys, rfl, hA⟩ := hrel
      have HA := hide hA
      have hx := hA.lt
      have hs := hA.at'.kp.size
      have hlen : ys.length ≤ 10 := by have := congrArg List.length hA.rest; simp at this; omega
      clear hA
      by_cases hx1 : x < 128
      · have e0 : ¬ (128 : Int) ≤ (x : Int) := by omega
        have e1 : IntKind.u8.wrap (x : Int) = (x : Int) := by rw [wrap_u8]; omega
        have HE : Hid (ys ++ [x] = Im.vb f) := by unfold Hid; rw [← HA.out.rest, Im.vb_end hx1]
        go_wp2_with (at_builtin; refine wpList_append_own _ rfl _ _ 26 rfl w.heap.size 5 i0 (.int .u8 0) 1 1 Try.underlying26 hi hz0 hz1 hz2 rfl (by decide) _ _ _ rfl (HA.out.at'.own.alloc _) ⟨wr.heap.size, 0, none⟩ 1 1 [.int .u8 x] rfl rfl (one_news _ _ _) (one_cellu _) (by unfold maxLen; omega) (by omega) (by simp; omega) ?_; intro v' w2 hown' hgrow _)
        have HR := hide (HA.out.at'.next (zs := [x]) ((Below.refl _ wr).alloc (Nat.le_refl _) _) hown' hgrow)
        clear hown' hgrow
        go_wp2
        go_ret
        exact ⟨_, rfl, by rw [HV.out, ← HE.out]; exact HR.out.own, HR.out.kp.below⟩
      · have e0 : (128 : Int) ≤ (x : Int) := by omega
        have e3 : IntKind.u8.wrap (128 + (x : Int) % 128) = ((x % 128 + 128 : Nat) : Int) := by rw [wrap_u8]; omega
        have HE : Hid (ys ++ [x % 128 + 128] ++ Im.vb (x / 128) = Im.vb f) := by unfold Hid; rw [← HA.out.rest, Im.vb_more hx1]; simp
        obtain ⟨c, hc⟩ : ∃ c, c = x % 128 + 128 := ⟨_, rfl⟩
        rw [← hc] at e3 HE
        clear hc
        go_wp2_with (at_builtin; refine wpList_append_own _ rfl _ _ 26 rfl w.heap.size 5 i0 (.int .u8 0) 1 1 Try.underlying26 hi hz0 hz1 hz2 rfl (by decide) _ _ _ rfl (HA.out.at'.own.alloc _) ⟨wr.heap.size, 0, none⟩ 1 1 [.int .u8 c] rfl rfl (one_news _ _ _) (one_cellu _) (by unfold maxLen; omega) (by omega) (by simp; omega) ?_; intro v' w2 hown' hgrow _)
        have HR := hide (HA.out.at'.next (zs := [c]) ((Below.refl _ wr).alloc (Nat.le_refl _) _) hown' hgrow)
        clear hown' hgrow
        go_wp2
        go_roundw
        case rel => exact ⟨x / 128, ys ++ [c], rfl, HE.out, by omega, HR.out⟩
        case measure => simp [intOf]; omega

structure RsAt (w : World) (l : List Int) (k : Nat) (v : Value) (W : World) : Prop where
  le : k ≤ l.length
  at' : BAt w.heap.size w (Im.nums (l.take k)) v W

set_option maxRecDepth 100000 in
set_option maxHeartbeats 1000000 in
theorem rnums_any (l : List Int) (a : Option Addr) (c : Nat) (w : World) (hin : Hid (IntsIn w.heap.size w l a)) (hl : l.length ≤ 4000000000000) (nb : List Nat) (hnb : Hid (nb = Im.nums l)) :
    Calls Try.prog 18 #[.slice a l.length c] w fun e w' => ∃ v, e = .returned v ∧ w'.ownsRow w.heap.size 5 1 v nb.length (bts nb) ∧ Below w.heap.size w w' := by
  obtain ⟨i0, hi, hz0, hz1, hz2⟩ := info_parts Try.info5
  have HI64 : Hid (∀ x ∈ l, I64 x) := fun x hx => by obtain ⟨i, hi⟩ := List.mem_iff_getElem?.1 hx; exact (hin.out i x hi).1
  go_enter Try.func18, Try.ntmps18
  go_wp2
  go_loopw [3, 8] (fun v i wr => ∃ k : Nat, i = .int .i64 k ∧ RsAt w l k v wr) (fun _ i _ => l.length - (intOf i).toNat)
  case atStart => exact ⟨0, rfl, Nat.zero_le _, Kp.refl _ _, World.ownsRow_nil _ _ _ _, Nat.le_refl _⟩
  case round =>
    obtain ⟨k, rfl, hA⟩ := hrel
    have HA := hide hA
    have hk := hA.le
    have hs := hA.at'.kp.size
    clear hA
    by_cases hlt : k < l.length
    · obtain ⟨x, hx⟩ : ∃ x, l[k]? = some x := ⟨_, List.getElem?_eq_getElem hlt⟩
      obtain ⟨hx64, b, off, rfl, _, cx⟩ := hin.out.kp HA.out.at'.kp k x hx
      have HX := hide hx
      have h1 := Im.num_len hx64
      have h2 : (Im.nums (l.take k)).length ≤ 10 * k := by
        have := Im.nums_len (l.take k) (fun y hy => HI64.out y (List.mem_of_mem_take hy))
        rw [List.length_take, Nat.min_eq_left (by omega)] at this
        exact this
      obtain ⟨nx, hnx⟩ : ∃ nx, nx = Im.num x := ⟨_, rfl⟩
      rw [← hnx] at h1
      have HNX := hide hnx
      obtain ⟨ys, hys⟩ : ∃ ys, ys = Im.nums (l.take k) := ⟨_, rfl⟩
      have HYS := hide hys
      have HB : Hid (BAt w.heap.size w ys u3 wr) := by rw [hys]; exact HA.out.at'
      rw [← hys] at h2
      clear hx hnx hys HA
      go_wp2_with fail
      refine (rNum_any x hx64 _ nx HNX).mono ?_
      clear cx
      rintro e w2 ⟨v2, rfl, hown2, hb2⟩
      have HO2 := hide hown2
      have HB2 := hide hb2
      have hs2 := hb2.size
      clear hown2 hb2
      go_wp2_with (at_builtin; refine wpList_append_rows rfl _ _ 26 rfl w.heap.size 5 i0 (.int .u8 0) 1 1 Try.underlying26 hi hz0 hz1 hz2 rfl (by decide) _ _ _ rfl (HB.out.row HB2.out) wr.heap.size _ nx.length (bts nx) rfl HO2.out (bts_cell nx) (by unfold maxLen; omega) (by omega) (by omega) ?_; intro v' w3 hown' hgrow)
      have HR : Hid (RsAt w (l := l) (k + 1) v' w3) := ⟨hlt, by rw [Im.nums_next HX.out, ← HYS.out, ← HNX.out]; exact HB.out.next HB2.out hown' hgrow⟩
      clear hown' hgrow
      go_wp2
      go_roundw
      case rel => exact ⟨k + 1, by go_num, HR.out⟩
      case measure => simp [intOf]; omega
    · obtain rfl : k = l.length := by omega
      have HR : Hid (BAt w.heap.size w nb u3 wr) := by have := HA.out.at'; rw [List.take_length, ← hnb.out] at this; exact this
      go_wp2
      go_ret
      exact ⟨_, rfl, HR.out.own, HR.out.kp.below⟩

theorem rnums1_any (q : Nat) (x : Int) (hx : Hid (I64 x)) (w : World) (hq : w.heap[q]? = some (.cells #[.int .i64 x] 3 (0, 0))) (nb : List Nat) (hnb : Hid (nb = Im.nums [x])) :
    Calls Try.prog 18 #[.slice (some ⟨q, 0, none⟩) 1 1] w fun e w' => ∃ v, e = .returned v ∧ w'.ownsRow w.heap.size 5 1 v nb.length (bts nb) ∧ Below w.heap.size w w' :=
  rnums_any [x] (some ⟨q, 0, none⟩) 1 w (hide (ints_new hq (by simpa using hx.out))) (by simp) nb hnb
theorem rnums2_any (q : Nat) (x y : Int) (hx : Hid (I64 x ∧ I64 y)) (w : World) (hq : w.heap[q]? = some (.cells #[.int .i64 x, .int .i64 y] 3 (0, 0))) (nb : List Nat) (hnb : Hid (nb = Im.nums [x, y])) :
    Calls Try.prog 18 #[.slice (some ⟨q, 0, none⟩) 2 2] w fun e w' => ∃ v, e = .returned v ∧ w'.ownsRow w.heap.size 5 1 v nb.length (bts nb) ∧ Below w.heap.size w w' :=
  rnums_any [x, y] (some ⟨q, 0, none⟩) 2 w (hide (ints_new hq (by intro z hz; simp at hz; rcases hz with rfl | rfl; exact hx.out.1; exact hx.out.2))) (by simp) nb hnb
theorem rnums3_any (q : Nat) (x y z : Int) (hx : Hid (I64 x ∧ I64 y ∧ I64 z)) (w : World) (hq : w.heap[q]? = some (.cells #[.int .i64 x, .int .i64 y, .int .i64 z] 3 (0, 0))) (nb : List Nat) (hnb : Hid (nb = Im.nums [x, y, z])) :
    Calls Try.prog 18 #[.slice (some ⟨q, 0, none⟩) 3 3] w fun e w' => ∃ v, e = .returned v ∧ w'.ownsRow w.heap.size 5 1 v nb.length (bts nb) ∧ Below w.heap.size w w' :=
  rnums_any [x, y, z] (some ⟨q, 0, none⟩) 3 w (hide (ints_new hq (by intro z hz; simp at hz; rcases hz with rfl | rfl | rfl; exact hx.out.1; exact hx.out.2.1; exact hx.out.2.2))) (by simp) nb hnb

end Go.Proofs.Ytnfkfgpnojdfoaa
