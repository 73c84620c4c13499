/- Reading a module's bytes, plainly; what is written is read, in one way alone. -/
import Derived.Test.YtnfkfgpnojdfoaaImG
import Derived.Test.YtnfkfgpnojdfoaaIm2
namespace Go.Proofs.Ytnfkfgpnojdfoaa
namespace Im

def unf (b : Nat) : Int := if b % 2 = 1 then -(b / 2 : Nat) - 1 else (b / 2 : Nat)
def rnum (sh bits : Nat) : List Nat → Option (Int × List Nat)
  | [] => none
  | c :: l => if sh = 63 ∧ 1 < c then none else if 128 ≤ c then rnum (sh + 7) (bits + c % 128 * 2 ^ sh) l else if c = 0 ∧ 0 < sh then none else some (unf (bits + c * 2 ^ sh), l)
def rn (l : List Nat) : Option (Int × List Nat) := rnum 0 0 l
def rcount (l : List Nat) : Option (Int × List Nat) := (rn l).bind fun p => if p.1 < 0 then none else some p
def rtwo (l : List Nat) : Option ((Int × Int) × List Nat) := (rn l).bind fun p => (rn p.2).bind fun q => some ((p.1, q.1), q.2)
def rep {α : Type} (f : List Nat → Option (α × List Nat)) : Nat → List Nat → Option (List α × List Nat)
  | 0, l => some ([], l)
  | n + 1, l => (f l).bind fun p => (rep f n p.2).bind fun q => some (p.1 :: q.1, q.2)
def rbox (l : List Nat) : Option (Bx × List Nat) := (rtwo l).bind fun p => some (⟨p.1.1, p.1.2⟩, p.2)
def rins (l : List Nat) : Option (Ins × List Nat) := (rtwo l).bind fun p => (rn p.2).bind fun q => some (⟨p.1.1, p.1.2, q.1⟩, q.2)
def runit (l : List Nat) : Option (Un × List Nat) :=
  (rtwo l).bind fun p => (rcount p.2).bind fun n => (rep rn n.1.toNat n.2).bind fun ls => (rtwo ls.2).bind fun q => (rcount q.2).bind fun k => (rep rins k.1.toNat k.2).bind fun cs => some (⟨p.1.1, p.1.2, ls.1, q.1.1, q.1.2, cs.1⟩, cs.2)
def rmod (l : List Nat) : Option Md :=
  (rcount l).bind fun n => (rep rbox n.1.toNat n.2).bind fun bs => (rcount bs.2).bind fun k => (rep runit k.1.toNat k.2).bind fun us => if us.2 = [] then some ⟨bs.1, us.1⟩ else none

abbrev Ok (l : List Nat) : Prop := ∀ c ∈ l, c < 256

theorem unf_fold {n : Int} : unf (fold n) = n := by
  unfold unf fold
  split <;> split <;> omega
theorem fold_unf (b : Nat) : fold (unf b) = b := by
  unfold unf fold
  split <;> split <;> omega
theorem unf_i64 {b : Nat} (h : b < 18446744073709551616) : I64 (unf b) := by
  unfold unf
  split <;> constructor <;> omega

theorem pow7 {j : Nat} (h : j ≤ 9) : 2 ^ (7 * j) ≤ 9223372036854775808 := by
  have : 2 ^ (7 * j) ≤ 2 ^ 63 := Nat.pow_le_pow_right (by decide) (by omega)
  simpa using this
theorem pow7' {j : Nat} (h : j ≤ 8) : 2 ^ (7 * j) ≤ 72057594037927936 := by
  have : 2 ^ (7 * j) ≤ 2 ^ 56 := Nat.pow_le_pow_right (by decide) (by omega)
  simpa using this
theorem up7 (x P : Nat) : x * P = x % 128 * P + x / 128 * (P * 128) := by
  have h : x = x % 128 + x / 128 * 128 := by omega
  conv => lhs; rw [h, Nat.add_mul]
  rw [Nat.mul_assoc, Nat.mul_comm 128 P]
theorem pow_up (j : Nat) : 2 ^ (7 * j + 7) = 2 ^ (7 * j) * 128 := by rw [Nat.pow_add]

theorem rnum_vb (x : Nat) : ∀ (j bits : Nat) (l : List Nat), j ≤ 9 → (x ≠ 0 ∨ j = 0) → bits + x * 2 ^ (7 * j) < 18446744073709551616 → rnum (7 * j) bits (vb x ++ l) = some (unf (bits + x * 2 ^ (7 * j)), l) := by
  induction x using vb.induct with
  | case1 x h =>
    intro j bits l hj h0 hb
    rw [vb_end h]
    show rnum (7 * j) bits (x :: l) = _
    unfold rnum
    rw [if_neg, if_neg (by omega), if_neg (by omega)]
    rintro ⟨h1, h2⟩
    rw [h1] at hb
    have : 2 * 2 ^ 63 ≤ x * 2 ^ 63 := Nat.mul_le_mul_right _ h2
    omega
  | case2 x h ih =>
    intro j bits l hj h0 hb
    have hu := up7 x (2 ^ (7 * j))
    have hj8 : j ≤ 8 := by
      rcases Nat.lt_or_ge j 9 with h9 | h9
      · omega
      · have : j = 9 := by omega
        subst this
        have : 128 * 2 ^ (7 * 9) ≤ x * 2 ^ (7 * 9) := Nat.mul_le_mul_right _ (by omega)
        omega
    rw [vb_more h]
    show rnum (7 * j) bits ((x % 128 + 128) :: (vb (x / 128) ++ l)) = _
    unfold rnum
    rw [if_neg (by omega), if_pos (by omega), show (x % 128 + 128) % 128 = x % 128 by omega, show 7 * j + 7 = 7 * (j + 1) by omega]
    have e : bits + x % 128 * 2 ^ (7 * j) + x / 128 * 2 ^ (7 * (j + 1)) = bits + x * 2 ^ (7 * j) := by
      rw [hu, show 7 * (j + 1) = 7 * j + 7 by omega, pow_up]
      omega
    rw [ih (j + 1) _ l (by omega) (by omega) (by rw [e]; exact hb), e]

theorem rn_num {n : Int} (h : I64 n) (l : List Nat) : rn (num n ++ l) = some (n, l) := by
  have hl : fold n < 18446744073709551616 := by
    obtain ⟨h1, h2⟩ := h
    unfold fold
    split <;> omega
  have := rnum_vb (fold n) 0 0 l (by decide) (.inr rfl) (by simpa using hl)
  simp only [Nat.mul_zero, Nat.pow_zero, Nat.mul_one, Nat.zero_add] at this
  unfold rn num
  rw [this, unf_fold]

theorem rnum_back : ∀ (l : List Nat) (j bits : Nat) (n : Int) (r : List Nat), Ok l → j ≤ 9 → bits < 2 ^ (7 * j) → rnum (7 * j) bits l = some (n, r) →
    ∃ x, l = vb x ++ r ∧ n = unf (bits + x * 2 ^ (7 * j)) ∧ (x ≠ 0 ∨ j = 0) ∧ bits + x * 2 ^ (7 * j) < 18446744073709551616
  | [], _, _, _, _, _, _, _, h => by simp [rnum] at h
  | c :: l, j, bits, n, r, hok, hj, hb, h => by
    have hc : c < 256 := hok c (by simp)
    unfold rnum at h
    split at h
    · simp at h
    rename_i h1
    split at h
    · rename_i h2
      have hj8 : j ≤ 8 := by omega
      have hp := pow7' hj8
      have hpu := pow_up j
      have hm : c % 128 * 2 ^ (7 * j) ≤ 127 * 2 ^ (7 * j) := Nat.mul_le_mul_right _ (by omega)
      rw [show 7 * j + 7 = 7 * (j + 1) by omega] at h hpu
      obtain ⟨x, e1, e2, e3, e4⟩ := rnum_back l (j + 1) _ n r (fun c hc => hok c (by simp [hc])) (by omega) (by rw [hpu]; omega) h
      have hx : x ≠ 0 := by omega
      have hu := up7 (x * 128 + c % 128) (2 ^ (7 * j))
      rw [show (x * 128 + c % 128) % 128 = c % 128 by omega, show (x * 128 + c % 128) / 128 = x by omega, ← hpu] at hu
      refine ⟨x * 128 + c % 128, ?_, ?_, .inl (by omega), ?_⟩
      · rw [vb_more (by omega), show (x * 128 + c % 128) % 128 = c % 128 by omega, show (x * 128 + c % 128) / 128 = x by omega, show c % 128 + 128 = c by omega, e1]
        rfl
      · rw [e2, hu, Nat.add_assoc]
      · rw [hu, ← Nat.add_assoc]; exact e4
    · rename_i h2
      split at h
      · simp at h
      rename_i h3
      simp at h
      obtain ⟨rfl, rfl⟩ := h
      refine ⟨c, by rw [vb_end (by omega)]; rfl, rfl, by omega, ?_⟩
      by_cases h9 : j = 9
      · subst h9
        have hc1 : c ≤ 1 := by omega
        have : c * 2 ^ (7 * 9) ≤ 1 * 2 ^ (7 * 9) := Nat.mul_le_mul_right _ hc1
        omega
      · have hp := pow7' (j := j) (by omega)
        have : c * 2 ^ (7 * j) ≤ 127 * 2 ^ (7 * j) := Nat.mul_le_mul_right _ (by omega)
        omega

theorem rn_back {l r : List Nat} {n : Int} (hok : Ok l) (h : rn l = some (n, r)) : l = num n ++ r ∧ I64 n := by
  obtain ⟨x, e1, e2, _, e4⟩ := rnum_back l 0 0 n r hok (by decide) (by decide) h
  simp only [Nat.mul_zero, Nat.pow_zero, Nat.mul_one, Nat.zero_add] at e2 e4
  refine ⟨?_, by rw [e2]; exact unf_i64 e4⟩
  unfold num
  rw [e2, fold_unf]
  exact e1

theorem ok_app {l m : List Nat} (h : Ok (l ++ m)) : Ok m := fun c hc => h c (List.mem_append_right _ hc)

theorem num_pos (n : Int) : 0 < (num n).length := by
  unfold num
  rw [vb]
  split <;> simp

/-- Whatever f reads is what g writes, and only that. -/
structure Inv {α : Type} (f : List Nat → Option (α × List Nat)) (g : α → List Nat) (R : α → Prop) : Prop where
  on : ∀ x r, R x → f (g x ++ r) = some (x, r)
  back : ∀ l x r, Ok l → f l = some (x, r) → l = g x ++ r ∧ R x

theorem rep_on {α : Type} {f : List Nat → Option (α × List Nat)} {g : α → List Nat} {R : α → Prop} (h : Inv f g R) : ∀ (xs : List α) (r : List Nat), (∀ x ∈ xs, R x) → rep f xs.length (xs.flatMap g ++ r) = some (xs, r)
  | [], r, _ => rfl
  | x :: xs, r, hx => by
    simp only [List.length_cons, rep, List.flatMap_cons, List.append_assoc]
    rw [h.on x _ (hx x (by simp))]
    simp only [Option.bind_some]
    rw [rep_on h xs r (fun y hy => hx y (by simp [hy]))]
    rfl
theorem rep_back {α : Type} {f : List Nat → Option (α × List Nat)} {g : α → List Nat} {R : α → Prop} (h : Inv f g R) : ∀ (n : Nat) (l : List Nat) (xs : List α) (r : List Nat), Ok l → rep f n l = some (xs, r) → l = xs.flatMap g ++ r ∧ xs.length = n ∧ ∀ x ∈ xs, R x
  | 0, l, xs, r, _, e => by
    simp [rep] at e
    obtain ⟨rfl, rfl⟩ := e
    simp
  | n + 1, l, xs, r, hok, e => by
    simp only [rep] at e
    obtain ⟨⟨x, l1⟩, h1, e⟩ := Option.bind_eq_some_iff.1 e
    obtain ⟨⟨ys, l2⟩, h2, e⟩ := Option.bind_eq_some_iff.1 e
    simp at e
    obtain ⟨rfl, rfl⟩ := e
    obtain ⟨e1, r1⟩ := h.back l x l1 hok h1
    obtain ⟨e2, e3, r2⟩ := rep_back h n l1 ys l2 (ok_app (by rw [← e1]; exact hok)) h2
    refine ⟨?_, by simp [e3], ?_⟩
    · rw [e1, e2]; simp
    · intro y hy
      rcases List.mem_cons.1 hy with rfl | hy
      · exact r1
      · exact r2 y hy

theorem inv_rn : Inv rn num I64 := ⟨fun _ r h => rn_num h r, fun _ _ _ hok h => rn_back hok h⟩
theorem inv_two : Inv rtwo (fun p => nums [p.1, p.2]) (fun p => I64 p.1 ∧ I64 p.2) := by
  refine ⟨fun x r h => ?_, fun l x r hok h => ?_⟩
  · simp only [nums, List.flatMap_cons, List.flatMap_nil, List.append_nil, List.append_assoc, rtwo]
    rw [rn_num h.1]
    simp only [Option.bind_some]
    rw [rn_num h.2]
    rfl
  · unfold rtwo at h
    obtain ⟨⟨a, l1⟩, h1, h⟩ := Option.bind_eq_some_iff.1 h
    obtain ⟨⟨b, l2⟩, h2, h⟩ := Option.bind_eq_some_iff.1 h
    simp at h
    obtain ⟨rfl, rfl⟩ := h
    obtain ⟨e1, i1⟩ := rn_back hok h1
    obtain ⟨e2, i2⟩ := rn_back (ok_app (by rw [← e1]; exact hok)) h2
    exact ⟨by rw [e1, show l1 = _ from e2]; simp [nums], i1, i2⟩
theorem inv_count : Inv rcount (fun n => nums [n]) (fun n => 0 ≤ n ∧ I64 n) := by
  refine ⟨fun x r h => ?_, fun l x r hok h => ?_⟩
  · simp only [nums, List.flatMap_cons, List.flatMap_nil, List.append_nil, rcount]
    rw [rn_num h.2]
    simp only [Option.bind_some]
    rw [if_neg (by omega)]
  · unfold rcount at h
    obtain ⟨⟨a, l1⟩, h1, h⟩ := Option.bind_eq_some_iff.1 h
    simp only at h
    split at h
    · simp at h
    simp at h
    obtain ⟨rfl, rfl⟩ := h
    obtain ⟨e1, i1⟩ := rn_back hok h1
    exact ⟨by rw [e1]; simp [nums], by omega, i1⟩
theorem inv_box : Inv rbox bxb (fun b => I64 b.ty ∧ I64 b.cap) := by
  refine ⟨fun x r h => ?_, fun l x r hok h => ?_⟩
  · unfold rbox bxb
    have := inv_two.on (x.ty, x.cap) r h
    simp only at this
    rw [this]
    rfl
  · unfold rbox at h
    obtain ⟨⟨p, l1⟩, h1, h⟩ := Option.bind_eq_some_iff.1 h
    simp at h
    obtain ⟨rfl, rfl⟩ := h
    exact inv_two.back l p l1 hok h1
theorem inv_ins : Inv rins inb (fun i => I64 i.op ∧ I64 i.a ∧ I64 i.n) := by
  refine ⟨fun x r h => ?_, fun l x r hok h => ?_⟩
  · unfold rins inb
    have := inv_two.on (x.op, x.a) (num x.n ++ r) ⟨h.1, h.2.1⟩
    simp only at this
    rw [List.append_assoc, this]
    simp only [Option.bind_some]
    rw [rn_num h.2.2]
    rfl
  · unfold rins at h
    obtain ⟨⟨p, l1⟩, h1, h⟩ := Option.bind_eq_some_iff.1 h
    obtain ⟨⟨b, l2⟩, h2, h⟩ := Option.bind_eq_some_iff.1 h
    simp at h
    obtain ⟨rfl, rfl⟩ := h
    obtain ⟨e1, i1⟩ := inv_two.back l p l1 hok h1
    obtain ⟨e2, i2⟩ := rn_back (ok_app (by rw [← e1]; exact hok)) h2
    exact ⟨by rw [e1, show l1 = _ from e2]; simp [inb], i1.1, i1.2, i2⟩

structure UnR (u : Un) : Prop where
  a : I64 u.kind ∧ I64 u.params
  b : I64 u.result ∧ I64 u.takes
  l : ∀ x ∈ u.locals, I64 x
  c : ∀ i ∈ u.code, I64 i.op ∧ I64 i.a ∧ I64 i.n
  n : u.locals.length ≤ 9223372036854775807 ∧ u.code.length ≤ 9223372036854775807

theorem flat_num (l : List Int) : nums l = l.flatMap num := rfl
theorem inv_unit : Inv runit unb UnR := by
  refine ⟨fun x r h => ?_, fun l x r hok h => ?_⟩
  · have e : unb x ++ r = nums [x.kind, x.params] ++ (nums [(x.locals.length : Int)] ++ (x.locals.flatMap num ++ (nums [x.result, x.takes] ++ (nums [(x.code.length : Int)] ++ (x.code.flatMap inb ++ r))))) := by
      simp [unb, nums]
    have h1 := inv_two.on (x.kind, x.params) (nums [(x.locals.length : Int)] ++ (x.locals.flatMap num ++ (nums [x.result, x.takes] ++ (nums [(x.code.length : Int)] ++ (x.code.flatMap inb ++ r))))) h.a
    have h2 := inv_count.on (x.locals.length : Int) (x.locals.flatMap num ++ (nums [x.result, x.takes] ++ (nums [(x.code.length : Int)] ++ (x.code.flatMap inb ++ r)))) ⟨by omega, by omega, by have := h.n.1; omega⟩
    have h3 := rep_on inv_rn x.locals (nums [x.result, x.takes] ++ (nums [(x.code.length : Int)] ++ (x.code.flatMap inb ++ r))) h.l
    have h4 := inv_two.on (x.result, x.takes) (nums [(x.code.length : Int)] ++ (x.code.flatMap inb ++ r)) h.b
    have h5 := inv_count.on (x.code.length : Int) (x.code.flatMap inb ++ r) ⟨by omega, by omega, by have := h.n.2; omega⟩
    have h6 := rep_on inv_ins x.code r h.c
    simp only at h1 h4
    unfold runit
    rw [e, h1]; simp only [Option.bind_some]
    rw [h2]; simp only [Option.bind_some, Int.toNat_natCast]
    rw [h3]; simp only [Option.bind_some]
    rw [h4]; simp only [Option.bind_some]
    rw [h5]; simp only [Option.bind_some, Int.toNat_natCast]
    rw [h6]; rfl
  · unfold runit at h
    obtain ⟨⟨p, l1⟩, h1, h⟩ := Option.bind_eq_some_iff.1 h
    obtain ⟨⟨n, l2⟩, h2, h⟩ := Option.bind_eq_some_iff.1 h
    obtain ⟨⟨ls, l3⟩, h3, h⟩ := Option.bind_eq_some_iff.1 h
    obtain ⟨⟨q, l4⟩, h4, h⟩ := Option.bind_eq_some_iff.1 h
    obtain ⟨⟨k, l5⟩, h5, h⟩ := Option.bind_eq_some_iff.1 h
    obtain ⟨⟨cs, l6⟩, h6, h⟩ := Option.bind_eq_some_iff.1 h
    simp at h
    obtain ⟨rfl, rfl⟩ := h
    obtain ⟨e1, i1⟩ := inv_two.back l p l1 hok h1
    have o1 := ok_app (by rw [← e1]; exact hok)
    obtain ⟨e2, i2, i2'⟩ := inv_count.back l1 n l2 o1 h2
    have o2 := ok_app (by rw [← e2]; exact o1)
    obtain ⟨e3, n3, i3⟩ := rep_back inv_rn _ l2 ls l3 o2 h3
    have o3 := ok_app (by rw [← e3]; exact o2)
    obtain ⟨e4, i4⟩ := inv_two.back l3 q l4 o3 h4
    have o4 := ok_app (by rw [← e4]; exact o3)
    obtain ⟨e5, i5, i5'⟩ := inv_count.back l4 k l5 o4 h5
    have o5 := ok_app (by rw [← e5]; exact o4)
    obtain ⟨e6, n6, i6⟩ := rep_back inv_ins _ l5 cs l6 o5 h6
    simp only at n3 n6
    have t1 : n = (ls.length : Int) := by omega
    have t2 : k = (cs.length : Int) := by omega
    refine ⟨?_, ⟨i1, i4, i3, i6, by simp only; omega, by simp only; omega⟩⟩
    rw [e1, e2, e3, e4, e5, e6, t1, t2]
    simp [unb, nums]

structure MdR (m : Md) : Prop where
  b : ∀ x ∈ m.boxes, I64 x.ty ∧ I64 x.cap
  u : ∀ x ∈ m.units, UnR x
  n : m.boxes.length ≤ 9223372036854775807 ∧ m.units.length ≤ 9223372036854775807

/-- WHAT IS WRITTEN IS READ. -/
theorem rmod_body {m : Md} (h : MdR m) : rmod (body m) = some m := by
  have e : body m = nums [(m.boxes.length : Int)] ++ (m.boxes.flatMap bxb ++ (nums [(m.units.length : Int)] ++ (m.units.flatMap unb ++ []))) := by simp [body]
  have h1 := inv_count.on (m.boxes.length : Int) (m.boxes.flatMap bxb ++ (nums [(m.units.length : Int)] ++ (m.units.flatMap unb ++ []))) ⟨by omega, by omega, by have := h.n.1; omega⟩
  have h2 := rep_on inv_box m.boxes (nums [(m.units.length : Int)] ++ (m.units.flatMap unb ++ [])) h.b
  have h3 := inv_count.on (m.units.length : Int) (m.units.flatMap unb ++ []) ⟨by omega, by omega, by have := h.n.2; omega⟩
  have h4 := rep_on inv_unit m.units [] h.u
  unfold rmod
  rw [e, h1]; simp only [Option.bind_some, Int.toNat_natCast]
  rw [h2]; simp only [Option.bind_some]
  rw [h3]; simp only [Option.bind_some, Int.toNat_natCast]
  rw [h4]; simp
/-- In one way alone. -/
theorem body_rmod {l : List Nat} {m : Md} (hok : Ok l) (h : rmod l = some m) : body m = l ∧ MdR m := by
  unfold rmod at h
  obtain ⟨⟨n, l1⟩, h1, h⟩ := Option.bind_eq_some_iff.1 h
  obtain ⟨⟨bs, l2⟩, h2, h⟩ := Option.bind_eq_some_iff.1 h
  obtain ⟨⟨k, l3⟩, h3, h⟩ := Option.bind_eq_some_iff.1 h
  obtain ⟨⟨us, l4⟩, h4, h⟩ := Option.bind_eq_some_iff.1 h
  simp only at h
  split at h
  case isFalse => simp at h
  rename_i h0
  simp at h
  subst h h0
  obtain ⟨e1, i1, i1'⟩ := inv_count.back l n l1 hok h1
  have o1 := ok_app (by rw [← e1]; exact hok)
  obtain ⟨e2, n2, i2⟩ := rep_back inv_box _ l1 bs l2 o1 h2
  have o2 := ok_app (by rw [← e2]; exact o1)
  obtain ⟨e3, i3, i3'⟩ := inv_count.back l2 k l3 o2 h3
  have o3 := ok_app (by rw [← e3]; exact o2)
  obtain ⟨e4, n4, i4⟩ := rep_back inv_unit _ l3 us [] o3 h4
  simp only at n2 n4
  have t1 : n = (bs.length : Int) := by omega
  have t2 : k = (us.length : Int) := by omega
  refine ⟨?_, i2, i4, by simp only; omega, by simp only; omega⟩
  rw [e1, e2, e3, e4, t1, t2]
  simp [body]

end Im
end Go.Proofs.Ytnfkfgpnojdfoaa
