/- The document's Sign. -/
import Derived.Test.YtbbklahhnepiaaaDoorIn
import Derived.LoopN
namespace Go.Proofs.YtbbklahhnepiaaaDoor
open Go.RowKit

/-- The kind of a sign at a level; 0: none. -/
def sgK (n : Int) (t : ByteArray) : Int :=
  if n = 1 then (if t = ⟨#[111, 114]⟩ then 18 else 0)
  else if n = 2 then (if t = ⟨#[97, 110, 100]⟩ then 17 else 0)
  else if n = 3 then (if t = ⟨#[61, 61]⟩ then 11 else if t = ⟨#[33, 61]⟩ then 12 else if t = ⟨#[60]⟩ then 13 else if t = ⟨#[60, 61]⟩ then 14 else if t = ⟨#[62]⟩ then 15 else if t = ⟨#[62, 61]⟩ then 16 else 0)
  else if n = 4 then (if t = ⟨#[43]⟩ then 6 else if t = ⟨#[45]⟩ then 7 else 0)
  else (if t = ⟨#[42]⟩ then 8 else if t = ⟨#[47]⟩ then 9 else if t = ⟨#[37]⟩ then 10 else 0)

theorem lit_ne {l : List UInt8} {t : ByteArray} (h : ¬ t = ⟨l.toArray⟩) : (l == t.toList) = false := by
  rw [toList_eq]
  cases hb : (l == t.data.toList) with
  | false => rfl
  | true =>
    have := eq_of_beq hb
    exfalso
    apply h
    cases t
    subst this
    rfl

theorem lit_eq {l : List UInt8} {t : ByteArray} (h : t = ⟨l.toArray⟩) : (l == t.toList) = true := by
  rw [toList_eq, h]
  simp

theorem sign_below (w : World) (o1 o2 o3 o4 o5 o6 o7 : Obj) : Below w.heap.size w (((((((w.alloc o1).alloc o2).alloc o3).alloc o4).alloc o5).alloc o6).alloc o7) :=
  ((((((((Below.refl _ w).alloc (Nat.le_refl _) _).alloc (by simp) _).alloc (by simp; omega) _).alloc (by simp; omega) _).alloc (by simp; omega) _).alloc (by simp; omega) _).alloc (by simp; omega) _)

set_option maxRecDepth 100000 in
set_option maxHeartbeats 1000000 in
theorem sign1_any (t : ByteArray) (w : World) :
    Calls Tryd.prog 46 #[.int .i64 1, .string t] w fun e w' => e = .returned (.int .i64 (sgK 1 t)) ∧ Below w.heap.size w w' := by
  obtain ⟨r, hr⟩ : ∃ r, r = sgK 1 t := ⟨_, rfl⟩
  rw [← hr]
  by_cases h0 : t = ⟨#[111, 114]⟩
  · have HK : Hid (r = 18) := by rw [hr, h0]; rfl
    have e0 : ([111, 114] == t.toList) = true := lit_eq h0
    clear hr h0
    go_enter Tryd.func46, Tryd.ntmps46
    go_wp2
    refine wp_loop_rounds 1 ?_
    rw [rounds_succ]
    go_wp2
    go_ret
    exact ⟨by rw [HK.out]; rfl, sign_below w _ _ _ _ _ _ _⟩
  have e0 : ([111, 114] == t.toList) = false := lit_ne h0
  have HK : Hid (r = 0) := by rw [hr]; unfold Hid; simp [sgK, h0]
  clear hr h0
  go_enter Tryd.func46, Tryd.ntmps46
  go_wp2
  refine wp_loop_rounds 2 ?_
  rw [rounds_succ]
  go_wp2
  rw [rounds_succ]
  go_wp2
  go_ret
  exact ⟨by rw [HK.out]; rfl, sign_below w _ _ _ _ _ _ _⟩

set_option maxRecDepth 100000 in
set_option maxHeartbeats 1000000 in
theorem sign2_any (t : ByteArray) (w : World) :
    Calls Tryd.prog 46 #[.int .i64 2, .string t] w fun e w' => e = .returned (.int .i64 (sgK 2 t)) ∧ Below w.heap.size w w' := by
  obtain ⟨r, hr⟩ : ∃ r, r = sgK 2 t := ⟨_, rfl⟩
  rw [← hr]
  by_cases h0 : t = ⟨#[97, 110, 100]⟩
  · have HK : Hid (r = 17) := by rw [hr, h0]; rfl
    have e0 : ([97, 110, 100] == t.toList) = true := lit_eq h0
    clear hr h0
    go_enter Tryd.func46, Tryd.ntmps46
    go_wp2
    refine wp_loop_rounds 1 ?_
    rw [rounds_succ]
    go_wp2
    go_ret
    exact ⟨by rw [HK.out]; rfl, sign_below w _ _ _ _ _ _ _⟩
  have e0 : ([97, 110, 100] == t.toList) = false := lit_ne h0
  have HK : Hid (r = 0) := by rw [hr]; unfold Hid; simp [sgK, h0]
  clear hr h0
  go_enter Tryd.func46, Tryd.ntmps46
  go_wp2
  refine wp_loop_rounds 2 ?_
  rw [rounds_succ]
  go_wp2
  rw [rounds_succ]
  go_wp2
  go_ret
  exact ⟨by rw [HK.out]; rfl, sign_below w _ _ _ _ _ _ _⟩

set_option maxRecDepth 100000 in
set_option maxHeartbeats 1000000 in
theorem sign3_any (t : ByteArray) (w : World) :
    Calls Tryd.prog 46 #[.int .i64 3, .string t] w fun e w' => e = .returned (.int .i64 (sgK 3 t)) ∧ Below w.heap.size w w' := by
  obtain ⟨r, hr⟩ : ∃ r, r = sgK 3 t := ⟨_, rfl⟩
  rw [← hr]
  by_cases h0 : t = ⟨#[61, 61]⟩
  · have HK : Hid (r = 11) := by rw [hr, h0]; rfl
    have e0 : ([61, 61] == t.toList) = true := lit_eq h0
    clear hr h0
    go_enter Tryd.func46, Tryd.ntmps46
    go_wp2
    refine wp_loop_rounds 1 ?_
    rw [rounds_succ]
    go_wp2
    go_ret
    exact ⟨by rw [HK.out]; rfl, sign_below w _ _ _ _ _ _ _⟩
  have e0 : ([61, 61] == t.toList) = false := lit_ne h0
  by_cases h1 : t = ⟨#[33, 61]⟩
  · have HK : Hid (r = 12) := by rw [hr, h1]; rfl
    have e1 : ([33, 61] == t.toList) = true := lit_eq h1
    clear hr h0 h1
    go_enter Tryd.func46, Tryd.ntmps46
    go_wp2
    refine wp_loop_rounds 2 ?_
    rw [rounds_succ]
    go_wp2
    rw [rounds_succ]
    go_wp2
    go_ret
    exact ⟨by rw [HK.out]; rfl, sign_below w _ _ _ _ _ _ _⟩
  have e1 : ([33, 61] == t.toList) = false := lit_ne h1
  by_cases h2 : t = ⟨#[60]⟩
  · have HK : Hid (r = 13) := by rw [hr, h2]; rfl
    have e2 : ([60] == t.toList) = true := lit_eq h2
    clear hr h0 h1 h2
    go_enter Tryd.func46, Tryd.ntmps46
    go_wp2
    refine wp_loop_rounds 3 ?_
    rw [rounds_succ]
    go_wp2
    rw [rounds_succ]
    go_wp2
    rw [rounds_succ]
    go_wp2
    go_ret
    exact ⟨by rw [HK.out]; rfl, sign_below w _ _ _ _ _ _ _⟩
  have e2 : ([60] == t.toList) = false := lit_ne h2
  by_cases h3 : t = ⟨#[60, 61]⟩
  · have HK : Hid (r = 14) := by rw [hr, h3]; rfl
    have e3 : ([60, 61] == t.toList) = true := lit_eq h3
    clear hr h0 h1 h2 h3
    go_enter Tryd.func46, Tryd.ntmps46
    go_wp2
    refine wp_loop_rounds 4 ?_
    rw [rounds_succ]
    go_wp2
    rw [rounds_succ]
    go_wp2
    rw [rounds_succ]
    go_wp2
    rw [rounds_succ]
    go_wp2
    go_ret
    exact ⟨by rw [HK.out]; rfl, sign_below w _ _ _ _ _ _ _⟩
  have e3 : ([60, 61] == t.toList) = false := lit_ne h3
  by_cases h4 : t = ⟨#[62]⟩
  · have HK : Hid (r = 15) := by rw [hr, h4]; rfl
    have e4 : ([62] == t.toList) = true := lit_eq h4
    clear hr h0 h1 h2 h3 h4
    go_enter Tryd.func46, Tryd.ntmps46
    go_wp2
    refine wp_loop_rounds 5 ?_
    rw [rounds_succ]
    go_wp2
    rw [rounds_succ]
    go_wp2
    rw [rounds_succ]
    go_wp2
    rw [rounds_succ]
    go_wp2
    rw [rounds_succ]
    go_wp2
    go_ret
    exact ⟨by rw [HK.out]; rfl, sign_below w _ _ _ _ _ _ _⟩
  have e4 : ([62] == t.toList) = false := lit_ne h4
  by_cases h5 : t = ⟨#[62, 61]⟩
  · have HK : Hid (r = 16) := by rw [hr, h5]; rfl
    have e5 : ([62, 61] == t.toList) = true := lit_eq h5
    clear hr h0 h1 h2 h3 h4 h5
    go_enter Tryd.func46, Tryd.ntmps46
    go_wp2
    refine wp_loop_rounds 6 ?_
    rw [rounds_succ]
    go_wp2
    rw [rounds_succ]
    go_wp2
    rw [rounds_succ]
    go_wp2
    rw [rounds_succ]
    go_wp2
    rw [rounds_succ]
    go_wp2
    rw [rounds_succ]
    go_wp2
    go_ret
    exact ⟨by rw [HK.out]; rfl, sign_below w _ _ _ _ _ _ _⟩
  have e5 : ([62, 61] == t.toList) = false := lit_ne h5
  have HK : Hid (r = 0) := by rw [hr]; unfold Hid; simp [sgK, h0, h1, h2, h3, h4, h5]
  clear hr h0 h1 h2 h3 h4 h5
  go_enter Tryd.func46, Tryd.ntmps46
  go_wp2
  refine wp_loop_rounds 7 ?_
  rw [rounds_succ]
  go_wp2
  rw [rounds_succ]
  go_wp2
  rw [rounds_succ]
  go_wp2
  rw [rounds_succ]
  go_wp2
  rw [rounds_succ]
  go_wp2
  rw [rounds_succ]
  go_wp2
  rw [rounds_succ]
  go_wp2
  go_ret
  exact ⟨by rw [HK.out]; rfl, sign_below w _ _ _ _ _ _ _⟩

set_option maxRecDepth 100000 in
set_option maxHeartbeats 1000000 in
theorem sign4_any (t : ByteArray) (w : World) :
    Calls Tryd.prog 46 #[.int .i64 4, .string t] w fun e w' => e = .returned (.int .i64 (sgK 4 t)) ∧ Below w.heap.size w w' := by
  obtain ⟨r, hr⟩ : ∃ r, r = sgK 4 t := ⟨_, rfl⟩
  rw [← hr]
  by_cases h0 : t = ⟨#[43]⟩
  · have HK : Hid (r = 6) := by rw [hr, h0]; rfl
    have e0 : ([43] == t.toList) = true := lit_eq h0
    clear hr h0
    go_enter Tryd.func46, Tryd.ntmps46
    go_wp2
    refine wp_loop_rounds 1 ?_
    rw [rounds_succ]
    go_wp2
    go_ret
    exact ⟨by rw [HK.out]; rfl, sign_below w _ _ _ _ _ _ _⟩
  have e0 : ([43] == t.toList) = false := lit_ne h0
  by_cases h1 : t = ⟨#[45]⟩
  · have HK : Hid (r = 7) := by rw [hr, h1]; rfl
    have e1 : ([45] == t.toList) = true := lit_eq h1
    clear hr h0 h1
    go_enter Tryd.func46, Tryd.ntmps46
    go_wp2
    refine wp_loop_rounds 2 ?_
    rw [rounds_succ]
    go_wp2
    rw [rounds_succ]
    go_wp2
    go_ret
    exact ⟨by rw [HK.out]; rfl, sign_below w _ _ _ _ _ _ _⟩
  have e1 : ([45] == t.toList) = false := lit_ne h1
  have HK : Hid (r = 0) := by rw [hr]; unfold Hid; simp [sgK, h0, h1]
  clear hr h0 h1
  go_enter Tryd.func46, Tryd.ntmps46
  go_wp2
  refine wp_loop_rounds 3 ?_
  rw [rounds_succ]
  go_wp2
  rw [rounds_succ]
  go_wp2
  rw [rounds_succ]
  go_wp2
  go_ret
  exact ⟨by rw [HK.out]; rfl, sign_below w _ _ _ _ _ _ _⟩

set_option maxRecDepth 100000 in
set_option maxHeartbeats 1000000 in
theorem sign5_any (t : ByteArray) (w : World) :
    Calls Tryd.prog 46 #[.int .i64 5, .string t] w fun e w' => e = .returned (.int .i64 (sgK 5 t)) ∧ Below w.heap.size w w' := by
  obtain ⟨r, hr⟩ : ∃ r, r = sgK 5 t := ⟨_, rfl⟩
  rw [← hr]
  by_cases h0 : t = ⟨#[42]⟩
  · have HK : Hid (r = 8) := by rw [hr, h0]; rfl
    have e0 : ([42] == t.toList) = true := lit_eq h0
    clear hr h0
    go_enter Tryd.func46, Tryd.ntmps46
    go_wp2
    refine wp_loop_rounds 1 ?_
    rw [rounds_succ]
    go_wp2
    go_ret
    exact ⟨by rw [HK.out]; rfl, sign_below w _ _ _ _ _ _ _⟩
  have e0 : ([42] == t.toList) = false := lit_ne h0
  by_cases h1 : t = ⟨#[47]⟩
  · have HK : Hid (r = 9) := by rw [hr, h1]; rfl
    have e1 : ([47] == t.toList) = true := lit_eq h1
    clear hr h0 h1
    go_enter Tryd.func46, Tryd.ntmps46
    go_wp2
    refine wp_loop_rounds 2 ?_
    rw [rounds_succ]
    go_wp2
    rw [rounds_succ]
    go_wp2
    go_ret
    exact ⟨by rw [HK.out]; rfl, sign_below w _ _ _ _ _ _ _⟩
  have e1 : ([47] == t.toList) = false := lit_ne h1
  by_cases h2 : t = ⟨#[37]⟩
  · have HK : Hid (r = 10) := by rw [hr, h2]; rfl
    have e2 : ([37] == t.toList) = true := lit_eq h2
    clear hr h0 h1 h2
    go_enter Tryd.func46, Tryd.ntmps46
    go_wp2
    refine wp_loop_rounds 3 ?_
    rw [rounds_succ]
    go_wp2
    rw [rounds_succ]
    go_wp2
    rw [rounds_succ]
    go_wp2
    go_ret
    exact ⟨by rw [HK.out]; rfl, sign_below w _ _ _ _ _ _ _⟩
  have e2 : ([37] == t.toList) = false := lit_ne h2
  have HK : Hid (r = 0) := by rw [hr]; unfold Hid; simp [sgK, h0, h1, h2]
  clear hr h0 h1 h2
  go_enter Tryd.func46, Tryd.ntmps46
  go_wp2
  refine wp_loop_rounds 4 ?_
  rw [rounds_succ]
  go_wp2
  rw [rounds_succ]
  go_wp2
  rw [rounds_succ]
  go_wp2
  rw [rounds_succ]
  go_wp2
  go_ret
  exact ⟨by rw [HK.out]; rfl, sign_below w _ _ _ _ _ _ _⟩

theorem sign_any (n : Int) (t : ByteArray) (w : World) (h1 : 1 ≤ n) (h5 : n ≤ 5) :
    Calls Tryd.prog 46 #[.int .i64 n, .string t] w fun e w' => e = .returned (.int .i64 (sgK n t)) ∧ Below w.heap.size w w' := by
  rcases (show n = 1 ∨ n = 2 ∨ n = 3 ∨ n = 4 ∨ n = 5 by omega) with rfl | rfl | rfl | rfl | rfl
  · exact sign1_any t w
  · exact sign2_any t w
  · exact sign3_any t w
  · exact sign4_any t w
  · exact sign5_any t w

end Go.Proofs.YtbbklahhnepiaaaDoor
