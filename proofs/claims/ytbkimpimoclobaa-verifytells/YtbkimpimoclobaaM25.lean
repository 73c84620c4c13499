/- The document's answer, chapter 7, walked: Letter. -/
import Derived.Test.YtbkimpimoclobaaM24
import Derived.Laws.IdiomStrings
namespace Go.Proofs.Ytbkimpimoclobaa
open Go.RowKit

theorem add_at0 {b : Nat} : (⟨b, 0, none⟩ : Addr).add 0 = ⟨b, 0, none⟩ := by
  unfold Addr.add
  simp

set_option maxHeartbeats 400000 in
theorem rletter_one (w : World) : Calls Try.prog 34 #[.int .i64 1] w fun e w' => e = .returned (.string "n".toUTF8) ∧ w' = w := by
  go_enter Try.func34, Try.ntmps34
  go_wp2
  go_ret
  exact ⟨rfl, rfl⟩
set_option maxHeartbeats 400000 in
theorem rletter_two (w : World) : Calls Try.prog 34 #[.int .i64 2] w fun e w' => e = .returned (.string "b".toUTF8) ∧ w' = w := by
  go_enter Try.func34, Try.ntmps34
  go_wp2
  go_ret
  exact ⟨rfl, rfl⟩
set_option maxRecDepth 100000 in
set_option maxHeartbeats 400000 in
theorem rletter_gen (t : Int) (h10 : 10 ≤ t) (h40 : t < 40) (w : World) : Calls Try.prog 34 #[.int .i64 t] w fun e w' => e = .returned (.string ⟨#[UInt8.ofNat (55 + t).toNat]⟩) ∧ w.grownBy w' none := by
  have n1 : (t == 1) = false := by simp; omega
  have n2 : (t == 2) = false := by simp; omega
  have hb : ((UInt8.ofNat (55 + t).toNat).toNat : Int) = 65 + t - 10 := by
    rw [UInt8.toNat_ofNat']
    omega
  have hh : (w.alloc (.cells #[.int .u8 (65 + t - 10)] 5)).heap[w.heap.size]? = some (.cells #[.int .u8 (65 + t - 10)] 5 (0, 0)) := heap_alloc_new _ _
  have hcv : (convert 80 9 (.slice (some ⟨w.heap.size, 0, none⟩) 1 1)).run Try.prog (w.alloc (.cells #[.int .u8 (65 + t - 10)] 5)) = .ok (.string ⟨#[UInt8.ofNat (55 + t).toNat]⟩) (w.alloc (.cells #[.int .u8 (65 + t - 10)] 5)) := by
    refine run_convert_bytes_back (P := Try.prog) _ _ _ 5 ⟨w.heap.size, 0, none⟩ 1 [UInt8.ofNat (55 + t).toNat] Try.underlying80 Try.underlying5 Try.underlying9 (fun j hj => ?_)
    obtain rfl : j = 0 := by simp at hj; omega
    rw [add_at0]
    show _ = some (Value.int .u8 ((UInt8.ofNat (55 + t).toNat).toNat : Int))
    rw [hb]
    generalize w.alloc (.cells #[.int .u8 (65 + t - 10)] 5) = W at hh ⊢
    simp [World.cell?, hh]
  have hg : w.grownBy (w.alloc (.cells #[.int .u8 (65 + t - 10)] 5)) none := grown0_new (World.grownBy.refl _ _) _
  have HG := hide hg
  clear hb hh hg
  go_enter Try.func34, Try.ntmps34
  go_wp2
  go_ret
  exact ⟨rfl, HG.out⟩

end Go.Proofs.Ytbkimpimoclobaa

/- The document's answer, chapter 7, walked: Instr. -/
namespace Go.Proofs.Ytbkimpimoclobaa
open Go.RowKit

abbrev runV (u : Vf.Un) (al ac : Option Addr) (cl cc : Nat) : Value := .agg #[.int .i64 u.kind, .int .i64 u.params, .slice al u.locals.length cl, .int .i64 u.result, .int .i64 u.takes, .slice ac u.code.length cc]
abbrev rinV (op a n : Int) : Value := .agg #[.int .i64 op, .int .i64 a, .int .i64 n]

set_option maxRecDepth 100000 in
set_option maxHeartbeats 1000000 in
theorem rinstr_2 (m : Vf.Md) (ab au : Option Addr) (cb cu : Nat) (u : Vf.Un) (al ac : Option Addr) (cl cc : Nat) (a n : Int) (w : World) (er : Int) (hr : Hid (er = Vf.formE m u ⟨2, a, n⟩)) :
    Calls Try.prog 31 #[mdV m ab au cb cu, runV u al ac cl cc, rinV 2 a n] w fun e w' => e = .returned (.int .i64 er) ∧ w.grownBy w' none := by
  have HG : Hid (∀ x y z : Obj, w.grownBy (((w.alloc x).alloc y).alloc z) none) := fun x y z => grown0_new (two_new _ _ _) _
  by_cases h0 : a < 0
  · have HR : Hid (er = 3) := by
      unfold Hid
      rw [hr.out]
      simp [Vf.formE, Vf.ranged]
      try omega
    clear hr
    go_enter Try.func31, Try.ntmps31
    go_wp2
    go_ret
    rw [HR.out]
    exact ⟨rfl, HG.out _ _ _⟩
  · by_cases h2 : 2 ≤ a
    · have HR : Hid (er = 3) := by
        unfold Hid
        rw [hr.out]
        simp [Vf.formE, Vf.ranged]
        try omega
      clear hr
      go_enter Try.func31, Try.ntmps31
      go_wp2
      go_ret
      rw [HR.out]
      exact ⟨rfl, HG.out _ _ _⟩
    · have h3 : a < 2 := by omega
      have h4 : 0 ≤ a := by omega
      have HR : Hid (er = 0) := by
        unfold Hid
        rw [hr.out]
        simp [Vf.formE, Vf.ranged]
        try omega
      clear hr
      go_enter Try.func31, Try.ntmps31
      go_wp2
      go_ret
      rw [HR.out]
      exact ⟨rfl, HG.out _ _ _⟩

set_option maxRecDepth 100000 in
set_option maxHeartbeats 1000000 in
theorem rinstr_3 (m : Vf.Md) (ab au : Option Addr) (cb cu : Nat) (u : Vf.Un) (al ac : Option Addr) (cl cc : Nat) (a n : Int) (w : World) (er : Int) (hr : Hid (er = Vf.formE m u ⟨3, a, n⟩)) :
    Calls Try.prog 31 #[mdV m ab au cb cu, runV u al ac cl cc, rinV 3 a n] w fun e w' => e = .returned (.int .i64 er) ∧ w.grownBy w' none := by
  have HG : Hid (∀ x y z : Obj, w.grownBy (((w.alloc x).alloc y).alloc z) none) := fun x y z => grown0_new (two_new _ _ _) _
  by_cases h0 : a < 0
  · have HR : Hid (er = 3) := by
      unfold Hid
      rw [hr.out]
      simp [Vf.formE, Vf.ranged]
      try omega
    clear hr
    go_enter Try.func31, Try.ntmps31
    go_wp2
    go_ret
    rw [HR.out]
    exact ⟨rfl, HG.out _ _ _⟩
  · by_cases h2 : (u.locals.length : Int) ≤ a
    · have HR : Hid (er = 3) := by
        unfold Hid
        rw [hr.out]
        simp [Vf.formE, Vf.ranged]
        try omega
      clear hr
      go_enter Try.func31, Try.ntmps31
      go_wp2
      go_ret
      rw [HR.out]
      exact ⟨rfl, HG.out _ _ _⟩
    · have h3 : a < (u.locals.length : Int) := by omega
      have h4 : 0 ≤ a := by omega
      have HR : Hid (er = 0) := by
        unfold Hid
        rw [hr.out]
        simp [Vf.formE, Vf.ranged]
        try omega
      clear hr
      go_enter Try.func31, Try.ntmps31
      go_wp2
      go_ret
      rw [HR.out]
      exact ⟨rfl, HG.out _ _ _⟩

set_option maxRecDepth 100000 in
set_option maxHeartbeats 1000000 in
theorem rinstr_4 (m : Vf.Md) (ab au : Option Addr) (cb cu : Nat) (u : Vf.Un) (al ac : Option Addr) (cl cc : Nat) (a n : Int) (w : World) (er : Int) (hr : Hid (er = Vf.formE m u ⟨4, a, n⟩)) :
    Calls Try.prog 31 #[mdV m ab au cb cu, runV u al ac cl cc, rinV 4 a n] w fun e w' => e = .returned (.int .i64 er) ∧ w.grownBy w' none := by
  have HG : Hid (∀ x y z : Obj, w.grownBy (((w.alloc x).alloc y).alloc z) none) := fun x y z => grown0_new (two_new _ _ _) _
  by_cases h0 : a < 0
  · have HR : Hid (er = 3) := by
      unfold Hid
      rw [hr.out]
      simp [Vf.formE, Vf.ranged]
      try omega
    clear hr
    go_enter Try.func31, Try.ntmps31
    go_wp2
    go_ret
    rw [HR.out]
    exact ⟨rfl, HG.out _ _ _⟩
  · by_cases h2 : (u.locals.length : Int) ≤ a
    · have HR : Hid (er = 3) := by
        unfold Hid
        rw [hr.out]
        simp [Vf.formE, Vf.ranged]
        try omega
      clear hr
      go_enter Try.func31, Try.ntmps31
      go_wp2
      go_ret
      rw [HR.out]
      exact ⟨rfl, HG.out _ _ _⟩
    · have h3 : a < (u.locals.length : Int) := by omega
      have h4 : 0 ≤ a := by omega
      have HR : Hid (er = 0) := by
        unfold Hid
        rw [hr.out]
        simp [Vf.formE, Vf.ranged]
        try omega
      clear hr
      go_enter Try.func31, Try.ntmps31
      go_wp2
      go_ret
      rw [HR.out]
      exact ⟨rfl, HG.out _ _ _⟩

set_option maxRecDepth 100000 in
set_option maxHeartbeats 1000000 in
theorem rinstr_21 (m : Vf.Md) (ab au : Option Addr) (cb cu : Nat) (u : Vf.Un) (al ac : Option Addr) (cl cc : Nat) (a n : Int) (w : World) (er : Int) (hr : Hid (er = Vf.formE m u ⟨21, a, n⟩)) :
    Calls Try.prog 31 #[mdV m ab au cb cu, runV u al ac cl cc, rinV 21 a n] w fun e w' => e = .returned (.int .i64 er) ∧ w.grownBy w' none := by
  have HG : Hid (∀ x y z : Obj, w.grownBy (((w.alloc x).alloc y).alloc z) none) := fun x y z => grown0_new (two_new _ _ _) _
  by_cases h0 : a < 0
  · have HR : Hid (er = 3) := by
      unfold Hid
      rw [hr.out]
      simp [Vf.formE, Vf.ranged]
      try omega
    clear hr
    go_enter Try.func31, Try.ntmps31
    go_wp2
    go_ret
    rw [HR.out]
    exact ⟨rfl, HG.out _ _ _⟩
  · by_cases h2 : (u.code.length : Int) ≤ a
    · have HR : Hid (er = 3) := by
        unfold Hid
        rw [hr.out]
        simp [Vf.formE, Vf.ranged]
        try omega
      clear hr
      go_enter Try.func31, Try.ntmps31
      go_wp2
      go_ret
      rw [HR.out]
      exact ⟨rfl, HG.out _ _ _⟩
    · have h3 : a < (u.code.length : Int) := by omega
      have h4 : 0 ≤ a := by omega
      have HR : Hid (er = 0) := by
        unfold Hid
        rw [hr.out]
        simp [Vf.formE, Vf.ranged]
        try omega
      clear hr
      go_enter Try.func31, Try.ntmps31
      go_wp2
      go_ret
      rw [HR.out]
      exact ⟨rfl, HG.out _ _ _⟩

set_option maxRecDepth 100000 in
set_option maxHeartbeats 1000000 in
theorem rinstr_22 (m : Vf.Md) (ab au : Option Addr) (cb cu : Nat) (u : Vf.Un) (al ac : Option Addr) (cl cc : Nat) (a n : Int) (w : World) (er : Int) (hr : Hid (er = Vf.formE m u ⟨22, a, n⟩)) :
    Calls Try.prog 31 #[mdV m ab au cb cu, runV u al ac cl cc, rinV 22 a n] w fun e w' => e = .returned (.int .i64 er) ∧ w.grownBy w' none := by
  have HG : Hid (∀ x y z : Obj, w.grownBy (((w.alloc x).alloc y).alloc z) none) := fun x y z => grown0_new (two_new _ _ _) _
  by_cases h0 : a < 0
  · have HR : Hid (er = 3) := by
      unfold Hid
      rw [hr.out]
      simp [Vf.formE, Vf.ranged]
      try omega
    clear hr
    go_enter Try.func31, Try.ntmps31
    go_wp2
    go_ret
    rw [HR.out]
    exact ⟨rfl, HG.out _ _ _⟩
  · by_cases h2 : (u.code.length : Int) ≤ a
    · have HR : Hid (er = 3) := by
        unfold Hid
        rw [hr.out]
        simp [Vf.formE, Vf.ranged]
        try omega
      clear hr
      go_enter Try.func31, Try.ntmps31
      go_wp2
      go_ret
      rw [HR.out]
      exact ⟨rfl, HG.out _ _ _⟩
    · have h3 : a < (u.code.length : Int) := by omega
      have h4 : 0 ≤ a := by omega
      have HR : Hid (er = 0) := by
        unfold Hid
        rw [hr.out]
        simp [Vf.formE, Vf.ranged]
        try omega
      clear hr
      go_enter Try.func31, Try.ntmps31
      go_wp2
      go_ret
      rw [HR.out]
      exact ⟨rfl, HG.out _ _ _⟩

set_option maxRecDepth 100000 in
set_option maxHeartbeats 1000000 in
theorem rinstr_26 (m : Vf.Md) (ab au : Option Addr) (cb cu : Nat) (u : Vf.Un) (al ac : Option Addr) (cl cc : Nat) (a n : Int) (w : World) (er : Int) (hr : Hid (er = Vf.formE m u ⟨26, a, n⟩)) :
    Calls Try.prog 31 #[mdV m ab au cb cu, runV u al ac cl cc, rinV 26 a n] w fun e w' => e = .returned (.int .i64 er) ∧ w.grownBy w' none := by
  have HG : Hid (∀ x y z : Obj, w.grownBy (((w.alloc x).alloc y).alloc z) none) := fun x y z => grown0_new (two_new _ _ _) _
  by_cases h0 : a < 0
  · have HR : Hid (er = 3) := by
      unfold Hid
      rw [hr.out]
      simp [Vf.formE, Vf.ranged]
      try omega
    clear hr
    go_enter Try.func31, Try.ntmps31
    go_wp2
    go_ret
    rw [HR.out]
    exact ⟨rfl, HG.out _ _ _⟩
  · by_cases h2 : (m.boxes.length : Int) ≤ a
    · have HR : Hid (er = 3) := by
        unfold Hid
        rw [hr.out]
        simp [Vf.formE, Vf.ranged]
        try omega
      clear hr
      go_enter Try.func31, Try.ntmps31
      go_wp2
      go_ret
      rw [HR.out]
      exact ⟨rfl, HG.out _ _ _⟩
    · have h3 : a < (m.boxes.length : Int) := by omega
      have h4 : 0 ≤ a := by omega
      have HR : Hid (er = 0) := by
        unfold Hid
        rw [hr.out]
        simp [Vf.formE, Vf.ranged]
        try omega
      clear hr
      go_enter Try.func31, Try.ntmps31
      go_wp2
      go_ret
      rw [HR.out]
      exact ⟨rfl, HG.out _ _ _⟩

set_option maxRecDepth 100000 in
set_option maxHeartbeats 1000000 in
theorem rinstr_27 (m : Vf.Md) (ab au : Option Addr) (cb cu : Nat) (u : Vf.Un) (al ac : Option Addr) (cl cc : Nat) (a n : Int) (w : World) (er : Int) (hr : Hid (er = Vf.formE m u ⟨27, a, n⟩)) :
    Calls Try.prog 31 #[mdV m ab au cb cu, runV u al ac cl cc, rinV 27 a n] w fun e w' => e = .returned (.int .i64 er) ∧ w.grownBy w' none := by
  have HG : Hid (∀ x y z : Obj, w.grownBy (((w.alloc x).alloc y).alloc z) none) := fun x y z => grown0_new (two_new _ _ _) _
  by_cases h0 : a < 0
  · have HR : Hid (er = 3) := by
      unfold Hid
      rw [hr.out]
      simp [Vf.formE, Vf.ranged]
      try omega
    clear hr
    go_enter Try.func31, Try.ntmps31
    go_wp2
    go_ret
    rw [HR.out]
    exact ⟨rfl, HG.out _ _ _⟩
  · by_cases h2 : (m.boxes.length : Int) ≤ a
    · have HR : Hid (er = 3) := by
        unfold Hid
        rw [hr.out]
        simp [Vf.formE, Vf.ranged]
        try omega
      clear hr
      go_enter Try.func31, Try.ntmps31
      go_wp2
      go_ret
      rw [HR.out]
      exact ⟨rfl, HG.out _ _ _⟩
    · have h3 : a < (m.boxes.length : Int) := by omega
      have h4 : 0 ≤ a := by omega
      have HR : Hid (er = 0) := by
        unfold Hid
        rw [hr.out]
        simp [Vf.formE, Vf.ranged]
        try omega
      clear hr
      go_enter Try.func31, Try.ntmps31
      go_wp2
      go_ret
      rw [HR.out]
      exact ⟨rfl, HG.out _ _ _⟩

end Go.Proofs.Ytbkimpimoclobaa

