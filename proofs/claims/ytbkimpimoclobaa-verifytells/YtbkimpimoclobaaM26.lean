/- The document's answer, chapter 7, walked: Instr, the rest. -/
import Derived.Test.YtbkimpimoclobaaM25
namespace Go.Proofs.Ytbkimpimoclobaa
open Go.RowKit

set_option maxRecDepth 100000 in
set_option maxHeartbeats 1000000 in
theorem rinstr_23 (m : Vf.Md) (ab au : Option Addr) (cb cu : Nat) (u : Vf.Un) (al ac : Option Addr) (cl cc : Nat) (a n : Int) (w : World) (er : Int) (hr : Hid (er = Vf.formE m u ⟨23, a, n⟩)) (B : Nat) (hm : Hid (ModIn B w m ab au)) (hB : B ≤ w.heap.size) :
    Calls Try.prog 31 #[mdV m ab au cb cu, runV u al ac cl cc, rinV 23 a n] w fun e w' => e = .returned (.int .i64 er) ∧ w.grownBy w' none := by
  have HG : Hid (∀ x y z : Obj, w.grownBy (((w.alloc x).alloc y).alloc z) none) := fun x y z => grown0_new (two_new _ _ _) _
  have HG4 : Hid (∀ x y z t : Obj, w.grownBy ((((w.alloc x).alloc y).alloc z).alloc t) none) := fun x y z t => grown0_new (HG.out x y z) _
  obtain ⟨b, hb⟩ : ∃ b, b = Vf.is m 2 a := ⟨_, rfl⟩
  have HR : Hid (er = if b = true then 0 else 3) := by
    unfold Hid
    rw [hr.out, hb]
    simp [Vf.formE, Vf.ranged]
    cases Vf.is m 2 a <;> simp
  have HBb := hide hb
  clear hr hb
  go_enter Try.func31, Try.ntmps31
  go_wp2_with fail
  refine (ris_any m ab au cb cu B 2 a _ (hide (hm.out.low (low0 (HG.out _ _ _) hB))) (by simp; omega) b HBb).mono ?_
  rintro e w2 ⟨rfl, rfl⟩
  cases b with
  | false =>
    have HR0 : Hid (er = 3) := HR.out
    go_wp2
    go_ret
    rw [HR0.out]
    exact ⟨rfl, HG4.out _ _ _ _⟩
  | true =>
    have HR0 : Hid (er = 0) := HR.out
    go_wp2
    go_ret
    rw [HR0.out]
    exact ⟨rfl, HG4.out _ _ _ _⟩

set_option maxRecDepth 100000 in
set_option maxHeartbeats 1000000 in
theorem rinstr_29 (m : Vf.Md) (ab au : Option Addr) (cb cu : Nat) (u : Vf.Un) (al ac : Option Addr) (cl cc : Nat) (a n : Int) (w : World) (er : Int) (hr : Hid (er = Vf.formE m u ⟨29, a, n⟩)) (B : Nat) (hm : Hid (ModIn B w m ab au)) (hB : B ≤ w.heap.size) :
    Calls Try.prog 31 #[mdV m ab au cb cu, runV u al ac cl cc, rinV 29 a n] w fun e w' => e = .returned (.int .i64 er) ∧ w.grownBy w' none := by
  have HG : Hid (∀ x y z : Obj, w.grownBy (((w.alloc x).alloc y).alloc z) none) := fun x y z => grown0_new (two_new _ _ _) _
  have HG4 : Hid (∀ x y z t : Obj, w.grownBy ((((w.alloc x).alloc y).alloc z).alloc t) none) := fun x y z t => grown0_new (HG.out x y z) _
  obtain ⟨b, hb⟩ : ∃ b, b = Vf.is m 3 a := ⟨_, rfl⟩
  have HR : Hid (er = if b = true then 0 else 3) := by
    unfold Hid
    rw [hr.out, hb]
    simp [Vf.formE, Vf.ranged]
    cases Vf.is m 3 a <;> simp
  have HBb := hide hb
  clear hr hb
  go_enter Try.func31, Try.ntmps31
  go_wp2_with fail
  refine (ris_any m ab au cb cu B 3 a _ (hide (hm.out.low (low0 (HG.out _ _ _) hB))) (by simp; omega) b HBb).mono ?_
  rintro e w2 ⟨rfl, rfl⟩
  cases b with
  | false =>
    have HR0 : Hid (er = 3) := HR.out
    go_wp2
    go_ret
    rw [HR0.out]
    exact ⟨rfl, HG4.out _ _ _ _⟩
  | true =>
    have HR0 : Hid (er = 0) := HR.out
    go_wp2
    go_ret
    rw [HR0.out]
    exact ⟨rfl, HG4.out _ _ _ _⟩

set_option maxRecDepth 100000 in
set_option maxHeartbeats 1000000 in
theorem rinstr_low (m : Vf.Md) (ab au : Option Addr) (cb cu : Nat) (u : Vf.Un) (al ac : Option Addr) (cl cc : Nat) (op a n : Int) (w : World) (er : Int) (hr : Hid (er = Vf.formE m u ⟨op, a, n⟩)) (h1 : op < 1) :
    Calls Try.prog 31 #[mdV m ab au cb cu, runV u al ac cl cc, rinV op a n] w fun e w' => e = .returned (.int .i64 er) ∧ w.grownBy w' none := by
  have HG : Hid (∀ x y z : Obj, w.grownBy (((w.alloc x).alloc y).alloc z) none) := fun x y z => grown0_new (two_new _ _ _) _
  have HR : Hid (er = 1) := by
    unfold Hid
    rw [hr.out]
    unfold Vf.formE
    rw [if_pos (.inl h1)]
  clear hr
  go_enter Try.func31, Try.ntmps31
  go_wp2
  go_ret
  rw [HR.out]
  exact ⟨rfl, HG.out _ _ _⟩

set_option maxRecDepth 100000 in
set_option maxHeartbeats 1000000 in
theorem rinstr_high (m : Vf.Md) (ab au : Option Addr) (cb cu : Nat) (u : Vf.Un) (al ac : Option Addr) (cl cc : Nat) (op a n : Int) (w : World) (er : Int) (hr : Hid (er = Vf.formE m u ⟨op, a, n⟩)) (h1 : 32 < op) :
    Calls Try.prog 31 #[mdV m ab au cb cu, runV u al ac cl cc, rinV op a n] w fun e w' => e = .returned (.int .i64 er) ∧ w.grownBy w' none := by
  have HG : Hid (∀ x y z : Obj, w.grownBy (((w.alloc x).alloc y).alloc z) none) := fun x y z => grown0_new (two_new _ _ _) _
  have h0 : 1 ≤ op := by omega
  have HR : Hid (er = 1) := by
    unfold Hid
    rw [hr.out]
    unfold Vf.formE
    rw [if_pos (.inr h1)]
  clear hr
  go_enter Try.func31, Try.ntmps31
  go_wp2
  go_ret
  rw [HR.out]
  exact ⟨rfl, HG.out _ _ _⟩

set_option maxRecDepth 100000 in
set_option maxHeartbeats 1000000 in
theorem rinstr_else (m : Vf.Md) (ab au : Option Addr) (cb cu : Nat) (u : Vf.Un) (al ac : Option Addr) (cl cc : Nat) (op a n : Int) (w : World) (er : Int) (hr : Hid (er = Vf.formE m u ⟨op, a, n⟩)) (h1 : 1 ≤ op) (h32 : op ≤ 32) (n2 : op ≠ 2) (n3 : op ≠ 3) (n4 : op ≠ 4) (n21 : op ≠ 21) (n22 : op ≠ 22) (n23 : op ≠ 23) (n26 : op ≠ 26) (n27 : op ≠ 27) (n29 : op ≠ 29) :
    Calls Try.prog 31 #[mdV m ab au cb cu, runV u al ac cl cc, rinV op a n] w fun e w' => e = .returned (.int .i64 er) ∧ w.grownBy w' none := by
  have HG : Hid (∀ x y z : Obj, w.grownBy (((w.alloc x).alloc y).alloc z) none) := fun x y z => grown0_new (two_new _ _ _) _
  have e2 : (op == 2) = false := by simpa using n2
  have e3 : (op == 3) = false := by simpa using n3
  have e4 : (op == 4) = false := by simpa using n4
  have e21 : (op == 21) = false := by simpa using n21
  have e22 : (op == 22) = false := by simpa using n22
  have e23 : (op == 23) = false := by simpa using n23
  have e26 : (op == 26) = false := by simpa using n26
  have e27 : (op == 27) = false := by simpa using n27
  have e29 : (op == 29) = false := by simpa using n29
  have HR : Hid (er = 0) := by
    unfold Hid
    rw [hr.out]
    unfold Vf.formE Vf.ranged
    rw [if_neg (by simp; omega), if_neg]
    simp [n2, n3, n4, n21, n22, n23, n26, n27, n29]
  clear hr n2 n3 n4 n21 n22 n23 n26 n27 n29
  go_enter Try.func31, Try.ntmps31
  go_wp2
  go_ret
  rw [HR.out]
  exact ⟨rfl, HG.out _ _ _⟩

end Go.Proofs.Ytbkimpimoclobaa

/- The document's answer, chapter 7, walked: WHAT ITS Instr ANSWERS. -/
namespace Go.Proofs.Ytbkimpimoclobaa
open Go.RowKit

theorem rinstr_any (m : Vf.Md) (ab au : Option Addr) (cb cu B : Nat) (u : Vf.Un) (al ac : Option Addr) (cl cc : Nat) (op a n : Int) (w : World) (hm : Hid (ModIn B w m ab au)) (hB : B ≤ w.heap.size) (er : Int) (hr : Hid (er = Vf.formE m u ⟨op, a, n⟩)) :
    Calls Try.prog 31 #[mdV m ab au cb cu, runV u al ac cl cc, rinV op a n] w fun e w' => e = .returned (.int .i64 er) ∧ w.grownBy w' none := by
  by_cases n2 : op = 2
  · subst n2
    exact rinstr_2 m ab au cb cu u al ac cl cc a n w er hr
  by_cases n3 : op = 3
  · subst n3
    exact rinstr_3 m ab au cb cu u al ac cl cc a n w er hr
  by_cases n4 : op = 4
  · subst n4
    exact rinstr_4 m ab au cb cu u al ac cl cc a n w er hr
  by_cases n21 : op = 21
  · subst n21
    exact rinstr_21 m ab au cb cu u al ac cl cc a n w er hr
  by_cases n22 : op = 22
  · subst n22
    exact rinstr_22 m ab au cb cu u al ac cl cc a n w er hr
  by_cases n23 : op = 23
  · subst n23
    exact rinstr_23 m ab au cb cu u al ac cl cc a n w er hr B hm hB
  by_cases n26 : op = 26
  · subst n26
    exact rinstr_26 m ab au cb cu u al ac cl cc a n w er hr
  by_cases n27 : op = 27
  · subst n27
    exact rinstr_27 m ab au cb cu u al ac cl cc a n w er hr
  by_cases n29 : op = 29
  · subst n29
    exact rinstr_29 m ab au cb cu u al ac cl cc a n w er hr B hm hB
  by_cases h1 : op < 1
  · exact rinstr_low m ab au cb cu u al ac cl cc op a n w er hr h1
  by_cases h32 : 32 < op
  · exact rinstr_high m ab au cb cu u al ac cl cc op a n w er hr h32
  exact rinstr_else m ab au cb cu u al ac cl cc op a n w er hr (by omega) (by omega) n2 n3 n4 n21 n22 n23 n26 n27 n29

end Go.Proofs.Ytbkimpimoclobaa

