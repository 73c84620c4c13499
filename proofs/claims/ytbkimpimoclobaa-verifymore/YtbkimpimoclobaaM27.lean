/- The walk of leave. -/
import Derived.Test.YtbkimpimoclobaaM26
import Derived.Test.YtbkimpimoclobaaM16
import Derived.Test.YtbkimpimoclobaaM13
namespace Go.Proofs.Ytbkimpimoclobaa
open Go.RowKit

theorem goOn_next (c : FC) (B F : Nat) (k : Vf.Kn) (n : Nat) (s : Vf.S) (w : World) (h : Hid (WF c B F w k (n : Int) s)) (hn : s.row.length ≤ 100000000) (r : Except Int Vf.S) (hr : Hid (r = Vf.goOn c.u.code.length k ((n : Int) + 1) s)) :
    Calls Try.prog 59 #[.pointer (some ⟨F, 0, none⟩), .int .i64 ((n : Int) + 1)] w fun e w' => GEnd c B F k (n : Int) r w e w' :=
  goOn_any c B F k (n : Int) s (n + 1) w h hn r hr


set_option maxRecDepth 100000 in
set_option maxHeartbeats 2000000 in
theorem leave_any (c : FC) (B F : Nat) (k : Vf.Kn) (n : Nat) (s : Vf.S) (op a nn : Int) (w : World) (h : Hid (WF c B F w k (n : Int) s)) (hn : s.row.length ≤ 99999999) (hn4 : n ≤ 4000) (hfm : Hid (Vf.formE c.m c.u ⟨op, a, nn⟩ = 0)) (hI : Hid (Inv c.m c.u s)) (hk : Hid (OkS c.m k.st)) (r : Except Int Vf.S) (hr : Hid (r = Vf.goAll c.u.code.length k (Vf.goes ⟨op, a, nn⟩ n) s)) :
    Calls Try.prog 46 #[.pointer (some ⟨F, 0, none⟩), .agg #[.int .i64 op, .int .i64 a, .int .i64 nn]] w fun e w' => GEnd c B F k (n : Int) r w e w' := by
  have hB : B ≤ w.heap.size := by have := h.out.env.base; have := h.out.env.lt; omega
  have hlt := h.out.env.lt
  have HB1 : Hid (Below B w (w.alloc (insO op a nn))) := (Below.refl B w).alloc hB _
  have HW1 : Hid (WF c B F (w.alloc (insO op a nn)) k (n : Int) s) := h.out.quiet (grown0_newA (World.grownBy.refl _ _) _)
  obtain ⟨top, rv, hF, _⟩ := h.out.fl
  have c14 := (fl_cells4 hF.blk).1
  have e1 : IntKind.i64.wrap ((n : Int) + 1) = (n : Int) + 1 := by simp [IntKind.wrap, IntKind.bits, IntKind.signed]; omega
  clear hF
  by_cases h24 : op = 24 ∨ op = 25
  · have HR : Hid (r = .ok s) := by unfold Hid; rw [hr.out, Vf.goes, if_pos h24]; rfl
    rcases h24 with rfl | rfl
    · go_enter Try.func46, Try.ntmps46
      go_wp2
      go_end0
      exact GEnd.good HB1.out HR.out HW1.out
    · go_enter Try.func46, Try.ntmps46
      go_wp2
      go_end0
      exact GEnd.good HB1.out HR.out HW1.out
  · by_cases h21 : op = 21
    · subst h21
      obtain ⟨tg, rfl, _⟩ := ranged_lt (L := c.u.code.length) hfm.out rfl
      have HR : Hid (r = Vf.goOn c.u.code.length k (tg : Int) s) := by
        unfold Hid
        rw [hr.out]
        show Vf.andThen (Vf.goOn c.u.code.length k (tg : Int) s) _ = _
        cases Vf.goOn c.u.code.length k (tg : Int) s <;> rfl
      clear hr h24
      go_enter Try.func46, Try.ntmps46
      go_wp2_with fail
      refine (goOn_any c B F k (n : Int) s tg _ HW1 (by omega) r HR).mono ?_
      rintro e w9 hS
      have HB9 : Hid (Below B w w9) := HB1.out.trans hS.below
      cases r with
      | error er =>
        obtain rfl := hS.no er rfl
        clear hS
        go_wp2
        exact ⟨rfl, GEnd.bad HB9.out rfl⟩
      | ok s9 =>
        obtain ⟨rfl, hW9⟩ := hS.yes s9 rfl
        have HW9 := hide hW9
        clear hS hW9
        go_wp2
        go_end0
        exact GEnd.good HB9.out rfl HW9.out
    · by_cases h22 : op = 22
      · subst h22
        obtain ⟨tg, rfl, _⟩ := ranged_lt (L := c.u.code.length) hfm.out rfl
        obtain ⟨r1, hr1⟩ : ∃ r1, r1 = Vf.goOn c.u.code.length k (tg : Int) s := ⟨_, rfl⟩
        have HR1 := hide hr1
        have HR : Hid (r = Vf.andThen r1 fun s1 => Vf.goOn c.u.code.length k ((n : Int) + 1) s1) := by
          unfold Hid
          rw [hr.out]
          show Vf.andThen (Vf.goOn c.u.code.length k (tg : Int) s) (Vf.goAll c.u.code.length k [((n : Int) + 1)]) = _
          rw [← hr1]
          cases r1 with
          | error e => rfl
          | ok s1 =>
            show Vf.andThen (Vf.goOn c.u.code.length k ((n : Int) + 1) s1) _ = Vf.goOn c.u.code.length k ((n : Int) + 1) s1
            cases Vf.goOn c.u.code.length k ((n : Int) + 1) s1 <;> rfl
        have HL : Hid (∀ s1, r1 = .ok s1 → s1.row.length ≤ 100000000) := fun s1 e => by
          have := (goOn_inv hI.out (by omega) hk.out (hr1.symm.trans e)).2
          omega
        clear hr hr1 h24 h21
        go_enter Try.func46, Try.ntmps46
        go_wp2_with fail
        refine (goOn_any c B F k (n : Int) s tg _ HW1 (by omega) r1 HR1).mono ?_
        rintro e w2 hS
        have HB2 : Hid (Below B w w2) := HB1.out.trans hS.below
        cases r1 with
        | error er =>
          obtain rfl := hS.no er rfl
          have HE : Hid (r = .error er) := HR.out
          clear hS
          go_wp2
          exact ⟨rfl, GEnd.bad HB2.out HE.out⟩
        | ok s1 =>
          obtain ⟨rfl, hW2⟩ := hS.yes s1 rfl
          have HW2 := hide hW2
          have hl1 := HL.out s1 rfl
          have HR2 : Hid (r = Vf.goOn c.u.code.length k ((n : Int) + 1) s1) := HR.out
          obtain ⟨top2, rv2, hF2, _⟩ := hW2.fl
          have d14 := (fl_cells4 hF2.blk).1
          clear hS hW2 hF2 HR HL HR1 c14
          go_wp2_with fail
          refine (goOn_next c B F k n s1 _ HW2 hl1 r HR2).mono ?_
          rintro e w9 hS
          have HB9 : Hid (Below B w w9) := HB2.out.trans hS.below
          cases r with
          | error er =>
            obtain rfl := hS.no er rfl
            clear hS
            go_wp2
            exact ⟨rfl, GEnd.bad HB9.out rfl⟩
          | ok s9 =>
            obtain ⟨rfl, hW9⟩ := hS.yes s9 rfl
            have HW9 := hide hW9
            clear hS hW9
            go_wp2
            go_end0
            exact GEnd.good HB9.out rfl HW9.out
      · have HR : Hid (r = Vf.goOn c.u.code.length k ((n : Int) + 1) s) := by
          unfold Hid
          rw [hr.out, Vf.goes, if_neg h24, if_neg h21, if_neg h22]
          show Vf.andThen (Vf.goOn c.u.code.length k ((n : Int) + 1) s) _ = _
          cases Vf.goOn c.u.code.length k ((n : Int) + 1) s <;> rfl
        have g24 : (op == 24) = false := by simp; omega
        have g25 : (op == 25) = false := by simp; omega
        have g21 : (op == 21) = false := by simpa using h21
        have g22 : (op == 22) = false := by simpa using h22
        clear hr h24 h21 h22
        go_enter Try.func46, Try.ntmps46
        go_wp2_with fail
        refine (goOn_next c B F k n s _ HW1 (by omega) r HR).mono ?_
        rintro e w9 hS
        have HB9 : Hid (Below B w w9) := HB1.out.trans hS.below
        cases r with
        | error er =>
          obtain rfl := hS.no er rfl
          clear hS
          go_wp2
          exact ⟨rfl, GEnd.bad HB9.out rfl⟩
        | ok s9 =>
          obtain ⟨rfl, hW9⟩ := hS.yes s9 rfl
          have HW9 := hide hW9
          clear hS hW9
          go_wp2
          go_end0
          exact GEnd.good HB9.out rfl HW9.out

end Go.Proofs.Ytbkimpimoclobaa

