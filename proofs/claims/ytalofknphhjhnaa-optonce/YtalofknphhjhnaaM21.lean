/- The walks of ranged, head, forms. -/
import Derived.Test.YtalofknphhjhnaaM16
import Derived.Test.YtalofknphhjhnaaM4
import Derived.Test.YtalofknphhjhnaaM20
namespace Go.Proofs.Ytalofknphhjhnaa
open Go.RowKit

theorem two_new (w : World) (a b : Obj) : w.grownBy ((w.alloc a).alloc b) none := grown0_new (grown0_new (World.grownBy.refl _ _) _) _

set_option maxRecDepth 100000 in
set_option maxHeartbeats 2000000 in
theorem ranged2 (c : FC) (a nn : Int) (w : World) (b : Bool) (hb : Hid (b = (a == 0 || a == 1))) :
    Calls Try.prog 43 #[utV c, .agg #[.int .i64 2, .int .i64 a, .int .i64 nn]] w fun e w' => e = .returned (.bool b) ∧ w.grownBy w' none := by
  go_enter Try.func43, Try.ntmps43
  go_wp2
  all_goals
    go_ret
    refine ⟨bool_ret ?_, two_new _ _ _⟩
    rw [hb.out]
    (try simp [*])
    (try omega)

set_option maxRecDepth 100000 in
set_option maxHeartbeats 2000000 in
theorem ranged3 (c : FC) (a nn : Int) (w : World) (b : Bool) (hb : Hid (b = (decide (0 ≤ a) && decide (a < c.u.locals.length)))) :
    Calls Try.prog 43 #[utV c, .agg #[.int .i64 3, .int .i64 a, .int .i64 nn]] w fun e w' => e = .returned (.bool b) ∧ w.grownBy w' none := by
  go_enter Try.func43, Try.ntmps43
  go_wp2
  all_goals
    go_ret
    refine ⟨bool_ret ?_, two_new _ _ _⟩
    rw [hb.out]
    (try simp [*])
    (try omega)

set_option maxRecDepth 100000 in
set_option maxHeartbeats 2000000 in
theorem ranged4 (c : FC) (a nn : Int) (w : World) (b : Bool) (hb : Hid (b = (decide (0 ≤ a) && decide (a < c.u.locals.length)))) :
    Calls Try.prog 43 #[utV c, .agg #[.int .i64 4, .int .i64 a, .int .i64 nn]] w fun e w' => e = .returned (.bool b) ∧ w.grownBy w' none := by
  go_enter Try.func43, Try.ntmps43
  go_wp2
  all_goals
    go_ret
    refine ⟨bool_ret ?_, two_new _ _ _⟩
    rw [hb.out]
    (try simp [*])
    (try omega)

set_option maxRecDepth 100000 in
set_option maxHeartbeats 2000000 in
theorem ranged21 (c : FC) (a nn : Int) (w : World) (b : Bool) (hb : Hid (b = (decide (0 ≤ a) && decide (a < c.u.code.length)))) :
    Calls Try.prog 43 #[utV c, .agg #[.int .i64 21, .int .i64 a, .int .i64 nn]] w fun e w' => e = .returned (.bool b) ∧ w.grownBy w' none := by
  go_enter Try.func43, Try.ntmps43
  go_wp2
  all_goals
    go_ret
    refine ⟨bool_ret ?_, two_new _ _ _⟩
    rw [hb.out]
    (try simp [*])
    (try omega)

set_option maxRecDepth 100000 in
set_option maxHeartbeats 2000000 in
theorem ranged22 (c : FC) (a nn : Int) (w : World) (b : Bool) (hb : Hid (b = (decide (0 ≤ a) && decide (a < c.u.code.length)))) :
    Calls Try.prog 43 #[utV c, .agg #[.int .i64 22, .int .i64 a, .int .i64 nn]] w fun e w' => e = .returned (.bool b) ∧ w.grownBy w' none := by
  go_enter Try.func43, Try.ntmps43
  go_wp2
  all_goals
    go_ret
    refine ⟨bool_ret ?_, two_new _ _ _⟩
    rw [hb.out]
    (try simp [*])
    (try omega)

set_option maxRecDepth 100000 in
set_option maxHeartbeats 2000000 in
theorem ranged26 (c : FC) (a nn : Int) (w : World) (b : Bool) (hb : Hid (b = (decide (0 ≤ a) && decide (a < c.m.boxes.length)))) :
    Calls Try.prog 43 #[utV c, .agg #[.int .i64 26, .int .i64 a, .int .i64 nn]] w fun e w' => e = .returned (.bool b) ∧ w.grownBy w' none := by
  go_enter Try.func43, Try.ntmps43
  go_wp2
  all_goals
    go_ret
    refine ⟨bool_ret ?_, two_new _ _ _⟩
    rw [hb.out]
    (try simp [*])
    (try omega)

set_option maxRecDepth 100000 in
set_option maxHeartbeats 2000000 in
theorem ranged27 (c : FC) (a nn : Int) (w : World) (b : Bool) (hb : Hid (b = (decide (0 ≤ a) && decide (a < c.m.boxes.length)))) :
    Calls Try.prog 43 #[utV c, .agg #[.int .i64 27, .int .i64 a, .int .i64 nn]] w fun e w' => e = .returned (.bool b) ∧ w.grownBy w' none := by
  go_enter Try.func43, Try.ntmps43
  go_wp2
  all_goals
    go_ret
    refine ⟨bool_ret ?_, two_new _ _ _⟩
    rw [hb.out]
    (try simp [*])
    (try omega)

set_option maxRecDepth 100000 in
set_option maxHeartbeats 2000000 in
theorem ranged23 (c : FC) (B : Nat) (a nn : Int) (w : World) (hmd : Hid (ModIn B w c.m c.ab c.au)) (hB : B ≤ w.heap.size) (b : Bool) (hb : Hid (b = Vf.is c.m 2 a)) :
    Calls Try.prog 43 #[utV c, .agg #[.int .i64 23, .int .i64 a, .int .i64 nn]] w fun e w' => e = .returned (.bool b) ∧ w.grownBy w' none := by
  have HM : Hid (ModIn B ((w.alloc (utO c)).alloc (insO 23 a nn)) c.m c.ab c.au) := hmd.out.low (low0 (two_new _ _ _) hB)
  go_enter Try.func43, Try.ntmps43
  go_wp2_with fail
  refine (is_any c.m c.ab c.au c.cb c.cu B 2 a _ HM (by simp; omega) b hb).mono ?_
  rintro e w2 ⟨rfl, rfl⟩
  go_wp2
  go_ret
  exact ⟨rfl, grown0_new (two_new _ _ _) _⟩

set_option maxRecDepth 100000 in
set_option maxHeartbeats 2000000 in
theorem ranged29 (c : FC) (B : Nat) (a nn : Int) (w : World) (hmd : Hid (ModIn B w c.m c.ab c.au)) (hB : B ≤ w.heap.size) (b : Bool) (hb : Hid (b = Vf.is c.m 3 a)) :
    Calls Try.prog 43 #[utV c, .agg #[.int .i64 29, .int .i64 a, .int .i64 nn]] w fun e w' => e = .returned (.bool b) ∧ w.grownBy w' none := by
  have HM : Hid (ModIn B ((w.alloc (utO c)).alloc (insO 29 a nn)) c.m c.ab c.au) := hmd.out.low (low0 (two_new _ _ _) hB)
  go_enter Try.func43, Try.ntmps43
  go_wp2_with fail
  refine (is_any c.m c.ab c.au c.cb c.cu B 3 a _ HM (by simp; omega) b hb).mono ?_
  rintro e w2 ⟨rfl, rfl⟩
  go_wp2
  go_ret
  exact ⟨rfl, grown0_new (two_new _ _ _) _⟩

set_option maxRecDepth 100000 in
set_option maxHeartbeats 2000000 in
theorem rangedD (c : FC) (op a nn : Int) (hop : Hid (op ≠ 2 ∧ op ≠ 3 ∧ op ≠ 4 ∧ op ≠ 21 ∧ op ≠ 22 ∧ op ≠ 23 ∧ op ≠ 26 ∧ op ≠ 27 ∧ op ≠ 29)) (w : World) :
    Calls Try.prog 43 #[utV c, .agg #[.int .i64 op, .int .i64 a, .int .i64 nn]] w fun e w' => e = .returned (.bool true) ∧ w.grownBy w' none := by
  have g2 : (op == 2) = false := by have := hop.out; simp; omega
  have g3 : (op == 3) = false := by have := hop.out; simp; omega
  have g4 : (op == 4) = false := by have := hop.out; simp; omega
  have g21 : (op == 21) = false := by have := hop.out; simp; omega
  have g22 : (op == 22) = false := by have := hop.out; simp; omega
  have g23 : (op == 23) = false := by have := hop.out; simp; omega
  have g26 : (op == 26) = false := by have := hop.out; simp; omega
  have g27 : (op == 27) = false := by have := hop.out; simp; omega
  have g29 : (op == 29) = false := by have := hop.out; simp; omega
  go_enter Try.func43, Try.ntmps43
  go_wp2
  go_ret
  exact ⟨rfl, two_new _ _ _⟩

theorem ranged_any (c : FC) (B : Nat) (op a nn : Int) (w : World) (hmd : Hid (ModIn B w c.m c.ab c.au)) (hB : B ≤ w.heap.size) (b : Bool) (hb : Hid (b = Vf.ranged c.m c.u ⟨op, a, nn⟩)) :
    Calls Try.prog 43 #[utV c, .agg #[.int .i64 op, .int .i64 a, .int .i64 nn]] w fun e w' => e = .returned (.bool b) ∧ w.grownBy w' none := by
  by_cases h2 : op = 2
  · subst h2; exact ranged2 c a nn w b (hide hb.out)
  by_cases h3 : op = 3
  · subst h3; exact ranged3 c a nn w b (hide hb.out)
  by_cases h4 : op = 4
  · subst h4; exact ranged4 c a nn w b (hide hb.out)
  by_cases h21 : op = 21
  · subst h21; exact ranged21 c a nn w b (hide hb.out)
  by_cases h22 : op = 22
  · subst h22; exact ranged22 c a nn w b (hide hb.out)
  by_cases h23 : op = 23
  · subst h23; exact ranged23 c B a nn w hmd hB b (hide hb.out)
  by_cases h29 : op = 29
  · subst h29; exact ranged29 c B a nn w hmd hB b (hide hb.out)
  by_cases h26 : op = 26
  · subst h26; exact ranged26 c a nn w b (hide hb.out)
  by_cases h27 : op = 27
  · subst h27; exact ranged27 c a nn w b (hide hb.out)
  have e : b = true := by
    rw [hb.out, Vf.ranged, if_neg h2, if_neg (by rintro (h | h); exact h3 h; exact h4 h), if_neg (by rintro (h | h); exact h21 h; exact h22 h), if_neg h23, if_neg h29, if_neg (by rintro (h | h); exact h26 h; exact h27 h)]
  rw [e]
  exact rangedD c op a nn (hide ⟨h2, h3, h4, h21, h22, h23, h26, h27, h29⟩) w

/-- What comes of a look at a unit. -/
def HE (er num : Int) (w : World) (e : Ending) (w' : World) : Prop := w.grownBy w' none ∧ e = if er = 0 then .returned (.tuple #[]) else .panicked [fltE er num]

set_option maxRecDepth 100000 in
set_option maxHeartbeats 2000000 in
theorem head_any (c : FC) (B : Nat) (w : World) (hmd : Hid (ModIn B w c.m c.ab c.au)) (hun : Hid (UnIn B w c.u c.al c.ac c.cl c.cc)) (hB : B ≤ w.heap.size) (hmu : c.m.units.length ≤ 30) (er : Int) (hr : Hid (er = Vf.headE c.m c.u)) :
    Calls Try.prog 27 #[utV c] w fun e w' => HE er 0 w e w' := by
  obtain ⟨b1, hb1⟩ : ∃ b, b = Vf.kindly c.u := ⟨_, rfl⟩
  obtain ⟨b2, hb2⟩ : ∃ b, b = Vf.sized c.u := ⟨_, rfl⟩
  obtain ⟨b3, hb3⟩ : ∃ b, b = Vf.typed c.m c.u := ⟨_, rfl⟩
  have HR : Hid (er = if b1 = false then 1 else if b2 = false then 5 else if b3 = false then 9 else 0) := by unfold Hid; rw [hr.out, hb1, hb2, hb3]; rfl
  have H1 := hide hb1
  have H2 := hide hb2
  have H3 := hide hb3
  have HM2 : Hid (ModIn B (((w.alloc (utO c)).alloc (utO c)).alloc (utO c)) c.m c.ab c.au) := hmd.out.low (low0 (grown0_new (two_new _ _ _) _) hB)
  have HU2 : Hid (UnIn B (((w.alloc (utO c)).alloc (utO c)).alloc (utO c)) c.u c.al c.ac c.cl c.cc) := hun.out.low (low0 (grown0_new (two_new _ _ _) _) hB)
  clear hr hb1 hb2 hb3
  go_enter Try.func27, Try.ntmps27
  go_wp2_with fail
  refine (kindly_any c _ b1 H1).mono ?_
  rintro e w1 ⟨rfl, rfl⟩
  cases b1 with
  | false =>
    have HE1 : Hid (er = 1) := HR.out
    go_wp2_with fail
    refine (throw_any 0 1 _).mono ?_
    rintro e w2 ⟨rfl, rfl⟩
    go_wp2
    rw [HE1.out]
    exact ⟨rfl, two_new _ _ _, rfl⟩
  | true =>
    go_wp2_with fail
    refine (sized_any c _ b2 H2).mono ?_
    rintro e w2 ⟨rfl, rfl⟩
    cases b2 with
    | false =>
      have HE1 : Hid (er = 5) := HR.out
      go_wp2_with fail
      refine (throw_any 0 5 _).mono ?_
      rintro e w2 ⟨rfl, rfl⟩
      go_wp2
      rw [HE1.out]
      exact ⟨rfl, grown0_new (two_new _ _ _) _, rfl⟩
    | true =>
      go_wp2_with fail
      refine (typed_any c B _ HM2 HU2 (by simp; omega) hmu b3 H3).mono ?_
      rintro e w3 ⟨rfl, hg3⟩
      have HG3 : Hid (w.grownBy w3 none) := grown0_tr' (grown0_new (two_new _ _ _) _) hg3
      clear hg3
      cases b3 with
      | false =>
        have HE1 : Hid (er = 9) := HR.out
        go_wp2_with fail
        refine (throw_any 0 9 _).mono ?_
        rintro e w2 ⟨rfl, rfl⟩
        go_wp2
        rw [HE1.out]
        exact ⟨rfl, HG3.out, rfl⟩
      | true =>
        have HE1 : Hid (er = 0) := HR.out
        go_wp2
        go_end0
        rw [HE1.out]
        exact ⟨HG3.out, rfl⟩

theorem firstE_drop {α : Type} (f : α → Int) {l : List α} {k : Nat} {x : α} (h : l[k]? = some x) : Vf.firstE f (l.drop k) k = if f x = 0 then Vf.firstE f (l.drop (k + 1)) (k + 1) else (f x, k) := by
  obtain ⟨hk, rfl⟩ := List.getElem?_eq_some_iff.1 h
  rw [List.drop_eq_getElem_cons hk]
  rfl

structure FmAt (c : FC) (w : World) (er num : Int) (k : Nat) (W : World) : Prop where
  le : k ≤ c.u.code.length
  grown : (w.alloc (utO c)).grownBy W none
  rest : (er, num) = ((Vf.firstE (Vf.formE c.m c.u) (c.u.code.drop k) k).1, ((Vf.firstE (Vf.formE c.m c.u) (c.u.code.drop k) k).2 : Int))

set_option maxRecDepth 100000 in
set_option maxHeartbeats 4000000 in
theorem forms_any (c : FC) (B : Nat) (w : World) (hmd : Hid (ModIn B w c.m c.ab c.au)) (hun : Hid (UnIn B w c.u c.al c.ac c.cl c.cc)) (hB : B ≤ w.heap.size) (er num : Int) (hr : Hid ((er, num) = ((Vf.firstE (Vf.formE c.m c.u) c.u.code 0).1, ((Vf.firstE (Vf.formE c.m c.u) c.u.code 0).2 : Int)))) :
    Calls Try.prog 28 #[utV c] w fun e w' => HE er num w e w' := by
  have hlo : c.u.code.length ≤ 9223372036854775807 := hun.out.few.2
  go_enter Try.func28, Try.ntmps28
  go_wp2
  go_loopw [8] (fun v wr => ∃ k : Nat, v = .int .i64 k ∧ FmAt c w er num k wr) (fun v _ => c.u.code.length - (intOf v).toNat)
  case atStart => exact ⟨0, rfl, Nat.zero_le _, World.grownBy.refl _ _, hr.out⟩
  case round =>
    obtain ⟨k, rfl, hA⟩ := hrel
    have HA := hide hA
    have hk := hA.le
    clear hA
    by_cases hlt : k < c.u.code.length
    · obtain ⟨x, hx⟩ : ∃ x, c.u.code[k]? = some x := ⟨_, List.getElem?_eq_getElem hlt⟩
      have hlow : Low B w wr := fun j hj => (kept0 HA.out.grown (by simp; omega)).trans (Below.heap_alloc _ _ _ (by omega))
      obtain ⟨_, _, _, bl, ol, hal, hbl, i0, i1, i2⟩ := (hun.out.code.low hlow) k x hx
      have hub : wr.heap[w.heap.size]? = some (utO c) := (kept0 HA.out.grown (by simp)).trans (heap_alloc_new w _)
      obtain ⟨y0, y1, y2, y3, y4, y5, y6, y7⟩ := ut_cells hub
      have hwr : w.heap.size < wr.heap.size := lt_of_block hub
      have HMr : Hid (ModIn B (wr.alloc (insO x.op x.a x.n)) c.m c.ab c.au) := (hmd.out.low hlow).low (low0 (grown0_new (World.grownBy.refl _ _) _) (by omega))
      have HN : Hid ((er, num) = if Vf.formE c.m c.u x = 0 then ((Vf.firstE (Vf.formE c.m c.u) (c.u.code.drop (k + 1)) (k + 1)).1, ((Vf.firstE (Vf.formE c.m c.u) (c.u.code.drop (k + 1)) (k + 1)).2 : Int)) else (Vf.formE c.m c.u x, (k : Int))) := by
        unfold Hid
        rw [HA.out.rest, firstE_drop _ hx]
        split <;> rfl
      have HG : Hid (w.grownBy wr none) := grown0_tr' (grown0_new (World.grownBy.refl _ _) _) HA.out.grown
      have HAL := hide hal
      clear hx hub hlow hal
      rw [HAL.out]
      by_cases hop : x.op < 1 ∨ 32 < x.op
      · have HE1 : Hid (er = 1 ∧ num = (k : Int)) := by
          have h1 : Vf.formE c.m c.u x = 1 := by unfold Vf.formE; rw [if_pos hop]
          have := HN.out
          rw [h1] at this
          cases this
          exact ⟨rfl, rfl⟩
        rcases hop with hop | hop
        · have d1 : decide (x.op < 1) = true := by simpa using hop
          go_wp2_with fail
          refine (throw_any (k : Int) 1 _).mono ?_
          rintro e w2 ⟨rfl, rfl⟩
          go_wp2
          rw [HE1.out.1, HE1.out.2]
          exact ⟨rfl, grown0_new HG.out _, rfl⟩
        · have d1 : decide (x.op < 1) = false := by simp; omega
          have d2 : decide (32 < x.op) = true := by simpa using hop
          go_wp2_with fail
          refine (throw_any (k : Int) 1 _).mono ?_
          rintro e w2 ⟨rfl, rfl⟩
          go_wp2
          rw [HE1.out.1, HE1.out.2]
          exact ⟨rfl, grown0_new HG.out _, rfl⟩
      · have d1 : decide (x.op < 1) = false := by simp; omega
        have d2 : decide (32 < x.op) = false := by simp; omega
        obtain ⟨b, hb⟩ : ∃ b, b = Vf.ranged c.m c.u ⟨x.op, x.a, x.n⟩ := ⟨_, rfl⟩
        have HB := hide hb
        have HFE : Hid (Vf.formE c.m c.u x = if b = false then 3 else 0) := by unfold Hid; unfold Vf.formE; rw [if_neg hop, hb]
        clear hb hop
        go_wp2_with fail
        refine (ranged_any c B x.op x.a x.n _ HMr (by simp; omega) b HB).mono ?_
        rintro e w2 ⟨rfl, hg2⟩
        have HG2 : Hid ((w.alloc (utO c)).grownBy w2 none) := grown0_tr' (grown0_new HA.out.grown _) hg2
        have HG3 : Hid (w.grownBy w2 none) := grown0_tr' (grown0_new HG.out _) hg2
        clear hg2 y0 y1 y2 y3 y4 y5 y6 y7 i0 i1 i2
        cases b with
        | false =>
          have HE1 : Hid (er = 3 ∧ num = (k : Int)) := by
            have := HN.out
            rw [HFE.out] at this
            cases this
            exact ⟨rfl, rfl⟩
          go_wp2_with fail
          refine (throw_any (k : Int) 3 _).mono ?_
          rintro e w3 ⟨rfl, rfl⟩
          go_wp2
          rw [HE1.out.1, HE1.out.2]
          exact ⟨rfl, HG3.out, rfl⟩
        | true =>
          have HN2 : Hid ((er, num) = ((Vf.firstE (Vf.formE c.m c.u) (c.u.code.drop (k + 1)) (k + 1)).1, ((Vf.firstE (Vf.formE c.m c.u) (c.u.code.drop (k + 1)) (k + 1)).2 : Int))) := by
            have := HN.out
            rw [HFE.out] at this
            exact this
          go_wp2
          go_roundw
          case rel => exact ⟨k + 1, by go_num, hlt, HG2.out, HN2.out⟩
          case measure => simp [intOf]; omega
    · have HE1 : Hid (er = 0 ∧ num = 0) := by
        have := HA.out.rest
        rw [List.drop_eq_nil_of_le (by omega)] at this
        cases this
        exact ⟨rfl, rfl⟩
      have HG : Hid (w.grownBy wr none) := grown0_tr' (grown0_new (World.grownBy.refl _ _) _) HA.out.grown
      go_wp2
      go_end0
      rw [HE1.out.1, HE1.out.2]
      exact ⟨HG.out, rfl⟩

end Go.Proofs.Ytalofknphhjhnaa

/- The walk of throw.Caught, for any work; the looks at a unit; each. -/
namespace Go.Proofs.Ytalofknphhjhnaa
open Go.RowKit

theorem two_cell {w : World} {b : Nat} {v0 v1 : Value} {t : TypeId} (h : w.heap[b]? = some (.cells #[v0, v1] t (0, 0))) :
    w.cell? ⟨b, 0, none⟩ = some v0 ∧ w.cell? ⟨b, 1, none⟩ = some v1 ∧ w.frozen? ⟨b, 0, none⟩ = false ∧ w.frozen? ⟨b, 1, none⟩ = false := by simp [World.cell?, World.frozen?, h]

theorem assert_fault (v : Value) (w : World) : (Instr.typeAssert (.iface 84 v) 20 84 false).run Try.prog w = .ok v w := by kernel_rfl

set_option maxRecDepth 100000 in
set_option maxHeartbeats 400000 in
theorem catch_thrown (F : Nat) (er num : Int) (older : List PanicEntry) (w : World) (hF : w.heap[F]? = some (.cells #[.int .i64 0, .int .i64 0] 84 (0, 0))) :
    CallsD Try.prog 59 #[.pointer (some ⟨F, 0, none⟩)] (.panicking (fltE er num :: older)) w fun e u' w' =>
      e = .returned (.tuple #[]) ∧ u' = .panicking ({ v := .iface 84 (.agg #[.int .i64 er, .int .i64 num]), recovered := true } :: older) ∧ w' = (w.setCell ⟨F, 0, none⟩ (.int .i64 er)).setCell ⟨F, 1, none⟩ (.int .i64 num) := by
  obtain ⟨c0, c1, f0, f1⟩ := two_cell hF
  refine callsD_of_wpS Try.func59 rfl fun c₀ cs hu => ?_
  apply wpS_seq
  apply wpS_region
  simp [wpOpsS, go_sem, recoverD, hu, Try.ntmps59, Exit.thenS]
  apply wpS_seq
  apply wpS_region
  simp [wpOpsS, go_sem, Exit.thenS]
  refine wpS_cond (t := true) (by simp [Act.eval, Array.replicate]) ?_
  simp only [if_true]
  apply wpS_region
  simp [wpOpsS, go_sem, assert_fault, c0, c1, f0, f1, bodyPostS, results, Try.results59]

set_option maxHeartbeats 400000 in
theorem catch_none (F : Nat) (w : World) :
    CallsD Try.prog 59 #[.pointer (some ⟨F, 0, none⟩)] .returning w fun e u' w' => e = .returned (.tuple #[]) ∧ u' = .returning ∧ w' = w := by
  refine callsD_of_wpS Try.func59 rfl fun c₀ cs hu => ?_
  apply wpS_seq
  apply wpS_region
  simp [wpOpsS, go_sem, recoverD, hu, Try.ntmps59, Exit.thenS]
  apply wpS_seq
  apply wpS_region
  simp [wpOpsS, go_sem, Exit.thenS]
  refine wpS_cond (t := false) (by simp [Act.eval, Array.replicate]) ?_
  simp only [Bool.false_eq_true, if_false]
  refine wpS_of_wp (wp_skip ?_)
  cases c₀
  simp_all [bodyPostS, results, Try.results59]

abbrev Z2C : Obj := .cells #[.int .i64 0, .int .i64 0] 84 (0, 0)

set_option maxRecDepth 100000 in
set_option maxHeartbeats 400000 in
theorem caught_any (g : FuncId) (cap : Array Value) (er num : Int) (X : World → Prop) (w : World) (hz : er = 0 → num = 0) (hcf : ∀ w : World, (callFunc g cap).run Try.prog w = .ok (.enter g cap) w)
    (hw : Calls Try.prog g cap (w.alloc Z2C) fun e w' => X w' ∧ w'.heap[w.heap.size]? = some Z2C ∧ Thrown er num e) :
    Calls Try.prog 37 #[.func (.func g) #[] cap] w fun e w' => e = .returned (.agg #[.int .i64 er, .int .i64 num]) ∧ ∃ wx, X wx ∧ wx.heap[w.heap.size]? = some Z2C ∧ w' = (wx.setCell ⟨w.heap.size, 0, none⟩ (.int .i64 er)).setCell ⟨w.heap.size, 1, none⟩ (.int .i64 num) := by
  have hmf : ∀ (fn : Fn) (first cap : Array Value) (w : World), (Instr.makeFunc fn first cap).run Try.prog w = .ok (.func fn first cap) w := fun _ _ _ _ => rfl
  go_enter_defers Try.func37, Try.ntmps37
  go_wp2_with fail
  refine hw.mono ?_
  rintro e w1 ⟨hX, hF, ht⟩
  obtain ⟨c0, c1, f0, f1⟩ := two_cell hF
  have HX : Hid (X w1) := hX
  have HF : Hid (w1.heap[w.heap.size]? = some Z2C) := hF
  clear hX hF
  by_cases h0 : er = 0
  · have hn := hz h0
    subst h0
    subst hn
    obtain rfl : e = .returned (.tuple #[]) := ht
    clear hw hz
    go_wp2
    refine leaves_cons (f := 59) (args := #[.pointer (some ⟨w.heap.size, 0, none⟩)]) (by simp) (by simp [go_sem]) ?_
    refine (catch_none w.heap.size _).mono ?_
    rintro e u' w'' ⟨rfl, rfl, rfl⟩
    show Leaves _ _ _ _ [] .returning _
    exact ⟨.agg #[.int .i64 0, .int .i64 0], by simp [results, Try.results37, go_sem, c0, c1], rfl, w1, HX.out, HF.out, rfl⟩
  · obtain rfl : e = .panicked [fltE er num] := by unfold Thrown at ht; rw [if_neg h0] at ht; exact ht
    clear ht hw hz h0
    go_wp2
    refine leaves_cons (f := 59) (args := #[.pointer (some ⟨w.heap.size, 0, none⟩)]) (by simp) (by simp [go_sem]) ?_
    refine (catch_thrown w.heap.size er num [] _ HF.out).mono ?_
    rintro e u' w'' ⟨rfl, rfl, rfl⟩
    show Leaves _ _ _ _ [] .returning _
    exact ⟨.agg #[.int .i64 er, .int .i64 num], by simp [results, Try.results37, go_sem, c0, c1], rfl, w1, HX.out, HF.out, rfl⟩


theorem ModIn.mono {B C : Nat} {w : World} {m : Vf.Md} {ab au : Option Addr} (h : ModIn B w m ab au) (hB : B ≤ C) : ModIn C w m ab au := by
  refine ⟨h.few, fun i x hx => ?_, fun i x hx => ?_⟩
  · obtain ⟨h1, h2, b, off, e, hb, r⟩ := h.boxes i x hx
    exact ⟨h1, h2, b, off, e, by omega, r⟩
  · obtain ⟨b, off, al, cl, ac, cc, e, hb, hu, r⟩ := h.units i x hx
    refine ⟨b, off, al, cl, ac, cc, e, by omega, ⟨hu.nums, hu.few, hu.caps, fun j y hy => ?_, fun j y hy => ?_⟩, r⟩
    · obtain ⟨h1, b, off, e, hb, r⟩ := hu.locals j y hy
      exact ⟨h1, b, off, e, by omega, r⟩
    · obtain ⟨h1, h2, h3, b, off, e, hb, r⟩ := hu.code j y hy
      exact ⟨h1, h2, h3, b, off, e, by omega, r⟩
theorem UnIn.mono {B C : Nat} {w : World} {u : Vf.Un} {al ac : Option Addr} {cl cc : Nat} (hu : UnIn B w u al ac cl cc) (hB : B ≤ C) : UnIn C w u al ac cl cc := by
  refine ⟨hu.nums, hu.few, hu.caps, fun j y hy => ?_, fun j y hy => ?_⟩
  · obtain ⟨h1, b, off, e, hb, r⟩ := hu.locals j y hy
    exact ⟨h1, b, off, e, by omega, r⟩
  · obtain ⟨h1, h2, h3, b, off, e, hb, r⟩ := hu.code j y hy
    exact ⟨h1, h2, h3, b, off, e, by omega, r⟩
set_option maxRecDepth 100000 in
set_option maxHeartbeats 2000000 in
/-- WHAT A LOOK AT A UNIT's HEAD AND FORMS DOES. -/
theorem shapes1_any (c : FC) (B : Nat) (w : World) (hmd : Hid (ModIn B w c.m c.ab c.au)) (hun : Hid (UnIn B w c.u c.al c.ac c.cl c.cc)) (hB : B ≤ w.heap.size) (hmu : c.m.units.length ≤ 30) (er num : Int) (hr : Hid ((er, num) = ((Vf.shapeF c.m c.u).1, ((Vf.shapeF c.m c.u).2 : Int)))) :
    Calls Try.prog 26 #[utV c] w fun e w' => w.grownBy w' none ∧ Thrown er num e := by
  obtain ⟨y0, y1, y2, y3, y4, y5, y6, y7⟩ := ut_cells (heap_alloc_new w (utO c))
  have HT : Hid (w.grownBy (w.alloc (utO c)) none) := grown0_new (World.grownBy.refl _ _) _
  have HM1 : Hid (ModIn B (w.alloc (utO c)) c.m c.ab c.au) := hmd.out.low (low0 HT.out hB)
  have HU1 : Hid (UnIn B (w.alloc (utO c)) c.u c.al c.ac c.cl c.cc) := hun.out.low (low0 HT.out hB)
  obtain ⟨eh, heh⟩ : ∃ eh, eh = Vf.headE c.m c.u := ⟨_, rfl⟩
  have HH := hide heh
  have HR : Hid ((er, num) = if eh = 0 then ((Vf.firstE (Vf.formE c.m c.u) c.u.code 0).1, ((Vf.firstE (Vf.formE c.m c.u) c.u.code 0).2 : Int)) else (eh, 0)) := by
    unfold Hid
    rw [hr.out, Vf.shapeF, ← heh]
    split <;> rfl
  clear hr heh
  go_enter Try.func26, Try.ntmps26
  go_wp2_with fail
  refine (head_any c B _ HM1 HU1 (by simp; omega) hmu eh HH).mono ?_
  rintro e w1 ⟨hg1, he⟩
  have HG1 : Hid (w.grownBy w1 none) := grown0_tr' HT.out hg1
  have hub : w1.heap[w.heap.size]? = some (utO c) := (kept0 hg1 (by simp)).trans (heap_alloc_new w _)
  by_cases h0 : eh = 0
  · obtain rfl : e = .returned (.tuple #[]) := by rw [if_pos h0] at he; exact he
    have HR2 : Hid ((er, num) = ((Vf.firstE (Vf.formE c.m c.u) c.u.code 0).1, ((Vf.firstE (Vf.formE c.m c.u) c.u.code 0).2 : Int))) := by have := HR.out; rw [if_pos h0] at this; exact this
    obtain ⟨x0, x1, x2, x3, x4, x5, x6, x7⟩ := ut_cells hub
    have HM2 : Hid (ModIn B w1 c.m c.ab c.au) := hmd.out.low (low0 HG1.out hB)
    have HU2 : Hid (UnIn B w1 c.u c.al c.ac c.cl c.cc) := hun.out.low (low0 HG1.out hB)
    have hz := HG1.out.size
    clear he hg1 hub h0 y0 y1 y2 y3 y4 y5 y6 y7
    go_wp2_with fail
    refine (forms_any c B _ HM2 HU2 (by omega) er num HR2).mono ?_
    rintro e w2 ⟨hg2, he2⟩
    have HG2 : Hid (w.grownBy w2 none) := grown0_tr' HG1.out hg2
    clear hg2
    by_cases h1 : er = 0
    · obtain rfl : e = .returned (.tuple #[]) := by rw [if_pos h1] at he2; exact he2
      have HE : Hid (Thrown er num (.returned (.tuple #[]))) := he2
      clear he2 h1
      go_wp2
      go_end0
      exact ⟨HG2.out, HE.out⟩
    · obtain rfl : e = .panicked [fltE er num] := by rw [if_neg h1] at he2; exact he2
      have HE : Hid (Thrown er num (.panicked [fltE er num])) := he2
      clear he2 h1
      go_wp2
      exact ⟨rfl, HG2.out, HE.out⟩
  · obtain rfl : e = .panicked [fltE eh 0] := by rw [if_neg h0] at he; exact he
    have HR2 : Hid (er = eh ∧ num = 0) := by have := HR.out; rw [if_neg h0] at this; cases this; exact ⟨rfl, rfl⟩
    have HE : Hid (Thrown eh 0 (.panicked [fltE eh 0])) := he
    clear he hg1 hub h0
    go_wp2
    rw [HR2.out.1, HR2.out.2]
    exact ⟨rfl, HG1.out, HE.out⟩

set_option maxRecDepth 100000 in
set_option maxHeartbeats 2000000 in
/-- WHAT A LOOK AT A UNIT's FLOW DOES. -/
theorem flows1_any (c : FC) (B : Nat) (w : World) (hmd : Hid (ModIn B w c.m c.ab c.au)) (hun : Hid (UnIn B w c.u c.al c.ac c.cl c.cc)) (hB : B ≤ w.heap.size) (hR : Hid (Rt c.m)) (hu : Hid (Vf.headE c.m c.u = 0)) (hfo : Hid (Vf.Forms c.m c.u)) (er num : Int) (hr : Hid ((er, num) = ((Vf.flowF c.m c.u).1, ((Vf.flowF c.m c.u).2 : Int)))) :
    Calls Try.prog 29 #[utV c] w fun e w' => w.grownBy w' none ∧ Thrown er num e := by
  have hmm : ∀ w : World, (Instr.makeMap 64 Option.none).run Try.prog w = .ok (.map (some w.heap.size)) (w.alloc (.map #[] 0)) := fun _ => rfl
  obtain ⟨W, hW⟩ : ∃ W : World, ((w.alloc (utO c)).alloc (.map #[] 0)).alloc (flO { c with M := w.heap.size + 1 } none [] Vf.Fl.none 0 (.slice none 0 0)) = W := ⟨_, rfl⟩
  have hT : w.grownBy W none := by rw [← hW]; exact grown0_new (two_new _ _ _) _
  have hFb : W.heap[w.heap.size + 1 + 1]? = some (flO { c with M := w.heap.size + 1 } none [] Vf.Fl.none 0 (.slice none 0 0)) := by
    have e : ((w.alloc (utO c)).alloc (.map #[] 0)).heap.size = w.heap.size + 1 + 1 := by simp
    rw [← hW, ← e]
    exact heap_alloc_new _ _
  have H0 : Hid (FlIn { c with M := w.heap.size + 1 } W (w.heap.size + 1 + 1) none [] Vf.Fl.none 0 (.slice none 0 0)) := ⟨hFb, rfl⟩
  have HE : Hid (Env { c with M := w.heap.size + 1 } w.heap.size (w.heap.size + 1 + 1) W) := ⟨(hmd.out.mono hB).low (low0 hT (Nat.le_refl _)), (hun.out.mono hB).low (low0 hT (Nat.le_refl _)), by omega, lt_of_block hFb⟩
  have HC : Hid (ComeIn W (w.heap.size + 1) (fun _ => none)) := by
    have h1 := (ComeIn.new (w.alloc (utO c))).alloc (flO { c with M := w.heap.size + 1 } none [] Vf.Fl.none 0 (.slice none 0 0))
    have e : (w.alloc (utO c)).heap.size = w.heap.size + 1 := by simp
    rw [e, hW] at h1
    exact h1
  have HT := hide hT
  have HW := hide hW
  clear hW hT hFb
  go_enter Try.func29, Try.ntmps29
  go_wp2_with fail
  rw [show ((w.alloc (utO c)).alloc (.map #[] 0)).alloc (.cells #[.slice c.ab c.m.boxes.length c.cb, .slice c.au c.m.units.length c.cu, .int .i64 c.u.kind, .int .i64 c.u.params, .slice c.al c.u.locals.length c.cl, .int .i64 c.u.result, .int .i64 c.u.takes, .slice c.ac c.u.code.length c.cc, .pointer none, .int .i64 0, .int .u64 0, .int .u64 0, .int .u64 0, .int .u64 0, .int .i64 0, .slice none 0 0, .map (some (w.heap.size + 1))] 74) = W from HW.out]
  refine (whole_any { c with M := w.heap.size + 1 } w.heap.size (w.heap.size + 1 + 1) _ H0 HE HC (by simp) hR hu hfo er num hr).mono ?_
  rintro e w1 ⟨hb1, he⟩
  have HG1 : Hid (w.grownBy w1 none) := ⟨hb1.os.trans HT.out.os, hb1.tape.trans HT.out.tape, hb1.output.trans HT.out.output, Nat.le_trans HT.out.size (by have := hb1.size; exact this), fun k hk _ => (hb1.block k hk).trans (HT.out.block k hk (by simp))⟩
  clear hb1
  by_cases h1 : er = 0
  · obtain rfl : e = .returned (.tuple #[]) := by unfold Thrown at he; rw [if_pos h1] at he; exact he
    have HX : Hid (Thrown er num (.returned (.tuple #[]))) := he
    clear he h1
    go_wp2
    go_end0
    exact ⟨HG1.out, HX.out⟩
  · obtain rfl : e = .panicked [fltE er num] := by unfold Thrown at he; rw [if_neg h1] at he; exact he
    have HX : Hid (Thrown er num (.panicked [fltE er num])) := he
    clear he h1
    go_wp2
    exact ⟨rfl, HG1.out, HX.out⟩

end Go.Proofs.Ytalofknphhjhnaa

