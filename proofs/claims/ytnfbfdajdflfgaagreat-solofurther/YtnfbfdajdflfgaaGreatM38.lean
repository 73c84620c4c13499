/- The walks of ranged, head, forms. -/
import Derived.Test.YtnfbfdajdflfgaaGreatM31
import Derived.Test.YtnfbfdajdflfgaaGreatM4
namespace Go.Proofs.YtnfbfdajdflfgaaGreat
open Go.RowKit

theorem two_new (w : World) (a b : Obj) : w.grownBy ((w.alloc a).alloc b) none := grown0_new (grown0_new (World.grownBy.refl _ _) _) _

set_option maxRecDepth 100000 in
set_option maxHeartbeats 2000000 in
theorem ranged2 (c : FC) (a nn : Int) (w : World) (b : Bool) (hb : Hid (b = (a == 0 || a == 1))) :
    Calls Tryz.prog 60 #[utV c, .agg #[.int .i64 2, .int .i64 a, .int .i64 nn]] w fun e w' => e = .returned (.bool b) ∧ w.grownBy w' none := by
  go_enter Tryz.func60, Tryz.ntmps60
  go_wp2
  all_goals
    go_ret
    refine ⟨bool_ret ?_, two_new _ _ _⟩
    rw [hb.out]
    (try simp [*])
    (try omega)

set_option maxRecDepth 100000 in
set_option maxHeartbeats 2000000 in
theorem ranged3 (c : FC) (a nn : Int) (w : World) (b : Bool) (hb : Hid (b = (decide (0 ≤ a) && decide (a < c.u.locals.length)))) :
    Calls Tryz.prog 60 #[utV c, .agg #[.int .i64 3, .int .i64 a, .int .i64 nn]] w fun e w' => e = .returned (.bool b) ∧ w.grownBy w' none := by
  go_enter Tryz.func60, Tryz.ntmps60
  go_wp2
  all_goals
    go_ret
    refine ⟨bool_ret ?_, two_new _ _ _⟩
    rw [hb.out]
    (try simp [*])
    (try omega)

set_option maxRecDepth 100000 in
set_option maxHeartbeats 2000000 in
theorem ranged4 (c : FC) (a nn : Int) (w : World) (b : Bool) (hb : Hid (b = (decide (0 ≤ a) && decide (a < c.u.locals.length)))) :
    Calls Tryz.prog 60 #[utV c, .agg #[.int .i64 4, .int .i64 a, .int .i64 nn]] w fun e w' => e = .returned (.bool b) ∧ w.grownBy w' none := by
  go_enter Tryz.func60, Tryz.ntmps60
  go_wp2
  all_goals
    go_ret
    refine ⟨bool_ret ?_, two_new _ _ _⟩
    rw [hb.out]
    (try simp [*])
    (try omega)

set_option maxRecDepth 100000 in
set_option maxHeartbeats 2000000 in
theorem ranged21 (c : FC) (a nn : Int) (w : World) (b : Bool) (hb : Hid (b = (decide (0 ≤ a) && decide (a < c.u.code.length)))) :
    Calls Tryz.prog 60 #[utV c, .agg #[.int .i64 21, .int .i64 a, .int .i64 nn]] w fun e w' => e = .returned (.bool b) ∧ w.grownBy w' none := by
  go_enter Tryz.func60, Tryz.ntmps60
  go_wp2
  all_goals
    go_ret
    refine ⟨bool_ret ?_, two_new _ _ _⟩
    rw [hb.out]
    (try simp [*])
    (try omega)

set_option maxRecDepth 100000 in
set_option maxHeartbeats 2000000 in
theorem ranged22 (c : FC) (a nn : Int) (w : World) (b : Bool) (hb : Hid (b = (decide (0 ≤ a) && decide (a < c.u.code.length)))) :
    Calls Tryz.prog 60 #[utV c, .agg #[.int .i64 22, .int .i64 a, .int .i64 nn]] w fun e w' => e = .returned (.bool b) ∧ w.grownBy w' none := by
  go_enter Tryz.func60, Tryz.ntmps60
  go_wp2
  all_goals
    go_ret
    refine ⟨bool_ret ?_, two_new _ _ _⟩
    rw [hb.out]
    (try simp [*])
    (try omega)

set_option maxRecDepth 100000 in
set_option maxHeartbeats 2000000 in
theorem ranged26 (c : FC) (a nn : Int) (w : World) (b : Bool) (hb : Hid (b = (decide (0 ≤ a) && decide (a < c.m.boxes.length)))) :
    Calls Tryz.prog 60 #[utV c, .agg #[.int .i64 26, .int .i64 a, .int .i64 nn]] w fun e w' => e = .returned (.bool b) ∧ w.grownBy w' none := by
  go_enter Tryz.func60, Tryz.ntmps60
  go_wp2
  all_goals
    go_ret
    refine ⟨bool_ret ?_, two_new _ _ _⟩
    rw [hb.out]
    (try simp [*])
    (try omega)

set_option maxRecDepth 100000 in
set_option maxHeartbeats 2000000 in
theorem ranged27 (c : FC) (a nn : Int) (w : World) (b : Bool) (hb : Hid (b = (decide (0 ≤ a) && decide (a < c.m.boxes.length)))) :
    Calls Tryz.prog 60 #[utV c, .agg #[.int .i64 27, .int .i64 a, .int .i64 nn]] w fun e w' => e = .returned (.bool b) ∧ w.grownBy w' none := by
  go_enter Tryz.func60, Tryz.ntmps60
  go_wp2
  all_goals
    go_ret
    refine ⟨bool_ret ?_, two_new _ _ _⟩
    rw [hb.out]
    (try simp [*])
    (try omega)

set_option maxRecDepth 100000 in
set_option maxHeartbeats 2000000 in
theorem ranged23 (c : FC) (B : Nat) (a nn : Int) (w : World) (hmd : Hid (ModIn B w c.m c.ab c.au)) (hB : B ≤ w.heap.size) (b : Bool) (hb : Hid (b = Vf.is c.m 2 a)) :
    Calls Tryz.prog 60 #[utV c, .agg #[.int .i64 23, .int .i64 a, .int .i64 nn]] w fun e w' => e = .returned (.bool b) ∧ w.grownBy w' none := by
  have HM : Hid (ModIn B ((w.alloc (utO c)).alloc (insO 23 a nn)) c.m c.ab c.au) := hmd.out.low (low0 (two_new _ _ _) hB)
  go_enter Tryz.func60, Tryz.ntmps60
  go_wp2_with fail
  refine (is_any c.m c.ab c.au c.cb c.cu B 2 a _ HM (by simp; omega) b hb).mono ?_
  rintro e w2 ⟨rfl, rfl⟩
  go_wp2
  go_ret
  exact ⟨rfl, grown0_new (two_new _ _ _) _⟩

set_option maxRecDepth 100000 in
set_option maxHeartbeats 2000000 in
theorem ranged29 (c : FC) (B : Nat) (a nn : Int) (w : World) (hmd : Hid (ModIn B w c.m c.ab c.au)) (hB : B ≤ w.heap.size) (b : Bool) (hb : Hid (b = Vf.is c.m 3 a)) :
    Calls Tryz.prog 60 #[utV c, .agg #[.int .i64 29, .int .i64 a, .int .i64 nn]] w fun e w' => e = .returned (.bool b) ∧ w.grownBy w' none := by
  have HM : Hid (ModIn B ((w.alloc (utO c)).alloc (insO 29 a nn)) c.m c.ab c.au) := hmd.out.low (low0 (two_new _ _ _) hB)
  go_enter Tryz.func60, Tryz.ntmps60
  go_wp2_with fail
  refine (is_any c.m c.ab c.au c.cb c.cu B 3 a _ HM (by simp; omega) b hb).mono ?_
  rintro e w2 ⟨rfl, rfl⟩
  go_wp2
  go_ret
  exact ⟨rfl, grown0_new (two_new _ _ _) _⟩

set_option maxRecDepth 100000 in
set_option maxHeartbeats 2000000 in
theorem rangedD (c : FC) (op a nn : Int) (hop : Hid (op ≠ 2 ∧ op ≠ 3 ∧ op ≠ 4 ∧ op ≠ 21 ∧ op ≠ 22 ∧ op ≠ 23 ∧ op ≠ 26 ∧ op ≠ 27 ∧ op ≠ 29)) (w : World) :
    Calls Tryz.prog 60 #[utV c, .agg #[.int .i64 op, .int .i64 a, .int .i64 nn]] w fun e w' => e = .returned (.bool true) ∧ w.grownBy w' none := by
  have g2 : (op == 2) = false := by have := hop.out; simp; omega
  have g3 : (op == 3) = false := by have := hop.out; simp; omega
  have g4 : (op == 4) = false := by have := hop.out; simp; omega
  have g21 : (op == 21) = false := by have := hop.out; simp; omega
  have g22 : (op == 22) = false := by have := hop.out; simp; omega
  have g23 : (op == 23) = false := by have := hop.out; simp; omega
  have g26 : (op == 26) = false := by have := hop.out; simp; omega
  have g27 : (op == 27) = false := by have := hop.out; simp; omega
  have g29 : (op == 29) = false := by have := hop.out; simp; omega
  go_enter Tryz.func60, Tryz.ntmps60
  go_wp2
  go_ret
  exact ⟨rfl, two_new _ _ _⟩

theorem ranged_any (c : FC) (B : Nat) (op a nn : Int) (w : World) (hmd : Hid (ModIn B w c.m c.ab c.au)) (hB : B ≤ w.heap.size) (b : Bool) (hb : Hid (b = Vf.ranged c.m c.u ⟨op, a, nn⟩)) :
    Calls Tryz.prog 60 #[utV c, .agg #[.int .i64 op, .int .i64 a, .int .i64 nn]] w fun e w' => e = .returned (.bool b) ∧ w.grownBy w' none := by
  by_cases h2 : op = 2
  · subst h2; exact ranged2 c a nn w b (hide hb.out)
  by_cases h3 : op = 3
  · subst h3; exact ranged3 c a nn w b (hide hb.out)
  by_cases h4 : op = 4
  · subst h4; exact ranged4 c a nn w b (hide hb.out)
  by_cases h21 : op = 21
  · subst h21; exact ranged21 c a nn w b (hide hb.out)
  by_cases h22 : op = 22
  · subst h22; exact ranged22 c a nn w b (hide hb.out)
  by_cases h23 : op = 23
  · subst h23; exact ranged23 c B a nn w hmd hB b (hide hb.out)
  by_cases h29 : op = 29
  · subst h29; exact ranged29 c B a nn w hmd hB b (hide hb.out)
  by_cases h26 : op = 26
  · subst h26; exact ranged26 c a nn w b (hide hb.out)
  by_cases h27 : op = 27
  · subst h27; exact ranged27 c a nn w b (hide hb.out)
  have e : b = true := by
    rw [hb.out, Vf.ranged, if_neg h2, if_neg (by rintro (h | h); exact h3 h; exact h4 h), if_neg (by rintro (h | h); exact h21 h; exact h22 h), if_neg h23, if_neg h29, if_neg (by rintro (h | h); exact h26 h; exact h27 h)]
  rw [e]
  exact rangedD c op a nn (hide ⟨h2, h3, h4, h21, h22, h23, h26, h27, h29⟩) w

/-- What comes of a look at a unit. -/
def HE (er num : Int) (w : World) (e : Ending) (w' : World) : Prop := w.grownBy w' none ∧ e = if er = 0 then .returned (.tuple #[]) else .panicked [fltE er num]

set_option maxRecDepth 100000 in
set_option maxHeartbeats 2000000 in
theorem head_any (c : FC) (B : Nat) (w : World) (hmd : Hid (ModIn B w c.m c.ab c.au)) (hun : Hid (UnIn B w c.u c.al c.ac c.cl c.cc)) (hB : B ≤ w.heap.size) (hmu : c.m.units.length ≤ 30) (er : Int) (hr : Hid (er = Vf.headE c.m c.u)) :
    Calls Tryz.prog 33 #[utV c] w fun e w' => HE er 0 w e w' := by
  obtain ⟨b1, hb1⟩ : ∃ b, b = Vf.kindly c.u := ⟨_, rfl⟩
  obtain ⟨b2, hb2⟩ : ∃ b, b = Vf.sized c.u := ⟨_, rfl⟩
  obtain ⟨b3, hb3⟩ : ∃ b, b = Vf.typed c.m c.u := ⟨_, rfl⟩
  have HR : Hid (er = if b1 = false then 1 else if b2 = false then 5 else if b3 = false then 9 else 0) := by unfold Hid; rw [hr.out, hb1, hb2, hb3]; rfl
  have H1 := hide hb1
  have H2 := hide hb2
  have H3 := hide hb3
  have HM2 : Hid (ModIn B (((w.alloc (utO c)).alloc (utO c)).alloc (utO c)) c.m c.ab c.au) := hmd.out.low (low0 (grown0_new (two_new _ _ _) _) hB)
  have HU2 : Hid (UnIn B (((w.alloc (utO c)).alloc (utO c)).alloc (utO c)) c.u c.al c.ac c.cl c.cc) := hun.out.low (low0 (grown0_new (two_new _ _ _) _) hB)
  clear hr hb1 hb2 hb3
  go_enter Tryz.func33, Tryz.ntmps33
  go_wp2_with fail
  refine (kindly_any c _ b1 H1).mono ?_
  rintro e w1 ⟨rfl, rfl⟩
  cases b1 with
  | false =>
    have HE1 : Hid (er = 1) := HR.out
    go_wp2_with fail
    refine (throw_any 0 1 _).mono ?_
    rintro e w2 ⟨rfl, rfl⟩
    go_wp2
    rw [HE1.out]
    exact ⟨rfl, two_new _ _ _, rfl⟩
  | true =>
    go_wp2_with fail
    refine (sized_any c _ b2 H2).mono ?_
    rintro e w2 ⟨rfl, rfl⟩
    cases b2 with
    | false =>
      have HE1 : Hid (er = 5) := HR.out
      go_wp2_with fail
      refine (throw_any 0 5 _).mono ?_
      rintro e w2 ⟨rfl, rfl⟩
      go_wp2
      rw [HE1.out]
      exact ⟨rfl, grown0_new (two_new _ _ _) _, rfl⟩
    | true =>
      go_wp2_with fail
      refine (typed_any c B _ HM2 HU2 (by simp; omega) hmu b3 H3).mono ?_
      rintro e w3 ⟨rfl, hg3⟩
      have HG3 : Hid (w.grownBy w3 none) := grown0_tr' (grown0_new (two_new _ _ _) _) hg3
      clear hg3
      cases b3 with
      | false =>
        have HE1 : Hid (er = 9) := HR.out
        go_wp2_with fail
        refine (throw_any 0 9 _).mono ?_
        rintro e w2 ⟨rfl, rfl⟩
        go_wp2
        rw [HE1.out]
        exact ⟨rfl, HG3.out, rfl⟩
      | true =>
        have HE1 : Hid (er = 0) := HR.out
        go_wp2
        go_end0
        rw [HE1.out]
        exact ⟨HG3.out, rfl⟩

theorem firstE_drop {α : Type} (f : α → Int) {l : List α} {k : Nat} {x : α} (h : l[k]? = some x) : Vf.firstE f (l.drop k) k = if f x = 0 then Vf.firstE f (l.drop (k + 1)) (k + 1) else (f x, k) := by
  obtain ⟨hk, rfl⟩ := List.getElem?_eq_some_iff.1 h
  rw [List.drop_eq_getElem_cons hk]
  rfl

structure FmAt (c : FC) (w : World) (er num : Int) (k : Nat) (W : World) : Prop where
  le : k ≤ c.u.code.length
  grown : (w.alloc (utO c)).grownBy W none
  rest : (er, num) = ((Vf.firstE (Vf.formE c.m c.u) (c.u.code.drop k) k).1, ((Vf.firstE (Vf.formE c.m c.u) (c.u.code.drop k) k).2 : Int))

set_option maxRecDepth 100000 in
set_option maxHeartbeats 4000000 in
theorem forms_any (c : FC) (B : Nat) (w : World) (hmd : Hid (ModIn B w c.m c.ab c.au)) (hun : Hid (UnIn B w c.u c.al c.ac c.cl c.cc)) (hB : B ≤ w.heap.size) (er num : Int) (hr : Hid ((er, num) = ((Vf.firstE (Vf.formE c.m c.u) c.u.code 0).1, ((Vf.firstE (Vf.formE c.m c.u) c.u.code 0).2 : Int)))) :
    Calls Tryz.prog 34 #[utV c] w fun e w' => HE er num w e w' := by
  have hlo : c.u.code.length ≤ 9223372036854775807 := hun.out.few.2
  go_enter Tryz.func34, Tryz.ntmps34
  go_wp2
  go_loopw [8] (fun v wr => ∃ k : Nat, v = .int .i64 k ∧ FmAt c w er num k wr) (fun v _ => c.u.code.length - (intOf v).toNat)
  case atStart => exact ⟨0, rfl, Nat.zero_le _, World.grownBy.refl _ _, hr.out⟩
  case round =>
    obtain ⟨k, rfl, hA⟩ := hrel
    have HA := hide hA
    have hk := hA.le
    clear hA
    by_cases hlt : k < c.u.code.length
    · obtain ⟨x, hx⟩ : ∃ x, c.u.code[k]? = some x := ⟨_, List.getElem?_eq_getElem hlt⟩
      have hlow : Low B w wr := fun j hj => (kept0 HA.out.grown (by simp; omega)).trans (Below.heap_alloc _ _ _ (by omega))
      obtain ⟨_, _, _, bl, ol, hal, hbl, i0, i1, i2⟩ := (hun.out.code.low hlow) k x hx
      have hub : wr.heap[w.heap.size]? = some (utO c) := (kept0 HA.out.grown (by simp)).trans (heap_alloc_new w _)
      obtain ⟨y0, y1, y2, y3, y4, y5, y6, y7⟩ := ut_cells hub
      have hwr : w.heap.size < wr.heap.size := lt_of_block hub
      have HMr : Hid (ModIn B (wr.alloc (insO x.op x.a x.n)) c.m c.ab c.au) := (hmd.out.low hlow).low (low0 (grown0_new (World.grownBy.refl _ _) _) (by omega))
      have HN : Hid ((er, num) = if Vf.formE c.m c.u x = 0 then ((Vf.firstE (Vf.formE c.m c.u) (c.u.code.drop (k + 1)) (k + 1)).1, ((Vf.firstE (Vf.formE c.m c.u) (c.u.code.drop (k + 1)) (k + 1)).2 : Int)) else (Vf.formE c.m c.u x, (k : Int))) := by
        unfold Hid
        rw [HA.out.rest, firstE_drop _ hx]
        split <;> rfl
      have HG : Hid (w.grownBy wr none) := grown0_tr' (grown0_new (World.grownBy.refl _ _) _) HA.out.grown
      have HAL := hide hal
      clear hx hub hlow hal
      rw [HAL.out]
      by_cases hop : x.op < 1 ∨ 32 < x.op
      · have HE1 : Hid (er = 1 ∧ num = (k : Int)) := by
          have h1 : Vf.formE c.m c.u x = 1 := by unfold Vf.formE; rw [if_pos hop]
          have := HN.out
          rw [h1] at this
          cases this
          exact ⟨rfl, rfl⟩
        rcases hop with hop | hop
        · have d1 : decide (x.op < 1) = true := by simpa using hop
          go_wp2_with fail
          refine (throw_any (k : Int) 1 _).mono ?_
          rintro e w2 ⟨rfl, rfl⟩
          go_wp2
          rw [HE1.out.1, HE1.out.2]
          exact ⟨rfl, grown0_new HG.out _, rfl⟩
        · have d1 : decide (x.op < 1) = false := by simp; omega
          have d2 : decide (32 < x.op) = true := by simpa using hop
          go_wp2_with fail
          refine (throw_any (k : Int) 1 _).mono ?_
          rintro e w2 ⟨rfl, rfl⟩
          go_wp2
          rw [HE1.out.1, HE1.out.2]
          exact ⟨rfl, grown0_new HG.out _, rfl⟩
      · have d1 : decide (x.op < 1) = false := by simp; omega
        have d2 : decide (32 < x.op) = false := by simp; omega
        obtain ⟨b, hb⟩ : ∃ b, b = Vf.ranged c.m c.u ⟨x.op, x.a, x.n⟩ := ⟨_, rfl⟩
        have HB := hide hb
        have HFE : Hid (Vf.formE c.m c.u x = if b = false then 3 else 0) := by unfold Hid; unfold Vf.formE; rw [if_neg hop, hb]
        clear hb hop
        go_wp2_with fail
        refine (ranged_any c B x.op x.a x.n _ HMr (by simp; omega) b HB).mono ?_
        rintro e w2 ⟨rfl, hg2⟩
        have HG2 : Hid ((w.alloc (utO c)).grownBy w2 none) := grown0_tr' (grown0_new HA.out.grown _) hg2
        have HG3 : Hid (w.grownBy w2 none) := grown0_tr' (grown0_new HG.out _) hg2
        clear hg2 y0 y1 y2 y3 y4 y5 y6 y7 i0 i1 i2
        cases b with
        | false =>
          have HE1 : Hid (er = 3 ∧ num = (k : Int)) := by
            have := HN.out
            rw [HFE.out] at this
            cases this
            exact ⟨rfl, rfl⟩
          go_wp2_with fail
          refine (throw_any (k : Int) 3 _).mono ?_
          rintro e w3 ⟨rfl, rfl⟩
          go_wp2
          rw [HE1.out.1, HE1.out.2]
          exact ⟨rfl, HG3.out, rfl⟩
        | true =>
          have HN2 : Hid ((er, num) = ((Vf.firstE (Vf.formE c.m c.u) (c.u.code.drop (k + 1)) (k + 1)).1, ((Vf.firstE (Vf.formE c.m c.u) (c.u.code.drop (k + 1)) (k + 1)).2 : Int))) := by
            have := HN.out
            rw [HFE.out] at this
            exact this
          go_wp2
          go_roundw
          case rel => exact ⟨k + 1, by go_num, hlt, HG2.out, HN2.out⟩
          case measure => simp [intOf]; omega
    · have HE1 : Hid (er = 0 ∧ num = 0) := by
        have := HA.out.rest
        rw [List.drop_eq_nil_of_le (by omega)] at this
        cases this
        exact ⟨rfl, rfl⟩
      have HG : Hid (w.grownBy wr none) := grown0_tr' (grown0_new (World.grownBy.refl _ _) _) HA.out.grown
      go_wp2
      go_end0
      rw [HE1.out.1, HE1.out.2]
      exact ⟨HG.out, rfl⟩

end Go.Proofs.YtnfbfdajdflfgaaGreat

