/- The document's answer, chapter 7, walked: WHAT ITS Head ANSWERS. -/
import Derived.Test.YtbkimpimoclobaaM26
namespace Go.Proofs.Ytbkimpimoclobaa
open Go.RowKit

theorem sized_iff {u : Vf.Un} : Vf.sized u = true ↔ u.locals.length ≤ 200 ∧ 0 ≤ u.params ∧ u.params ≤ 6 ∧ u.params ≤ u.locals.length ∧ (u.kind = 4 → u.params = 0) ∧ 0 < u.code.length ∧ u.code.length ≤ 4000 := by
  unfold Vf.sized
  simp only [Bool.and_eq_true, decide_eq_true_eq]
  by_cases h4 : u.kind = 4
  · have e4 : (u.kind == 4) = true := by simpa using h4
    rw [e4]
    simp only [if_true]
    omega
  · have e4 : (u.kind == 4) = false := by simpa using h4
    rw [e4]
    simp only [Bool.false_eq_true, if_false]
    omega

/-- What a look at the locals has come to. -/
structure RhAt (m : Vf.Md) (u : Vf.Un) (W0 : World) (er : Int) (k : Nat) (W : World) : Prop where
  le : k ≤ u.locals.length
  grown : W0.grownBy W none
  rest : er = if (u.locals.drop k).all (fun t => Vf.plain t || Vf.is m 3 (t - 10)) then 0 else 9


set_option maxRecDepth 100000 in
set_option maxHeartbeats 1000000 in
theorem rhead_kind (m : Vf.Md) (ab au : Option Addr) (cb cu : Nat) (u : Vf.Un) (al ac : Option Addr) (cl cc : Nat) (w : World) (h : Vf.kindly u = false) :
    Calls Try.prog 30 #[mdV m ab au cb cu, runV u al ac cl cc] w fun e w' => e = .returned (.int .i64 1) ∧ w.grownBy w' none := by
  have HG2 : Hid (w.grownBy ((w.alloc (amO m ab au cb cu)).alloc (unO u al ac cl cc)) none) := two_new _ _ _
  have hk : u.kind < 2 ∨ 4 < u.kind := by
    unfold Vf.kindly at h
    simp at h
    omega
  clear h
  rcases hk with hk | hk
  · skip
    go_enter Try.func30, Try.ntmps30
    go_wp2
    all_goals
      first
      | (exfalso; omega)
      | (go_ret; exact ⟨rfl, two_new _ _ _⟩)
  · have hk2 : ¬ u.kind < 2 := by omega
    go_enter Try.func30, Try.ntmps30
    go_wp2
    all_goals
      first
      | (exfalso; omega)
      | (go_ret; exact ⟨rfl, two_new _ _ _⟩)

set_option maxRecDepth 100000 in
set_option maxHeartbeats 2000000 in
theorem rhead_size (m : Vf.Md) (ab au : Option Addr) (cb cu : Nat) (u : Vf.Un) (al ac : Option Addr) (cl cc : Nat) (w : World) (h1 : Vf.kindly u = true) (h : Vf.sized u = false) :
    Calls Try.prog 30 #[mdV m ab au cb cu, runV u al ac cl cc] w fun e w' => e = .returned (.int .i64 5) ∧ w.grownBy w' none := by
  have HG2 : Hid (w.grownBy ((w.alloc (amO m ab au cb cu)).alloc (unO u al ac cl cc)) none) := two_new _ _ _
  have hk : ¬ u.kind < 2 ∧ ¬ 4 < u.kind := by
    unfold Vf.kindly at h1
    simp at h1
    omega
  obtain ⟨k1, k2⟩ := hk
  have hn : ¬ (u.locals.length ≤ 200 ∧ 0 ≤ u.params ∧ u.params ≤ 6 ∧ u.params ≤ u.locals.length ∧ (u.kind = 4 → u.params = 0) ∧ 0 < u.code.length ∧ u.code.length ≤ 4000) := fun hh => by
    rw [sized_iff.2 hh] at h
    cases h
  clear h h1
  have q1 : decide (u.kind < 2) = false := by simpa using k1
  have q2 : decide (4 < u.kind) = false := by simpa using k2
  by_cases g1 : (200 : Int) < (u.locals.length : Int)
  · have d1 : decide ((200 : Int) < (u.locals.length : Int)) = true := by simpa using g1
    clear hn k1 k2 g1
    go_enter Try.func30, Try.ntmps30
    go_wp2
    all_goals
      first
      | (exfalso; omega)
      | (go_ret; exact ⟨rfl, two_new _ _ _⟩)
  have d1 : decide ((200 : Int) < (u.locals.length : Int)) = false := by simpa using g1
  by_cases g2 : u.params < 0
  · have d2 : decide (u.params < 0) = true := by simpa using g2
    clear hn k1 k2 g1 g2
    go_enter Try.func30, Try.ntmps30
    go_wp2
    all_goals
      first
      | (exfalso; omega)
      | (go_ret; exact ⟨rfl, two_new _ _ _⟩)
  have d2 : decide (u.params < 0) = false := by simpa using g2
  by_cases g3 : 6 < u.params
  · have d3 : decide (6 < u.params) = true := by simpa using g3
    clear hn k1 k2 g1 g2 g3
    go_enter Try.func30, Try.ntmps30
    go_wp2
    all_goals
      first
      | (exfalso; omega)
      | (go_ret; exact ⟨rfl, two_new _ _ _⟩)
  have d3 : decide (6 < u.params) = false := by simpa using g3
  by_cases g4 : (u.locals.length : Int) < u.params
  · have d4 : decide ((u.locals.length : Int) < u.params) = true := by simpa using g4
    clear hn k1 k2 g1 g2 g3 g4
    go_enter Try.func30, Try.ntmps30
    go_wp2
    all_goals
      first
      | (exfalso; omega)
      | (go_ret; exact ⟨rfl, two_new _ _ _⟩)
  have d4 : decide ((u.locals.length : Int) < u.params) = false := by simpa using g4
  by_cases g5 : u.kind = 4 ∧ u.params ≠ 0
  · obtain ⟨g5, g6⟩ := g5
    have e4 : (u.kind == 4) = true := by simpa using g5
    have e5 : (u.params != 0) = true := by simpa using g6
    clear hn g5 g6 k1 k2 g1 g2 g3 g4
    go_enter Try.func30, Try.ntmps30
    go_wp2
    all_goals
      first
      | (exfalso; omega)
      | (go_ret; exact ⟨rfl, two_new _ _ _⟩)
  have e45 : (u.kind == 4) = false ∨ ((u.kind == 4) = true ∧ (u.params != 0) = false) := by
    by_cases h4 : u.kind = 4
    · right
      have : u.params = 0 := Classical.byContradiction fun hh => g5 ⟨h4, hh⟩
      simp [h4, this]
    · left
      simpa using h4
  by_cases g6 : (u.code.length : Int) = 0
  · have e6 : ((u.code.length : Int) == 0) = true := by simpa using g6
    clear hn g5 g6 k1 k2 g1 g2 g3 g4
    rcases e45 with e4 | ⟨e4, e5⟩
    · skip
      go_enter Try.func30, Try.ntmps30
      go_wp2
      all_goals
        first
        | (exfalso; omega)
        | (go_ret; exact ⟨rfl, two_new _ _ _⟩)
    · skip
      go_enter Try.func30, Try.ntmps30
      go_wp2
      all_goals
        first
        | (exfalso; omega)
        | (go_ret; exact ⟨rfl, two_new _ _ _⟩)
  · have e6 : ((u.code.length : Int) == 0) = false := by simpa using g6
    have g7 : (4000 : Int) < (u.code.length : Int) := by
      refine Classical.byContradiction fun hh => hn ⟨by omega, by omega, by omega, by omega, fun h4 => ?_, by omega, by omega⟩
      exact Classical.byContradiction fun h5 => g5 ⟨h4, h5⟩
    have d7 : decide ((4000 : Int) < (u.code.length : Int)) = true := by simpa using g7
    clear hn g5 g6 k1 k2 g1 g2 g3 g4 g7
    rcases e45 with e4 | ⟨e4, e5⟩
    · skip
      go_enter Try.func30, Try.ntmps30
      go_wp2
      all_goals
        first
        | (exfalso; omega)
        | (go_ret; exact ⟨rfl, two_new _ _ _⟩)
    · skip
      go_enter Try.func30, Try.ntmps30
      go_wp2
      all_goals
        first
        | (exfalso; omega)
        | (go_ret; exact ⟨rfl, two_new _ _ _⟩)

end Go.Proofs.Ytbkimpimoclobaa

/- The document's answer, chapter 7, walked: WHAT ITS Head ANSWERS. -/
namespace Go.Proofs.Ytbkimpimoclobaa
open Go.RowKit


set_option maxRecDepth 100000 in
set_option maxHeartbeats 4000000 in
theorem rhead_type (m : Vf.Md) (ab au : Option Addr) (cb cu B : Nat) (u : Vf.Un) (al ac : Option Addr) (cl cc : Nat) (w : World) (hmd : Hid (ModIn B w m ab au)) (hun : Hid (UnIn B w u al ac cl cc)) (hB : B ≤ w.heap.size) (hmu : m.units.length ≤ 30) (h1 : Vf.kindly u = true) (h2 : Vf.sized u = true) (er : Int) (hr : Hid (er = if Vf.typed m u = true then 0 else 9)) :
    Calls Try.prog 30 #[mdV m ab au cb cu, runV u al ac cl cc] w fun e w' => e = .returned (.int .i64 er) ∧ w.grownBy w' none := by
  obtain ⟨W0, hW0⟩ : ∃ W0 : World, (w.alloc (amO m ab au cb cu)).alloc (unO u al ac cl cc) = W0 := ⟨_, rfl⟩
  have HG2 : Hid (w.grownBy W0 none) := by rw [← hW0]; exact two_new _ _ _
  have HMB : Hid (W0.heap[w.heap.size]? = some (amO m ab au cb cu)) := by rw [← hW0]; exact (Below.heap_alloc _ _ _ (by simp)).trans (heap_alloc_new w _)
  have HW0 := hide hW0
  clear hW0
  have hk : ¬ u.kind < 2 ∧ ¬ 4 < u.kind := by
    unfold Vf.kindly at h1
    simp at h1
    omega
  obtain ⟨k1, k2⟩ := hk
  obtain ⟨s1, s2, s3, s4, s5, s6, s7⟩ := sized_iff.1 h2
  have q1 : decide (u.kind < 2) = false := by simpa using k1
  have q2 : decide (4 < u.kind) = false := by simpa using k2
  have d1 : decide ((200 : Int) < (u.locals.length : Int)) = false := by simp; omega
  have d2 : decide (u.params < 0) = false := by simp; omega
  have d3 : decide (6 < u.params) = false := by simp; omega
  have d4 : decide ((u.locals.length : Int) < u.params) = false := by simp; omega
  have e6 : ((u.code.length : Int) == 0) = false := by rw [beq_eq_false_iff_ne]; omega
  have d7 : decide ((4000 : Int) < (u.code.length : Int)) = false := by simp; omega
  have HB : Hid (er = if (((u.kind == 4 || Vf.plain u.result) && (u.kind != 3 || Vf.plain u.takes)) && u.locals.all (fun t => Vf.plain t || Vf.is m 3 (t - 10))) = true then 0 else 9) := hr.out
  obtain ⟨p1, hp1⟩ : ∃ p, p = Vf.plain u.result := ⟨_, rfl⟩
  obtain ⟨p2, hp2⟩ : ∃ p, p = Vf.plain u.takes := ⟨_, rfl⟩
  rw [← hp1, ← hp2] at HB
  have HP1 := hide hp1
  have HP2 := hide hp2
  have HS5 := hide s5
  clear hr hp1 hp2 h1 h2 k1 k2 s2 s3 s4 s5 s6 s7
  cases e4 : (u.kind == 4) with
  | true =>
    have e4' : (u.kind != 4) = false := by simp at e4; simp [e4]
    have e3 : (u.kind == 3) = false := by simp at e4; simp [e4]
    have e3' : (u.kind != 3) = true := by simp at e4; simp [e4]
    have e5 : (u.params != 0) = false := by have := HS5.out (by simpa using e4); simp [this]
    have HT : Hid (er = if (u.locals.drop 0).all (fun t => Vf.plain t || Vf.is m 3 (t - 10)) then 0 else 9) := by unfold Hid; rw [HB.out, e4, e3']; simp
    go_enter Try.func30, Try.ntmps30
    go_wp2_with fail
    go_loopw [82] (fun v wr => ∃ k : Nat, v = .int .i64 k ∧ RhAt m u W0 er k wr) (fun v _ => u.locals.length - (intOf v).toNat)
    case atStart => exact ⟨0, rfl, Nat.zero_le _, by rw [← HW0.out]; exact World.grownBy.refl _ _, HT.out⟩
    case round =>
      obtain ⟨k, rfl, hA⟩ := hrel
      have HA := hide hA
      have hk := hA.le
      clear hA
      have HG : Hid (w.grownBy wr none) := grown0_tr' HG2.out HA.out.grown
      by_cases hlt : k < u.locals.length
      · obtain ⟨t, ht⟩ : ∃ t, u.locals[k]? = some t := ⟨_, List.getElem?_eq_getElem hlt⟩
        have hlow : Low B w wr := low0 HG.out hB
        obtain ⟨h64, bl, ol, hal, hbl, ct⟩ := (hun.out.locals.low hlow) k t ht
        have hub : wr.heap[w.heap.size]? = some (amO m ab au cb cu) := (kept0 HA.out.grown (lt_of_block HMB.out)).trans HMB.out
        obtain ⟨y0, y1, _⟩ := am_cells hub
        have HMr : Hid (ModIn B wr m ab au) := hmd.out.low hlow
        have hwr : w.heap.size < wr.heap.size := lt_of_block hub
        have HN : Hid (er = if ((Vf.plain t || Vf.is m 3 (t - 10)) && (u.locals.drop (k + 1)).all (fun t => Vf.plain t || Vf.is m 3 (t - 10))) then 0 else 9) := by
          unfold Hid
          obtain ⟨hk', hte⟩ := List.getElem?_eq_some_iff.1 ht
          rw [HA.out.rest, List.drop_eq_getElem_cons hk', hte, List.all_cons]
        obtain ⟨p, hp⟩ : ∃ p, p = Vf.plain t := ⟨_, rfl⟩
        rw [← hp] at HN
        have HPP := hide hp
        have H64 := hide h64
        have HAL := hide hal
        clear ht hub hlow h64 hp
        rw [HAL.out]
        cases p with
        | true =>
          have HN2 : Hid (er = if (u.locals.drop (k + 1)).all (fun t => Vf.plain t || Vf.is m 3 (t - 10)) then 0 else 9) := by rw [HN.out]; rfl
          go_wp2_with fail
          refine (rplain_any t _ true HPP).mono ?_
          rintro e w2 ⟨rfl, rfl⟩
          go_wp2
          go_roundw
          case rel => exact ⟨k + 1, by go_num, hlt, HA.out.grown, HN2.out⟩
          case measure => simp [intOf]; omega
        | false =>
          by_cases ht10 : t < 10
          · have d10 : decide (t < 10) = true := by simpa using ht10
            have HN2 : Hid (er = 9) := by
              unfold Hid
              rw [HN.out, is_neg (by omega)]
              rfl
            go_wp2_with fail
            refine (rplain_any t _ false HPP).mono ?_
            rintro e w2 ⟨rfl, rfl⟩
            go_wp2
            go_ret
            rw [HN2.out]
            exact ⟨rfl, HG.out⟩
          · have d10 : decide (t < 10) = false := by simpa using ht10
            obtain ⟨q, hq⟩ : ∃ q, q = Vf.is m 3 (t - 10) := ⟨_, rfl⟩
            have HN2 : Hid (er = if (q && (u.locals.drop (k + 1)).all (fun t => Vf.plain t || Vf.is m 3 (t - 10))) then 0 else 9) := by rw [HN.out, hq]; rfl
            obtain ⟨d, hd⟩ : ∃ d : Int, d = IntKind.i64.wrap (t - 10) := ⟨_, rfl⟩
            have HQ : Hid (q = Vf.is m 3 d) := by
              unfold Hid
              rw [hq, hd]
              exact is_wrap hmu H64.out
            have hd' := hd.symm
            clear hd hq ht10
            go_wp2_with fail
            refine (rplain_any t _ false HPP).mono ?_
            rintro e w2 ⟨rfl, rfl⟩
            go_wp2_with fail
            refine (ris_any m ab au cb cu B 3 d _ HMr (by omega) q HQ).mono ?_
            rintro e w3 ⟨rfl, rfl⟩
            cases q with
            | true =>
              have HN3 : Hid (er = if (u.locals.drop (k + 1)).all (fun t => Vf.plain t || Vf.is m 3 (t - 10)) then 0 else 9) := by rw [HN2.out]; rfl
              go_wp2
              go_roundw
              case rel => exact ⟨k + 1, by go_num, hlt, grown0_new HA.out.grown _, HN3.out⟩
              case measure => simp [intOf]; omega
            | false =>
              have HN3 : Hid (er = 9) := by rw [HN2.out]; rfl
              go_wp2
              go_ret
              rw [HN3.out]
              exact ⟨rfl, grown0_new HG.out _⟩
      · have HN : Hid (er = 0) := by unfold Hid; rw [HA.out.rest, List.drop_eq_nil_of_le (by omega)]; rfl
        go_wp2
        go_ret
        rw [HN.out]
        exact ⟨rfl, HG.out⟩
  | false =>
    have e4' : (u.kind != 4) = true := by simp at e4; simp [e4]
    cases p1 with
    | false =>
      have HN : Hid (er = 9) := by rw [HB.out, e4]; rfl
      go_enter Try.func30, Try.ntmps30
      go_wp2_with fail
      refine (rplain_any u.result _ false HP1).mono ?_
      rintro e w2 ⟨rfl, rfl⟩
      go_wp2
      go_ret
      rw [HN.out]
      exact ⟨rfl, two_new _ _ _⟩
    | true =>
      cases e3 : (u.kind == 3) with
      | false =>
        have e3' : (u.kind != 3) = true := by simp at e3; simp [e3]
        have HT : Hid (er = if (u.locals.drop 0).all (fun t => Vf.plain t || Vf.is m 3 (t - 10)) then 0 else 9) := by unfold Hid; rw [HB.out, e4, e3']; simp
        go_enter Try.func30, Try.ntmps30
        go_wp2_with fail
        refine (rplain_any u.result _ true HP1).mono ?_
        rintro e w2 ⟨rfl, rfl⟩
        go_wp2_with fail
        go_loopw [82] (fun v wr => ∃ k : Nat, v = .int .i64 k ∧ RhAt m u W0 er k wr) (fun v _ => u.locals.length - (intOf v).toNat)
        case atStart => exact ⟨0, rfl, Nat.zero_le _, by rw [← HW0.out]; exact World.grownBy.refl _ _, HT.out⟩
        case round =>
          obtain ⟨k, rfl, hA⟩ := hrel
          have HA := hide hA
          have hk := hA.le
          clear hA
          have HG : Hid (w.grownBy wr none) := grown0_tr' HG2.out HA.out.grown
          by_cases hlt : k < u.locals.length
          · obtain ⟨t, ht⟩ : ∃ t, u.locals[k]? = some t := ⟨_, List.getElem?_eq_getElem hlt⟩
            have hlow : Low B w wr := low0 HG.out hB
            obtain ⟨h64, bl, ol, hal, hbl, ct⟩ := (hun.out.locals.low hlow) k t ht
            have hub : wr.heap[w.heap.size]? = some (amO m ab au cb cu) := (kept0 HA.out.grown (lt_of_block HMB.out)).trans HMB.out
            obtain ⟨y0, y1, _⟩ := am_cells hub
            have HMr : Hid (ModIn B wr m ab au) := hmd.out.low hlow
            have hwr : w.heap.size < wr.heap.size := lt_of_block hub
            have HN : Hid (er = if ((Vf.plain t || Vf.is m 3 (t - 10)) && (u.locals.drop (k + 1)).all (fun t => Vf.plain t || Vf.is m 3 (t - 10))) then 0 else 9) := by
              unfold Hid
              obtain ⟨hk', hte⟩ := List.getElem?_eq_some_iff.1 ht
              rw [HA.out.rest, List.drop_eq_getElem_cons hk', hte, List.all_cons]
            obtain ⟨p, hp⟩ : ∃ p, p = Vf.plain t := ⟨_, rfl⟩
            rw [← hp] at HN
            have HPP := hide hp
            have H64 := hide h64
            have HAL := hide hal
            clear ht hub hlow h64 hp
            rw [HAL.out]
            cases p with
            | true =>
              have HN2 : Hid (er = if (u.locals.drop (k + 1)).all (fun t => Vf.plain t || Vf.is m 3 (t - 10)) then 0 else 9) := by rw [HN.out]; rfl
              go_wp2_with fail
              refine (rplain_any t _ true HPP).mono ?_
              rintro e w2 ⟨rfl, rfl⟩
              go_wp2
              go_roundw
              case rel => exact ⟨k + 1, by go_num, hlt, HA.out.grown, HN2.out⟩
              case measure => simp [intOf]; omega
            | false =>
              by_cases ht10 : t < 10
              · have d10 : decide (t < 10) = true := by simpa using ht10
                have HN2 : Hid (er = 9) := by
                  unfold Hid
                  rw [HN.out, is_neg (by omega)]
                  rfl
                go_wp2_with fail
                refine (rplain_any t _ false HPP).mono ?_
                rintro e w2 ⟨rfl, rfl⟩
                go_wp2
                go_ret
                rw [HN2.out]
                exact ⟨rfl, HG.out⟩
              · have d10 : decide (t < 10) = false := by simpa using ht10
                obtain ⟨q, hq⟩ : ∃ q, q = Vf.is m 3 (t - 10) := ⟨_, rfl⟩
                have HN2 : Hid (er = if (q && (u.locals.drop (k + 1)).all (fun t => Vf.plain t || Vf.is m 3 (t - 10))) then 0 else 9) := by rw [HN.out, hq]; rfl
                obtain ⟨d, hd⟩ : ∃ d : Int, d = IntKind.i64.wrap (t - 10) := ⟨_, rfl⟩
                have HQ : Hid (q = Vf.is m 3 d) := by
                  unfold Hid
                  rw [hq, hd]
                  exact is_wrap hmu H64.out
                have hd' := hd.symm
                clear hd hq ht10
                go_wp2_with fail
                refine (rplain_any t _ false HPP).mono ?_
                rintro e w2 ⟨rfl, rfl⟩
                go_wp2_with fail
                refine (ris_any m ab au cb cu B 3 d _ HMr (by omega) q HQ).mono ?_
                rintro e w3 ⟨rfl, rfl⟩
                cases q with
                | true =>
                  have HN3 : Hid (er = if (u.locals.drop (k + 1)).all (fun t => Vf.plain t || Vf.is m 3 (t - 10)) then 0 else 9) := by rw [HN2.out]; rfl
                  go_wp2
                  go_roundw
                  case rel => exact ⟨k + 1, by go_num, hlt, grown0_new HA.out.grown _, HN3.out⟩
                  case measure => simp [intOf]; omega
                | false =>
                  have HN3 : Hid (er = 9) := by rw [HN2.out]; rfl
                  go_wp2
                  go_ret
                  rw [HN3.out]
                  exact ⟨rfl, grown0_new HG.out _⟩
          · have HN : Hid (er = 0) := by unfold Hid; rw [HA.out.rest, List.drop_eq_nil_of_le (by omega)]; rfl
            go_wp2
            go_ret
            rw [HN.out]
            exact ⟨rfl, HG.out⟩
      | true =>
        have e3' : (u.kind != 3) = false := by simp at e3; simp [e3]
        cases p2 with
        | false =>
          have HN : Hid (er = 9) := by rw [HB.out, e4, e3']; rfl
          go_enter Try.func30, Try.ntmps30
          go_wp2_with fail
          refine (rplain_any u.result _ true HP1).mono ?_
          rintro e w2 ⟨rfl, rfl⟩
          go_wp2_with fail
          refine (rplain_any u.takes _ false HP2).mono ?_
          rintro e w3 ⟨rfl, rfl⟩
          go_wp2
          go_ret
          rw [HN.out]
          exact ⟨rfl, two_new _ _ _⟩
        | true =>
          have HT : Hid (er = if (u.locals.drop 0).all (fun t => Vf.plain t || Vf.is m 3 (t - 10)) then 0 else 9) := by unfold Hid; rw [HB.out, e4, e3']; simp
          go_enter Try.func30, Try.ntmps30
          go_wp2_with fail
          refine (rplain_any u.result _ true HP1).mono ?_
          rintro e w2 ⟨rfl, rfl⟩
          go_wp2_with fail
          refine (rplain_any u.takes _ true HP2).mono ?_
          rintro e w3 ⟨rfl, rfl⟩
          go_wp2_with fail
          go_loopw [82] (fun v wr => ∃ k : Nat, v = .int .i64 k ∧ RhAt m u W0 er k wr) (fun v _ => u.locals.length - (intOf v).toNat)
          case atStart => exact ⟨0, rfl, Nat.zero_le _, by rw [← HW0.out]; exact World.grownBy.refl _ _, HT.out⟩
          case round =>
            obtain ⟨k, rfl, hA⟩ := hrel
            have HA := hide hA
            have hk := hA.le
            clear hA
            have HG : Hid (w.grownBy wr none) := grown0_tr' HG2.out HA.out.grown
            by_cases hlt : k < u.locals.length
            · obtain ⟨t, ht⟩ : ∃ t, u.locals[k]? = some t := ⟨_, List.getElem?_eq_getElem hlt⟩
              have hlow : Low B w wr := low0 HG.out hB
              obtain ⟨h64, bl, ol, hal, hbl, ct⟩ := (hun.out.locals.low hlow) k t ht
              have hub : wr.heap[w.heap.size]? = some (amO m ab au cb cu) := (kept0 HA.out.grown (lt_of_block HMB.out)).trans HMB.out
              obtain ⟨y0, y1, _⟩ := am_cells hub
              have HMr : Hid (ModIn B wr m ab au) := hmd.out.low hlow
              have hwr : w.heap.size < wr.heap.size := lt_of_block hub
              have HN : Hid (er = if ((Vf.plain t || Vf.is m 3 (t - 10)) && (u.locals.drop (k + 1)).all (fun t => Vf.plain t || Vf.is m 3 (t - 10))) then 0 else 9) := by
                unfold Hid
                obtain ⟨hk', hte⟩ := List.getElem?_eq_some_iff.1 ht
                rw [HA.out.rest, List.drop_eq_getElem_cons hk', hte, List.all_cons]
              obtain ⟨p, hp⟩ : ∃ p, p = Vf.plain t := ⟨_, rfl⟩
              rw [← hp] at HN
              have HPP := hide hp
              have H64 := hide h64
              have HAL := hide hal
              clear ht hub hlow h64 hp
              rw [HAL.out]
              cases p with
              | true =>
                have HN2 : Hid (er = if (u.locals.drop (k + 1)).all (fun t => Vf.plain t || Vf.is m 3 (t - 10)) then 0 else 9) := by rw [HN.out]; rfl
                go_wp2_with fail
                refine (rplain_any t _ true HPP).mono ?_
                rintro e w2 ⟨rfl, rfl⟩
                go_wp2
                go_roundw
                case rel => exact ⟨k + 1, by go_num, hlt, HA.out.grown, HN2.out⟩
                case measure => simp [intOf]; omega
              | false =>
                by_cases ht10 : t < 10
                · have d10 : decide (t < 10) = true := by simpa using ht10
                  have HN2 : Hid (er = 9) := by
                    unfold Hid
                    rw [HN.out, is_neg (by omega)]
                    rfl
                  go_wp2_with fail
                  refine (rplain_any t _ false HPP).mono ?_
                  rintro e w2 ⟨rfl, rfl⟩
                  go_wp2
                  go_ret
                  rw [HN2.out]
                  exact ⟨rfl, HG.out⟩
                · have d10 : decide (t < 10) = false := by simpa using ht10
                  obtain ⟨q, hq⟩ : ∃ q, q = Vf.is m 3 (t - 10) := ⟨_, rfl⟩
                  have HN2 : Hid (er = if (q && (u.locals.drop (k + 1)).all (fun t => Vf.plain t || Vf.is m 3 (t - 10))) then 0 else 9) := by rw [HN.out, hq]; rfl
                  obtain ⟨d, hd⟩ : ∃ d : Int, d = IntKind.i64.wrap (t - 10) := ⟨_, rfl⟩
                  have HQ : Hid (q = Vf.is m 3 d) := by
                    unfold Hid
                    rw [hq, hd]
                    exact is_wrap hmu H64.out
                  have hd' := hd.symm
                  clear hd hq ht10
                  go_wp2_with fail
                  refine (rplain_any t _ false HPP).mono ?_
                  rintro e w2 ⟨rfl, rfl⟩
                  go_wp2_with fail
                  refine (ris_any m ab au cb cu B 3 d _ HMr (by omega) q HQ).mono ?_
                  rintro e w3 ⟨rfl, rfl⟩
                  cases q with
                  | true =>
                    have HN3 : Hid (er = if (u.locals.drop (k + 1)).all (fun t => Vf.plain t || Vf.is m 3 (t - 10)) then 0 else 9) := by rw [HN2.out]; rfl
                    go_wp2
                    go_roundw
                    case rel => exact ⟨k + 1, by go_num, hlt, grown0_new HA.out.grown _, HN3.out⟩
                    case measure => simp [intOf]; omega
                  | false =>
                    have HN3 : Hid (er = 9) := by rw [HN2.out]; rfl
                    go_wp2
                    go_ret
                    rw [HN3.out]
                    exact ⟨rfl, grown0_new HG.out _⟩
            · have HN : Hid (er = 0) := by unfold Hid; rw [HA.out.rest, List.drop_eq_nil_of_le (by omega)]; rfl
              go_wp2
              go_ret
              rw [HN.out]
              exact ⟨rfl, HG.out⟩

theorem rhead_any (m : Vf.Md) (ab au : Option Addr) (cb cu B : Nat) (u : Vf.Un) (al ac : Option Addr) (cl cc : Nat) (w : World) (hmd : Hid (ModIn B w m ab au)) (hun : Hid (UnIn B w u al ac cl cc)) (hB : B ≤ w.heap.size) (hmu : m.units.length ≤ 30) (er : Int) (hr : Hid (er = Vf.headE m u)) :
    Calls Try.prog 30 #[mdV m ab au cb cu, runV u al ac cl cc] w fun e w' => e = .returned (.int .i64 er) ∧ w.grownBy w' none := by
  have HR := hr.out
  unfold Vf.headE at HR
  cases h1 : Vf.kindly u with
  | false =>
    rw [HR, if_pos h1]
    exact rhead_kind m ab au cb cu u al ac cl cc w h1
  | true =>
    rw [if_neg (by rw [h1]; decide)] at HR
    cases h2 : Vf.sized u with
    | false =>
      rw [HR, if_pos h2]
      exact rhead_size m ab au cb cu u al ac cl cc w h1 h2
    | true =>
      rw [if_neg (by rw [h2]; decide)] at HR
      refine rhead_type m ab au cb cu B u al ac cl cc w hmd hun hB hmu h1 h2 er ?_
      unfold Hid
      rw [HR]
      cases Vf.typed m u <;> rfl

end Go.Proofs.Ytbkimpimoclobaa

