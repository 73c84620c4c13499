/- The walks of sizes, boxes, tasks. -/
import Derived.Test.YtbkimpimoclobaaM32
namespace Go.Proofs.Ytbkimpimoclobaa
open Go.RowKit
namespace Vf
def sizesE (m : Md) : Int := if 30 < m.boxes.length ∨ 30 < m.units.length then 5 else 0
def boxE (b : Bx) : Int := if plain b.ty = false then 9 else if b.cap < 1 ∨ 20 < b.cap then 3 else 0
def boxesW (m : Md) : Int × Nat := firstE boxE m.boxes 0
def tasksE (m : Md) : Int := if m.units.any (fun u => u.kind == 4) then 0 else 6
end Vf

set_option maxRecDepth 100000 in
set_option maxHeartbeats 2000000 in
theorem sizes_any (m : Vf.Md) (ab au : Option Addr) (cb cu : Nat) (w : World) (er : Int) (hr : Hid (er = Vf.sizesE m)) :
    Calls Try.prog 11 #[mdV m ab au cb cu] w fun e w' => e = .returned (whV er 0 0) ∧ w.grownBy w' none := by
  go_enter Try.func11, Try.ntmps11
  go_wp2
  all_goals
    first
    | (refine bodyPost_ret (v := whV 5 0 0) (by simp [results, Try.results11, go_sem]) rfl ?_; have HE : er = 5 := (by rw [hr.out, Vf.sizesE, if_pos (by omega)]); rw [HE]; exact ⟨rfl, two_new _ _ _⟩)
    | (refine bodyPost_ret (v := whV 0 0 0) (by simp [results, Try.results11, go_sem]) rfl ?_; have HE : er = 0 := (by rw [hr.out, Vf.sizesE, if_neg (by omega)]); rw [HE]; exact ⟨rfl, two_new _ _ _⟩)

/-- At the head of boxes's loop. -/
structure BxAt (m : Vf.Md) (W0 : World) (er num : Int) (k : Nat) (W : World) : Prop where
  le : k ≤ m.boxes.length
  grown : W0.grownBy W none
  rest : (er, num) = ((Vf.firstE Vf.boxE (m.boxes.drop k) k).1, ((Vf.firstE Vf.boxE (m.boxes.drop k) k).2 : Int))

set_option maxRecDepth 100000 in
set_option maxHeartbeats 2000000 in
theorem boxes_any (m : Vf.Md) (ab au : Option Addr) (cb cu B : Nat) (w : World) (hmd : Hid (ModIn B w m ab au)) (hB : B ≤ w.heap.size) (er num : Int) (hr : Hid ((er, num) = ((Vf.boxesW m).1, ((Vf.boxesW m).2 : Int)))) :
    Calls Try.prog 12 #[mdV m ab au cb cu] w fun e w' => e = .returned (whV er 0 num) ∧ w.grownBy w' none := by
  have hfew := hmd.out.few.1
  obtain ⟨W0, hW0⟩ : ∃ W0 : World, (w.alloc (mdO m ab au cb cu)).alloc whZ = W0 := ⟨_, rfl⟩
  have HT : Hid (w.grownBy W0 none) := by rw [← hW0]; exact two_new _ _ _
  have HWZ : Hid (W0.heap[w.heap.size + 1]? = some whZ) := by rw [← hW0]; exact new1 _ _ _
  have HW0 := hide hW0
  clear hW0
  go_enter Try.func12, Try.ntmps12
  go_wp2
  go_loopw [9] (fun v wr => ∃ k : Nat, v = .int .i64 k ∧ BxAt m W0 er num k wr) (fun v _ => m.boxes.length - (intOf v).toNat)
  case atStart => exact ⟨0, rfl, Nat.zero_le _, by rw [← HW0.out]; exact World.grownBy.refl _ _, hr.out⟩
  case round =>
    obtain ⟨k, rfl, hA⟩ := hrel
    have HA := hide hA
    have hk := hA.le
    have HG : Hid (w.grownBy wr none) := grown0_tr' HT.out HA.out.grown
    have hwz : wr.heap[w.heap.size + 1]? = some whZ := (kept0 HA.out.grown (lt_of_block HWZ.out)).trans HWZ.out
    obtain ⟨⟨z0, z1, z2⟩, y0, y1, y2⟩ := wh_cells hwz
    have hzl := lt_of_block hwz
    have HWW := hide hwz
    clear hA hwz
    by_cases hlt : k < m.boxes.length
    · obtain ⟨x, hx⟩ : ∃ x, m.boxes[k]? = some x := ⟨_, List.getElem?_eq_getElem hlt⟩
      obtain ⟨i1, i2, b, off, ha, hb, b0, b1⟩ := (hmd.out.low (low0 HG.out hB)).boxes k x hx
      have HN : Hid ((er, num) = if Vf.boxE x = 0 then ((Vf.firstE Vf.boxE (m.boxes.drop (k + 1)) (k + 1)).1, ((Vf.firstE Vf.boxE (m.boxes.drop (k + 1)) (k + 1)).2 : Int)) else (Vf.boxE x, (k : Int))) := by
        unfold Hid
        rw [HA.out.rest, firstE_drop _ hx]
        split <;> rfl
      have HAB := hide ha
      obtain ⟨p, hp⟩ : ∃ p, p = Vf.plain x.ty := ⟨_, rfl⟩
      have HP := hide hp
      have HOE : Hid (Vf.boxE x = if p = false then 9 else if x.cap < 1 ∨ 20 < x.cap then 3 else 0) := by unfold Hid; unfold Vf.boxE; rw [hp]
      have hk1 : (k : Int) < (m.boxes.length : Int) := by omega
      clear hx ha hp
      rw [HAB.out]
      go_wp2_with fail
      refine (plain_any x.ty _ p HP).mono ?_
      rintro e w2 ⟨rfl, hw2⟩
      subst hw2
      cases p with
      | false =>
        have HE : Hid (er = 9 ∧ num = (k : Int)) := by
          have h1 := HN.out
          have ho : Vf.boxE x = 9 := HOE.out
          rw [ho, if_neg (by decide)] at h1
          cases h1
          exact ⟨rfl, rfl⟩
        go_wp2
        have hX := wh_set HWW.out (.int .i64 9) (.int .i64 0) (.int .i64 (k : Int))
        obtain ⟨⟨g0, g1, g2⟩, _⟩ := wh_cells ((Below.heap_alloc _ (.cells #[.int .i64 x.ty, .int .i64 x.cap] 37) _ (lt_of_block hX)).trans hX)
        refine bodyPost_ret (v := whV 9 0 (k : Int)) (by simp [results, Try.results12, go_sem, g0, g1, g2]) rfl ?_
        rw [HE.out.1, HE.out.2]
        exact ⟨rfl, grown0_new (grown0_setN (grown0_setN (grown0_setN HG.out (by omega) _ _) (by omega) _ _) (by omega) _ _) _⟩
      | true =>
        by_cases hc : x.cap < 1 ∨ 20 < x.cap
        · have HE : Hid (er = 3 ∧ num = (k : Int)) := by
            have h1 := HN.out
            have ho : Vf.boxE x = 3 := by rw [HOE.out, if_neg (by decide), if_pos hc]
            rw [ho, if_neg (by decide)] at h1
            cases h1
            exact ⟨rfl, rfl⟩
          rcases hc with hc | hc
          · have d1 : decide (x.cap < 1) = true := by simpa using hc
            go_wp2
            have hX := wh_set HWW.out (.int .i64 3) (.int .i64 0) (.int .i64 (k : Int))
            obtain ⟨⟨g0, g1, g2⟩, _⟩ := wh_cells ((Below.heap_alloc _ (.cells #[.int .i64 x.ty, .int .i64 x.cap] 37) _ (lt_of_block hX)).trans hX)
            refine bodyPost_ret (v := whV 3 0 (k : Int)) (by simp [results, Try.results12, go_sem, g0, g1, g2]) rfl ?_
            rw [HE.out.1, HE.out.2]
            exact ⟨rfl, grown0_new (grown0_setN (grown0_setN (grown0_setN HG.out (by omega) _ _) (by omega) _ _) (by omega) _ _) _⟩
          · have d1 : decide (x.cap < 1) = false := by simp; omega
            have d2 : decide (20 < x.cap) = true := by simpa using hc
            go_wp2
            have hX := wh_set HWW.out (.int .i64 3) (.int .i64 0) (.int .i64 (k : Int))
            obtain ⟨⟨g0, g1, g2⟩, _⟩ := wh_cells ((Below.heap_alloc _ (.cells #[.int .i64 x.ty, .int .i64 x.cap] 37) _ (lt_of_block hX)).trans hX)
            refine bodyPost_ret (v := whV 3 0 (k : Int)) (by simp [results, Try.results12, go_sem, g0, g1, g2]) rfl ?_
            rw [HE.out.1, HE.out.2]
            exact ⟨rfl, grown0_new (grown0_setN (grown0_setN (grown0_setN HG.out (by omega) _ _) (by omega) _ _) (by omega) _ _) _⟩
        · have d1 : decide (x.cap < 1) = false := by simp; omega
          have d2 : decide (20 < x.cap) = false := by simp; omega
          have HE : Hid ((er, num) = ((Vf.firstE Vf.boxE (m.boxes.drop (k + 1)) (k + 1)).1, ((Vf.firstE Vf.boxE (m.boxes.drop (k + 1)) (k + 1)).2 : Int))) := by
            have h1 := HN.out
            have ho : Vf.boxE x = 0 := by rw [HOE.out, if_neg (by decide), if_neg hc]
            rw [ho, if_pos rfl] at h1
            exact h1
          clear hc
          go_wp2
          go_roundw
          case rel => exact ⟨k + 1, by go_num, hlt, grown0_new HA.out.grown _, HE.out⟩
          case measure => simp [intOf]; omega
    · have HE : Hid (er = 0 ∧ num = 0) := by
        have h1 := HA.out.rest
        rw [List.drop_eq_nil_of_le (by omega)] at h1
        cases h1
        exact ⟨rfl, rfl⟩
      go_wp2
      refine bodyPost_ret (v := whV 0 0 0) (by simp [results, Try.results12, go_sem, z0, z1, z2]) rfl ?_
      rw [HE.out.1, HE.out.2]
      exact ⟨rfl, grown0_setN (grown0_setN (grown0_setN HG.out (by omega) _ _) (by omega) _ _) (by omega) _ _⟩

/-- At the head of tasks's loop. -/
structure TsAt (m : Vf.Md) (W0 : World) (er : Int) (k : Nat) (W : World) : Prop where
  le : k ≤ m.units.length
  grown : W0.grownBy W none
  rest : er = if (m.units.drop k).any (fun u => u.kind == 4) then 0 else 6

set_option maxRecDepth 100000 in
set_option maxHeartbeats 2000000 in
theorem tasks_any (m : Vf.Md) (ab au : Option Addr) (cb cu B : Nat) (w : World) (hmd : Hid (ModIn B w m ab au)) (hB : B ≤ w.heap.size) (er : Int) (hr : Hid (er = Vf.tasksE m)) :
    Calls Try.prog 14 #[mdV m ab au cb cu] w fun e w' => e = .returned (whV er 0 0) ∧ w.grownBy w' none := by
  have hfew := hmd.out.few.2
  obtain ⟨W0, hW0⟩ : ∃ W0 : World, (w.alloc (mdO m ab au cb cu)).alloc whZ = W0 := ⟨_, rfl⟩
  have HT : Hid (w.grownBy W0 none) := by rw [← hW0]; exact two_new _ _ _
  have HWZ : Hid (W0.heap[w.heap.size + 1]? = some whZ) := by rw [← hW0]; exact new1 _ _ _
  have HW0 := hide hW0
  clear hW0
  go_enter Try.func14, Try.ntmps14
  go_wp2
  go_loopw [9] (fun v wr => ∃ k : Nat, v = .int .i64 k ∧ TsAt m W0 er k wr) (fun v _ => m.units.length - (intOf v).toNat)
  case atStart => exact ⟨0, rfl, Nat.zero_le _, by rw [← HW0.out]; exact World.grownBy.refl _ _, hr.out⟩
  case round =>
    obtain ⟨k, rfl, hA⟩ := hrel
    have HA := hide hA
    have hk := hA.le
    have HG : Hid (w.grownBy wr none) := grown0_tr' HT.out HA.out.grown
    have hwz : wr.heap[w.heap.size + 1]? = some whZ := (kept0 HA.out.grown (lt_of_block HWZ.out)).trans HWZ.out
    obtain ⟨⟨z0, z1, z2⟩, y0, y1, y2⟩ := wh_cells hwz
    have hzl := lt_of_block hwz
    have HWW := hide hwz
    clear hA hwz
    by_cases hlt : k < m.units.length
    · obtain ⟨u, hu⟩ : ∃ u, m.units[k]? = some u := ⟨_, List.getElem?_eq_getElem hlt⟩
      obtain ⟨b, off, al, cl, ac, cc, ha, hb, hui, u0, u1, u2, u3, u4, u5⟩ := (hmd.out.low (low0 HG.out hB)).units k u hu
      have HN : Hid (er = if (u.kind == 4 || (m.units.drop (k + 1)).any (fun u => u.kind == 4)) then 0 else 6) := by
        unfold Hid
        obtain ⟨hk', hte⟩ := List.getElem?_eq_some_iff.1 hu
        rw [HA.out.rest, List.drop_eq_getElem_cons hk', hte, List.any_cons]
      have HAU := hide ha
      have hk1 : (k : Int) < (m.units.length : Int) := by omega
      clear hu ha hui
      rw [HAU.out]
      cases e4 : (u.kind == 4) with
      | true =>
        have HE : Hid (er = 0) := by rw [HN.out, e4]; rfl
        go_wp2
        have hX := wh_set HWW.out (.int .i64 0) (.int .i64 0) (.int .i64 0)
        obtain ⟨⟨g0, g1, g2⟩, _⟩ := wh_cells ((Below.heap_alloc _ (unO u al ac cl cc) _ (lt_of_block hX)).trans hX)
        refine bodyPost_ret (v := whV 0 0 0) (by simp [results, Try.results14, go_sem, g0, g1, g2]) rfl ?_
        rw [HE.out]
        exact ⟨rfl, grown0_new (grown0_setN (grown0_setN (grown0_setN HG.out (by omega) _ _) (by omega) _ _) (by omega) _ _) _⟩
      | false =>
        have HE : Hid (er = if (m.units.drop (k + 1)).any (fun u => u.kind == 4) then 0 else 6) := by rw [HN.out, e4]; rfl
        go_wp2
        go_roundw
        case rel => exact ⟨k + 1, by go_num, hlt, grown0_new HA.out.grown _, HE.out⟩
        case measure => simp [intOf]; omega
    · have HE : Hid (er = 6) := by unfold Hid; rw [HA.out.rest, List.drop_eq_nil_of_le (by omega)]; rfl
      go_wp2
      refine bodyPost_ret (v := whV 6 0 0) (by simp [results, Try.results14, go_sem, z0, z1, z2]) rfl ?_
      rw [HE.out]
      exact ⟨rfl, grown0_setN (grown0_setN (grown0_setN HG.out (by omega) _ _) (by omega) _ _) (by omega) _ _⟩

end Go.Proofs.Ytbkimpimoclobaa

