/- The document's answer, chapter 7, walked: WHAT ITS Form ANSWERS. -/
import Derived.Test.YtbkimpimoclobaaM27
import Derived.Test.YtbkimpimoclobaaM22
import Derived.Lib.Bytes
namespace Go.Proofs.Ytbkimpimoclobaa
open Go.RowKit
namespace Vf
/-- What Form answers of the units from the k-th on. -/
def frm (m : Md) (k : Nat) (b : Bool) : Int × Int × Int :=
  if (eachW (shapeF m) (m.units.drop k) k).1 = 0 then (if (b && (m.units.drop k).all (fun u => u.kind != 4)) = true then (6, 0, 0) else (0, 0, 0)) else eachW (shapeF m) (m.units.drop k) k
theorem frm_step {m : Md} {k : Nat} {u : Un} (b : Bool) (h : m.units[k]? = some u) : frm m k b = if (shapeF m u).1 = 0 then frm m (k + 1) (b && u.kind != 4) else ((shapeF m u).1, (k : Int), ((shapeF m u).2 : Int)) := by
  obtain ⟨hk, rfl⟩ := List.getElem?_eq_some_iff.1 h
  have e : eachW (shapeF m) (m.units.drop k) k = if (shapeF m m.units[k]).1 = 0 then eachW (shapeF m) (m.units.drop (k + 1)) (k + 1) else ((shapeF m m.units[k]).1, (k : Int), ((shapeF m m.units[k]).2 : Int)) := by
    rw [List.drop_eq_getElem_cons hk]
    rfl
  unfold frm
  rw [e, List.drop_eq_getElem_cons hk, List.all_cons]
  by_cases h0 : (shapeF m m.units[k]).1 = 0
  · rw [if_pos h0, if_pos h0, Bool.and_assoc]
  · rw [if_neg h0, if_neg h0, if_neg h0]
theorem frm_end {m : Md} {k : Nat} (b : Bool) (h : m.units.length ≤ k) : frm m k b = if b = true then (6, 0, 0) else (0, 0, 0) := by
  unfold frm
  rw [List.drop_eq_nil_of_le h]
  simp [eachW]
theorem form_eq (m : Md) : from' m 4 0 = if sizesE m = 0 then (if (firstE boxE m.boxes 0).1 = 0 then frm m 0 true else ((firstE boxE m.boxes 0).1, 0, ((firstE boxE m.boxes 0).2 : Int))) else (5, 0, 0) := by
  have ht : tasksE m = if (m.units.all (fun u => u.kind != 4)) = true then 6 else 0 := by
    unfold tasksE
    have e : m.units.any (fun u => u.kind == 4) = !(m.units.all (fun u => u.kind != 4)) := by
      rw [List.not_all_eq_any_not]
      congr 1
      funext u
      cases h : (u.kind == 4) <;> simp_all
    rw [e]
    cases m.units.all (fun u => u.kind != 4) <;> rfl
  unfold from'
  simp only [looks]
  by_cases h0 : sizesE m = 0
  · rw [if_pos h0, if_pos h0]
    unfold from'
    simp only [looks, boxesW]
    by_cases h1 : (firstE boxE m.boxes 0).1 = 0
    · rw [if_pos h1, if_pos h1]
      unfold from' frm
      simp only [looks, List.drop_zero, Bool.true_and]
      by_cases h2 : (eachW (shapeF m) m.units 0).1 = 0
      · rw [if_pos h2, if_pos h2]
        unfold from'
        simp only [looks]
        rw [ht]
        by_cases h3 : (m.units.all (fun u => u.kind != 4)) = true
        · rw [if_pos h3, if_pos h3, if_neg (by decide)]
        · rw [if_neg h3, if_neg h3, if_pos rfl]
          rfl
      · rw [if_neg h2, if_neg h2]
    · rw [if_neg h1, if_neg h1]
  · rw [if_neg h0, if_neg h0]
    have : sizesE m = 5 := by
      unfold sizesE at h0 ⊢
      split
      · rfl
      · rename_i h; rw [if_neg h] at h0; exact absurd rfl h0
    rw [this]
end Vf

/-- Where Form, or another one, goes on: the module's block and the answer's. -/
structure RfAt (m : Vf.Md) (ab au : Option Addr) (cb cu : Nat) (w W : World) : Prop where
  grown : w.grownBy W none
  mb : W.heap[w.heap.size]? = some (amO m ab au cb cu)
  wz : W.heap[w.heap.size + 1]? = some whZ
theorem RfAt.next {m : Vf.Md} {ab au : Option Addr} {cb cu : Nat} {w W W' : World} (h : RfAt m ab au cb cu w W) (hg : W.grownBy W' none) : RfAt m ab au cb cu w W' :=
  ⟨grown0_tr' h.grown hg, (kept0 hg (lt_of_block h.mb)).trans h.mb, (kept0 hg (lt_of_block h.wz)).trans h.wz⟩
theorem RfAt.new {m : Vf.Md} {ab au : Option Addr} {cb cu : Nat} {w W : World} (h : RfAt m ab au cb cu w W) (o : Obj) : RfAt m ab au cb cu w (W.alloc o) := h.next (grown0_new (World.grownBy.refl _ _) _)
theorem un_cells {w : World} {N : Nat} {u : Vf.Un} {al ac : Option Addr} {cl cc : Nat} (h : w.heap[N]? = some (unO u al ac cl cc)) : w.cell? ⟨N, 0, none⟩ = some (.int .i64 u.kind) ∧ w.cell? ⟨N, 1, none⟩ = some (.int .i64 u.params) ∧ w.cell? ⟨N, 2, none⟩ = some (.slice al u.locals.length cl) ∧ w.cell? ⟨N, 3, none⟩ = some (.int .i64 u.result) ∧ w.cell? ⟨N, 4, none⟩ = some (.int .i64 u.takes) ∧ w.cell? ⟨N, 5, none⟩ = some (.slice ac u.code.length cc) := by
  simp [World.cell?, h]

/-- What is still to come: of boxes, of units, of a unit's code. -/
def ByBox (m : Vf.Md) (r : Int × Int × Int) (k : Nat) : Prop := r = if (Vf.firstE Vf.boxE (m.boxes.drop k) k).1 = 0 then Vf.frm m 0 true else ((Vf.firstE Vf.boxE (m.boxes.drop k) k).1, 0, ((Vf.firstE Vf.boxE (m.boxes.drop k) k).2 : Int))
def ByIns (m : Vf.Md) (u : Vf.Un) (k : Nat) (nx r : Int × Int × Int) (j : Nat) : Prop := r = if (Vf.firstE (Vf.formE m u) (u.code.drop j) j).1 = 0 then nx else ((Vf.firstE (Vf.formE m u) (u.code.drop j) j).1, (k : Int), ((Vf.firstE (Vf.formE m u) (u.code.drop j) j).2 : Int))


set_option maxRecDepth 100000 in
set_option maxHeartbeats 8000000 in
theorem rform_any (m : Vf.Md) (ab au : Option Addr) (cb cu B : Nat) (w : World) (hmd : Hid (ModIn B w m ab au)) (hB : B ≤ w.heap.size) (r : Int × Int × Int) (hr : Hid (r = Vf.from' m 4 0)) :
    Calls Try.prog 17 #[mdV m ab au cb cu] w fun e w' => e = .returned (whV r.1 r.2.1 r.2.2) ∧ w.grownBy w' none := by
  have HR : Hid (r = if Vf.sizesE m = 0 then (if (Vf.firstE Vf.boxE m.boxes 0).1 = 0 then Vf.frm m 0 true else ((Vf.firstE Vf.boxE m.boxes 0).1, 0, ((Vf.firstE Vf.boxE m.boxes 0).2 : Int))) else (5, 0, 0)) := by
    unfold Hid
    rw [hr.out, Vf.form_eq]
  clear hr
  obtain ⟨W0, hW0⟩ : ∃ W0 : World, (w.alloc (amO m ab au cb cu)).alloc whZ = W0 := ⟨_, rfl⟩
  have HT : Hid (RfAt m ab au cb cu w W0) := by
    rw [← hW0]
    exact ⟨two_new _ _ _, (Below.heap_alloc _ _ _ (by simp)).trans (heap_alloc_new w _), new1 _ _ _⟩
  obtain ⟨m0, m1, _⟩ := am_cells HT.out.mb
  obtain ⟨⟨z0, z1, z2⟩, y0, y1, y2⟩ := wh_cells HT.out.wz
  have hz0 := lt_of_block HT.out.wz
  by_cases hs : 30 < m.boxes.length ∨ 30 < m.units.length
  · have HE : Hid (r = (5, 0, 0)) := by
      have : Vf.sizesE m = 5 := by unfold Vf.sizesE; rw [if_pos hs]
      unfold Hid
      rw [HR.out, this, if_neg (by decide)]
    clear HR
    rcases hs with hs | hs
    · go_enter Try.func17, Try.ntmps17
      go_wp2_with fail
      refine bodyPost_ret (v := whV 5 0 0) (by simp [results, Try.results17, go_sem, z0, z1, z2]) rfl ?_
      rw [HE.out]
      exact ⟨rfl, grown0_setN (grown0_setN (grown0_setN HT.out.grown (by omega) _ _) (by omega) _ _) (by omega) _ _⟩
    · by_cases hs1 : 30 < m.boxes.length
      · go_enter Try.func17, Try.ntmps17
        go_wp2_with fail
        refine bodyPost_ret (v := whV 5 0 0) (by simp [results, Try.results17, go_sem, z0, z1, z2]) rfl ?_
        rw [HE.out]
        exact ⟨rfl, grown0_setN (grown0_setN (grown0_setN HT.out.grown (by omega) _ _) (by omega) _ _) (by omega) _ _⟩
      · go_enter Try.func17, Try.ntmps17
        go_wp2_with fail
        refine bodyPost_ret (v := whV 5 0 0) (by simp [results, Try.results17, go_sem, z0, z1, z2]) rfl ?_
        rw [HE.out]
        exact ⟨rfl, grown0_setN (grown0_setN (grown0_setN HT.out.grown (by omega) _ _) (by omega) _ _) (by omega) _ _⟩
  have n1 : ¬ 30 < m.boxes.length := fun h => hs (.inl h)
  have n2 : ¬ 30 < m.units.length := fun h => hs (.inr h)
  have HBB : Hid (ByBox m r 0) := by
    unfold Hid ByBox
    have : Vf.sizesE m = 0 := by unfold Vf.sizesE; rw [if_neg hs]
    rw [HR.out, if_pos this]
    rfl
  clear HR hs
  go_enter Try.func17, Try.ntmps17
  go_wp2_with fail
  go_loopw [26] (fun v wr => ∃ k : Nat, v = .int .i64 k ∧ k ≤ m.boxes.length ∧ RfAt m ab au cb cu w wr ∧ ByBox m r k) (fun v _ => m.boxes.length - (intOf v).toNat)
  case atStart => exact ⟨0, rfl, Nat.zero_le _, HT.out, HBB.out⟩
  case round =>
    clear m0 m1 z0 z1 z2 y0 y1 y2 hz0 HBB HT
    obtain ⟨k, rfl, hk, hA, hby⟩ := hrel
    have HA := hide hA
    have HBY := hide hby
    obtain ⟨m0, m1, _⟩ := am_cells HA.out.mb
    obtain ⟨⟨z0, z1, z2⟩, y0, y1, y2⟩ := wh_cells HA.out.wz
    have HWW := hide HA.out.wz
    have hzl := lt_of_block HA.out.wz
    clear hA hby
    by_cases hlt : k < m.boxes.length
    · obtain ⟨x, hx⟩ : ∃ x, m.boxes[k]? = some x := ⟨_, List.getElem?_eq_getElem hlt⟩
      obtain ⟨i1, i2, b, off, ha, hb, b0, b1⟩ := (hmd.out.low (low0 HA.out.grown hB)).boxes k x hx
      have HN : Hid (r = if Vf.boxE x = 0 then (if (Vf.firstE Vf.boxE (m.boxes.drop (k + 1)) (k + 1)).1 = 0 then Vf.frm m 0 true else ((Vf.firstE Vf.boxE (m.boxes.drop (k + 1)) (k + 1)).1, 0, ((Vf.firstE Vf.boxE (m.boxes.drop (k + 1)) (k + 1)).2 : Int))) else (Vf.boxE x, 0, (k : Int))) := by
        unfold Hid
        have h1 := HBY.out
        unfold ByBox at h1
        rw [firstE_drop _ hx] at h1
        rw [h1]
        by_cases h0 : Vf.boxE x = 0
        · rw [if_pos h0, if_pos h0]
        · rw [if_neg h0, if_neg h0, if_neg h0]
      obtain ⟨p, hp⟩ : ∃ p, p = Vf.plain x.ty := ⟨_, rfl⟩
      have HP := hide hp
      have HOE : Hid (Vf.boxE x = if p = false then 9 else if x.cap < 1 ∨ 20 < x.cap then 3 else 0) := by unfold Hid; unfold Vf.boxE; rw [hp]
      have hk1 : (k : Int) < (m.boxes.length : Int) := by omega
      clear hx hp HBY
      subst ha
      go_wp2_with fail
      refine (rplain_any x.ty _ p HP).mono ?_
      rintro e w2 ⟨rfl, hw2⟩
      subst hw2
      cases p with
      | false =>
        have HE : Hid (r = (9, 0, (k : Int))) := by
          have h1 := HN.out
          have ho : Vf.boxE x = 9 := HOE.out
          rw [ho, if_neg (by decide)] at h1
          exact h1
        go_wp2
        have hX := wh_set HWW.out (.int .i64 9) (.int .i64 0) (.int .i64 (k : Int))
        obtain ⟨⟨g0, g1, g2⟩, _⟩ := wh_cells ((Below.heap_alloc _ (.cells #[.int .i64 x.ty, .int .i64 x.cap] 37) _ (lt_of_block hX)).trans hX)
        refine bodyPost_ret (v := whV 9 0 (k : Int)) (by simp [results, Try.results17, go_sem, g0, g1, g2]) rfl ?_
        rw [HE.out]
        exact ⟨rfl, grown0_new (grown0_setN (grown0_setN (grown0_setN HA.out.grown (by omega) _ _) (by omega) _ _) (by omega) _ _) _⟩
      | true =>
        by_cases hc : x.cap < 1 ∨ 20 < x.cap
        · have HE : Hid (r = (3, 0, (k : Int))) := by
            have h1 := HN.out
            have ho : Vf.boxE x = 3 := by rw [HOE.out, if_neg (by decide), if_pos hc]
            rw [ho, if_neg (by decide)] at h1
            exact h1
          rcases hc with hc | hc
          · have d1 : decide (x.cap < 1) = true := by simpa using hc
            go_wp2
            have hX := wh_set HWW.out (.int .i64 3) (.int .i64 0) (.int .i64 (k : Int))
            obtain ⟨⟨g0, g1, g2⟩, _⟩ := wh_cells ((Below.heap_alloc _ (.cells #[.int .i64 x.ty, .int .i64 x.cap] 37) _ (lt_of_block hX)).trans hX)
            refine bodyPost_ret (v := whV 3 0 (k : Int)) (by simp [results, Try.results17, go_sem, g0, g1, g2]) rfl ?_
            rw [HE.out]
            exact ⟨rfl, grown0_new (grown0_setN (grown0_setN (grown0_setN HA.out.grown (by omega) _ _) (by omega) _ _) (by omega) _ _) _⟩
          · have d1 : decide (x.cap < 1) = false := by simp; omega
            have d2 : decide (20 < x.cap) = true := by simpa using hc
            go_wp2
            have hX := wh_set HWW.out (.int .i64 3) (.int .i64 0) (.int .i64 (k : Int))
            obtain ⟨⟨g0, g1, g2⟩, _⟩ := wh_cells ((Below.heap_alloc _ (.cells #[.int .i64 x.ty, .int .i64 x.cap] 37) _ (lt_of_block hX)).trans hX)
            refine bodyPost_ret (v := whV 3 0 (k : Int)) (by simp [results, Try.results17, go_sem, g0, g1, g2]) rfl ?_
            rw [HE.out]
            exact ⟨rfl, grown0_new (grown0_setN (grown0_setN (grown0_setN HA.out.grown (by omega) _ _) (by omega) _ _) (by omega) _ _) _⟩
        · have d1 : decide (x.cap < 1) = false := by simp; omega
          have d2 : decide (20 < x.cap) = false := by simp; omega
          have HE : Hid (ByBox m r (k + 1)) := by
            have h1 := HN.out
            have ho : Vf.boxE x = 0 := by rw [HOE.out, if_neg (by decide), if_neg hc]
            rw [ho, if_pos rfl] at h1
            exact h1
          clear hc
          go_wp2
          go_roundw
          case rel => exact ⟨k + 1, by go_num, hlt, HA.out.new _, HE.out⟩
          case measure => simp [intOf]; omega
    · have HBF : Hid (r = Vf.frm m 0 true) := by
        have h1 := HBY.out
        unfold ByBox at h1
        rw [List.drop_eq_nil_of_le (by omega)] at h1
        exact h1
      clear HBY
      go_wp2_with fail
      go_loopw [5, 51] (fun v5 v wr => ∃ (k : Nat) (b : Bool), v = .int .i64 k ∧ v5 = .bool b ∧ k ≤ m.units.length ∧ RfAt m ab au cb cu w wr ∧ r = Vf.frm m k b) (fun _ v _ => m.units.length - (intOf v).toNat)
      case atStart => exact ⟨0, true, rfl, rfl, Nat.zero_le _, HA.out, HBF.out⟩
      case round =>
        clear m0 m1 z0 z1 z2 y0 y1 y2 hzl HWW HA HBF
        obtain ⟨k, b, rfl, rfl, hk, hA, hby⟩ := hrel
        have HA := hide hA
        have HBY := hide hby
        obtain ⟨m0, m1, _⟩ := am_cells HA.out.mb
        obtain ⟨⟨z0, z1, z2⟩, y0, y1, y2⟩ := wh_cells HA.out.wz
        have hzl := lt_of_block HA.out.wz
        clear hA hby
        by_cases hlt : k < m.units.length
        · obtain ⟨u, hu⟩ : ∃ u, m.units[k]? = some u := ⟨_, List.getElem?_eq_getElem hlt⟩
          obtain ⟨bb, off, al, cl, ac, cc, ha, hb, hui, u0, u1, u2, u3, u4, u5⟩ := (hmd.out.low (low0 HA.out.grown hB)).units k u hu
          have HN : Hid (r = if Vf.headE m u = 0 then (if (Vf.firstE (Vf.formE m u) (u.code.drop 0) 0).1 = 0 then Vf.frm m (k + 1) (b && u.kind != 4) else ((Vf.firstE (Vf.formE m u) (u.code.drop 0) 0).1, (k : Int), ((Vf.firstE (Vf.formE m u) (u.code.drop 0) 0).2 : Int))) else (Vf.headE m u, (k : Int), 0)) := by
            unfold Hid
            rw [HBY.out, Vf.frm_step b hu]
            unfold Vf.shapeF
            by_cases h0 : Vf.headE m u = 0
            · rw [if_pos h0, if_pos h0]; rfl
            · rw [if_neg h0, if_neg h0, if_neg h0]; rfl
          have HU := hide hu
          have HUI := hide hui
          have HUIK : Hid (∀ W, Low B w W → UnIn B W u al ac cl cc) := fun W hW => hui.low (fun j hj => (hW j hj).trans (low0 HA.out.grown hB j hj).symm)
          have hcl : u.code.length ≤ 9223372036854775807 := HUI.out.few.2
          have hk1 : (k : Int) < (m.units.length : Int) := by omega
          obtain ⟨he, hhe⟩ : ∃ he, he = Vf.headE m u := ⟨_, rfl⟩
          rw [← hhe] at HN
          have HHE := hide hhe
          have hbw : bb < wr.heap.size := by have := HA.out.grown.size; omega
          have hzm : w.heap.size < wr.heap.size := by omega
          clear hu hui hhe HBY
          subst ha
          go_wp2_with fail
          have HG1 : Hid (wr.grownBy (wr.alloc (unO u al ac cl cc)) none) := grown0_new (World.grownBy.refl _ _) _
          have HMD : Hid (ModIn B (wr.alloc (unO u al ac cl cc)) m _ _) := hmd.out.low (low0 (grown0_tr' HA.out.grown HG1.out) hB)
          have HUI1 : Hid (UnIn B (wr.alloc (unO u al ac cl cc)) u al ac cl cc) := HUI.out.low (low0 HG1.out (by have := HA.out.grown.size; omega))
          refine (rhead_any m _ _ cb cu B u al ac cl cc _ HMD HUI1 (by have := HA.out.grown.size; simp; omega) (by omega) he HHE).mono ?_
          rintro e w2 ⟨rfl, hg2⟩
          have HA2 : Hid (RfAt m _ _ cb cu w w2) := (HA.out.new (unO u al ac cl cc)).next hg2
          have HUB : Hid (w2.heap[wr.heap.size]? = some (unO u al ac cl cc)) := (kept0 hg2 (by simp)).trans (heap_alloc_new wr _)
          generalize hN : wr.heap.size = N at HUB ⊢
          clear m0 m1 z0 z1 z2 y0 y1 y2 hzl HA HG1 HMD HUI1 hg2 hN hbw u0 u1 u2 u3 u4 u5
          obtain ⟨m0, m1, _⟩ := am_cells HA2.out.mb
          obtain ⟨⟨z0, z1, z2⟩, y0, y1, y2⟩ := wh_cells HA2.out.wz
          have hzl := lt_of_block HA2.out.wz
          obtain ⟨u0, u1, u2, u3, u4, u5⟩ := un_cells HUB.out
          by_cases h0 : he = 0
          · have e0 : (he != 0) = false := by simpa using h0
            have HBI : Hid (ByIns m u k (Vf.frm m (k + 1) (b && u.kind != 4)) r 0) := by
              have h1 := HN.out
              rw [if_pos h0] at h1
              exact h1
            clear h0 HN
            go_wp2_with fail
            go_loopw [67] (fun v wr => ∃ j : Nat, v = .int .i64 j ∧ j ≤ u.code.length ∧ RfAt m _ _ cb cu w wr ∧ wr.heap[N]? = some (unO u al ac cl cc) ∧ ByIns m u k (Vf.frm m (k + 1) (b && u.kind != 4)) r j) (fun v _ => u.code.length - (intOf v).toNat)
            case atStart => exact ⟨0, rfl, Nat.zero_le _, HA2.out, HUB.out, HBI.out⟩
            case round =>
              clear m0 m1 z0 z1 z2 y0 y1 y2 hzl HA2 HBI HUB u0 u1 u2 u3 u4 u5
              obtain ⟨j, rfl, hj, hA, hub, hby⟩ := hrel
              have HA := hide hA
              have HBY := hide hby
              have HUB := hide hub
              obtain ⟨m0, m1, _⟩ := am_cells HA.out.mb
              obtain ⟨⟨z0, z1, z2⟩, y0, y1, y2⟩ := wh_cells HA.out.wz
              have hzl := lt_of_block HA.out.wz
              obtain ⟨u0, u1, u2, u3, u4, u5⟩ := un_cells HUB.out
              have hNl := lt_of_block HUB.out
              clear hA hby hub
              by_cases hjl : j < u.code.length
              · obtain ⟨c, hc⟩ : ∃ c, u.code[j]? = some c := ⟨_, List.getElem?_eq_getElem hjl⟩
                have hmw : ModIn B wr m ab _ := hmd.out.low (low0 HA.out.grown hB)
                have HUI2 : Hid (UnIn B wr u al ac cl cc) := HUIK.out wr (low0 HA.out.grown hB)
                obtain ⟨i1, i2, i3, b2, off2, hac, hb2, c0, c1, c2⟩ := HUI2.out.code j c hc
                have HMD := hide hmw
                have HN2 : Hid (r = if Vf.formE m u c = 0 then (if (Vf.firstE (Vf.formE m u) (u.code.drop (j + 1)) (j + 1)).1 = 0 then Vf.frm m (k + 1) (b && u.kind != 4) else ((Vf.firstE (Vf.formE m u) (u.code.drop (j + 1)) (j + 1)).1, (k : Int), ((Vf.firstE (Vf.formE m u) (u.code.drop (j + 1)) (j + 1)).2 : Int))) else (Vf.formE m u c, (k : Int), (j : Int))) := by
                  unfold Hid
                  have h1 := HBY.out
                  unfold ByIns at h1
                  rw [firstE_drop _ hc] at h1
                  rw [h1]
                  by_cases h0 : Vf.formE m u c = 0
                  · rw [if_pos h0, if_pos h0]
                  · rw [if_neg h0, if_neg h0, if_neg h0]
                obtain ⟨op, a, n⟩ := c
                obtain ⟨fe, hfe⟩ : ∃ fe, fe = Vf.formE m u ⟨op, a, n⟩ := ⟨_, rfl⟩
                rw [← hfe] at HN2
                have HFE := hide hfe
                have hj1 : (j : Int) < (u.code.length : Int) := by omega
                have hbw : b2 < wr.heap.size := by have := HA.out.grown.size; omega
                have hzm : w.heap.size < wr.heap.size := by omega
                clear hc hfe hmw HBY HMD HUI2
                subst hac
                go_wp2_with fail
                have HG1 : Hid (wr.grownBy (wr.alloc (.cells #[.int .i64 op, .int .i64 a, .int .i64 n] 41)) none) := grown0_new (World.grownBy.refl _ _) _
                have HMD : Hid (ModIn B (wr.alloc (.cells #[.int .i64 op, .int .i64 a, .int .i64 n] 41)) m _ _) := hmd.out.low (low0 (grown0_tr' HA.out.grown HG1.out) hB)
                refine (rinstr_any m _ _ cb cu B u al _ cl cc op a n _ HMD (by have := HA.out.grown.size; simp; omega) fe HFE).mono ?_
                rintro e w3 ⟨rfl, hg3⟩
                have HA3 : Hid (RfAt m _ _ cb cu w w3) := (HA.out.new _).next hg3
                have HUB3 : Hid (w3.heap[N]? = some (unO u al _ cl cc)) := (kept0 hg3 (by simp; omega)).trans ((Below.heap_alloc _ _ _ hNl).trans HUB.out)
                clear m0 m1 z0 z1 z2 y0 y1 y2 hzl HG1 HMD hg3 hbw u0 u1 u2 u3 u4 u5 c0 c1 c2 hNl HUB
                obtain ⟨⟨z0, z1, z2⟩, y0, y1, y2⟩ := wh_cells HA3.out.wz
                have hzl := lt_of_block HA3.out.wz
                by_cases h0 : fe = 0
                · have e0 : (fe != 0) = false := by simpa using h0
                  have HE : Hid (ByIns m u k (Vf.frm m (k + 1) (b && u.kind != 4)) r (j + 1)) := by
                    have h1 := HN2.out
                    rw [if_pos h0] at h1
                    exact h1
                  clear h0 HN2
                  go_wp2
                  go_roundw
                  case rel => exact ⟨j + 1, by go_num, hjl, HA3.out, HUB3.out, HE.out⟩
                  case measure => simp [intOf]; omega
                · have e0 : (fe != 0) = true := by simpa using h0
                  have HE : Hid (r = (fe, (k : Int), (j : Int))) := by
                    have h1 := HN2.out
                    rw [if_neg h0] at h1
                    exact h1
                  clear h0 HN2
                  go_wp2
                  refine bodyPost_ret (v := whV fe (k : Int) (j : Int)) (by simp [results, Try.results17, go_sem, z0, z1, z2]) rfl ?_
                  rw [HE.out]
                  exact ⟨rfl, grown0_setN (grown0_setN (grown0_setN HA3.out.grown (by omega) _ _) (by omega) _ _) (by omega) _ _⟩
              · have HBF : Hid (r = Vf.frm m (k + 1) (b && u.kind != 4)) := by
                  have h1 := HBY.out
                  unfold ByIns at h1
                  rw [List.drop_eq_nil_of_le (by omega)] at h1
                  exact h1
                clear HBY HUB
                cases b with
                | false =>
                  go_wp2
                  go_roundw
                  case rel => exact ⟨k + 1, false, by go_num, rfl, hlt, HA.out, HBF.out⟩
                  case measure => simp [intOf]; omega
                | true =>
                  cases e4 : (u.kind != 4) with
                  | false =>
                    have HBF2 : Hid (r = Vf.frm m (k + 1) false) := by have h1 := HBF.out; rw [e4] at h1; exact h1
                    clear HBF
                    go_wp2
                    go_roundw
                    case rel => exact ⟨k + 1, false, by go_num, rfl, hlt, HA.out, HBF2.out⟩
                    case measure => simp [intOf]; omega
                  | true =>
                    have HBF2 : Hid (r = Vf.frm m (k + 1) true) := by have h1 := HBF.out; rw [e4] at h1; exact h1
                    clear HBF
                    go_wp2
                    go_roundw
                    case rel => exact ⟨k + 1, true, by go_num, rfl, hlt, HA.out, HBF2.out⟩
                    case measure => simp [intOf]; omega
          · have e0 : (he != 0) = true := by simpa using h0
            have HE : Hid (r = (he, (k : Int), 0)) := by
              have h1 := HN.out
              rw [if_neg h0] at h1
              exact h1
            clear h0 HN
            go_wp2
            refine bodyPost_ret (v := whV he (k : Int) 0) (by simp [results, Try.results17, go_sem, z0, z1, z2]) rfl ?_
            rw [HE.out]
            exact ⟨rfl, grown0_setN (grown0_setN (grown0_setN HA2.out.grown (by omega) _ _) (by omega) _ _) (by omega) _ _⟩
        · have HBF : Hid (r = if b = true then (6, 0, 0) else (0, 0, 0)) := by
            unfold Hid
            rw [HBY.out, Vf.frm_end b (by omega)]
          clear HBY
          cases b with
          | true =>
            have HE : Hid (r = (6, 0, 0)) := HBF.out
            go_wp2
            refine bodyPost_ret (v := whV 6 0 0) (by simp [results, Try.results17, go_sem, z0, z1, z2]) rfl ?_
            rw [HE.out]
            exact ⟨rfl, grown0_setN (grown0_setN (grown0_setN HA.out.grown (by omega) _ _) (by omega) _ _) (by omega) _ _⟩
          | false =>
            have HE : Hid (r = (0, 0, 0)) := HBF.out
            go_wp2
            refine bodyPost_ret (v := whV 0 0 0) (by simp [results, Try.results17, go_sem, z0, z1, z2]) rfl ?_
            rw [HE.out]
            exact ⟨rfl, grown0_setN (grown0_setN (grown0_setN HA.out.grown (by omega) _ _) (by omega) _ _) (by omega) _ _⟩

end Go.Proofs.Ytbkimpimoclobaa

/- The document's answer, chapter 7, walked: take. -/
namespace Go.Proofs.Ytbkimpimoclobaa
open Go.RowKit
namespace Vf
/-- What the document's take leaves: what is wanted, and the stack, the top one first. -/
def rtk : List UInt8 → List UInt8 → UInt8 → Except Int (List UInt8)
  | [], st, _ => .ok st
  | _ :: _, [], _ => .error 12
  | c :: ws, x :: st, last =>
    if c = 42 then rtk ws st last
    else if c = 63 then (if (x ≠ 110 ∧ x ≠ 98) ∨ (last ≠ 0 ∧ last ≠ x) then .error 9 else rtk ws st x)
    else if x = c then rtk ws st last else .error 9
end Vf
def RtkE (r : Except Int (List UInt8)) (e : Ending) : Prop :=
  match r with
  | .ok l => ∃ s : ByteArray, s.data.toList = l.reverse ∧ e = .returned (.tuple #[.string s, .int .i64 0])
  | .error n => e = .returned (.tuple #[.string ⟨#[]⟩, .int .i64 n])
/-- At the head of take's loop. -/
structure RkAt (t : ByteArray) (R : Except Int (List UInt8)) (s : ByteArray) (last : UInt8) (st wt : List UInt8) : Prop where
  stE : s.data.toList = st.reverse
  wtE : ∃ pre, t.data.toList = wt.reverse ++ pre
  rest : R = Vf.rtk wt st last
  few : s.size ≤ 1000
theorem list_size (s : ByteArray) : s.data.toList.length = s.size := by rw [Array.length_toList]; rfl
theorem byte_at {s : ByteArray} {l : List UInt8} (h : s.data.toList = l) {k : Nat} {x : UInt8} (hx : l[k]? = some x) : ∃ hk : k < s.size, s[k] = x := by
  obtain ⟨h1, h2⟩ := List.getElem?_eq_some_iff.1 hx
  have hk : k < s.size := by rw [← list_size, h]; exact h1
  refine ⟨hk, ?_⟩
  subst h
  have : s.data.toList[k]'h1 = s[k] := by simp [ByteArray.getElem_eq_getElem_data]
  rw [← this]
  exact h2
theorem extract_take (s : ByteArray) (n : Nat) : (s.extract 0 n).data.toList = s.data.toList.take n := by
  rw [ByteArray.data_extract]; simp
theorem bytes_nil {s : ByteArray} (h : s.data.toList = []) : s = ⟨#[]⟩ := by
  apply ByteArray.ext
  simpa using h
theorem bytes_some {s : ByteArray} (h : 0 < s.size) : s.toList.isEmpty = false := by
  rw [Lib.toList_data]
  cases hl : s.data.toList with
  | nil => rw [← list_size, hl] at h; exact absurd h (by decide)
  | cons _ _ => rfl
theorem u8_ne {c n : UInt8} (h : ¬ c = n) : ((c.toNat : Int) == (n.toNat : Int)) = false := by
  rw [Bool.eq_false_iff]
  intro e
  rw [beq_iff_eq] at e
  exact h (UInt8.toNat_inj.1 (by omega))
theorem u8_bne {c n : UInt8} (h : ¬ c = n) : ((c.toNat : Int) != (n.toNat : Int)) = true := by
  unfold bne
  rw [u8_ne h]
  rfl


set_option maxRecDepth 100000 in
set_option maxHeartbeats 2000000 in
theorem rtake_any (s t : ByteArray) (st wt : List UInt8) (w : World) (hs : Hid (s.data.toList = st.reverse)) (ht : Hid (t.data.toList = wt.reverse)) (hsl : s.size ≤ 1000) (htl : t.size ≤ 1000) (R : Except Int (List UInt8)) (hR : Hid (R = Vf.rtk wt st 0)) :
    Calls Try.prog 35 #[.string s, .string t] w fun e w' => RtkE R e ∧ w' = w := by
  have hlen : t.size = wt.length := by rw [← list_size, ht.out]; simp
  go_enter Try.func35, Try.ntmps35
  go_wp2
  go_loopw [0, 6, 7] (fun v0 v6 v7 wr => ∃ (s' : ByteArray) (last : UInt8) (st' wt' : List UInt8), v0 = .string s' ∧ v6 = .int .u8 (last.toNat : Int) ∧ v7 = .int .i64 ((wt'.length : Int) - 1) ∧ RkAt t R s' last st' wt' ∧ wr = w) (fun _ _ v _ => (intOf v + 1).toNat)
  case atStart => exact ⟨s, 0, st, wt, rfl, rfl, rfl, ⟨hs.out, ⟨[], by rw [ht.out]; simp⟩, hR.out, hsl⟩, rfl⟩
  case round =>
    clear hs hR hsl
    obtain ⟨s', last, st', wt', rfl, rfl, rfl, hA, rfl⟩ := hrel
    have HA := hide hA
    clear hA
    match wt' with
    | [] =>
      have HR : Hid (R = .ok st') := HA.out.rest
      go_wp2
      refine bodyPost_ret (v := .tuple #[.string s', .int .i64 0]) (by simp [results, Try.results35, go_sem]) rfl ?_
      rw [HR.out]
      exact ⟨⟨s', HA.out.stE, rfl⟩, rfl⟩
    | c :: ws =>
      obtain ⟨pre, hpre⟩ := HA.out.wtE
      obtain ⟨htk, htc⟩ := byte_at hpre (k := ws.length) (x := c) (by simp)
      match st' with
      | [] =>
        have HR : Hid (R = .error 12) := HA.out.rest
        obtain rfl : s' = ⟨#[]⟩ := bytes_nil HA.out.stE
        clear hpre
        go_wp2
        refine bodyPost_ret (v := .tuple #[.string ⟨#[]⟩, .int .i64 12]) (by simp [results, Try.results35, go_sem]) rfl ?_
        rw [HR.out]
        exact ⟨rfl, rfl⟩
      | x :: r =>
        have hst : s'.data.toList = r.reverse ++ [x] := by rw [HA.out.stE]; simp
        have hsz : s'.size = r.length + 1 := by rw [← list_size, hst]; simp
        obtain ⟨hsk, hsx⟩ := byte_at hst (k := r.length) (x := x) (by simp)
        have hne : s'.toList.isEmpty = false := bytes_some (by omega)
        have h1000 := HA.out.few
        have hwl : ws.length < 1000 := by omega
        obtain ⟨s2, hs2⟩ : ∃ s2, s'.extract 0 r.length = s2 := ⟨_, rfl⟩
        have HS2 : Hid (s2.data.toList = r.reverse) := by
          unfold Hid
          rw [← hs2, extract_take, hst]
          simp
        clear hst
        have HW : Hid (∃ pre, t.data.toList = ws.reverse ++ pre) := ⟨c :: pre, by rw [hpre]; simp⟩
        clear hpre
        have HRR : Hid (R = Vf.rtk (c :: ws) (x :: r) last) := HA.out.rest
        have hs2z : s2.size ≤ 1000 := by rw [← list_size, HS2.out]; simp; omega
        clear HA
        by_cases h42 : c = 42
        · have HR : Hid (R = Vf.rtk ws r last) := by rw [HRR.out, Vf.rtk, if_pos h42]; rfl
          clear HRR
          subst h42
          go_wp2
          go_roundw
          case rel => exact ⟨s2, last, r, ws, rfl, rfl, rfl, ⟨HS2.out, HW.out, HR.out, hs2z⟩, by trivial⟩
          case measure => (simp [intOf] <;> omega)
        have n42 : ((c.toNat : Int) == 42) = false := u8_ne (n := 42) h42
        have HR1 : Hid (R = if c = 63 then (if (x ≠ 110 ∧ x ≠ 98) ∨ (last ≠ 0 ∧ last ≠ x) then .error 9 else Vf.rtk ws r x) else if x = c then Vf.rtk ws r last else .error 9) := by rw [HRR.out, Vf.rtk, if_neg h42]; rfl
        clear HRR h42
        by_cases h63 : c = 63
        · have HR2 : Hid (R = if (x ≠ 110 ∧ x ≠ 98) ∨ (last ≠ 0 ∧ last ≠ x) then .error 9 else Vf.rtk ws r x) := by rw [HR1.out, if_pos h63]; rfl
          clear HR1
          subst h63
          by_cases hx : x = 110
          · skip
            by_cases hl : last = 0
            · have HR : Hid (R = Vf.rtk ws r x) := by rw [HR2.out, if_neg (by rw [hx, hl]; decide)]; rfl
              clear HR2
              subst hl hx
              go_wp2
              go_roundw
              case rel => exact ⟨s2, _, r, ws, rfl, rfl, rfl, ⟨HS2.out, HW.out, HR.out, hs2z⟩, by trivial⟩
              case measure => (simp [intOf] <;> omega)
            by_cases hl2 : last = x
            · have HR : Hid (R = Vf.rtk ws r x) := by rw [HR2.out, if_neg (by rw [hl2, hx]; decide)]; rfl
              clear HR2 hl
              subst hl2
              subst hx
              go_wp2
              go_roundw
              case rel => exact ⟨s2, _, r, ws, rfl, rfl, rfl, ⟨HS2.out, HW.out, HR.out, hs2z⟩, by trivial⟩
              case measure => (simp [intOf] <;> omega)
            · have HR : Hid (R = .error 9) := by rw [HR2.out, if_pos (.inr ⟨hl, hl2⟩)]; rfl
              have l1 : ((last.toNat : Int) != 0) = true := u8_bne (c := last) (n := 0) hl
              have l2 : ((last.toNat : Int) != 110) = true := u8_bne (c := last) (n := 110) (by rw [← hx]; exact hl2)
              clear HR2 hl hl2
              subst hx
              go_wp2
              refine bodyPost_ret (v := .tuple #[.string ⟨#[]⟩, .int .i64 9]) (by simp [results, Try.results35, go_sem]) rfl ?_
              rw [HR.out]
              exact ⟨rfl, rfl⟩
          by_cases hx2 : x = 98
          · clear hx
            have hx := hx2
            clear hx2
            by_cases hl : last = 0
            · have HR : Hid (R = Vf.rtk ws r x) := by rw [HR2.out, if_neg (by rw [hx, hl]; decide)]; rfl
              clear HR2
              subst hl hx
              go_wp2
              go_roundw
              case rel => exact ⟨s2, _, r, ws, rfl, rfl, rfl, ⟨HS2.out, HW.out, HR.out, hs2z⟩, by trivial⟩
              case measure => (simp [intOf] <;> omega)
            by_cases hl2 : last = x
            · have HR : Hid (R = Vf.rtk ws r x) := by rw [HR2.out, if_neg (by rw [hl2, hx]; decide)]; rfl
              clear HR2 hl
              subst hl2
              subst hx
              go_wp2
              go_roundw
              case rel => exact ⟨s2, _, r, ws, rfl, rfl, rfl, ⟨HS2.out, HW.out, HR.out, hs2z⟩, by trivial⟩
              case measure => (simp [intOf] <;> omega)
            · have HR : Hid (R = .error 9) := by rw [HR2.out, if_pos (.inr ⟨hl, hl2⟩)]; rfl
              have l1 : ((last.toNat : Int) != 0) = true := u8_bne (c := last) (n := 0) hl
              have l2 : ((last.toNat : Int) != 98) = true := u8_bne (c := last) (n := 98) (by rw [← hx]; exact hl2)
              clear HR2 hl hl2
              subst hx
              go_wp2
              refine bodyPost_ret (v := .tuple #[.string ⟨#[]⟩, .int .i64 9]) (by simp [results, Try.results35, go_sem]) rfl ?_
              rw [HR.out]
              exact ⟨rfl, rfl⟩
          · have HR : Hid (R = .error 9) := by rw [HR2.out, if_pos (.inl ⟨hx, hx2⟩)]; rfl
            have x1 : ((x.toNat : Int) != 110) = true := u8_bne (c := x) (n := 110) hx
            have x2 : ((x.toNat : Int) != 98) = true := u8_bne (c := x) (n := 98) hx2
            clear HR2 hx hx2
            go_wp2
            refine bodyPost_ret (v := .tuple #[.string ⟨#[]⟩, .int .i64 9]) (by simp [results, Try.results35, go_sem]) rfl ?_
            rw [HR.out]
            exact ⟨rfl, rfl⟩
        · have n63 : ((c.toNat : Int) == 63) = false := u8_ne (n := 63) h63
          have HR2 : Hid (R = if x = c then Vf.rtk ws r last else .error 9) := by rw [HR1.out, if_neg h63]; rfl
          clear HR1 h63
          by_cases hx : x = c
          · have HR : Hid (R = Vf.rtk ws r last) := by rw [HR2.out, if_pos hx]; rfl
            clear HR2
            subst hx
            go_wp2
            go_roundw
            case rel => exact ⟨s2, last, r, ws, rfl, rfl, rfl, ⟨HS2.out, HW.out, HR.out, hs2z⟩, by trivial⟩
            case measure => (simp [intOf] <;> omega)
          · have HR : Hid (R = .error 9) := by rw [HR2.out, if_neg hx]; rfl
            have x1 : ((x.toNat : Int) != (c.toNat : Int)) = true := u8_bne hx
            clear HR2 hx
            go_wp2
            refine bodyPost_ret (v := .tuple #[.string ⟨#[]⟩, .int .i64 9]) (by simp [results, Try.results35, go_sem]) rfl ?_
            rw [HR.out]
            exact ⟨rfl, rfl⟩
end Go.Proofs.Ytbkimpimoclobaa

