/- The walk of OptKeeps. -/
import Derived.Test.YtlbihbfgglnfnaaM38
namespace Go.Proofs.Ytlbihbfgglnfnaa.Ow
open Go.RowKit Vf Vm Ot

theorem bare_short (m : Md) : bareM (shortM m) = bareM m := by
  unfold bareM shortM
  simp only [List.map_map]
  congr 1
theorem units_few {m : Md} (h : verify m = (0, 0, 0)) : m.units.length ≤ 30 := by
  have hlk := right_iff.1 h
  exact (rt_of (hlk 0 (by omega)) (hlk 1 (by omega)) (hlk 2 (by omega))).1.units

set_option maxHeartbeats 2000000 in
set_option maxRecDepth 100000 in
theorem keeps_any (m : Md) (ab au : Option Addr) (cb cu : Nat) (w : World) (hin : ModIn w.heap.size w m ab au) :
    Calls Try.prog 5 #[modV m ab au cb cu] w fun e w' => e = .returned (.bool true) ∧ Below w.heap.size w w' := by
  have HIN := hide hin
  clear hin
  have HLOW : Hid (∀ W : World, Below w.heap.size w W → w.heap.size ≤ W.heap.size ∧ ModIn w.heap.size W m ab au) := fun W h => ⟨h.size, HIN.out.low h.block⟩
  obtain ⟨V, hV⟩ : ∃ V, V = w.alloc (modO m ab au cb cu) := ⟨_, rfl⟩
  have HBV : Hid (Below w.heap.size w V) := by rw [hV]; exact one_below _ _
  have HN0 : Hid (V.heap[w.heap.size]? = some (modO m ab au cb cu)) := by rw [hV]; exact heap_alloc_new _ _
  have HV := hide hV.symm
  clear hV
  go_enter Try.func5, Try.ntmps5
  go_wp2_with fail
  rw [HV.out]
  clear HV
  refine (alive_any V).mono ?_
  rintro e w1 ⟨rfl, hb1⟩
  have HB1 : Hid (Below w.heap.size w w1) := below_onO HBV.out hb1
  have HN1 := hide (keepB hb1 HN0.out)
  clear hb1 HBV HN0
  obtain ⟨a0, a1, _, _⟩ := two_cells HN1.out
  have hmd := module_any w.heap.size m ab au cb cu w1 (hide (HLOW.out _ HB1.out).1) (hide (HLOW.out _ HB1.out).2)
  unfold ModV at hmd
  obtain ⟨r, hr⟩ : ∃ r, r = verify m := ⟨_, rfl⟩
  obtain ⟨n, hn⟩ : ∃ n, n = made m := ⟨_, rfl⟩
  rw [← hr, ← hn] at hmd
  have HMD := hide hmd
  have HR := hide hr
  have HN := hide hn
  clear hmd hr hn
  go_wp2_with fail
  refine HMD.out.mono ?_
  rintro e w2 ⟨nb, cnb, nu, cnu, rfl, hM, hb2⟩
  obtain ⟨W2, hW2⟩ : ∃ W2, W2 = (w2.alloc (modO n nb nu cnb cnu)).alloc (.cells #[.int .i64 r.1, .int .i64 r.2.1, .int .i64 r.2.2] 29) := ⟨_, rfl⟩
  have hbW : Below w2.heap.size w2 W2 := by rw [hW2]; exact two_belowO _ _ _
  have HB2 : Hid (Below w.heap.size w W2) := below_onO (below_onO HB1.out hb2) hbW
  have HA : Hid (W2.heap[w.heap.size]? = some (modO m ab au cb cu)) := keepB hbW (keepB hb2 HN1.out)
  have HNN : Hid (W2.heap[w2.heap.size]? = some (modO n nb nu cnb cnu)) := by rw [hW2]; exact oldO _ _ _
  have HWW : Hid (W2.heap[w2.heap.size + 1]? = some (.cells #[.int .i64 r.1, .int .i64 r.2.1, .int .i64 r.2.2] 29 (0, 0))) := by rw [hW2]; exact newO _ _ _
  have HMN : Hid (ModIn w2.heap.size W2 n nb nu) := hM.low hbW.block
  have HZ2 := hide hbW.size
  have HW2 := hide hW2.symm
  clear hW2 hbW hb2 hM HMD a0 a1 HN1
  go_upto_region 4 with fail
  rw [HW2.out]
  clear HW2
  generalize hQ : w2.heap.size = Q at *
  generalize hNN : w.heap.size = N at *
  have hAl := lt_of_block HA.out
  have hNl := lt_of_block HNN.out
  obtain ⟨a0, a1, _, _⟩ := two_cells HA.out
  obtain ⟨n0, n1, _, _⟩ := two_cells HNN.out
  obtain ⟨w0, w1', w2', _, _, _⟩ := three_cells HWW.out
  by_cases h0 : r.1 = 0
  · have e1 : (r.1 != 0) = false := by simpa using h0
    have hz : verify m = (0, 0, 0) := verify_zero (by rw [← HR.out]; exact h0)
    have hns : n = shortM m := by rw [HN.out]; unfold made; rw [hz]; rfl
    have hm30 := units_few hz
    have hn30 : n.units.length ≤ 30 := by rw [hns]; show (m.units.map shortU).length ≤ 30; simpa using hm30
    have HBB : Hid (bareM n = bareM m) := by unfold Hid; rw [hns, bare_short]
    have HD : Hid (Below W2.heap.size W2 W2.drew) := Below.drew (Below.refl _ _)
    have HKC : Hid (∀ X : World, Below W2.heap.size W2 X → X.cell? ⟨N, 0, none⟩ = some (.slice ab m.boxes.length cb) ∧ X.cell? ⟨N, 1, none⟩ = some (.slice au m.units.length cu) ∧ X.cell? ⟨Q, 0, none⟩ = some (.slice nb n.boxes.length cnb) ∧ X.cell? ⟨Q, 1, none⟩ = some (.slice nu n.units.length cnu)) := fun X h => ⟨(h.cell (p := ⟨N, 0, none⟩) hAl).trans a0, (h.cell (p := ⟨N, 1, none⟩) hAl).trans a1, (h.cell (p := ⟨Q, 0, none⟩) hNl).trans n0, (h.cell (p := ⟨Q, 1, none⟩) hNl).trans n1⟩
    have HC1 : Hid (∀ X : World, Below W2.heap.size W2 X → Calls Try.prog 10 #[modV m ab au cb cu] X fun e w' => ∃ ab' cb' au' cu', e = .returned (modV (bareM m) ab' au' cb' cu') ∧ ModIn w'.heap.size w' (bareM m) ab' au' ∧ Below X.heap.size X w') := fun X h => bare_any N m ab au cb cu X (hide (Nat.le_trans (Nat.le_of_lt hAl) h.size)) (hide ((HLOW.out _ HB2.out).2.low (fun k hk => h.block k (by omega)))) hm30
    have HC2 : Hid (∀ X : World, Below W2.heap.size W2 X → Calls Try.prog 10 #[modV n nb nu cnb cnu] X fun e w' => ∃ ab' cb' au' cu', e = .returned (modV (bareM n) ab' au' cb' cu') ∧ ModIn w'.heap.size w' (bareM n) ab' au' ∧ Below X.heap.size X w') := fun X h => bare_any Q n nb nu cnb cnu X (hide (Nat.le_trans HZ2.out h.size)) (hide (HMN.out.low (fun k hk => h.block k (by have := HZ2.out; omega)))) hn30
    clear h0 hz hns hm30 hn30
    go_wp2
    go_region_held3 (fun w' => w'.cell? ⟨N, 0, none⟩ = some (.slice ab m.boxes.length cb) ∧ w'.cell? ⟨N, 1, none⟩ = some (.slice au m.units.length cu) ∧ w'.cell? ⟨Q, 0, none⟩ = some (.slice nb n.boxes.length cnb) ∧ w'.cell? ⟨Q, 1, none⟩ = some (.slice nu n.units.length cnu)) (go_keep) (first | (go_at_call 9; have hx2 := HX2.out; refine HSM.out.mono ?_; rintro e w5 ⟨rfl, hb5⟩; have HX3 : Hid (Below W2.heap.size W2 w5) := below_onO hx2 hb5; clear hb5 hx2; have k0 := (HKC.out _ HX3.out).1; have k1 := (HKC.out _ HX3.out).2.1; have k2 := (HKC.out _ HX3.out).2.2.1; have k3 := (HKC.out _ HX3.out).2.2.2) | (go_at_call 10; have hx1 := HX1.out; refine (HC2.out _ hx1).mono ?_; rintro e w4 ⟨nb', cnb', nu', cnu', rfl, hM4, hb4⟩; have HX2 : Hid (Below W2.heap.size W2 w4) := below_onO hx1 hb4; have HSM := hide (same_any (bareM m) mb' mu' nb' nu' cmb' cmu' cnb' cnu' w4 (hide (md_on HM3.out hb4)) (hide (by rw [← HBB.out]; exact hM4))); rw [HBB.out]; clear hb4 hx1 hM4; have k0 := (HKC.out _ HX2.out).1; have k1 := (HKC.out _ HX2.out).2.1; have k2 := (HKC.out _ HX2.out).2.2.1; have k3 := (HKC.out _ HX2.out).2.2.2) | (go_at_call 10; refine (HC1.out _ HD.out).mono ?_; rintro e w3 ⟨mb', cmb', mu', cmu', rfl, hM3, hb3⟩; have HX1 : Hid (Below W2.heap.size W2 w3) := below_onO HD.out hb3; have HM3 := hide hM3; clear hb3 hM3; have k0 := (HKC.out _ HX1.out).1; have k1 := (HKC.out _ HX1.out).2.1; have k2 := (HKC.out _ HX1.out).2.2.1; have k3 := (HKC.out _ HX1.out).2.2.2))
    go_wp2
    go_ret
    exact ⟨rfl, by rw [hNN]; exact HB2.out.trans (HX3.out.mono (Nat.le_of_lt hAl))⟩
  · have e1 : (r.1 != 0) = true := by simpa using h0
    clear h0
    go_wp2
    go_ret
    exact ⟨rfl, by rw [hNN]; exact HB2.out⟩
end Go.Proofs.Ytlbihbfgglnfnaa.Ow

