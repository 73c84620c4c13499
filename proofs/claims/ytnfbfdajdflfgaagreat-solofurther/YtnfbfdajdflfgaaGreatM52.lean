/- The walk of Begins. -/
import Derived.Test.YtnfbfdajdflfgaaGreatM50
import Derived.Test.YtnfbfdajdflfgaaGreatM51
namespace Go.Proofs.YtnfbfdajdflfgaaGreat.Vw
open Go.RowKit Vf Vm

set_option maxHeartbeats 400000 in
theorem begins_any (v1 v2 : Value) (l l' : List Int) (w : World) (h1 : Hid (RI w v1 l)) (h2 : Hid (RI w v2 l')) (hn : l'.length ≤ 9223372036854775806) (hp : Hid (l <+: l')) :
    Calls Tryz.prog 7 #[v1, v2] w fun e w' => e = .returned (.bool true) ∧ ∃ d, w' = w.drewN d := by
  have hle := hp.out.length_le
  obtain ⟨a1, c1, rfl, hc1, r1⟩ := h1.out
  obtain ⟨a2, c2, rfl, hc2, r2⟩ := h2.out
  have HI2 : Hid (RI w (.slice a2 l.length c2) l) := ⟨a2, c2, rfl, by omega, fun i x hx => r2 i x (by
    obtain ⟨r, hr⟩ := hp.out
    rw [← hr, List.getElem?_append_left (List.getElem?_eq_some_iff.1 hx).1]
    exact hx)⟩
  clear r1 r2
  obtain ⟨n, hn1⟩ : ∃ n, n = l.length := ⟨_, rfl⟩
  obtain ⟨n', hn2⟩ : ∃ n, n = l'.length := ⟨_, rfl⟩
  have HN1 := Sb.hide hn1
  rw [← hn1] at h1 HI2 hle ⊢
  rw [← hn2] at hn hle hc2 ⊢
  have HN : Hid (l.length ≤ 9223372036854775806) := by unfold Hid; omega
  clear hn1 hn2 hc1
  have i1 : (n : Int) ≤ (n' : Int) := by omega
  have i2 : (n : Int) ≤ (c2 : Int) := by omega
  have i3 : (0 : Int) ≤ (n : Int) := by omega
  go_enter Tryz.func7, Tryz.ntmps7
  go_wp2_with fail

  refine (same_any _ _ l _ h1 HI2 HN.out).mono ?_
  rintro e w' ⟨rfl, d, rfl⟩
  go_wp2
  go_ret
  exact ⟨rfl, d, rfl⟩
end Go.Proofs.YtnfbfdajdflfgaaGreat.Vw

/- The walk of SoloFurther. -/
namespace Go.Proofs.YtnfbfdajdflfgaaGreat.Vw
open Go.RowKit Vf Vm

set_option maxRecDepth 100000 in
set_option maxHeartbeats 2000000 in
theorem further_any (m : Md) (ab au : Option Addr) (cb cu : Nat) (fs : List (List Int)) (a : Option Addr) (cap : Nat) (fa : Nat → Option Addr) (fc : Nat → Nat) (w : World) (hmd : Hid (ModIn w.heap.size w m ab au)) (hfd : Hid (FdIn w.heap.size w fs a fa fc)) (task most more : Int) :
    Calls Tryz.prog 3 #[mdV m ab au cb cu, .int .i64 task, .slice a fs.length cap, .int .i64 most, .int .i64 more] w fun e w' => e = .returned (.bool true) ∧ Below w.heap.size w w' := by
  have HM0 : Hid ((w.alloc (mdB m ab au cb cu)).heap[w.heap.size]? = some (mdB m ab au cb cu)) := heap_alloc_new w _
  have HB0 : Hid (Below w.heap.size w (w.alloc (mdB m ab au cb cu))) := (Below.refl _ w).alloc (Nat.le_refl _) _
  have HMD : Hid (∀ W, Below w.heap.size w W → ModIn w.heap.size W m ab au ∧ FdIn w.heap.size W fs a fa fc) := fun W hW => ⟨hmd.out.low hW.block, hfd.out.low hW.block⟩
  go_enter Tryz.func3, Tryz.ntmps3
  go_wp2_with fail
  generalize w.alloc (mdB m ab au cb cu) = W0 at *
  refine (alive_any _).mono ?_
  rintro e w1 ⟨rfl, hb1⟩
  have HB1 := Sb.hide (HB0.out.trans (hb1.mono HB0.out.size))
  have HM1 := Sb.hide ((hb1.block _ (lt_of_block HM0.out)).trans HM0.out)
  clear hb1
  by_cases hmm : more < most
  · go_wp2
    go_ret
    exact ⟨rfl, HB1.out⟩
  have hmm2 := Int.not_lt.1 hmm
  have HMM := Sb.hide hmm2
  have hdm : decide (more < most) = false := by simp; omega
  clear hmm
  have c1 := md_cells HM1.out
  go_wp2_with fail
  refine (solo_some m ab au cb cu w.heap.size fs a cap fa fc _ (Sb.hide (HMD.out _ HB1.out).1) (Sb.hide (HMD.out _ HB1.out).2) HB1.out.size task most _ (Sb.hide rfl)).mono ?_
  rintro e w2 ⟨s, q, tr, st, oa, on, oc, sa, sn, sc, ta, tn, tc, rfl, hb2, hk2⟩
  obtain ⟨E1, hE1⟩ : ∃ E, E = soloE m task most fs := ⟨_, rfl⟩
  rw [← hE1] at hk2 ⊢
  have HE1 := Sb.hide hE1
  have HK2 := Sb.hide hk2
  have HB2 := Sb.hide (HB1.out.trans (hb2.mono HB1.out.size))
  have HM2 := Sb.hide ((hb2.block _ (lt_of_block HM1.out)).trans HM1.out)
  clear hE1 hk2 hb2 c1
  have c2 := md_cells HM2.out
  have hz2 := lt_of_block HM2.out
  go_wp2_with fail
  have HA3 : Hid ((w2.alloc (repO s q tr (.slice oa on oc) (.slice sa sn sc) (.slice ta tn tc) st)).heap[w2.heap.size]? = some (repO s q tr (.slice oa on oc) (.slice sa sn sc) (.slice ta tn tc) st)) := heap_alloc_new w2 _
  have HBA : Hid (Below w.heap.size w (w2.alloc (repO s q tr (.slice oa on oc) (.slice sa sn sc) (.slice ta tn tc) st))) := HB2.out.alloc HB2.out.size _
  have H2A : Hid (Below w2.heap.size w2 (w2.alloc (repO s q tr (.slice oa on oc) (.slice sa sn sc) (.slice ta tn tc) st))) := (Below.refl _ w2).alloc (Nat.le_refl _) _
  generalize w2.alloc (repO s q tr (.slice oa on oc) (.slice sa sn sc) (.slice ta tn tc) st) = W2 at *
  refine (solo_some m ab au cb cu w.heap.size fs a cap fa fc _ (Sb.hide (HMD.out _ HBA.out).1) (Sb.hide (HMD.out _ HBA.out).2) HBA.out.size task more _ (Sb.hide rfl)).mono ?_
  rintro e w3 ⟨s', q', tr', st', oa', on', oc', sa', sn', sc', ta', tn', tc', rfl, hb3, hk3⟩
  obtain ⟨E2, hE2⟩ : ∃ E, E = soloE m task more fs := ⟨_, rfl⟩
  rw [← hE2] at hk3 ⊢
  have HE2 := Sb.hide hE2
  have HK3 := Sb.hide hk3
  have HB3 := Sb.hide (HBA.out.trans (hb3.mono HBA.out.size))
  have H23 := Sb.hide (H2A.out.trans (hb3.mono H2A.out.size))
  have HA3' := Sb.hide ((hb3.block _ (lt_of_block HA3.out)).trans HA3.out)
  have HB4 : Hid (Below w.heap.size w (w3.alloc (repO s' q' tr' (.slice oa' on' oc') (.slice sa' sn' sc') (.slice ta' tn' tc') st'))) := HB3.out.alloc HB3.out.size _
  have H24 : Hid (Below w2.heap.size w2 (w3.alloc (repO s' q' tr' (.slice oa' on' oc') (.slice sa' sn' sc') (.slice ta' tn' tc') st'))) := H23.out.alloc H23.out.size _
  have H34 : Hid (Below w3.heap.size w3 (w3.alloc (repO s' q' tr' (.slice oa' on' oc') (.slice sa' sn' sc') (.slice ta' tn' tc') st'))) := (Below.refl _ w3).alloc (Nat.le_refl _) _
  have HA4 : Hid ((w3.alloc (repO s' q' tr' (.slice oa' on' oc') (.slice sa' sn' sc') (.slice ta' tn' tc') st')).heap[w2.heap.size]? = some (repO s q tr (.slice oa on oc) (.slice sa sn sc) (.slice ta tn tc) st)) := (Below.heap_alloc _ _ _ (lt_of_block HA3'.out)).trans HA3'.out
  have HC4 : Hid ((w3.alloc (repO s' q' tr' (.slice oa' on' oc') (.slice sa' sn' sc') (.slice ta' tn' tc') st')).heap[w3.heap.size]? = some (repO s' q' tr' (.slice oa' on' oc') (.slice sa' sn' sc') (.slice ta' tn' tc') st')) := heap_alloc_new w3 _
  clear hE2 hk3 hb3 c2 HM2 hz2
  by_cases h1 : E1 = 0
  · by_cases h2 : E2 = 0
    · have HO1 : Hid (SoOk (w3.alloc (repO s' q' tr' (.slice oa' on' oc') (.slice sa' sn' sc') (.slice ta' tn' tc') st')) m task most fs s q tr st (.slice oa on oc) (.slice sa sn sc) (.slice ta tn tc)) := (HK2.out h1).below H24.out
      have HO2 : Hid (SoOk (w3.alloc (repO s' q' tr' (.slice oa' on' oc') (.slice sa' sn' sc') (.slice ta' tn' tc') st')) m task more fs s' q' tr' st' (.slice oa' on' oc') (.slice sa' sn' sc') (.slice ta' tn' tc')) := (HK3.out h2).below H34.out
      have HF1 := Sb.hide (HO1.out.few (HE1.out.symm.trans h1))
      have HF2 := Sb.hide (HO2.out.few (HE2.out.symm.trans h2))
      have e1 : (E1 != 0) = false := by simpa using h1
      have e2 : (E2 != 0) = false := by simpa using h2
      have HMN : Hid (0 ≤ most ∧ 0 ≤ more) := ⟨(soloE_zero (HE1.out.symm.trans h1)).2.2.2.1, (soloE_zero (HE2.out.symm.trans h2)).2.2.2.1⟩
      have HFU : Hid (((soloR m task most fs).1 < most.toNat → soloR m task more fs = soloR m task most fs) ∧ (soloR m task most fs).1 ≤ (soloR m task more fs).1 ∧ Later (soloR m task most fs).2.1 (soloR m task most fs).2.2 (soloR m task more fs).2.1 (soloR m task more fs).2.2) := by
        have hn : more.toNat = most.toNat + (more.toNat - most.toNat) := by have := HMM.out; have := HMN.out; omega
        have := go_further m most.toNat (more.toNat - most.toNat) (newTk (unit m (soloU m task)) (soloU m task)) (soloX fs)
        rw [← hn] at this
        exact this
      obtain ⟨R1, hR1⟩ : ∃ R, R = soloR m task most fs := ⟨_, rfl⟩
      obtain ⟨R2, hR2⟩ : ∃ R, R = soloR m task more fs := ⟨_, rfl⟩
      have HD1 : Hid (RpRd (w3.alloc (repO s' q' tr' (.slice oa' on' oc') (.slice sa' sn' sc') (.slice ta' tn' tc') st')) R1.2.1 R1.2.2 (.slice oa on oc) (.slice sa sn sc) (.slice ta tn tc)) := by rw [hR1]; exact HO1.out.rd
      have HD2 : Hid (RpRd (w3.alloc (repO s' q' tr' (.slice oa' on' oc') (.slice sa' sn' sc') (.slice ta' tn' tc') st')) R2.2.1 R2.2.2 (.slice oa' on' oc') (.slice sa' sn' sc') (.slice ta' tn' tc')) := by rw [hR2]; exact HO2.out.rd
      have S1 : Hid ((s, q) = stat lsX m R1.2.1 R1.2.2 ∧ tr = R1.2.1.trap ∧ st = R1.1) := by rw [hR1]; exact ⟨HO1.out.stat, HO1.out.trap, HO1.out.steps⟩
      have S2 : Hid ((s', q') = stat lsX m R2.2.1 R2.2.2 ∧ tr' = R2.2.1.trap ∧ st' = R2.1) := by rw [hR2]; exact ⟨HO2.out.stat, HO2.out.trap, HO2.out.steps⟩
      rw [← hR1] at HF1
      rw [← hR2] at HF2
      rw [← hR1, ← hR2] at HFU
      obtain ⟨ra0, ra1, ra2, ra3, ra4, ra5, ra6⟩ := (rep_cells HA4.out).1
      obtain ⟨rc0, rc1, rc2, rc3, rc4, rc5, rc6⟩ := (rep_cells HC4.out).1
      clear h1 h2 hR1 hR2
      by_cases hst : (st : Int) < most
      · have HSE : Hid (R2 = R1) := HFU.out.1 (by have := S1.out.2.2; have := HMN.out; omega)
        have hds : decide ((st : Int) < most) = true := by simpa using hst
        go_wp2_with fail
        generalize w3.alloc (repO s' q' tr' (.slice oa' on' oc') (.slice sa' sn' sc') (.slice ta' tn' tc') st') = W4 at *
        have a1 := S1.out
        have a2 := S2.out
        rw [HSE.out] at a2
        have b1 := a1.1.trans a2.1.symm
        simp only [Prod.mk.injEq] at b1
        obtain ⟨rfl, rfl⟩ := b1
        obtain rfl : tr = tr' := a1.2.1.trans a2.2.1.symm
        obtain rfl : st = st' := a1.2.2.trans a2.2.2.symm
        have hD2 := HD2.out
        rw [HSE.out] at hD2
        obtain ⟨f1, f2, f3, f4⟩ := HF1.out
        refine (sameReport_any s q tr st R1.2.1 R1.2.2 _ _ _ _ _ _ W4 HD1 (Sb.hide hD2) (by omega) (by omega) (Sb.hide (fun q hq => Nat.le_trans (f3 q hq) (by omega)))).mono ?_
        rintro e w5 ⟨rfl, hb5⟩
        have HB5 := Sb.hide (HB4.out.trans (hb5.mono HB4.out.size))
        clear hb5 a1 a2 hD2 f1 f2 f3 f4
        go_wp2
        go_ret
        exact ⟨rfl, HB5.out⟩
      · have hds : decide ((st : Int) < most) = false := by simpa using hst
        have hss : decide ((st' : Int) < (st : Int)) = false := by have := HFU.out.2.1; have := S1.out.2.2; have := S2.out.2.2; simp; omega
        have hss2 : ¬ st' < st := by have := HFU.out.2.1; have := S1.out.2.2; have := S2.out.2.2; omega
        have HST := Sb.hide hst
        go_wp2_with fail
        generalize w3.alloc (repO s' q' tr' (.slice oa' on' oc') (.slice sa' sn' sc') (.slice ta' tn' tc') st') = W4 at *
        refine (begins_any _ _ R1.2.1.out R2.2.1.out W4 (Sb.hide HD1.out.out) (Sb.hide HD2.out.out) (by have := HF2.out.1; omega) (Sb.hide HFU.out.2.2.out)).mono ?_
        rintro e w5 ⟨rfl, d5, rfl⟩
        have HB5 : Hid (Below w.heap.size w (W4.drewN d5)) := below_drewN HB4.out d5
        obtain ⟨sa1, sc1, e3, hr1⟩ := HD1.out.sent.at
        obtain ⟨sa2, sc2, e4, hr2⟩ := HD2.out.sent.at
        simp at e3 e4
        obtain ⟨rfl, hsn, rfl⟩ := e3
        obtain ⟨rfl, hsn', rfl⟩ := e4
        have HR1 := Sb.hide hr1
        have HR2 := Sb.hide hr2
        have HSN := Sb.hide hsn
        have HSN' : Hid (sn = sn') := by unfold Hid; rw [hsn, hsn']; exact HFU.out.2.2.len
        have hsn30 : sn ≤ 30 := by have := HF1.out.2.1; omega
        clear hr1 hr2 hsn hsn' hst
        go_wp2
        go_loopw [66] (fun i wr => ∃ k : Nat, k ≤ sn ∧ i = .int .i64 k ∧ Below W4.heap.size W4 wr) (fun i _ => sn - (intOf i).toNat)
        case atStart => exact ⟨0, Nat.zero_le _, rfl, below_drewN (.refl _ _) _⟩
        case round =>
          obtain ⟨k, hk, rfl, hbr⟩ := hrel
          have HBR := Sb.hide hbr
          clear hbr
          by_cases hlt : k < sn
          · obtain ⟨y, hy⟩ : ∃ y, R1.2.2[k]? = some y := ⟨_, List.getElem?_eq_getElem (by have := HSN.out; omega)⟩
            obtain ⟨y', hy'⟩ : ∃ y, R2.2.2[k]? = some y := ⟨_, List.getElem?_eq_getElem (by have := HSN.out; have := HFU.out.2.2.len; omega)⟩
            obtain ⟨b1, o1, u1, rfl, hz1, x1, q1⟩ := HR1.out k y hy
            obtain ⟨b2, o2, u2, rfl, hz2, x2, q2⟩ := HR2.out k y' hy'
            have HPF : Hid (y.sent <+: y'.sent) := HFU.out.2.2.sent k y y' hy hy'
            have hyl : y'.sent.length ≤ 9223372036854775806 := by have := HF2.out.2.2.1 y' (List.mem_of_getElem? hy'); omega
            have HQ : Hid (∀ W, Below W4.heap.size W4 W → RI W u1 y.sent ∧ RI W u2 y'.sent) := fun W hW => ⟨q1.below hW, q2.below hW⟩
            have HX : Hid (∀ W, Below W4.heap.size W4 W → (W.cell? ⟨b1, o1 + k, none⟩ = some u1 ∧ W.cell? ⟨b2, o2 + k, none⟩ = some u2) ∧ (W.cell? ⟨w2.heap.size, 4, none⟩ = some (.slice (some ⟨b1, o1, none⟩) sn sc) ∧ W.cell? ⟨w3.heap.size, 4, none⟩ = some (.slice (some ⟨b2, o2, none⟩) sn' sc'))) := fun W hW => ⟨⟨(cell_eq (hW.block b1 hz1) _).trans x1, (cell_eq (hW.block b2 hz2) _).trans x2⟩, (cell_eq (hW.block _ (lt_of_block HA4.out)) _).trans (rep_cells HA4.out).1.2.2.2.2.1, (cell_eq (hW.block _ (lt_of_block HC4.out)) _).trans (rep_cells HC4.out).1.2.2.2.2.1⟩
            obtain ⟨⟨y1, y2⟩, y3, y4⟩ := HX.out _ HBR.out
            have i0 : (0 : Int) ≤ (k : Int) := by omega
            have i1 : (k : Int) < (sn : Int) := by omega
            have i2 : (k : Int) < (sn' : Int) := by have := HSN'.out; omega
            clear hy hy' q1 q2 x1 x2 ra0 ra1 ra2 ra3 ra4 ra5 ra6 rc0 rc1 rc2 rc3 rc4 rc5 rc6
            go_wp2
            go_region_held3 (fun w' => (w'.cell? ⟨b1, o1 + k, none⟩ = some u1 ∧ w'.cell? ⟨b2, o2 + k, none⟩ = some u2) ∧ (w'.cell? ⟨w2.heap.size, 4, none⟩ = some (.slice (some ⟨b1, o1, none⟩) sn sc) ∧ w'.cell? ⟨w3.heap.size, 4, none⟩ = some (.slice (some ⟨b2, o2, none⟩) sn' sc'))) (go_keep) ((go_at_call 7; refine (begins_any u1 u2 y.sent y'.sent _ (Sb.hide (HQ.out _ HBR.out.drew).1) (Sb.hide (HQ.out _ HBR.out.drew).2) hyl HPF).mono ?_; rintro e w' ⟨rfl, d2, rfl⟩; have HX2 := HX.out _ (below_drewN HBR.out.drew d2); obtain ⟨⟨y1, y2⟩, y3, y4⟩ := HX2))
            go_wp2
            go_roundw
            case rel => exact ⟨k + 1, by omega, by go_num, below_drewN HBR.out _⟩
            case measure => simp [intOf]; omega
          · go_wp2
            go_ret
            exact ⟨rfl, HB4.out.trans (HBR.out.mono HB4.out.size)⟩
    · have e1 : (E1 != 0) = false := by simpa using h1
      have e2 : (E2 != 0) = true := by simpa using h2
      clear h1 h2
      go_wp2
      go_ret
      exact ⟨rfl, HB4.out⟩
  · have e1 : (E1 != 0) = true := by simpa using h1
    clear h1
    go_wp2
    go_ret
    exact ⟨rfl, HB4.out⟩
end Go.Proofs.YtnfbfdajdflfgaaGreat.Vw

