/- The walks of SameAll, SameReport. -/
import Derived.Test.YtlpgfgcfkiefnaaM45
namespace Go.Proofs.Ytlpgfgcfkiefnaa.Vw
open Go.RowKit Vf Vm

set_option maxRecDepth 100000 in
set_option maxHeartbeats 1000000 in
theorem sameAll_any (v1 v2 : Value) (ls : List (List Int)) (w : World) (h1 : Hid (RS w v1 ls)) (h2 : Hid (RS w v2 ls)) (hn : ls.length ≤ 9223372036854775806) (hm : Hid (∀ l ∈ ls, l.length ≤ 9223372036854775806)) :
    Calls Try.prog 25 #[v1, v2] w fun e w' => e = .returned (.bool true) ∧ Below w.heap.size w w' := by
  obtain ⟨a1, c1, rfl, r1⟩ := h1.out
  obtain ⟨a2, c2, rfl, r2⟩ := h2.out
  have HR1 := Sb.hide r1
  have HR2 := Sb.hide r2
  clear r1 r2 h1 h2
  have eq0 : ((ls.length : Int) != (ls.length : Int)) = false := by simp
  go_enter Try.func25, Try.ntmps25
  go_wp2
  go_loopw [13] (fun i wr => ∃ k : Nat, k ≤ ls.length ∧ i = .int .i64 k ∧ Below w.heap.size w wr) (fun i _ => ls.length - (intOf i).toNat)
  case atStart => exact ⟨0, Nat.zero_le _, rfl, .refl _ _⟩
  case round =>
    obtain ⟨k, hk, rfl, hb⟩ := hrel
    have HB := Sb.hide hb
    clear hb
    by_cases hlt : k < ls.length
    · obtain ⟨l, hl⟩ : ∃ x, ls[k]? = some x := ⟨_, List.getElem?_eq_getElem hlt⟩
      obtain ⟨b1, o1, u1, rfl, x1, q1⟩ := HR1.out k l hl
      obtain ⟨b2, o2, u2, rfl, x2, q2⟩ := HR2.out k l hl
      have HQ : Hid (∀ W, Below w.heap.size w W → RI W u1 l ∧ RI W u2 l) := fun W hW => ⟨q1.below hW, q2.below hW⟩
      have hz1 := World.block_lt_of_cell? w _ x1
      have hz2 := World.block_lt_of_cell? w _ x2
      have HX : Hid (∀ W, Below w.heap.size w W → W.cell? ⟨b1, o1 + k, none⟩ = some u1 ∧ W.cell? ⟨b2, o2 + k, none⟩ = some u2) := fun W hW => ⟨(cell_eq (hW.block b1 hz1) _).trans x1, (cell_eq (hW.block b2 hz2) _).trans x2⟩
      obtain ⟨y1, y2⟩ := HX.out _ HB.out
      have hll := hm.out l (List.mem_of_getElem? hl)
      have i0 : (0 : Int) ≤ (k : Int) := by omega
      have i1 : (k : Int) < (ls.length : Int) := by omega
      clear hl q1 q2 x1 x2
      go_wp2
      go_region_held3 (fun w' => w'.cell? ⟨b1, o1 + k, none⟩ = some u1 ∧ w'.cell? ⟨b2, o2 + k, none⟩ = some u2) (go_keep) ((go_at_call 24; refine (same_any u1 u2 l _ (Sb.hide (HQ.out _ HB.out.drew).1) (Sb.hide (HQ.out _ HB.out.drew).2) hll).mono ?_; rintro e w' ⟨rfl, d2, rfl⟩; have HB2 : Hid (Below w.heap.size w ((wr.drew).drewN d2)) := (by exact below_drewN HB.out.drew d2); have y1 := (HX.out _ HB2.out).1; have y2 := (HX.out _ HB2.out).2))
      go_wp2
      go_roundw
      case rel => exact ⟨k + 1, by omega, by go_num, below_drewN HB.out _⟩
      case measure => simp [intOf]; omega
    · go_wp2
      go_ret
      exact ⟨rfl, HB.out⟩
set_option maxRecDepth 100000 in
set_option maxHeartbeats 2000000 in
theorem sameReport_any (s q tr st : Nat) (t : Tk) (x : List Lst) (vO vS vT vO' vS' vT' : Value) (w : World) (h1 : Hid (RpRd w t x vO vS vT)) (h2 : Hid (RpRd w t x vO' vS' vT')) (hn : x.length ≤ 1000000) (ho : t.out.length ≤ 1000000) (hm : Hid (∀ q ∈ x, q.sent.length ≤ 1000000)) :
    Calls Try.prog 10 #[repV s q tr vO vS vT st, repV s q tr vO' vS' vT' st] w fun e w' => e = .returned (.bool true) ∧ Below w.heap.size w w' := by
  obtain ⟨ta1, tc1, e1, _, r1⟩ := h1.out.took
  obtain ⟨ta2, tc2, e2, _, r2⟩ := h2.out.took
  subst e1 e2
  obtain ⟨sa1, sc1, e1, _⟩ := h1.out.sent
  obtain ⟨sa2, sc2, e2, _⟩ := h2.out.sent
  subst e1 e2
  obtain ⟨oa1, oc1, e1, _⟩ := h1.out.out
  obtain ⟨oa2, oc2, e2, _⟩ := h2.out.out
  subst e1 e2
  simp only [List.length_map] at r1 r2 h1 h2 ⊢
  have HR1 := Sb.hide r1
  have HR2 := Sb.hide r2
  have f1 : ((s : Int) != (s : Int)) = false := by simp
  have f2 : ((q : Int) != (q : Int)) = false := by simp
  have f3 : ((tr : Int) != (tr : Int)) = false := by simp
  have f4 : ((st : Int) != (st : Int)) = false := by simp
  obtain ⟨n, hn1⟩ : ∃ n, n = x.length := ⟨_, rfl⟩
  have HN := Sb.hide hn1
  rw [← hn1] at hn h1 h2 ⊢
  have f5 : ((n : Int) != (n : Int)) = false := by simp
  clear r1 r2 hn1
  go_enter Try.func10, Try.ntmps10
  go_wp2_with fail
  have HB0 : Hid (Below w.heap.size w ((w.alloc (repO s q tr (.slice oa1 t.out.length oc1) (.slice sa1 n sc1) (.slice ta1 n tc1) st)).alloc (repO s q tr (.slice oa2 t.out.length oc2) (.slice sa2 n sc2) (.slice ta2 n tc2) st))) := ((Below.refl _ w).alloc (Nat.le_refl _) _).alloc (by simp) _
  have HA0 : Hid (((w.alloc (repO s q tr (.slice oa1 t.out.length oc1) (.slice sa1 n sc1) (.slice ta1 n tc1) st)).alloc (repO s q tr (.slice oa2 t.out.length oc2) (.slice sa2 n sc2) (.slice ta2 n tc2) st)).heap[w.heap.size]? = some (repO s q tr (.slice oa1 t.out.length oc1) (.slice sa1 n sc1) (.slice ta1 n tc1) st)) := (Below.heap_alloc _ _ _ (by simp)).trans (heap_alloc_new w _)
  have HC0 : Hid (((w.alloc (repO s q tr (.slice oa1 t.out.length oc1) (.slice sa1 n sc1) (.slice ta1 n tc1) st)).alloc (repO s q tr (.slice oa2 t.out.length oc2) (.slice sa2 n sc2) (.slice ta2 n tc2) st)).heap[w.heap.size + 1]? = some (repO s q tr (.slice oa2 t.out.length oc2) (.slice sa2 n sc2) (.slice ta2 n tc2) st)) := by
    have e : (w.alloc (repO s q tr (.slice oa1 t.out.length oc1) (.slice sa1 n sc1) (.slice ta1 n tc1) st)).heap.size = w.heap.size + 1 := by simp
    unfold Hid
    rw [← e]
    exact heap_alloc_new _ _
  generalize (w.alloc (repO s q tr (.slice oa1 t.out.length oc1) (.slice sa1 n sc1) (.slice ta1 n tc1) st)).alloc (repO s q tr (.slice oa2 t.out.length oc2) (.slice sa2 n sc2) (.slice ta2 n tc2) st) = W0 at *
  refine (same_any _ _ t.out _ (Sb.hide (h1.out.out.below HB0.out)) (Sb.hide (h2.out.out.below HB0.out)) (by omega)).mono ?_
  rintro e w' ⟨rfl, d, rfl⟩
  have HB1 : Hid (Below w.heap.size w (W0.drewN d)) := below_drewN HB0.out d
  have HA1 : Hid ((W0.drewN d).heap[w.heap.size]? = some (repO s q tr (.slice oa1 t.out.length oc1) (.slice sa1 n sc1) (.slice ta1 n tc1) st)) := HA0.out
  have HC1 : Hid ((W0.drewN d).heap[w.heap.size + 1]? = some (repO s q tr (.slice oa2 t.out.length oc2) (.slice sa2 n sc2) (.slice ta2 n tc2) st)) := HC0.out
  generalize W0.drewN d = W1 at *
  have ra := (rep_cells HA1.out).1
  have rc := (rep_cells HC1.out).1
  go_wp2_with fail
  refine (sameAll_any _ _ (x.map (·.sent)) _ (Sb.hide (by have := h1.out.sent.below HB1.out; exact this)) (Sb.hide (by have := h2.out.sent.below HB1.out; exact this)) (by have := HN.out; simp; omega) (Sb.hide (fun l hl => by
    obtain ⟨q, hq, rfl⟩ := List.mem_map.1 hl
    have := hm.out q hq
    omega))).mono ?_
  rintro e w2 ⟨rfl, hb2⟩
  have HB2 : Hid (Below w.heap.size w w2) := HB1.out.trans (hb2.mono HB1.out.size)
  have HA2 := Sb.hide ((hb2.block _ (lt_of_block HA1.out)).trans HA1.out)
  have HC2 := Sb.hide ((hb2.block _ (lt_of_block HC1.out)).trans HC1.out)
  clear ra rc hb2
  have ra := (rep_cells HA2.out).1
  have rc := (rep_cells HC2.out).1
  go_wp2
  clear ra rc
  go_loopw [60] (fun i wr => ∃ k d : Nat, k ≤ n ∧ i = .int .i64 k ∧ wr = w2.drewN d) (fun i _ => n - (intOf i).toNat)
  case atStart => exact ⟨0, 0, Nat.zero_le _, rfl, rfl⟩
  case round =>
    obtain ⟨k, d, hk, rfl, rfl⟩ := hrel
    by_cases hlt : k < n
    · obtain ⟨y, hy⟩ : ∃ y, x[k]? = some y := ⟨_, List.getElem?_eq_getElem (by have := HN.out; omega)⟩
      obtain ⟨b1, o1, rfl, x1⟩ := HR1.out k (y.took : Int) (by rw [List.getElem?_map, hy]; rfl)
      obtain ⟨b2, o2, rfl, x2⟩ := HR2.out k (y.took : Int) (by rw [List.getElem?_map, hy]; rfl)
      have z1 : w2.cell? ⟨b1, o1 + k, none⟩ = some (.int .i64 (y.took : Int)) := (cell_eq (HB2.out.block b1 (World.block_lt_of_cell? w _ x1)) _).trans x1
      have z2 : w2.cell? ⟨b2, o2 + k, none⟩ = some (.int .i64 (y.took : Int)) := (cell_eq (HB2.out.block b2 (World.block_lt_of_cell? w _ x2)) _).trans x2
      have eqx : ((y.took : Int) != (y.took : Int)) = false := by simp
      have i0 : (0 : Int) ≤ (k : Int) := by omega
      have i1 : (k : Int) < (n : Int) := by omega
      have ra := (rep_cells HA2.out).1.2.2.2.2.2.1
      have rc := (rep_cells HC2.out).1.2.2.2.2.2.1
      clear hy x1 x2
      go_wp2
      go_quiet (fail)
      go_wp2
      go_roundw
      case rel => exact ⟨k + 1, _, by omega, by go_num, rfl⟩
      case measure => simp [intOf]; omega
    · go_wp2
      go_ret
      exact ⟨rfl, below_drewN HB2.out d⟩
end Go.Proofs.Ytlpgfgcfkiefnaa.Vw

/- The walk of SoloFurther. -/
namespace Go.Proofs.Ytlpgfgcfkiefnaa.Vw
open Go.RowKit Vf Vm

/-- What a report says. -/
structure SoOk (w : World) (m : Md) (task most : Int) (fs : List (List Int)) (s q tr st : Nat) (vO vS vT : Value) : Prop where
  stat : (s, q) = stat lsX m (soloR m task most fs).2.1 (soloR m task most fs).2.2
  trap : tr = (soloR m task most fs).2.1.trap
  steps : st = (soloR m task most fs).1
  rd : RpRd w (soloR m task most fs).2.1 (soloR m task most fs).2.2 vO vS vT
  li : ∃ K, Known m K ∧ LI m K fs (soloR m task most fs).1 (soloR m task most fs).2.1 (soloR m task most fs).2.2
theorem SoOk.below {w w' : World} {m : Md} {task most : Int} {fs : List (List Int)} {s q tr st : Nat} {vO vS vT : Value} (h : SoOk w m task most fs s q tr st vO vS vT) (hb : Below w.heap.size w w') : SoOk w' m task most fs s q tr st vO vS vT := ⟨h.stat, h.trap, h.steps, h.rd.below hb, h.li⟩

theorem solo_some (m : Md) (ab au : Option Addr) (cb cu B : Nat) (fs : List (List Int)) (a : Option Addr) (cap : Nat) (fa : Nat → Option Addr) (fc : Nat → Nat) (w : World) (hmd : Hid (ModIn B w m ab au)) (hfd : Hid (FdIn B w fs a fa fc)) (hB : B ≤ w.heap.size) (task most : Int) (E : Int) (hE : Hid (E = soloE m task most fs)) :
    Calls Try.prog 8 #[mdV m ab au cb cu, .int .i64 task, .slice a fs.length cap, .int .i64 most] w fun e w' => ∃ s q tr st oa on oc sa sn sc ta tn tc, e = .returned (.tuple #[repV s q tr (.slice oa on oc) (.slice sa sn sc) (.slice ta tn tc) st, .int .i64 E]) ∧ Below w.heap.size w w' ∧ (E = 0 → SoOk w' m task most fs s q tr st (.slice oa on oc) (.slice sa sn sc) (.slice ta tn tc)) := by
  refine (solo_any m ab au cb cu B fs a cap fa fc w hmd hfd hB task most E hE).mono ?_
  rintro e w' ⟨hb, hr⟩
  rcases hr with ⟨h0, rfl⟩ | ⟨h0, vO, vS, vT, rfl, hR, hK⟩
  · exact ⟨0, 0, 0, 0, none, 0, 0, none, 0, 0, none, 0, 0, rfl, hb, fun e => absurd e h0⟩
  · have hrd := hR.reads
    obtain ⟨oa, oc, e1, _⟩ := hrd.out
    obtain ⟨sa, sc, e2, _⟩ := hrd.sent
    obtain ⟨ta, tc, e3, _⟩ := hrd.took
    subst e1 e2 e3 h0
    exact ⟨_, _, _, _, oa, _, oc, sa, _, sc, ta, _, tc, rfl, hb, fun _ => ⟨rfl, rfl, rfl, hrd, hK⟩⟩

/-- How much there is at most. -/
theorem SoOk.few {w : World} {m : Md} {task most : Int} {fs : List (List Int)} {s q tr st : Nat} {vO vS vT : Value} (h : SoOk w m task most fs s q tr st vO vS vT) (hE : soloE m task most fs = 0) : (soloR m task most fs).2.1.out.length ≤ 5000 ∧ (soloR m task most fs).2.2.length ≤ 30 ∧ (∀ q ∈ (soloR m task most fs).2.2, q.sent.length ≤ 5000) ∧ st ≤ 5000 := by
  obtain ⟨hv, t0, t1, m0, m1, hl, hw⟩ := soloE_zero hE
  obtain ⟨⟨_, _⟩, hb⟩ := known_of hv
  obtain ⟨K, _, hI⟩ := h.li
  have hst : (soloR m task most fs).1 ≤ most.toNat := go_le _ _ _
  have h1 := hI.out
  have h2 := hI.len
  refine ⟨by omega, by omega, fun q hq => ?_, by rw [h.steps]; omega⟩
  obtain ⟨i, hi⟩ := List.getElem?_of_mem hq
  have := (hI.lists i q hi).2.2.1
  omega

/-- Two reports, one of which says no less. -/
theorem RS.at {w : World} {v : Value} {x : List Lst} (h : RS w v (x.map (·.sent))) : ∃ a c, v = .slice a x.length c ∧ ∀ (i : Nat) q, x[i]? = some q → ∃ b off u, a = some ⟨b, off, none⟩ ∧ b < w.heap.size ∧ w.cell? ⟨b, off + i, none⟩ = some u ∧ RI w u q.sent := by
  obtain ⟨a, c, e, hr⟩ := h
  refine ⟨a, c, by simpa using e, fun i q hq => ?_⟩
  obtain ⟨b, off, u, e2, hc, hi⟩ := hr i q.sent (by rw [List.getElem?_map, hq]; rfl)
  exact ⟨b, off, u, e2, World.block_lt_of_cell? w _ hc, hc, hi⟩

set_option maxRecDepth 100000 in
set_option maxHeartbeats 2000000 in
theorem further_any (m : Md) (ab au : Option Addr) (cb cu : Nat) (fs : List (List Int)) (a : Option Addr) (cap : Nat) (fa : Nat → Option Addr) (fc : Nat → Nat) (w : World) (hmd : Hid (ModIn w.heap.size w m ab au)) (hfd : Hid (FdIn w.heap.size w fs a fa fc)) (task most more : Int) :
    Calls Try.prog 5 #[mdV m ab au cb cu, .int .i64 task, .slice a fs.length cap, .int .i64 most, .int .i64 more] w fun e w' => e = .returned (.bool true) ∧ Below w.heap.size w w' := by
  have HM0 : Hid ((w.alloc (mdB m ab au cb cu)).heap[w.heap.size]? = some (mdB m ab au cb cu)) := heap_alloc_new w _
  have HB0 : Hid (Below w.heap.size w (w.alloc (mdB m ab au cb cu))) := (Below.refl _ w).alloc (Nat.le_refl _) _
  have HMD : Hid (∀ W, Below w.heap.size w W → ModIn w.heap.size W m ab au ∧ FdIn w.heap.size W fs a fa fc) := fun W hW => ⟨hmd.out.low hW.block, hfd.out.low hW.block⟩
  go_enter Try.func5, Try.ntmps5
  go_wp2_with fail
  generalize w.alloc (mdB m ab au cb cu) = W0 at *
  refine (alive_any _).mono ?_
  rintro e w1 ⟨rfl, hb1⟩
  have HB1 := Sb.hide (HB0.out.trans (hb1.mono HB0.out.size))
  have HM1 := Sb.hide ((hb1.block _ (lt_of_block HM0.out)).trans HM0.out)
  clear hb1
  by_cases hmm : more < most
  · go_wp2
    go_ret
    exact ⟨rfl, HB1.out⟩
  have hmm2 := Int.not_lt.1 hmm
  have HMM := Sb.hide hmm2
  have hdm : decide (more < most) = false := by simp; omega
  clear hmm
  have c1 := md_cells HM1.out
  go_wp2_with fail
  refine (solo_some m ab au cb cu w.heap.size fs a cap fa fc _ (Sb.hide (HMD.out _ HB1.out).1) (Sb.hide (HMD.out _ HB1.out).2) HB1.out.size task most _ (Sb.hide rfl)).mono ?_
  rintro e w2 ⟨s, q, tr, st, oa, on, oc, sa, sn, sc, ta, tn, tc, rfl, hb2, hk2⟩
  obtain ⟨E1, hE1⟩ : ∃ E, E = soloE m task most fs := ⟨_, rfl⟩
  rw [← hE1] at hk2 ⊢
  have HE1 := Sb.hide hE1
  have HK2 := Sb.hide hk2
  have HB2 := Sb.hide (HB1.out.trans (hb2.mono HB1.out.size))
  have HM2 := Sb.hide ((hb2.block _ (lt_of_block HM1.out)).trans HM1.out)
  clear hE1 hk2 hb2 c1
  have c2 := md_cells HM2.out
  have hz2 := lt_of_block HM2.out
  go_wp2_with fail
  have HA3 : Hid ((w2.alloc (repO s q tr (.slice oa on oc) (.slice sa sn sc) (.slice ta tn tc) st)).heap[w2.heap.size]? = some (repO s q tr (.slice oa on oc) (.slice sa sn sc) (.slice ta tn tc) st)) := heap_alloc_new w2 _
  have HBA : Hid (Below w.heap.size w (w2.alloc (repO s q tr (.slice oa on oc) (.slice sa sn sc) (.slice ta tn tc) st))) := HB2.out.alloc HB2.out.size _
  have H2A : Hid (Below w2.heap.size w2 (w2.alloc (repO s q tr (.slice oa on oc) (.slice sa sn sc) (.slice ta tn tc) st))) := (Below.refl _ w2).alloc (Nat.le_refl _) _
  generalize w2.alloc (repO s q tr (.slice oa on oc) (.slice sa sn sc) (.slice ta tn tc) st) = W2 at *
  refine (solo_some m ab au cb cu w.heap.size fs a cap fa fc _ (Sb.hide (HMD.out _ HBA.out).1) (Sb.hide (HMD.out _ HBA.out).2) HBA.out.size task more _ (Sb.hide rfl)).mono ?_
  rintro e w3 ⟨s', q', tr', st', oa', on', oc', sa', sn', sc', ta', tn', tc', rfl, hb3, hk3⟩
  obtain ⟨E2, hE2⟩ : ∃ E, E = soloE m task more fs := ⟨_, rfl⟩
  rw [← hE2] at hk3 ⊢
  have HE2 := Sb.hide hE2
  have HK3 := Sb.hide hk3
  have HB3 := Sb.hide (HBA.out.trans (hb3.mono HBA.out.size))
  have H23 := Sb.hide (H2A.out.trans (hb3.mono H2A.out.size))
  have HA3' := Sb.hide ((hb3.block _ (lt_of_block HA3.out)).trans HA3.out)
  have HB4 : Hid (Below w.heap.size w (w3.alloc (repO s' q' tr' (.slice oa' on' oc') (.slice sa' sn' sc') (.slice ta' tn' tc') st'))) := HB3.out.alloc HB3.out.size _
  have H24 : Hid (Below w2.heap.size w2 (w3.alloc (repO s' q' tr' (.slice oa' on' oc') (.slice sa' sn' sc') (.slice ta' tn' tc') st'))) := H23.out.alloc H23.out.size _
  have H34 : Hid (Below w3.heap.size w3 (w3.alloc (repO s' q' tr' (.slice oa' on' oc') (.slice sa' sn' sc') (.slice ta' tn' tc') st'))) := (Below.refl _ w3).alloc (Nat.le_refl _) _
  have HA4 : Hid ((w3.alloc (repO s' q' tr' (.slice oa' on' oc') (.slice sa' sn' sc') (.slice ta' tn' tc') st')).heap[w2.heap.size]? = some (repO s q tr (.slice oa on oc) (.slice sa sn sc) (.slice ta tn tc) st)) := (Below.heap_alloc _ _ _ (lt_of_block HA3'.out)).trans HA3'.out
  have HC4 : Hid ((w3.alloc (repO s' q' tr' (.slice oa' on' oc') (.slice sa' sn' sc') (.slice ta' tn' tc') st')).heap[w3.heap.size]? = some (repO s' q' tr' (.slice oa' on' oc') (.slice sa' sn' sc') (.slice ta' tn' tc') st')) := heap_alloc_new w3 _
  clear hE2 hk3 hb3 c2 HM2 hz2
  by_cases h1 : E1 = 0
  · by_cases h2 : E2 = 0
    · have HO1 : Hid (SoOk (w3.alloc (repO s' q' tr' (.slice oa' on' oc') (.slice sa' sn' sc') (.slice ta' tn' tc') st')) m task most fs s q tr st (.slice oa on oc) (.slice sa sn sc) (.slice ta tn tc)) := (HK2.out h1).below H24.out
      have HO2 : Hid (SoOk (w3.alloc (repO s' q' tr' (.slice oa' on' oc') (.slice sa' sn' sc') (.slice ta' tn' tc') st')) m task more fs s' q' tr' st' (.slice oa' on' oc') (.slice sa' sn' sc') (.slice ta' tn' tc')) := (HK3.out h2).below H34.out
      have HF1 := Sb.hide (HO1.out.few (HE1.out.symm.trans h1))
      have HF2 := Sb.hide (HO2.out.few (HE2.out.symm.trans h2))
      have e1 : (E1 != 0) = false := by simpa using h1
      have e2 : (E2 != 0) = false := by simpa using h2
      have HMN : Hid (0 ≤ most ∧ 0 ≤ more) := ⟨(soloE_zero (HE1.out.symm.trans h1)).2.2.2.1, (soloE_zero (HE2.out.symm.trans h2)).2.2.2.1⟩
      have HFU : Hid (((soloR m task most fs).1 < most.toNat → soloR m task more fs = soloR m task most fs) ∧ (soloR m task most fs).1 ≤ (soloR m task more fs).1 ∧ Later (soloR m task most fs).2.1 (soloR m task most fs).2.2 (soloR m task more fs).2.1 (soloR m task more fs).2.2) := by
        have hn : more.toNat = most.toNat + (more.toNat - most.toNat) := by have := HMM.out; have := HMN.out; omega
        have := go_further m most.toNat (more.toNat - most.toNat) (newTk (unit m (soloU m task)) (soloU m task)) (soloX fs)
        rw [← hn] at this
        exact this
      obtain ⟨R1, hR1⟩ : ∃ R, R = soloR m task most fs := ⟨_, rfl⟩
      obtain ⟨R2, hR2⟩ : ∃ R, R = soloR m task more fs := ⟨_, rfl⟩
      have HD1 : Hid (RpRd (w3.alloc (repO s' q' tr' (.slice oa' on' oc') (.slice sa' sn' sc') (.slice ta' tn' tc') st')) R1.2.1 R1.2.2 (.slice oa on oc) (.slice sa sn sc) (.slice ta tn tc)) := by rw [hR1]; exact HO1.out.rd
      have HD2 : Hid (RpRd (w3.alloc (repO s' q' tr' (.slice oa' on' oc') (.slice sa' sn' sc') (.slice ta' tn' tc') st')) R2.2.1 R2.2.2 (.slice oa' on' oc') (.slice sa' sn' sc') (.slice ta' tn' tc')) := by rw [hR2]; exact HO2.out.rd
      have S1 : Hid ((s, q) = stat lsX m R1.2.1 R1.2.2 ∧ tr = R1.2.1.trap ∧ st = R1.1) := by rw [hR1]; exact ⟨HO1.out.stat, HO1.out.trap, HO1.out.steps⟩
      have S2 : Hid ((s', q') = stat lsX m R2.2.1 R2.2.2 ∧ tr' = R2.2.1.trap ∧ st' = R2.1) := by rw [hR2]; exact ⟨HO2.out.stat, HO2.out.trap, HO2.out.steps⟩
      rw [← hR1] at HF1
      rw [← hR2] at HF2
      rw [← hR1, ← hR2] at HFU
      obtain ⟨ra0, ra1, ra2, ra3, ra4, ra5, ra6⟩ := (rep_cells HA4.out).1
      obtain ⟨rc0, rc1, rc2, rc3, rc4, rc5, rc6⟩ := (rep_cells HC4.out).1
      clear h1 h2 hR1 hR2
      by_cases hst : (st : Int) < most
      · have HSE : Hid (R2 = R1) := HFU.out.1 (by have := S1.out.2.2; have := HMN.out; omega)
        have hds : decide ((st : Int) < most) = true := by simpa using hst
        go_wp2_with fail
        generalize w3.alloc (repO s' q' tr' (.slice oa' on' oc') (.slice sa' sn' sc') (.slice ta' tn' tc') st') = W4 at *
        have a1 := S1.out
        have a2 := S2.out
        rw [HSE.out] at a2
        have b1 := a1.1.trans a2.1.symm
        simp only [Prod.mk.injEq] at b1
        obtain ⟨rfl, rfl⟩ := b1
        obtain rfl : tr = tr' := a1.2.1.trans a2.2.1.symm
        obtain rfl : st = st' := a1.2.2.trans a2.2.2.symm
        have hD2 := HD2.out
        rw [HSE.out] at hD2
        obtain ⟨f1, f2, f3, f4⟩ := HF1.out
        refine (sameReport_any s q tr st R1.2.1 R1.2.2 _ _ _ _ _ _ W4 HD1 (Sb.hide hD2) (by omega) (by omega) (Sb.hide (fun q hq => Nat.le_trans (f3 q hq) (by omega)))).mono ?_
        rintro e w5 ⟨rfl, hb5⟩
        have HB5 := Sb.hide (HB4.out.trans (hb5.mono HB4.out.size))
        clear hb5 a1 a2 hD2 f1 f2 f3 f4
        go_wp2
        go_ret
        exact ⟨rfl, HB5.out⟩
      · have hds : decide ((st : Int) < most) = false := by simpa using hst
        have hss : decide ((st' : Int) < (st : Int)) = false := by have := HFU.out.2.1; have := S1.out.2.2; have := S2.out.2.2; simp; omega
        have hss2 : ¬ st' < st := by have := HFU.out.2.1; have := S1.out.2.2; have := S2.out.2.2; omega
        have HST := Sb.hide hst
        go_wp2_with fail
        generalize w3.alloc (repO s' q' tr' (.slice oa' on' oc') (.slice sa' sn' sc') (.slice ta' tn' tc') st') = W4 at *
        refine (begins_any _ _ R1.2.1.out R2.2.1.out W4 (Sb.hide HD1.out.out) (Sb.hide HD2.out.out) (by have := HF2.out.1; omega) (Sb.hide HFU.out.2.2.out)).mono ?_
        rintro e w5 ⟨rfl, d5, rfl⟩
        have HB5 : Hid (Below w.heap.size w (W4.drewN d5)) := below_drewN HB4.out d5
        obtain ⟨sa1, sc1, e3, hr1⟩ := HD1.out.sent.at
        obtain ⟨sa2, sc2, e4, hr2⟩ := HD2.out.sent.at
        simp at e3 e4
        obtain ⟨rfl, hsn, rfl⟩ := e3
        obtain ⟨rfl, hsn', rfl⟩ := e4
        have HR1 := Sb.hide hr1
        have HR2 := Sb.hide hr2
        have HSN := Sb.hide hsn
        have HSN' : Hid (sn = sn') := by unfold Hid; rw [hsn, hsn']; exact HFU.out.2.2.len
        have hsn30 : sn ≤ 30 := by have := HF1.out.2.1; omega
        clear hr1 hr2 hsn hsn' hst
        go_wp2
        go_loopw [66] (fun i wr => ∃ k : Nat, k ≤ sn ∧ i = .int .i64 k ∧ Below W4.heap.size W4 wr) (fun i _ => sn - (intOf i).toNat)
        case atStart => exact ⟨0, Nat.zero_le _, rfl, below_drewN (.refl _ _) _⟩
        case round =>
          obtain ⟨k, hk, rfl, hbr⟩ := hrel
          have HBR := Sb.hide hbr
          clear hbr
          by_cases hlt : k < sn
          · obtain ⟨y, hy⟩ : ∃ y, R1.2.2[k]? = some y := ⟨_, List.getElem?_eq_getElem (by have := HSN.out; omega)⟩
            obtain ⟨y', hy'⟩ : ∃ y, R2.2.2[k]? = some y := ⟨_, List.getElem?_eq_getElem (by have := HSN.out; have := HFU.out.2.2.len; omega)⟩
            obtain ⟨b1, o1, u1, rfl, hz1, x1, q1⟩ := HR1.out k y hy
            obtain ⟨b2, o2, u2, rfl, hz2, x2, q2⟩ := HR2.out k y' hy'
            have HPF : Hid (y.sent <+: y'.sent) := HFU.out.2.2.sent k y y' hy hy'
            have hyl : y'.sent.length ≤ 9223372036854775806 := by have := HF2.out.2.2.1 y' (List.mem_of_getElem? hy'); omega
            have HQ : Hid (∀ W, Below W4.heap.size W4 W → RI W u1 y.sent ∧ RI W u2 y'.sent) := fun W hW => ⟨q1.below hW, q2.below hW⟩
            have HX : Hid (∀ W, Below W4.heap.size W4 W → (W.cell? ⟨b1, o1 + k, none⟩ = some u1 ∧ W.cell? ⟨b2, o2 + k, none⟩ = some u2) ∧ (W.cell? ⟨w2.heap.size, 4, none⟩ = some (.slice (some ⟨b1, o1, none⟩) sn sc) ∧ W.cell? ⟨w3.heap.size, 4, none⟩ = some (.slice (some ⟨b2, o2, none⟩) sn' sc'))) := fun W hW => ⟨⟨(cell_eq (hW.block b1 hz1) _).trans x1, (cell_eq (hW.block b2 hz2) _).trans x2⟩, (cell_eq (hW.block _ (lt_of_block HA4.out)) _).trans (rep_cells HA4.out).1.2.2.2.2.1, (cell_eq (hW.block _ (lt_of_block HC4.out)) _).trans (rep_cells HC4.out).1.2.2.2.2.1⟩
            obtain ⟨⟨y1, y2⟩, y3, y4⟩ := HX.out _ HBR.out
            have i0 : (0 : Int) ≤ (k : Int) := by omega
            have i1 : (k : Int) < (sn : Int) := by omega
            have i2 : (k : Int) < (sn' : Int) := by have := HSN'.out; omega
            clear hy hy' q1 q2 x1 x2 ra0 ra1 ra2 ra3 ra4 ra5 ra6 rc0 rc1 rc2 rc3 rc4 rc5 rc6
            go_wp2
            go_region_held3 (fun w' => (w'.cell? ⟨b1, o1 + k, none⟩ = some u1 ∧ w'.cell? ⟨b2, o2 + k, none⟩ = some u2) ∧ (w'.cell? ⟨w2.heap.size, 4, none⟩ = some (.slice (some ⟨b1, o1, none⟩) sn sc) ∧ w'.cell? ⟨w3.heap.size, 4, none⟩ = some (.slice (some ⟨b2, o2, none⟩) sn' sc'))) (go_keep) ((go_at_call 9; refine (begins_any u1 u2 y.sent y'.sent _ (Sb.hide (HQ.out _ HBR.out.drew).1) (Sb.hide (HQ.out _ HBR.out.drew).2) hyl HPF).mono ?_; rintro e w' ⟨rfl, d2, rfl⟩; have HX2 := HX.out _ (below_drewN HBR.out.drew d2); obtain ⟨⟨y1, y2⟩, y3, y4⟩ := HX2))
            go_wp2
            go_roundw
            case rel => exact ⟨k + 1, by omega, by go_num, below_drewN HBR.out _⟩
            case measure => simp [intOf]; omega
          · go_wp2
            go_ret
            exact ⟨rfl, HB4.out.trans (HBR.out.mono HB4.out.size)⟩
    · have e1 : (E1 != 0) = false := by simpa using h1
      have e2 : (E2 != 0) = true := by simpa using h2
      clear h1 h2
      go_wp2
      go_ret
      exact ⟨rfl, HB4.out⟩
  · have e1 : (E1 != 0) = true := by simpa using h1
    clear h1
    go_wp2
    go_ret
    exact ⟨rfl, HB4.out⟩
end Go.Proofs.Ytlpgfgcfkiefnaa.Vw

