/- The walks of following and settle. -/
import Derived.Test.YtekjhefmhhcboaaGreatM34
import Derived.Test.YtekjhefmhhcboaaGreatM37
import Derived.Test.YtekjhefmhhcboaaGreatM41
namespace Go.Proofs.YtekjhefmhhcboaaGreat.Vw
open Go.RowKit Vf Vm

def nextV (o : Option Nat) : Int := match o with | some n => (n : Int) | none => -1
theorem nextFrom_lt {m : Md} {W : Wd} (h : 0 < W.ts.length) : ∀ (n i : Nat) {k : Nat}, nextFrom m W n i = some k → k < W.ts.length ∧ (stat mbX m (W.tk (k : Int)) W.x).1 = 1
  | 0, _, _, hk => by cases hk
  | n + 1, i, k, hk => by
    unfold nextFrom at hk
    split at hk
    · rename_i hs
      cases hk
      refine ⟨?_, hs⟩
      unfold behind
      have h1 := Int.emod_lt_of_pos (W.last + 1 + (i : Int)) (by omega : (0 : Int) < W.ts.length)
      have h2 := Int.emod_nonneg (W.last + 1 + (i : Int)) (by omega : (W.ts.length : Int) ≠ 0)
      omega
    · exact nextFrom_lt h n (i + 1) hk

set_option maxRecDepth 100000 in
set_option maxHeartbeats 2000000 in
/-- WHAT following ANSWERS. -/
theorem following_any (s : Sx) (B : EarW) (hS : Hid (SxOk s B)) (K : KM) (hK : Hid (Known s.c.m K)) (L : Lab) (w : World) (W : Wd) (vt vx : Value) (H : Hid (WdIn s B L w W vt vx)) (hI : Hid (WI s.c.m K W)) (r : Int) (hr : Hid (r = nextV (following s.c.m W))) :
    Calls Tryz.prog 26 #[.pointer (some ⟨s.WB, 0, none⟩)] w fun e w' => e = .returned (.int .i64 r) ∧ Below w.heap.size w w' := by
  obtain ⟨d0, d1, d2, d3, _⟩ := H.out.cells
  obtain ⟨ta, tc, hvt⟩ : ∃ a c, vt = .slice a W.ts.length c := own_slice H.out.trow
  subst hvt
  have hfew := hI.out.few
  have hlast := hI.out.last
  obtain ⟨N, hN⟩ : ∃ N, N = W.ts.length := ⟨_, rfl⟩
  have HN := Sb.hide hN
  rw [← hN] at hfew d0 hlast
  have HST : Hid (r = nextV (nextFrom s.c.m W (N - 0) 0)) := by unfold Hid; rw [hr.out, HN.out]; rfl
  have hWz := lt_of_block H.out.blk
  have HC : Hid (∀ W2, Below w.heap.size w W2 → W2.cell? ⟨s.WB, 0, none⟩ = some (.slice ta N tc) ∧ W2.cell? ⟨s.WB, 3, none⟩ = some (.int .i64 W.last)) := fun W2 hb => ⟨(cell_eq (hb.block _ hWz) _).trans d0, (cell_eq (hb.block _ hWz) _).trans d3⟩
  obtain ⟨la, hla⟩ : ∃ l, l = W.last := ⟨_, rfl⟩
  have HLA := Sb.hide hla
  rw [← hla] at hlast HC
  clear hN d1 d2 d3 hr hla
  go_enter Tryz.func26, Tryz.ntmps26
  go_wp2
  clear d0
  go_loopw [10] (fun v wr => ∃ k : Nat, v = .int .i64 k ∧ k ≤ N ∧ Below w.heap.size w wr ∧ r = nextV (nextFrom s.c.m W (N - k) k)) (fun v _ => N - (intOf v).toNat)
  case atStart => exact ⟨0, rfl, Nat.zero_le _, .refl _ _, HST.out⟩
  case round =>
    obtain ⟨k, rfl, hk, hb, hrk⟩ := hrel
    have HB := Sb.hide hb
    have HRK := Sb.hide hrk
    clear hb hrk HST
    by_cases hlt : k < N
    · obtain ⟨o, ho⟩ : ∃ o, o = behind W k := ⟨_, rfl⟩
      have hob : o < N ∧ (la + 1 + (k : Int)).tmod (N : Int) = (o : Int) := by
        rw [ho]
        unfold behind
        rw [← HN.out, ← HLA.out]
        have h1 := Int.emod_lt_of_pos (la + 1 + (k : Int)) (by omega : (0 : Int) < N)
        have h2 := Int.emod_nonneg (la + 1 + (k : Int)) (by omega : (N : Int) ≠ 0)
        refine ⟨by omega, ?_⟩
        rw [Int.tmod_eq_emod_of_nonneg (by omega)]
        omega
      have HOB := Sb.hide ho
      obtain ⟨t, ht⟩ : ∃ t, W.ts[o]? = some t := ⟨_, List.getElem?_eq_getElem (by rw [← HN.out]; exact hob.1)⟩
      have HT := Sb.hide ht
      have HTK : Hid (W.tk (behind W k : Int) = t) := by unfold Hid Wd.tk; rw [← ho]; simp [ht]
      have HRR : Hid (r = if (stat mbX s.c.m t W.x).1 = 1 then (o : Int) else nextV (nextFrom s.c.m W (N - (k + 1)) (k + 1))) := by
        unfold Hid
        rw [HRK.out, show N - k = (N - (k + 1)) + 1 by omega]
        show nextV (if (stat mbX s.c.m (W.tk (behind W k : Int)) W.x).1 = 1 then some (behind W k) else _) = _
        rw [HTK.out, ← ho]
        split <;> rfl
      have HAT := Sb.hide (hI.out.at (c := s.c) rfl hK.out ht)
      obtain ⟨P, vR, vO, hSt⟩ := H.out.st ht
      have HST := Sb.hide hSt
      obtain ⟨g, hta, htc⟩ := own_cell H.out.trow (ptrs_at s.T (by rw [← HN.out]; exact hob.1 : o < W.ts.length))
      have hgz := World.block_lt_of_cell? w _ htc
      have t5 : wr.cell? ⟨g, o, none⟩ = some (.pointer (some ⟨s.T o, 0, none⟩)) := (cell_eq (HB.out.block g hgz) _).trans htc
      obtain ⟨br, hbr⟩ : ∃ b, b = ((stat mbX s.c.m t W.x).1 == 1) := ⟨_, rfl⟩
      have HBR := Sb.hide hbr
      subst hta
      obtain ⟨c0, c3⟩ := HC.out _ HB.out
      have w1 : IntKind.i64.wrap (la + 1) = la + 1 := by rw [IntKind.wrap_i64]; omega
      have w2 : IntKind.i64.wrap (la + 1 + (k : Int)) = la + 1 + (k : Int) := by rw [IntKind.wrap_i64]; omega
      obtain ⟨hob1, hob2⟩ := hob
      have nz : ¬ (N : Int) = 0 := by omega
      have n0 : (0 : Int) ≤ (o : Int) := by omega
      have n1 : (o : Int) < (N : Int) := by omega
      clear ho ht hSt htc hbr
      go_wp2
      go_quiet (fail)
      go_wp2_with fail
      refine (ready_any (s.E (earOf B o W.evs t.log.length)) mbX s.c s.vb (s.ev o) o (s.T o) L P _ t W.x vR vO (Sb.hide (HST.out.below (below_drewN HB.out _))) (Sb.hide (hS.out.boxes _)) HAT br HBR).mono ?_
      rintro e w3 ⟨rfl, hb3⟩
      have HB3 : Hid (Below w.heap.size w w3) := (below_drewN HB.out _).trans (hb3.mono (by exact HB.out.size))
      clear hb3
      cases br with
      | true =>
        have HF : Hid (r = (o : Int)) := by unfold Hid; rw [HRR.out, if_pos (by have := HBR.out; simpa using this.symm)]
        go_wp2
        go_ret
        exact ⟨by rw [HF.out]; rfl, HB3.out⟩
      | false =>
        have HF : Hid (r = nextV (nextFrom s.c.m W (N - (k + 1)) (k + 1))) := by unfold Hid; rw [HRR.out, if_neg (by have := HBR.out; simpa using this.symm)]
        go_wp2
        go_roundw
        case rel => exact ⟨k + 1, by go_num, by omega, HB3.out, HF.out⟩
        case measure => simp [intOf]; omega
    · have HF : Hid (r = -1) := by unfold Hid; rw [HRK.out, show N - k = 0 by omega]; rfl
      go_wp2
      go_ret
      exact ⟨by rw [HF.out]; rfl, HB.out⟩
/-- How many steps were taken, as memory says. -/
def stepsAt (b : Nat) (w : World) : Nat := match w.cell? ⟨b, 2, none⟩ with | some (.int _ n) => n.toNat | _ => 0
theorem WdIn.stepsAt {s : Sx} {B : EarW} {L : Lab} {w : World} {W : Wd} {vt vx : Value} (H : WdIn s B L w W vt vx) : stepsAt s.WB w = W.steps := by
  unfold Vw.stepsAt
  rw [H.cells.2.2.1]
  simp
/-- What holds at the head of settle's loop. -/
structure SeAt (s : Sx) (B : EarW) (K : KM) (L : Lab) (w : World) (vt vx : Value) (q : Int) (R : Int × Wd) (v : Value) (W1 : Wd) (L1 : Lab) (f : Nat) (wr : World) : Prop where
  wd : WdIn s B L1 wr W1 vt vx
  wi : WI s.c.m K W1
  ext : Ext L L1 w
  kp : Kp L w wr
  res : R = settleW s.c.m q f W1
  fuel : 20001 ≤ f + W1.steps
  v : v = .int .i64 (nextV (following s.c.m W1))

set_option maxRecDepth 100000 in
set_option maxHeartbeats 2000000 in
/-- WHAT settle ANSWERS. -/
theorem settle_any (s : Sx) (B : EarW) (hS : Hid (SxOk s B)) (K : KM) (hK : Hid (Known s.c.m K)) (L : Lab) (w : World) (W : Wd) (vt vx : Value) (H : Hid (WdIn s B L w W vt vx)) (hI : Hid (WI s.c.m K W)) (ps : List Pk) (a : Option Addr) (cap : Nat) (hps : Hid (PkIn s.c.B w ps a)) (hn : ps.length ≤ 400) (q : Int) (hq : 1 ≤ q ∧ q ≤ 10000) (R : Int × Wd) (hR : Hid (R = settleW s.c.m q 20001 (followW s.c.m W ps))) :
    Calls Tryz.prog 17 #[.pointer (some ⟨s.WB, 0, none⟩), .slice a ps.length cap, .int .i64 q] w fun e w' => e = .returned (.int .i64 R.1) ∧ PkPost s B K L w w' R.2 vt vx := by
  have HQ := Sb.hide hq
  clear hq
  go_enter Tryz.func17, Tryz.ntmps17
  go_wp2_with fail
  refine (follow_any s B hS K hK L w W vt vx H hI ps a cap hps hn).mono ?_
  rintro e w1 ⟨vd, L1, rfl, hF⟩
  have h1 := hF.wd
  have h2 := hF.wi
  rw [List.take_length] at h1 h2
  have HWD1 := Sb.hide h1
  have HWI1 := Sb.hide h2
  have HEX1 := Sb.hide hF.ext
  have HKP1 := Sb.hide hF.kp
  obtain ⟨da, dc, rfl⟩ := own_slice hF.row
  clear hF h1 h2
  go_wp2_with fail
  refine (following_any s B hS K hK L1 _ _ vt vx HWD1 HWI1 _ (Sb.hide rfl)).mono ?_
  rintro e w2 ⟨rfl, hb2⟩
  have HST : Hid (SeAt s B K L w vt vx q R (.int .i64 (nextV (following s.c.m (followW s.c.m W ps)))) (followW s.c.m W ps) L1 20001 w2) := ⟨HWD1.out.below hb2, HWI1.out, HEX1.out, HKP1.out.trans HEX1.out (.of_below hb2), hR.out, by omega, rfl⟩
  clear hb2
  go_wp2
  go_loopw [7] (fun v wr => ∃ W1 L1 f, SeAt s B K L w vt vx q R v W1 L1 f wr) (fun _ wr => 20001 - stepsAt s.WB wr)
  case atStart => exact ⟨_, _, _, HST.out⟩
  case round =>
    obtain ⟨W1, L2, f, hA⟩ := hrel
    have hv := hA.v
    subst hv
    have HA := Sb.hide hA
    have hfu := hA.fuel
    have hst := hA.wi.steps
    have hms := hA.wd.stepsAt
    clear hA HST
    obtain ⟨fo, hfo⟩ : ∃ fo, fo = following s.c.m W1 := ⟨_, rfl⟩
    have HFO := Sb.hide hfo
    rw [← hfo]
    obtain ⟨f', rfl⟩ : ∃ f', f = f' + 1 := ⟨f - 1, by omega⟩
    cases fo with
    | none =>
      have HRR : Hid (R = (0, W1)) := by
        unfold Hid
        rw [HA.out.res]
        show (match following s.c.m W1 with | none => (0, W1) | some n => _ : Int × Wd) = _
        rw [← HFO.out]
      clear hfo
      go_wp2
      go_ret
      rw [HRR.out]
      exact ⟨rfl, L2, HA.out.wd, HA.out.wi, HA.out.ext, HA.out.kp⟩
    | some n =>
      obtain ⟨hnl, hns⟩ := nextFrom_lt HA.out.wi.few.1 _ _ hfo.symm
      have HRR : Hid (R = if refE s.c.m W1 ⟨n, q⟩ = 0 then settleW s.c.m q f' (pickW s.c.m W1 ⟨n, q⟩) else (refE s.c.m W1 ⟨n, q⟩, W1)) := by
        unfold Hid
        rw [HA.out.res]
        show (match following s.c.m W1 with | none => (0, W1) | some n => _ : Int × Wd) = _
        rw [← HFO.out]
      obtain ⟨d, hd⟩ : ∃ d, d = pickD s.c.m W1 ⟨n, q⟩ := ⟨_, rfl⟩
      obtain ⟨W2, hW2⟩ : ∃ d, d = pickW s.c.m W1 ⟨n, q⟩ := ⟨_, rfl⟩
      have HD := Sb.hide hd
      have HW2 := Sb.hide hW2
      have n0 : (0 : Int) ≤ (n : Int) := by omega
      have HNV : Hid (nextV (some n) = (n : Int)) := rfl
      clear hd hW2 hfo hns hnl
      rw [HNV.out]
      go_wp2_with fail
      refine (pick_any s B hS K hK L2 _ W1 vt vx (Sb.hide HA.out.wd) (Sb.hide HA.out.wi) ⟨n, q⟩ d HD W2 HW2).mono ?_
      rintro e w3 ⟨rfl, L3, hwd3, hwi3, hex3, hkp3⟩
      have HWD3 := Sb.hide hwd3
      have HWI3 := Sb.hide hwi3
      have HEX3 : Hid (Ext L L3 w) := HA.out.ext.trans hex3 HA.out.kp.size
      have HKP3 := Sb.hide (HA.out.kp.trans HA.out.ext hkp3)
      clear hwd3 hwi3 hex3 hkp3
      have HBD : Hid (Below w3.heap.size w3 (w3.alloc (ddO d.err (d.steps : Int)))) := (Below.refl _ w3).alloc (Nat.le_refl _) _
      have c0 : (w3.alloc (ddO d.err (d.steps : Int))).cell? ⟨w3.heap.size, 0, none⟩ = some (.int .i64 d.err) := by simp [World.cell?_alloc_mark]
      by_cases he : refE s.c.m W1 ⟨n, q⟩ = 0
      · have hde : d.err = 0 := by rw [HD.out, pickD, if_pos he]
        have hds := (ran_few he).1
        have HR2 : Hid (R = settleW s.c.m q f' W2) := by unfold Hid; rw [HRR.out, if_pos he, ← HW2.out]
        have hps2 := (pick_steps s.c.m W1 ⟨n, q⟩).1
        have hpd : (pickD s.c.m W1 ⟨n, q⟩).steps = (ran s.c.m W1 ⟨n, q⟩).1 := by unfold pickD; rw [if_pos he]
        have hW2s : W1.steps + 1 ≤ W2.steps := by rw [HW2.out, hps2, hpd]; omega
        have e0 : (d.err != 0) = false := by simpa using hde
        clear he hde hds hps2 hpd
        go_wp2_with fail
        generalize w3.alloc (ddO d.err (d.steps : Int)) = WA at *
        refine (following_any s B hS K hK L3 _ W2 vt vx (Sb.hide (HWD3.out.below HBD.out)) HWI3 _ (Sb.hide rfl)).mono ?_
        rintro e w4 ⟨rfl, hb4⟩
        have HREL : Hid (SeAt s B K L w vt vx q R (.int .i64 (nextV (following s.c.m W2))) W2 L3 f' w4) := ⟨(HWD3.out.below HBD.out).below hb4, HWI3.out, HEX3.out, (HKP3.out.trans HEX3.out (.of_below HBD.out)).trans HEX3.out (.of_below hb4), HR2.out, by omega, rfl⟩
        have hms4 := HREL.out.wd.stepsAt
        have hst4 := HREL.out.wi.steps
        have HMS := Sb.hide (show 20001 - stepsAt s.WB w4 < 20001 - stepsAt s.WB wr by rw [hms4, hms]; omega)
        clear hb4 hms4
        go_wp2
        go_roundw
        case rel => exact ⟨W2, L3, f', HREL.out⟩
        case measure => exact HMS.out
      · have hde : d.err = refE s.c.m W1 ⟨n, q⟩ := by rw [HD.out, pickD, if_neg he]
        have e0 : (d.err != 0) = true := by rw [hde]; simpa using he
        have HR2 : Hid (R = (d.err, W2)) := by
          unfold Hid
          rw [HRR.out, if_neg he, hde, HW2.out, pickW, if_neg he]
        clear he hde
        go_wp2
        go_ret
        rw [HR2.out]
        exact ⟨rfl, L3, HWD3.out.below HBD.out, HWI3.out, HEX3.out, HKP3.out.trans HEX3.out (.of_below HBD.out)⟩
end Go.Proofs.YtekjhefmhhcboaaGreat.Vw

/- WHAT Settle ANSWERS. -/
namespace Go.Proofs.YtekjhefmhhcboaaGreat.Vw
open Go.RowKit Vf Vm

abbrev setR (m : Md) (ps : List Pk) (q : Int) : Int × Wd := settleW m q 20001 (followW m (firstW m) ps)
def setE (m : Md) (ps : List Pk) (q : Int) : Int := if wrongE m ps.length ≠ 0 then wrongE m ps.length else if 1 ≤ q ∧ q ≤ 10000 then (setR m ps q).1 else 3


set_option maxRecDepth 100000 in
set_option maxHeartbeats 2000000 in
theorem Settle_any (m : Md) (ab au : Option Addr) (cb cu B : Nat) (ps : List Pk) (a : Option Addr) (cap : Nat) (w : World) (hmd : Hid (ModIn B w m ab au)) (hps : Hid (PkIn B w ps a)) (hB : B ≤ w.heap.size) (q : Int) (E : Int) (hE : Hid (E = setE m ps q)) (R : Wd) (hR : Hid (R = (setR m ps q).2)) :
    Calls Tryz.prog 10 #[mdV m ab au cb cu, .slice a ps.length cap, .int .i64 q] w fun e w' => Below w.heap.size w w' ∧ ((E ≠ 0 ∧ e = .returned (.tuple #[.agg #[.slice none 0 0, .slice none 0 0, .int .i64 0], .int .i64 E])) ∨
      (E = 0 ∧ ∃ vE vB ov bv, e = .returned (.tuple #[.agg #[vE, vB, .int .i64 R.steps], .int .i64 0]) ∧ EnIn m R 0 w' vE vB R.ts.length m.boxes.length ov bv ∧ ∃ K, Known m K ∧ WI m K R)) := by
  obtain ⟨E1, hE1⟩ : ∃ E1, E1 = wrongE m ps.length := ⟨_, rfl⟩
  have HE1 := Sb.hide hE1
  clear hE1
  have HF0 := Sb.hide (Sr.first w m ab au cb cu)
  have HM0 : Hid (ModIn B ((w.alloc (mdB m ab au cb cu)).alloc woZ) m ab au) := hmd.out.low (HF0.out.below.mono hB).block
  go_enter Tryz.func10, Tryz.ntmps10
  go_wp2_with fail
  generalize (w.alloc (mdB m ab au cb cu)).alloc woZ = W0 at *
  refine (wrong_any m ab au cb cu B a ps.length cap _ HM0 (by have := HF0.out.below.size; omega) E1 HE1).mono ?_
  rintro e w1 ⟨rfl, hb1⟩
  have HF1 := Sb.hide (HF0.out.on hb1)
  clear hb1
  by_cases h0 : E1 = 0
  · have e0 : (E1 != 0) = false := by simpa using h0
    obtain ⟨hright, hn⟩ := wrongE_zero (m := m) (n := ps.length) (by rw [← HE1.out]; exact h0)
    have HE2 : Hid (E = if 1 ≤ q ∧ q ≤ 10000 then (setR m ps q).1 else 3) := by
      unfold Hid
      rw [hE.out, setE, if_neg (by rw [← HE1.out]; simpa using h0)]
    obtain ⟨bq, hbq⟩ : ∃ b, b = decide (1 ≤ q ∧ q ≤ 10000) := ⟨_, rfl⟩
    have HBQ := Sb.hide hbq
    clear hbq
    obtain ⟨⟨K, hK⟩, hbl⟩ := known_of hright
    have HK := Sb.hide hK
    have HRG := Sb.hide hright
    obtain ⟨cv, cc, hcx⟩ := cx_of cu hmd.out hK.rt.units
    have HCX := Sb.hide hcx
    have hB1 : B ≤ w1.heap.size := by have := HF1.out.below.size; omega
    have hz1 := lt_of_block HF1.out.zero
    have HWF := Sb.hide (wi_first hK hright)
    have c1 := md_cells HF1.out.md
    clear h0 hK hright hcx
    go_wp2_with fail
    refine (isQ_any q _ bq HBQ).mono ?_
    rintro e w1 ⟨rfl, rfl⟩
    cases bq with
    | false =>
      have HE3 : Hid (E = 3) := by unfold Hid; rw [HE2.out, if_neg (by have := HBQ.out; simpa using this.symm)]
      clear c1
      have z := (wo_cells HF1.out.zero).1
      have zf := (wo_cells HF1.out.zero).2
      go_wp2
      have hX := fillW_at (v0 := .slice none 0 0) (v1 := .slice none 0 0) (v2 := .int .i64 0) HF1.out.zero
      have hBD := fillW_below (v0 := .slice none 0 0) (v1 := .slice none 0 0) (v2 := .int .i64 0) HF1.out.below (Nat.le_succ _)
      unfold fillW at hX hBD
      obtain ⟨g0, g1, g2⟩ := hX
      generalize ((w1.setCell ⟨w.heap.size + 1, 0, none⟩ (.slice none 0 0)).setCell ⟨w.heap.size + 1, 1, none⟩ (.slice none 0 0)).setCell ⟨w.heap.size + 1, 2, none⟩ (.int .i64 0) = W4 at *
      exact bodyPost_ret (v := .tuple #[.agg #[.slice none 0 0, .slice none 0 0, .int .i64 0], .int .i64 3]) (by simp [results, Tryz.results10, go_sem, g0, g1, g2]) rfl ⟨hBD, .inl ⟨by rw [HE3.out]; decide, by rw [HE3.out]⟩⟩
    | true =>
      have hq : 1 ≤ q ∧ q ≤ 10000 := by have := HBQ.out; simpa using this.symm
      have HE3 : Hid (E = (setR m ps q).1) := by unfold Hid; rw [HE2.out, if_pos hq]
      go_wp2_with fail
      refine (newWorld_any ⟨m, B, au, cu, cv, cc⟩ K HK HRG hbl _ (Sb.hide (HCX.out.low (HF1.out.below.mono hB).block)) hB1 ab cb (Sb.hide (hmd.out.low (HF1.out.below.mono hB).block).boxes)).mono ?_
      rintro e w2 ⟨s, L, vt, vx, rfl, hsc, hS, hW, hb2, hL⟩
      have HSC := Sb.hide hsc
      have hsm : s.c.m = m := by rw [hsc]
      have hsB : s.c.B = B := by rw [hsc]
      have HSM := Sb.hide hsm
      have HSB := Sb.hide hsB
      have HS := Sb.hide hS
      have HW := Sb.hide hW
      have HF2 := Sb.hide (HF1.out.on hb2)
      have HL := Sb.hide (fun b (hb : b < w.heap.size + 2) => hL b (by omega))
      have hz2 := lt_of_block HF2.out.zero
      have HRR : Hid ((E, R) = settleW s.c.m q 20001 (followW s.c.m (firstW m) ps)) := by
        unfold Hid
        rw [HSM.out, HE3.out, hR.out]
      clear hsc hS hW hb2 hL hsm hsB c1
      go_wp2_with fail
      refine (settle_any s deafW HS K (by rw [HSM.out]; exact HK) L _ (firstW m) vt vx HW (by rw [HSM.out]; exact HWF) ps a cap (by rw [HSB.out]; exact Sb.hide (hps.out.low (HF2.out.below.mono hB).block)) hn q hq (E, R) HRR).mono ?_
      rintro e w3 ⟨rfl, L3, hWD, hWI, _, hkp⟩
      have HF3 := Sb.hide (HF2.out.kp hkp HL.out)
      have HWI := Sb.hide hWI
      have HWD := Sb.hide hWD
      clear hWD hWI hkp
      by_cases h5 : E = 0
      · have e5 : (E != 0) = false := by simpa using h5
        have HE0 := Sb.hide h5
        clear h5
        go_wp2_with fail
        refine (wend_any s deafW HS K (by rw [HSM.out]; exact HK) L3 _ R vt vx HWD HWI (by rw [HSM.out]; exact hbl)).mono ?_
        rintro e w4 ⟨vE, vB, ov, bv, rfl, hb4, hEN⟩
        rw [HSM.out] at hEN
        have HF4 := Sb.hide (HF3.out.on hb4)
        have HEN := Sb.hide (hEN.base (Nat.zero_le _))
        obtain ⟨ea, ec, rfl⟩ := own_slice hEN.ends
        obtain ⟨ba, bc, rfl⟩ := own_slice hEN.bxs
        have z := (wo_cells HF4.out.zero).1
        have zf := (wo_cells HF4.out.zero).2
        clear hb4 hEN
        go_wp2
        have hX := fillW_at (v0 := .slice ea R.ts.length ec) (v1 := .slice ba m.boxes.length bc) (v2 := .int .i64 R.steps) HF4.out.zero
        have hBD := fillW_below (v0 := .slice ea R.ts.length ec) (v1 := .slice ba m.boxes.length bc) (v2 := .int .i64 R.steps) HF4.out.below (Nat.le_succ _)
        have hEE := fillW_en (v0 := .slice ea R.ts.length ec) (v1 := .slice ba m.boxes.length bc) (v2 := .int .i64 R.steps) HF4.out.zero HEN.out
        unfold fillW at hX hBD hEE
        obtain ⟨g0, g1, g2⟩ := hX
        generalize ((w4.setCell ⟨w.heap.size + 1, 0, none⟩ (.slice ea R.ts.length ec)).setCell ⟨w.heap.size + 1, 1, none⟩ (.slice ba m.boxes.length bc)).setCell ⟨w.heap.size + 1, 2, none⟩ (.int .i64 R.steps) = W4 at *
        exact bodyPost_ret (v := .tuple #[.agg #[.slice ea R.ts.length ec, .slice ba m.boxes.length bc, .int .i64 R.steps], .int .i64 0]) (by simp [results, Tryz.results10, go_sem, g0, g1, g2]) rfl ⟨hBD, .inr ⟨HE0.out, _, _, ov, bv, rfl, hEE, K, HK.out, by have := HWI.out; rw [HSM.out] at this; exact this⟩⟩
      · have e5 : (E != 0) = true := by simpa using h5
        have HNZ := Sb.hide h5
        clear h5
        have z := (wo_cells HF3.out.zero).1
        have zf := (wo_cells HF3.out.zero).2
        go_wp2
        have hX := fillW_at (v0 := .slice none 0 0) (v1 := .slice none 0 0) (v2 := .int .i64 0) HF3.out.zero
        have hBD := fillW_below (v0 := .slice none 0 0) (v1 := .slice none 0 0) (v2 := .int .i64 0) HF3.out.below (Nat.le_succ _)
        unfold fillW at hX hBD
        obtain ⟨g0, g1, g2⟩ := hX
        generalize ((w3.setCell ⟨w.heap.size + 1, 0, none⟩ (.slice none 0 0)).setCell ⟨w.heap.size + 1, 1, none⟩ (.slice none 0 0)).setCell ⟨w.heap.size + 1, 2, none⟩ (.int .i64 0) = W4 at *
        exact bodyPost_ret (v := .tuple #[.agg #[.slice none 0 0, .slice none 0 0, .int .i64 0], .int .i64 E]) (by simp [results, Tryz.results10, go_sem, g0, g1, g2]) rfl ⟨hBD, .inl ⟨HNZ.out, rfl⟩⟩
  · have e0 : (E1 != 0) = true := by simpa using h0
    have HEE : Hid (E = E1) := by unfold Hid; rw [hE.out, setE, if_pos (by rw [← HE1.out]; exact h0), ← HE1.out]
    have HNZ := Sb.hide h0
    clear h0
    have z := (wo_cells HF1.out.zero).1
    have zf := (wo_cells HF1.out.zero).2
    go_wp2
    have hX := fillW_at (v0 := .slice none 0 0) (v1 := .slice none 0 0) (v2 := .int .i64 0) HF1.out.zero
    have hBD := fillW_below (v0 := .slice none 0 0) (v1 := .slice none 0 0) (v2 := .int .i64 0) HF1.out.below (Nat.le_succ _)
    unfold fillW at hX hBD
    obtain ⟨g0, g1, g2⟩ := hX
    generalize ((w1.setCell ⟨w.heap.size + 1, 0, none⟩ (.slice none 0 0)).setCell ⟨w.heap.size + 1, 1, none⟩ (.slice none 0 0)).setCell ⟨w.heap.size + 1, 2, none⟩ (.int .i64 0) = W4 at *
    exact bodyPost_ret (v := .tuple #[.agg #[.slice none 0 0, .slice none 0 0, .int .i64 0], .int .i64 E1]) (by simp [results, Tryz.results10, go_sem, g0, g1, g2]) rfl ⟨hBD, .inl ⟨by rw [HEE.out]; exact HNZ.out, by rw [HEE.out]⟩⟩
end Go.Proofs.YtekjhefmhhcboaaGreat.Vw

/- KAHN'S THEOREM, plainly, of a right module. -/
namespace Go.Proofs.YtekjhefmhhcboaaGreat.Vw
open Go.RowKit Vf Vm

/-- KAHN'S THEOREM: two ways of settling. -/
theorem kahn_settle {m : Md} (hv : verify m = (0, 0, 0)) (ps qs : List Pk) (q r : Int) (hq : 1 ≤ q ∧ q ≤ 10000) (hr : 1 ≤ r ∧ r ≤ 10000) :
    ((setR m ps q).1 = 0 ∧ (setR m qs r).1 = 0 ∧ SameW (setR m ps q).2 (setR m qs r).2) ∨ ((setR m ps q).1 = 10 ∧ (setR m qs r).1 = 10) := by
  obtain ⟨⟨K, hK⟩, _⟩ := known_of hv
  have hI := wi_first hK hv
  have key : ∀ (ps : List Pk) (q : Int), 1 ≤ q ∧ q ≤ 10000 → ∃ n, (setR m ps q).2.steps = n ∧ Runs (Step1 m) n (firstW m).wx (setR m ps q).2.wx ∧ (((setR m ps q).1 = 0 ∧ Rests (Step1 m) (setR m ps q).2.wx) ∨ ((setR m ps q).1 = 10 ∧ (setR m ps q).2.steps = 20000 ∧ ¬ Rests (Step1 m) (setR m ps q).2.wx)) ∧ n ≤ 20000 := fun ps q hq => by
    obtain ⟨a, e1, h1⟩ := follow_runs m ps (firstW m)
    have hle := (follow_sum m (firstW m) ps).2 hI.steps
    have hlen : (followW m (firstW m) ps).ts.length = (firstW m).ts.length := by
      have : ∀ (ps : List Pk) (W : Wd), (followW m W ps).ts.length = W.ts.length := fun ps => by
        induction ps with
        | nil => intro W; rfl
        | cons p ps ih => intro W; exact (ih (pickW m W p)).trans (pick_steps m W p).2.1
      exact this ps _
    obtain ⟨b, e2, h2, h3⟩ := settle_runs m q hq 20001 (followW m (firstW m) ps) (by rw [hlen]; exact hI.few.1) hle (by omega)
    have e0 : (firstW m).steps = 0 := rfl
    have hst : ∀ (f : Nat) (W : Wd), W.steps ≤ 20000 → (settleW m q f W).2.steps ≤ 20000 := fun f => by
      induction f with
      | zero => intro W hW; exact hW
      | succ f ih =>
        intro W hW
        unfold settleW
        split
        · exact hW
        · split
          · exact ih _ ((pick_steps m W _).2.2.1 hW)
          · exact hW
    have hs := hst 20001 _ hle
    refine ⟨a + b, by show (settleW m q 20001 (followW m (firstW m) ps)).2.steps = _; omega, h1.app h2, h3, by omega⟩
  obtain ⟨n, e1, h1, c1, l1⟩ := key ps q hq
  obtain ⟨k, e2, h2, c2, l2⟩ := key qs r hr
  have hP : ∀ s t, KI m K s → Step1 m s t → KI m K t := fun s t h hs => ki_step hK h hs
  have hD : ∀ s a b, KI m K s → Step1 m s a → Step1 m s b → a = b ∨ ∃ c, Step1 m a c ∧ Step1 m b c := fun s _ _ h ha hb => diamond (ki_kah hK hv h) ha hb
  have hF := ki_first hK hv
  rcases c1 with ⟨z1, r1⟩ | ⟨z1, s1, r1⟩
  · rcases c2 with ⟨z2, r2⟩ | ⟨z2, s2, r2⟩
    · obtain ⟨en, ew⟩ := Runs.one hP hD hF h1 r1 h2 r2
      have ew' := Prod.ext_iff.1 ew
      exact .inl ⟨z1, z2, ew'.1.symm, ew'.2.symm, by omega⟩
    · exfalso
      obtain ⟨j, ej, hj⟩ := Runs.rest hP hD hF h1 r1 h2
      have : j = 0 := by omega
      subst this
      have e : (setR m qs r).2.wx = (setR m ps q).2.wx := hj
      exact r2 (by rw [e]; exact r1)
  · rcases c2 with ⟨z2, r2⟩ | ⟨z2, s2, r2⟩
    · exfalso
      obtain ⟨j, ej, hj⟩ := Runs.rest hP hD hF h2 r2 h1
      have : j = 0 := by omega
      subst this
      have e : (setR m ps q).2.wx = (setR m qs r).2.wx := hj
      exact r1 (by rw [e]; exact r2)
    · exact .inr ⟨z1, z2⟩
end Go.Proofs.YtekjhefmhhcboaaGreat.Vw

