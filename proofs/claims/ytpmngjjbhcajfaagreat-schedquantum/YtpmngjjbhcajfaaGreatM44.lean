/- The walks of following and settle. -/
import Derived.Test.YtpmngjjbhcajfaaGreatM43
namespace Go.Proofs.YtpmngjjbhcajfaaGreat.Vw
open Go.RowKit Vf Vm

def nextV (o : Option Nat) : Int := match o with | some n => (n : Int) | none => -1
theorem nextFrom_lt {m : Md} {W : Wd} (h : 0 < W.ts.length) : ∀ (n i : Nat) {k : Nat}, nextFrom m W n i = some k → k < W.ts.length ∧ (stat mbX m (W.tk (k : Int)) W.x).1 = 1
  | 0, _, _, hk => by cases hk
  | n + 1, i, k, hk => by
    unfold nextFrom at hk
    split at hk
    · rename_i hs
      cases hk
      refine ⟨?_, hs⟩
      unfold behind
      have h1 := Int.emod_lt_of_pos (W.last + 1 + (i : Int)) (by omega : (0 : Int) < W.ts.length)
      have h2 := Int.emod_nonneg (W.last + 1 + (i : Int)) (by omega : (W.ts.length : Int) ≠ 0)
      omega
    · exact nextFrom_lt h n (i + 1) hk

set_option maxRecDepth 100000 in
set_option maxHeartbeats 2000000 in
/-- WHAT following ANSWERS. -/
theorem following_any (s : Sx) (B : EarW) (hS : Hid (SxOk s B)) (K : KM) (hK : Hid (Known s.c.m K)) (L : Lab) (w : World) (W : Wd) (vt vx : Value) (H : Hid (WdIn s B L w W vt vx)) (hI : Hid (WI s.c.m K W)) (r : Int) (hr : Hid (r = nextV (following s.c.m W))) :
    Calls Tryz.prog 26 #[.pointer (some ⟨s.WB, 0, none⟩)] w fun e w' => e = .returned (.int .i64 r) ∧ Below w.heap.size w w' := by
  obtain ⟨d0, d1, d2, d3, _⟩ := H.out.cells
  obtain ⟨ta, tc, hvt⟩ : ∃ a c, vt = .slice a W.ts.length c := own_slice H.out.trow
  subst hvt
  have hfew := hI.out.few
  have hlast := hI.out.last
  obtain ⟨N, hN⟩ : ∃ N, N = W.ts.length := ⟨_, rfl⟩
  have HN := Sb.hide hN
  rw [← hN] at hfew d0 hlast
  have HST : Hid (r = nextV (nextFrom s.c.m W (N - 0) 0)) := by unfold Hid; rw [hr.out, HN.out]; rfl
  have hWz := lt_of_block H.out.blk
  have HC : Hid (∀ W2, Below w.heap.size w W2 → W2.cell? ⟨s.WB, 0, none⟩ = some (.slice ta N tc) ∧ W2.cell? ⟨s.WB, 3, none⟩ = some (.int .i64 W.last)) := fun W2 hb => ⟨(cell_eq (hb.block _ hWz) _).trans d0, (cell_eq (hb.block _ hWz) _).trans d3⟩
  obtain ⟨la, hla⟩ : ∃ l, l = W.last := ⟨_, rfl⟩
  have HLA := Sb.hide hla
  rw [← hla] at hlast HC
  clear hN d1 d2 d3 hr hla
  go_enter Tryz.func26, Tryz.ntmps26
  go_wp2
  clear d0
  go_loopw [10] (fun v wr => ∃ k : Nat, v = .int .i64 k ∧ k ≤ N ∧ Below w.heap.size w wr ∧ r = nextV (nextFrom s.c.m W (N - k) k)) (fun v _ => N - (intOf v).toNat)
  case atStart => exact ⟨0, rfl, Nat.zero_le _, .refl _ _, HST.out⟩
  case round =>
    obtain ⟨k, rfl, hk, hb, hrk⟩ := hrel
    have HB := Sb.hide hb
    have HRK := Sb.hide hrk
    clear hb hrk HST
    by_cases hlt : k < N
    · obtain ⟨o, ho⟩ : ∃ o, o = behind W k := ⟨_, rfl⟩
      have hob : o < N ∧ (la + 1 + (k : Int)).tmod (N : Int) = (o : Int) := by
        rw [ho]
        unfold behind
        rw [← HN.out, ← HLA.out]
        have h1 := Int.emod_lt_of_pos (la + 1 + (k : Int)) (by omega : (0 : Int) < N)
        have h2 := Int.emod_nonneg (la + 1 + (k : Int)) (by omega : (N : Int) ≠ 0)
        refine ⟨by omega, ?_⟩
        rw [Int.tmod_eq_emod_of_nonneg (by omega)]
        omega
      have HOB := Sb.hide ho
      obtain ⟨t, ht⟩ : ∃ t, W.ts[o]? = some t := ⟨_, List.getElem?_eq_getElem (by rw [← HN.out]; exact hob.1)⟩
      have HT := Sb.hide ht
      have HTK : Hid (W.tk (behind W k : Int) = t) := by unfold Hid Wd.tk; rw [← ho]; simp [ht]
      have HRR : Hid (r = if (stat mbX s.c.m t W.x).1 = 1 then (o : Int) else nextV (nextFrom s.c.m W (N - (k + 1)) (k + 1))) := by
        unfold Hid
        rw [HRK.out, show N - k = (N - (k + 1)) + 1 by omega]
        show nextV (if (stat mbX s.c.m (W.tk (behind W k : Int)) W.x).1 = 1 then some (behind W k) else _) = _
        rw [HTK.out, ← ho]
        split <;> rfl
      have HAT := Sb.hide (hI.out.at (c := s.c) rfl hK.out ht)
      obtain ⟨P, vR, vO, hSt⟩ := H.out.st ht
      have HST := Sb.hide hSt
      obtain ⟨g, hta, htc⟩ := own_cell H.out.trow (ptrs_at s.T (by rw [← HN.out]; exact hob.1 : o < W.ts.length))
      have hgz := World.block_lt_of_cell? w _ htc
      have t5 : wr.cell? ⟨g, o, none⟩ = some (.pointer (some ⟨s.T o, 0, none⟩)) := (cell_eq (HB.out.block g hgz) _).trans htc
      obtain ⟨br, hbr⟩ : ∃ b, b = ((stat mbX s.c.m t W.x).1 == 1) := ⟨_, rfl⟩
      have HBR := Sb.hide hbr
      subst hta
      obtain ⟨c0, c3⟩ := HC.out _ HB.out
      have w1 : IntKind.i64.wrap (la + 1) = la + 1 := by rw [IntKind.wrap_i64]; omega
      have w2 : IntKind.i64.wrap (la + 1 + (k : Int)) = la + 1 + (k : Int) := by rw [IntKind.wrap_i64]; omega
      obtain ⟨hob1, hob2⟩ := hob
      have nz : ¬ (N : Int) = 0 := by omega
      have n0 : (0 : Int) ≤ (o : Int) := by omega
      have n1 : (o : Int) < (N : Int) := by omega
      clear ho ht hSt htc hbr
      go_wp2
      go_quiet (fail)
      go_wp2_with fail
      refine (ready_any (s.E (earOf B o W.evs t.log.length)) mbX s.c s.vb (s.ev o) o (s.T o) L P _ t W.x vR vO (Sb.hide (HST.out.below (below_drewN HB.out _))) (Sb.hide (hS.out.boxes _)) HAT br HBR).mono ?_
      rintro e w3 ⟨rfl, hb3⟩
      have HB3 : Hid (Below w.heap.size w w3) := (below_drewN HB.out _).trans (hb3.mono (by exact HB.out.size))
      clear hb3
      cases br with
      | true =>
        have HF : Hid (r = (o : Int)) := by unfold Hid; rw [HRR.out, if_pos (by have := HBR.out; simpa using this.symm)]
        go_wp2
        go_ret
        exact ⟨by rw [HF.out]; rfl, HB3.out⟩
      | false =>
        have HF : Hid (r = nextV (nextFrom s.c.m W (N - (k + 1)) (k + 1))) := by unfold Hid; rw [HRR.out, if_neg (by have := HBR.out; simpa using this.symm)]
        go_wp2
        go_roundw
        case rel => exact ⟨k + 1, by go_num, by omega, HB3.out, HF.out⟩
        case measure => simp [intOf]; omega
    · have HF : Hid (r = -1) := by unfold Hid; rw [HRK.out, show N - k = 0 by omega]; rfl
      go_wp2
      go_ret
      exact ⟨by rw [HF.out]; rfl, HB.out⟩
/-- How many steps were taken, as memory says. -/
def stepsAt (b : Nat) (w : World) : Nat := match w.cell? ⟨b, 2, none⟩ with | some (.int _ n) => n.toNat | _ => 0
theorem WdIn.stepsAt {s : Sx} {B : EarW} {L : Lab} {w : World} {W : Wd} {vt vx : Value} (H : WdIn s B L w W vt vx) : stepsAt s.WB w = W.steps := by
  unfold Vw.stepsAt
  rw [H.cells.2.2.1]
  simp
/-- What holds at the head of settle's loop. -/
structure SeAt (s : Sx) (B : EarW) (K : KM) (L : Lab) (w : World) (vt vx : Value) (q : Int) (R : Int × Wd) (v : Value) (W1 : Wd) (L1 : Lab) (f : Nat) (wr : World) : Prop where
  wd : WdIn s B L1 wr W1 vt vx
  wi : WI s.c.m K W1
  ext : Ext L L1 w
  kp : Kp L w wr
  res : R = settleW s.c.m q f W1
  fuel : 20001 ≤ f + W1.steps
  v : v = .int .i64 (nextV (following s.c.m W1))

set_option maxRecDepth 100000 in
set_option maxHeartbeats 2000000 in
/-- WHAT settle ANSWERS. -/
theorem settle_any (s : Sx) (B : EarW) (hS : Hid (SxOk s B)) (K : KM) (hK : Hid (Known s.c.m K)) (L : Lab) (w : World) (W : Wd) (vt vx : Value) (H : Hid (WdIn s B L w W vt vx)) (hI : Hid (WI s.c.m K W)) (ps : List Pk) (a : Option Addr) (cap : Nat) (hps : Hid (PkIn s.c.B w ps a)) (hn : ps.length ≤ 400) (q : Int) (hq : 1 ≤ q ∧ q ≤ 10000) (R : Int × Wd) (hR : Hid (R = settleW s.c.m q 20001 (followW s.c.m W ps))) :
    Calls Tryz.prog 17 #[.pointer (some ⟨s.WB, 0, none⟩), .slice a ps.length cap, .int .i64 q] w fun e w' => e = .returned (.int .i64 R.1) ∧ PkPost s B K L w w' R.2 vt vx := by
  have HQ := Sb.hide hq
  clear hq
  go_enter Tryz.func17, Tryz.ntmps17
  go_wp2_with fail
  refine (follow_any s B hS K hK L w W vt vx H hI ps a cap hps hn).mono ?_
  rintro e w1 ⟨vd, L1, rfl, hF⟩
  have h1 := hF.wd
  have h2 := hF.wi
  rw [List.take_length] at h1 h2
  have HWD1 := Sb.hide h1
  have HWI1 := Sb.hide h2
  have HEX1 := Sb.hide hF.ext
  have HKP1 := Sb.hide hF.kp
  obtain ⟨da, dc, rfl⟩ := own_slice hF.row
  clear hF h1 h2
  go_wp2_with fail
  refine (following_any s B hS K hK L1 _ _ vt vx HWD1 HWI1 _ (Sb.hide rfl)).mono ?_
  rintro e w2 ⟨rfl, hb2⟩
  have HST : Hid (SeAt s B K L w vt vx q R (.int .i64 (nextV (following s.c.m (followW s.c.m W ps)))) (followW s.c.m W ps) L1 20001 w2) := ⟨HWD1.out.below hb2, HWI1.out, HEX1.out, HKP1.out.trans HEX1.out (.of_below hb2), hR.out, by omega, rfl⟩
  clear hb2
  go_wp2
  go_loopw [7] (fun v wr => ∃ W1 L1 f, SeAt s B K L w vt vx q R v W1 L1 f wr) (fun _ wr => 20001 - stepsAt s.WB wr)
  case atStart => exact ⟨_, _, _, HST.out⟩
  case round =>
    obtain ⟨W1, L2, f, hA⟩ := hrel
    have hv := hA.v
    subst hv
    have HA := Sb.hide hA
    have hfu := hA.fuel
    have hst := hA.wi.steps
    have hms := hA.wd.stepsAt
    clear hA HST
    obtain ⟨fo, hfo⟩ : ∃ fo, fo = following s.c.m W1 := ⟨_, rfl⟩
    have HFO := Sb.hide hfo
    rw [← hfo]
    obtain ⟨f', rfl⟩ : ∃ f', f = f' + 1 := ⟨f - 1, by omega⟩
    cases fo with
    | none =>
      have HRR : Hid (R = (0, W1)) := by
        unfold Hid
        rw [HA.out.res]
        show (match following s.c.m W1 with | none => (0, W1) | some n => _ : Int × Wd) = _
        rw [← HFO.out]
      clear hfo
      go_wp2
      go_ret
      rw [HRR.out]
      exact ⟨rfl, L2, HA.out.wd, HA.out.wi, HA.out.ext, HA.out.kp⟩
    | some n =>
      obtain ⟨hnl, hns⟩ := nextFrom_lt HA.out.wi.few.1 _ _ hfo.symm
      have HRR : Hid (R = if refE s.c.m W1 ⟨n, q⟩ = 0 then settleW s.c.m q f' (pickW s.c.m W1 ⟨n, q⟩) else (refE s.c.m W1 ⟨n, q⟩, W1)) := by
        unfold Hid
        rw [HA.out.res]
        show (match following s.c.m W1 with | none => (0, W1) | some n => _ : Int × Wd) = _
        rw [← HFO.out]
      obtain ⟨d, hd⟩ : ∃ d, d = pickD s.c.m W1 ⟨n, q⟩ := ⟨_, rfl⟩
      obtain ⟨W2, hW2⟩ : ∃ d, d = pickW s.c.m W1 ⟨n, q⟩ := ⟨_, rfl⟩
      have HD := Sb.hide hd
      have HW2 := Sb.hide hW2
      have n0 : (0 : Int) ≤ (n : Int) := by omega
      have HNV : Hid (nextV (some n) = (n : Int)) := rfl
      clear hd hW2 hfo hns hnl
      rw [HNV.out]
      go_wp2_with fail
      refine (pick_any s B hS K hK L2 _ W1 vt vx (Sb.hide HA.out.wd) (Sb.hide HA.out.wi) ⟨n, q⟩ d HD W2 HW2).mono ?_
      rintro e w3 ⟨rfl, L3, hwd3, hwi3, hex3, hkp3⟩
      have HWD3 := Sb.hide hwd3
      have HWI3 := Sb.hide hwi3
      have HEX3 : Hid (Ext L L3 w) := HA.out.ext.trans hex3 HA.out.kp.size
      have HKP3 := Sb.hide (HA.out.kp.trans HA.out.ext hkp3)
      clear hwd3 hwi3 hex3 hkp3
      have HBD : Hid (Below w3.heap.size w3 (w3.alloc (ddO d.err (d.steps : Int)))) := (Below.refl _ w3).alloc (Nat.le_refl _) _
      have c0 : (w3.alloc (ddO d.err (d.steps : Int))).cell? ⟨w3.heap.size, 0, none⟩ = some (.int .i64 d.err) := by simp [World.cell?_alloc_mark]
      by_cases he : refE s.c.m W1 ⟨n, q⟩ = 0
      · have hde : d.err = 0 := by rw [HD.out, pickD, if_pos he]
        have hds := (ran_few he).1
        have HR2 : Hid (R = settleW s.c.m q f' W2) := by unfold Hid; rw [HRR.out, if_pos he, ← HW2.out]
        have hps2 := (pick_steps s.c.m W1 ⟨n, q⟩).1
        have hpd : (pickD s.c.m W1 ⟨n, q⟩).steps = (ran s.c.m W1 ⟨n, q⟩).1 := by unfold pickD; rw [if_pos he]
        have hW2s : W1.steps + 1 ≤ W2.steps := by rw [HW2.out, hps2, hpd]; omega
        have e0 : (d.err != 0) = false := by simpa using hde
        clear he hde hds hps2 hpd
        go_wp2_with fail
        generalize w3.alloc (ddO d.err (d.steps : Int)) = WA at *
        refine (following_any s B hS K hK L3 _ W2 vt vx (Sb.hide (HWD3.out.below HBD.out)) HWI3 _ (Sb.hide rfl)).mono ?_
        rintro e w4 ⟨rfl, hb4⟩
        have HREL : Hid (SeAt s B K L w vt vx q R (.int .i64 (nextV (following s.c.m W2))) W2 L3 f' w4) := ⟨(HWD3.out.below HBD.out).below hb4, HWI3.out, HEX3.out, (HKP3.out.trans HEX3.out (.of_below HBD.out)).trans HEX3.out (.of_below hb4), HR2.out, by omega, rfl⟩
        have hms4 := HREL.out.wd.stepsAt
        have hst4 := HREL.out.wi.steps
        have HMS := Sb.hide (show 20001 - stepsAt s.WB w4 < 20001 - stepsAt s.WB wr by rw [hms4, hms]; omega)
        clear hb4 hms4
        go_wp2
        go_roundw
        case rel => exact ⟨W2, L3, f', HREL.out⟩
        case measure => exact HMS.out
      · have hde : d.err = refE s.c.m W1 ⟨n, q⟩ := by rw [HD.out, pickD, if_neg he]
        have e0 : (d.err != 0) = true := by rw [hde]; simpa using he
        have HR2 : Hid (R = (d.err, W2)) := by
          unfold Hid
          rw [HRR.out, if_neg he, hde, HW2.out, pickW, if_neg he]
        clear he hde
        go_wp2
        go_ret
        rw [HR2.out]
        exact ⟨rfl, L3, HWD3.out.below HBD.out, HWI3.out, HEX3.out, HKP3.out.trans HEX3.out (.of_below HBD.out)⟩
end Go.Proofs.YtpmngjjbhcajfaaGreat.Vw

/- What end lays down, piece by piece. -/
namespace Go.Proofs.YtpmngjjbhcajfaaGreat.Vw
open Go.RowKit Vf Vm

theorem Tryz.info48 : (Tryz.prog.info? 48).map (fun i => (i.zero, i.size, i.bytes)) = some (some (.agg #[.int .i64 0, .int .i64 0, .int .i64 0, .slice none 0 0]), 4, 48) := by kernel_rfl
theorem Tryz.info46 : (Tryz.prog.info? 46).map (fun i => (i.zero, i.size, i.bytes)) = some (some (.slice none 0 0), 1, 24) := by kernel_rfl
def svs (sv : Nat → Value) (n : Nat) : List Value := (List.range n).map sv
theorem svs_succ (sv : Nat → Value) (n : Nat) : svs sv (n + 1) = svs sv n ++ [sv n] := by simp [svs, List.range_succ]
theorem svs_eq {a b : Nat → Value} {n : Nat} (h : ∀ i, i < n → a i = b i) : svs a n = svs b n := List.map_congr_left (fun i hi => h i (by simpa using hi))
/-- A task's end, as cells. -/
def enc (m : Md) (W : Wd) (ov : Nat → Value) (i : Nat) : List Value := [.int .i64 (stat mbX m (W.tk (i : Int)) W.x).1, .int .i64 (stat mbX m (W.tk (i : Int)) W.x).2, .int .i64 (W.tk (i : Int)).trap, ov i]
def enCells (m : Md) (W : Wd) (ov : Nat → Value) (n : Nat) : List Value := (List.range n).flatMap (enc m W ov)
theorem enCells_succ (m : Md) (W : Wd) (ov : Nat → Value) (n : Nat) : enCells m W ov (n + 1) = enCells m W ov n ++ enc m W ov n := by simp [enCells, List.range_succ]
theorem enCells_eq {m : Md} {W : Wd} {a b : Nat → Value} : ∀ {n : Nat}, (∀ i, i < n → a i = b i) → enCells m W a n = enCells m W b n
  | 0, _ => rfl
  | n + 1, h => by rw [enCells_succ, enCells_succ, enCells_eq (fun i hi => h i (by omega)), enc, enc, h n (by omega)]
abbrev woO (vE vB : Value) (steps : Int) : Obj := .cells #[vE, vB, .int .i64 steps] 31 (0, 0)
theorem wo_cells {w : World} {b : Nat} {vE vB : Value} {st : Int} (h : w.heap[b]? = some (woO vE vB st)) : (w.cell? ⟨b, 0, none⟩ = some vE ∧ w.cell? ⟨b, 1, none⟩ = some vB ∧ w.cell? ⟨b, 2, none⟩ = some (.int .i64 st)) ∧ ∀ j, w.frozen? ⟨b, j, none⟩ = false := by simp [World.cell?, World.frozen?, h]

/-- A world's end in memory: k1 tasks and k2 boxes of it. -/
structure EnIn (m : Md) (W : Wd) (C : Nat) (w : World) (vE vB : Value) (k1 k2 : Nat) (ov bv : Nat → Value) : Prop where
  ends : w.ownsRow C 48 4 vE k1 (enCells m W ov k1)
  outs : ∀ (i : Nat), i < k1 → w.ownsRow C 2 1 (ov i) (W.tk (i : Int)).out.length (ints (W.tk (i : Int)).out)
  bxs : w.ownsRow C 46 1 vB k2 (svs bv k2)
  words : ∀ (i : Nat) q, i < k2 → W.x[i]? = some q → w.ownsRow C 2 1 (bv i) q.ws.length (ints q.ws)
theorem EnIn.keep {m : Md} {W : Wd} {C : Nat} {w w1 : World} {vE vB : Value} {k1 k2 : Nat} {ov bv : Nat → Value} (h : EnIn m W C w vE vB k1 k2 ov bv) (F : Nat → Prop) (hw : ∀ k, k < w.heap.size → ¬ F k → w1.heap[k]? = w.heap[k]?) (hF : ∀ k, F k → ∀ cur, w.heap[k]? ≠ some (.cells cur 48 (0, 0)) ∧ w.heap[k]? ≠ some (.cells cur 2 (0, 0)) ∧ w.heap[k]? ≠ some (.cells cur 46 (0, 0))) : EnIn m W C w1 vE vB k1 k2 ov bv :=
  ⟨own_keep h.ends (fun b hb => hw b (h.ends.lt b hb).2 (fun e => by obtain ⟨cur, hc⟩ := own_ty h.ends hb; exact (hF b e cur).1 hc)),
   fun i hi => own_keep (h.outs i hi) (fun b hb => hw b ((h.outs i hi).lt b hb).2 (fun e => by obtain ⟨cur, hc⟩ := own_ty (h.outs i hi) hb; exact (hF b e cur).2.1 hc)),
   own_keep h.bxs (fun b hb => hw b (h.bxs.lt b hb).2 (fun e => by obtain ⟨cur, hc⟩ := own_ty h.bxs hb; exact (hF b e cur).2.2 hc)),
   fun i q hi hq => own_keep (h.words i q hi hq) (fun b hb => hw b ((h.words i q hi hq).lt b hb).2 (fun e => by obtain ⟨cur, hc⟩ := own_ty (h.words i q hi hq) hb; exact (hF b e cur).2.1 hc))⟩

/-- What holds in end's loops. -/
structure WoAt (m : Md) (W : Wd) (w : World) (R0 R : Nat) (vE vB : Value) (k1 k2 : Nat) (ov bv : Nat → Value) (wr : World) : Prop where
  below : Below w.heap.size w wr
  low : w.heap.size ≤ R0 ∧ w.heap.size ≤ R
  zero : wr.heap[R0]? = some (woO (.slice none 0 0) (.slice none 0 0) 0)
  ne : R0 ≠ R
  blk : wr.heap[R]? = some (woO vE vB W.steps)
  rows : EnIn m W w.heap.size wr vE vB k1 k2 ov bv

section
variable {m : Md} {W : Wd} {w wr w2 w4 : World} {R0 R : Nat} {vE vB : Value} {k1 k2 : Nat} {ov bv : Nat → Value}
/-- A piece more of the world, noted in cell j. -/
theorem WoAt.on (H : WoAt m W w R0 R vE vB k1 k2 ov bv wr) (hb : Below wr.heap.size wr w2) : WoAt m W w R0 R vE vB k1 k2 ov bv w2 :=
  ⟨H.below.trans (hb.mono H.below.size), H.low, (hb.block _ (lt_of_block H.zero)).trans H.zero, H.ne, (hb.block _ (lt_of_block H.blk)).trans H.blk, H.rows.keep (fun _ => False) (fun k hk _ => hb.block k hk) (fun _ h => h.elim)⟩
theorem WoAt.put0 (H : WoAt m W w R0 R vE vB k1 k2 ov bv w2) {v v' : Value} (hv : w2.ownsRow w.heap.size 2 1 v (W.tk (k1 : Int)).out.length (ints (W.tk (k1 : Int)).out)) {ob : Obj} (h4 : w4.ownsRow w.heap.size 48 4 v' (k1 + 1) (enCells m W ov k1 ++ enc m W (fun _ => v) k1)) (g4 : (w2.alloc ob).grownBy w4 vE.ownBlock) :
    w4.heap[R]? = some (woO vE vB W.steps) ∧ Below w.heap.size w w4 ∧ WoAt m W w R0 R v' vB (k1 + 1) k2 (fun i => if i = k1 then v else ov i) bv (w4.setCell ⟨R, 0, none⟩ v') := by
  have hz4 := g4.size
  simp at hz4
  have hzw := H.below.size
  have stay : ∀ b, b < w2.heap.size → vE.ownBlock ≠ some b → w4.heap[b]? = w2.heap[b]? := fun b hb hn => (g4.block b (by simp; omega) (fun e => hn e.symm)).trans (Below.heap_alloc _ _ _ hb)
  have nE : ∀ b (o : Obj), w2.heap[b]? = some o → (∀ cur, o ≠ .cells cur 48 (0, 0)) → vE.ownBlock ≠ some b := fun b o hb hn e => by
    obtain ⟨cur, hc⟩ := own_ty H.rows.ends e
    rw [hb] at hc
    exact hn cur (Option.some.inj hc)
  have hR : w4.heap[R]? = some (woO vE vB W.steps) := (stay R (lt_of_block H.blk) (nE _ _ H.blk (fun cur e => by simp at e))).trans H.blk
  have hset : ∀ b, b ≠ R → (w4.setCell ⟨R, 0, none⟩ v').heap[b]? = w4.heap[b]? := fun b hb => Below.heap_setCell _ ⟨R, 0, none⟩ _ _ hb
  have hbel : Below w.heap.size w w4 := (H.below.alloc H.below.size _).grown g4 (by simp; omega) (fun b hb => (H.rows.ends.lt b hb).1)
  have k4 : ∀ {e n size : Nat} {v : Value} {xs : List Value}, w4.ownsRow w.heap.size e size v n xs → e ≠ 31 → (w4.setCell ⟨R, 0, none⟩ v').ownsRow w.heap.size e size v n xs := fun h he => own_keep h (fun b hb => hset b (fun e2 => by
    obtain ⟨cur, hc⟩ := own_ty h hb
    rw [e2, hR] at hc
    simp at hc
    exact he hc.2.symm))
  have k2' : ∀ {e n size : Nat} {v : Value} {xs : List Value}, w2.ownsRow w.heap.size e size v n xs → e ≠ 48 → w4.ownsRow w.heap.size e size v n xs := fun h he => own_keep h (fun b hb => stay b (h.lt b hb).2 (fun e2 => by
    obtain ⟨cur, hc⟩ := own_ty h hb
    obtain ⟨cur2, hc2⟩ := own_ty H.rows.ends e2
    rw [hc] at hc2
    simp at hc2
    exact he hc2.2))
  refine ⟨hR, hbel, hbel.setCell (p := ⟨R, 0, none⟩) H.low.2 _, H.low, (hset _ H.ne).trans ((stay R0 (lt_of_block H.zero) (nE _ _ H.zero (fun cur e => by simp at e))).trans H.zero), H.ne, ?_, ⟨?_, fun i hi => ?_, k4 (k2' H.rows.bxs (by decide)) (by decide), fun i q hi hq => k4 (k2' (H.rows.words i q hi hq) (by decide)) (by decide)⟩⟩
  · simp only [World.setCell, Array.getElem?_modify, if_true, hR, Option.map_some]
    rfl
  · rw [enCells_succ, enCells_eq (b := ov) (fun i hi => if_neg (by omega))]
    have : enc m W (fun i => if i = k1 then v else ov i) k1 = enc m W (fun _ => v) k1 := by simp [enc]
    rw [this]
    exact k4 h4 (by decide)
  · by_cases e : i = k1
    · subst e
      simp only [if_true]
      exact k4 (k2' hv (by decide)) (by decide)
    · simp only [if_neg e]
      exact k4 (k2' (H.rows.outs i (by omega)) (by decide)) (by decide)
theorem WoAt.put1 (H : WoAt m W w R0 R vE vB k1 k2 ov bv w2) {v v' : Value} {q : Bq} (hq : W.x[k2]? = some q) (hv : w2.ownsRow w.heap.size 2 1 v q.ws.length (ints q.ws)) {ob : Obj} (h4 : w4.ownsRow w.heap.size 46 1 v' (k2 + 1) (svs bv k2 ++ [v])) (g4 : (w2.alloc ob).grownBy w4 vB.ownBlock) :
    w4.heap[R]? = some (woO vE vB W.steps) ∧ Below w.heap.size w w4 ∧ WoAt m W w R0 R vE v' k1 (k2 + 1) ov (fun i => if i = k2 then v else bv i) (w4.setCell ⟨R, 1, none⟩ v') := by
  have hz4 := g4.size
  simp at hz4
  have hzw := H.below.size
  have stay : ∀ b, b < w2.heap.size → vB.ownBlock ≠ some b → w4.heap[b]? = w2.heap[b]? := fun b hb hn => (g4.block b (by simp; omega) (fun e => hn e.symm)).trans (Below.heap_alloc _ _ _ hb)
  have nE : ∀ b (o : Obj), w2.heap[b]? = some o → (∀ cur, o ≠ .cells cur 46 (0, 0)) → vB.ownBlock ≠ some b := fun b o hb hn e => by
    obtain ⟨cur, hc⟩ := own_ty H.rows.bxs e
    rw [hb] at hc
    exact hn cur (Option.some.inj hc)
  have hR : w4.heap[R]? = some (woO vE vB W.steps) := (stay R (lt_of_block H.blk) (nE _ _ H.blk (fun cur e => by simp at e))).trans H.blk
  have hset : ∀ b, b ≠ R → (w4.setCell ⟨R, 1, none⟩ v').heap[b]? = w4.heap[b]? := fun b hb => Below.heap_setCell _ ⟨R, 1, none⟩ _ _ hb
  have hbel : Below w.heap.size w w4 := (H.below.alloc H.below.size _).grown g4 (by simp; omega) (fun b hb => (H.rows.bxs.lt b hb).1)
  have k4 : ∀ {e n size : Nat} {v : Value} {xs : List Value}, w4.ownsRow w.heap.size e size v n xs → e ≠ 31 → (w4.setCell ⟨R, 1, none⟩ v').ownsRow w.heap.size e size v n xs := fun h he => own_keep h (fun b hb => hset b (fun e2 => by
    obtain ⟨cur, hc⟩ := own_ty h hb
    rw [e2, hR] at hc
    simp at hc
    exact he hc.2.symm))
  have k2' : ∀ {e n size : Nat} {v : Value} {xs : List Value}, w2.ownsRow w.heap.size e size v n xs → e ≠ 46 → w4.ownsRow w.heap.size e size v n xs := fun h he => own_keep h (fun b hb => stay b (h.lt b hb).2 (fun e2 => by
    obtain ⟨cur, hc⟩ := own_ty h hb
    obtain ⟨cur2, hc2⟩ := own_ty H.rows.bxs e2
    rw [hc] at hc2
    simp at hc2
    exact he hc2.2))
  refine ⟨hR, hbel, hbel.setCell (p := ⟨R, 1, none⟩) H.low.2 _, H.low, (hset _ H.ne).trans ((stay R0 (lt_of_block H.zero) (nE _ _ H.zero (fun cur e => by simp at e))).trans H.zero), H.ne, ?_, ⟨k4 (k2' H.rows.ends (by decide)) (by decide), fun i hi => k4 (k2' (H.rows.outs i hi) (by decide)) (by decide), ?_, fun i p hi hp => ?_⟩⟩
  · simp only [World.setCell, Array.getElem?_modify, if_true, hR, Option.map_some]
    rfl
  · rw [svs_succ, svs_eq (b := bv) (fun i hi => if_neg (by omega)), if_pos rfl]
    exact k4 h4 (by decide)
  · by_cases e : i = k2
    · subst e
      rw [hq] at hp
      cases hp
      simp only [if_true]
      exact k4 (k2' hv (by decide)) (by decide)
    · simp only [if_neg e]
      exact k4 (k2' (H.rows.words i p (by omega) hp) (by decide)) (by decide)
end
end Go.Proofs.YtpmngjjbhcajfaaGreat.Vw

