/- KAHN'S THEOREM, plainly, of a right module: what is kept. -/
import Derived.Test.YtekjhefmhhcboaaGreatM41
import Derived.Test.YtekjhefmhhcboaaGreatM37
import Derived.Test.YtekjhefmhhcboaaGreatM34
namespace Go.Proofs.YtekjhefmhhcboaaGreat.Vw
open Go.RowKit Vf Vm

theorem two_count {p : Nat → Bool} {k i j : Nat} (hi : i < k) (hj : j < k) (hne : i ≠ j) (pi : p i = true) (pj : p j = true) : 2 ≤ (List.range k).countP p := by
  rw [List.countP_eq_length_filter]
  have mi : i ∈ (List.range k).filter p := List.mem_filter.2 ⟨by simpa using hi, pi⟩
  have mj : j ∈ (List.range k).filter p := List.mem_filter.2 ⟨by simpa using hj, pj⟩
  generalize (List.range k).filter p = l at mi mj
  match l, mi, mj with
  | [a], mi, mj =>
    simp at mi mj
    exact absurd (mi.trans mj.symm) hne
  | _ :: _ :: _, _, _ => simp
theorem tasks_nodup (m : Md) : (tasksTo m.units m.units.length).Nodup := by
  unfold tasksTo
  exact List.Pairwise.filter _ List.nodup_range
/-- What holds of a world, step by step. -/
structure KI (m : Md) (K : KM) (s : Wx) : Prop where
  bx : BxOk m s.2
  tasks : ∀ (o : Nat) t, s.1[o]? = some t → Goes m K t ∧ (t.over = 0 ∨ t.over = 4 ∨ t.over = 5) ∧ ∃ k : Nat, (tasksTo m.units m.units.length)[o]? = some k ∧ Inn (Vf.Reach m (k : Int)) t
/-- Where a task stands. -/
theorem here_of {m : Md} {K : KM} (hK : Known m K) {t : Tk} (hG : Goes m K t) (h0 : t.over = 0) : t.top.fs ≠ [] ∧ (t.ins m) ∈ (unit m (t.frame.u : Int)).code ∧ ((t.ins m).op = 23 ∨ (t.ins m).op = 29 → ((t.ins m).a.toNat : Int) = (t.ins m).a) ∧ ((t.ins m).op = 26 ∨ (t.ins m).op = 27 → ((t.ins m).a.toNat : Int) = (t.ins m).a ∧ (t.ins m).a.toNat < m.boxes.length) := by
  rcases hG with hg | ⟨G, st, hM⟩
  · exact absurd h0 hg
  · obtain ⟨h, f, r, u, i, k, k', H⟩ := hM.here hK
    have ef : t.top.fs = f :: r := by rw [top_of H.hh]; exact H.fs
    have efr : t.frame = f := by simp [Tk.frame, ef]
    rw [H.ins, efr]
    obtain ⟨hp1, hp2, hrg⟩ := H.pos
    refine ⟨by rw [ef]; simp, ?_, fun ho => ?_, fun ho => ?_⟩
    · rw [unit_of H.un]; exact List.mem_of_getElem? H.code
    · unfold ranged at hrg
      rw [if_neg (by omega), if_neg (by omega), if_neg (by omega)] at hrg
      rcases ho with ho | ho
      · rw [if_pos ho] at hrg
        unfold is at hrg
        simp at hrg
        omega
      · rw [if_neg (by omega), if_pos ho] at hrg
        unfold is at hrg
        simp at hrg
        omega
    · unfold ranged at hrg
      rw [if_neg (by omega), if_neg (by omega), if_neg (by omega), if_neg (by omega), if_neg (by omega), if_pos ho] at hrg
      simp at hrg
      omega
theorem ki_step {m : Md} {K : KM} (hK : Known m K) {s s' : Wx} (h : KI m K s) (hs : Step1 m s s') : KI m K s' := by
  obtain ⟨o, t, ht, hst, rfl⟩ := hs
  obtain ⟨hG, hov, k, hk, hI⟩ := h.tasks o t ht
  have h0 := ready_zero hst hov
  obtain ⟨g1, g2, g3⟩ := mj_step hK hG h0 h.bx hst
  refine ⟨g3, fun p u hu => ?_⟩
  change (s.1.set o (one mbX m t s.2).1)[p]? = some u at hu
  rw [List.getElem?_set] at hu
  split at hu
  · rename_i e
    subst e
    split at hu
    · cases hu
      refine ⟨g1, g2, k, hk, ?_⟩
      obtain ⟨b1, b2, b3, _⟩ := here_of hK hG h0
      have hg0 : (t.goto (t.frame.pc + 1)).top.fs ≠ [] := by
        cases hi : t.ths[t.hand]? with
        | none =>
          exfalso
          apply b1
          show ((t.ths[t.hand]?).getD th0).fs = []
          rw [hi]
          rfl
        | some x =>
          have hl := (List.getElem?_eq_some_iff.1 hi).1
          show ((t.ths.set t.hand { t.top with fs := { t.frame with pc := t.frame.pc + 1 } :: t.top.fs.tail })[t.hand]?.getD th0).fs ≠ []
          rw [List.getElem?_set_self hl]
          simp
      refine (hI.goto b1 _).act m _ _ hg0 (fun ho => ?_)
      rw [b3 ho]
      exact .step (hI.frame b1) b2 ho
    · cases hu
  · exact h.tasks p u hu
/-- One writes, one reads. -/
theorem ki_kah {m : Md} {K : KM} (hK : Known m K) (hv : verify m = (0, 0, 0)) {s : Wx} (h : KI m K s) : Kah m s := by
  refine ⟨h.bx.fits, fun o t ht => (h.tasks o t ht).2.1, fun o p t u hne ht hu t0 u0 => ?_⟩
  obtain ⟨hG, _, k, hk, hI⟩ := h.tasks o t ht
  obtain ⟨hG', _, k', hk', hI'⟩ := h.tasks p u hu
  obtain ⟨b1, b2, _, b4⟩ := here_of hK hG t0
  obtain ⟨c1, c2, _, c4⟩ := here_of hK hG' u0
  have hkk : k ≠ k' := fun e => hne (by
    subst e
    exact (List.getElem?_inj (List.getElem?_eq_some_iff.1 hk).1 (tasks_nodup m)).1 (hk.trans hk'.symm))
  obtain ⟨ku, hku, k4, _⟩ := task_of hk
  obtain ⟨ku', hku', k4', _⟩ := task_of hk'
  have h5 := right_iff.1 hv 5 (by omega)
  have key : ∀ op : Int, op = 26 ∨ op = 27 → (t.ins m).op = op → (u.ins m).op = op → (t.ins m).a.toNat = (u.ins m).a.toNat → False := fun op ho e1 e2 e3 => by
    obtain ⟨d1, d2⟩ := b4 (by rw [e1]; exact ho)
    obtain ⟨d3, d4⟩ := c4 (by rw [e2]; exact ho)
    have w5 := first_all _ _ _ (show (firstE (ownersE m) (List.range m.boxes.length) 0).1 = 0 from h5) (t.ins m).a.toNat (by simpa using d2)
    have m1 : comes m k (op, (((t.ins m).a.toNat : Nat) : Int)) = true := (comes_iff hK.rt k ho).2 ⟨_, hI.frame b1, _, b2, by rw [e1, d1]⟩
    have m2 : comes m k' (op, (((t.ins m).a.toNat : Nat) : Int)) = true := (comes_iff hK.rt k' ho).2 ⟨_, hI'.frame c1, _, c2, by rw [e2, e3, d3]⟩
    have hc : 2 ≤ tc m (op, (((t.ins m).a.toNat : Nat) : Int)) m.units.length := by
      refine two_count (i := k) (j := k') (List.getElem?_eq_some_iff.1 hku).1 (List.getElem?_eq_some_iff.1 hku').1 hkk ?_ ?_
      · rw [m1]; simp [is, hku, k4]
      · rw [m2]; simp [is, hku', k4']
    unfold ownersE at w5
    split at w5
    · cases w5
    · rename_i hn
      rcases ho with ho | ho <;> (rw [ho] at hc; omega)
  exact ⟨fun e1 e2 e3 => key 26 (.inl rfl) e1 e2 e3, fun e1 e2 e3 => key 27 (.inr rfl) e1 e2 e3⟩
theorem ki_first {m : Md} {K : KM} (hK : Known m K) (hv : verify m = (0, 0, 0)) : KI m K (firstW m).wx := by
  have hI := wi_first hK hv
  refine ⟨⟨by simp [firstW], fun i q b hq hb => ?_⟩, fun o t ht => ?_⟩
  · obtain ⟨t0, ht0⟩ : ∃ t, (firstW m).ts[0]? = some t := ⟨_, List.getElem?_eq_getElem hI.few.1⟩
    exact (hI.tasks 0 t0 ht0).boxes i q b hq hb
  · obtain ⟨n, hn, e⟩ := firstW_at ht
    have hM := hI.tasks o t ht
    refine ⟨hM.goes, hM.over, n, hn, fun h hh f hf => ?_⟩
    rw [e] at hh
    unfold newTk at hh
    simp at hh
    subst hh
    simp [newTh] at hf
    subst hf
    exact .here _
end Go.Proofs.YtekjhefmhhcboaaGreat.Vw

/- The walks of following and settle. -/
namespace Go.Proofs.YtekjhefmhhcboaaGreat.Vw
open Go.RowKit Vf Vm

def nextV (o : Option Nat) : Int := match o with | some n => (n : Int) | none => -1
theorem nextFrom_lt {m : Md} {W : Wd} (h : 0 < W.ts.length) : ∀ (n i : Nat) {k : Nat}, nextFrom m W n i = some k → k < W.ts.length ∧ (stat mbX m (W.tk (k : Int)) W.x).1 = 1
  | 0, _, _, hk => by cases hk
  | n + 1, i, k, hk => by
    unfold nextFrom at hk
    split at hk
    · rename_i hs
      cases hk
      refine ⟨?_, hs⟩
      unfold behind
      have h1 := Int.emod_lt_of_pos (W.last + 1 + (i : Int)) (by omega : (0 : Int) < W.ts.length)
      have h2 := Int.emod_nonneg (W.last + 1 + (i : Int)) (by omega : (W.ts.length : Int) ≠ 0)
      omega
    · exact nextFrom_lt h n (i + 1) hk

set_option maxRecDepth 100000 in
set_option maxHeartbeats 2000000 in
/-- WHAT following ANSWERS. -/
theorem following_any (s : Sx) (B : EarW) (hS : Hid (SxOk s B)) (K : KM) (hK : Hid (Known s.c.m K)) (L : Lab) (w : World) (W : Wd) (vt vx : Value) (H : Hid (WdIn s B L w W vt vx)) (hI : Hid (WI s.c.m K W)) (r : Int) (hr : Hid (r = nextV (following s.c.m W))) :
    Calls Tryz.prog 26 #[.pointer (some ⟨s.WB, 0, none⟩)] w fun e w' => e = .returned (.int .i64 r) ∧ Below w.heap.size w w' := by
  obtain ⟨d0, d1, d2, d3, _⟩ := H.out.cells
  obtain ⟨ta, tc, hvt⟩ : ∃ a c, vt = .slice a W.ts.length c := own_slice H.out.trow
  subst hvt
  have hfew := hI.out.few
  have hlast := hI.out.last
  obtain ⟨N, hN⟩ : ∃ N, N = W.ts.length := ⟨_, rfl⟩
  have HN := Sb.hide hN
  rw [← hN] at hfew d0 hlast
  have HST : Hid (r = nextV (nextFrom s.c.m W (N - 0) 0)) := by unfold Hid; rw [hr.out, HN.out]; rfl
  have hWz := lt_of_block H.out.blk
  have HC : Hid (∀ W2, Below w.heap.size w W2 → W2.cell? ⟨s.WB, 0, none⟩ = some (.slice ta N tc) ∧ W2.cell? ⟨s.WB, 3, none⟩ = some (.int .i64 W.last)) := fun W2 hb => ⟨(cell_eq (hb.block _ hWz) _).trans d0, (cell_eq (hb.block _ hWz) _).trans d3⟩
  obtain ⟨la, hla⟩ : ∃ l, l = W.last := ⟨_, rfl⟩
  have HLA := Sb.hide hla
  rw [← hla] at hlast HC
  clear hN d1 d2 d3 hr hla
  go_enter Tryz.func26, Tryz.ntmps26
  go_wp2
  clear d0
  go_loopw [10] (fun v wr => ∃ k : Nat, v = .int .i64 k ∧ k ≤ N ∧ Below w.heap.size w wr ∧ r = nextV (nextFrom s.c.m W (N - k) k)) (fun v _ => N - (intOf v).toNat)
  case atStart => exact ⟨0, rfl, Nat.zero_le _, .refl _ _, HST.out⟩
  case round =>
    obtain ⟨k, rfl, hk, hb, hrk⟩ := hrel
    have HB := Sb.hide hb
    have HRK := Sb.hide hrk
    clear hb hrk HST
    by_cases hlt : k < N
    · obtain ⟨o, ho⟩ : ∃ o, o = behind W k := ⟨_, rfl⟩
      have hob : o < N ∧ (la + 1 + (k : Int)).tmod (N : Int) = (o : Int) := by
        rw [ho]
        unfold behind
        rw [← HN.out, ← HLA.out]
        have h1 := Int.emod_lt_of_pos (la + 1 + (k : Int)) (by omega : (0 : Int) < N)
        have h2 := Int.emod_nonneg (la + 1 + (k : Int)) (by omega : (N : Int) ≠ 0)
        refine ⟨by omega, ?_⟩
        rw [Int.tmod_eq_emod_of_nonneg (by omega)]
        omega
      have HOB := Sb.hide ho
      obtain ⟨t, ht⟩ : ∃ t, W.ts[o]? = some t := ⟨_, List.getElem?_eq_getElem (by rw [← HN.out]; exact hob.1)⟩
      have HT := Sb.hide ht
      have HTK : Hid (W.tk (behind W k : Int) = t) := by unfold Hid Wd.tk; rw [← ho]; simp [ht]
      have HRR : Hid (r = if (stat mbX s.c.m t W.x).1 = 1 then (o : Int) else nextV (nextFrom s.c.m W (N - (k + 1)) (k + 1))) := by
        unfold Hid
        rw [HRK.out, show N - k = (N - (k + 1)) + 1 by omega]
        show nextV (if (stat mbX s.c.m (W.tk (behind W k : Int)) W.x).1 = 1 then some (behind W k) else _) = _
        rw [HTK.out, ← ho]
        split <;> rfl
      have HAT := Sb.hide (hI.out.at (c := s.c) rfl hK.out ht)
      obtain ⟨P, vR, vO, hSt⟩ := H.out.st ht
      have HST := Sb.hide hSt
      obtain ⟨g, hta, htc⟩ := own_cell H.out.trow (ptrs_at s.T (by rw [← HN.out]; exact hob.1 : o < W.ts.length))
      have hgz := World.block_lt_of_cell? w _ htc
      have t5 : wr.cell? ⟨g, o, none⟩ = some (.pointer (some ⟨s.T o, 0, none⟩)) := (cell_eq (HB.out.block g hgz) _).trans htc
      obtain ⟨br, hbr⟩ : ∃ b, b = ((stat mbX s.c.m t W.x).1 == 1) := ⟨_, rfl⟩
      have HBR := Sb.hide hbr
      subst hta
      obtain ⟨c0, c3⟩ := HC.out _ HB.out
      have w1 : IntKind.i64.wrap (la + 1) = la + 1 := by rw [IntKind.wrap_i64]; omega
      have w2 : IntKind.i64.wrap (la + 1 + (k : Int)) = la + 1 + (k : Int) := by rw [IntKind.wrap_i64]; omega
      obtain ⟨hob1, hob2⟩ := hob
      have nz : ¬ (N : Int) = 0 := by omega
      have n0 : (0 : Int) ≤ (o : Int) := by omega
      have n1 : (o : Int) < (N : Int) := by omega
      clear ho ht hSt htc hbr
      go_wp2
      go_quiet (fail)
      go_wp2_with fail
      refine (ready_any (s.E (earOf B o W.evs t.log.length)) mbX s.c s.vb (s.ev o) o (s.T o) L P _ t W.x vR vO (Sb.hide (HST.out.below (below_drewN HB.out _))) (Sb.hide (hS.out.boxes _)) HAT br HBR).mono ?_
      rintro e w3 ⟨rfl, hb3⟩
      have HB3 : Hid (Below w.heap.size w w3) := (below_drewN HB.out _).trans (hb3.mono (by exact HB.out.size))
      clear hb3
      cases br with
      | true =>
        have HF : Hid (r = (o : Int)) := by unfold Hid; rw [HRR.out, if_pos (by have := HBR.out; simpa using this.symm)]
        go_wp2
        go_ret
        exact ⟨by rw [HF.out]; rfl, HB3.out⟩
      | false =>
        have HF : Hid (r = nextV (nextFrom s.c.m W (N - (k + 1)) (k + 1))) := by unfold Hid; rw [HRR.out, if_neg (by have := HBR.out; simpa using this.symm)]
        go_wp2
        go_roundw
        case rel => exact ⟨k + 1, by go_num, by omega, HB3.out, HF.out⟩
        case measure => simp [intOf]; omega
    · have HF : Hid (r = -1) := by unfold Hid; rw [HRK.out, show N - k = 0 by omega]; rfl
      go_wp2
      go_ret
      exact ⟨by rw [HF.out]; rfl, HB.out⟩
/-- How many steps were taken, as memory says. -/
def stepsAt (b : Nat) (w : World) : Nat := match w.cell? ⟨b, 2, none⟩ with | some (.int _ n) => n.toNat | _ => 0
theorem WdIn.stepsAt {s : Sx} {B : EarW} {L : Lab} {w : World} {W : Wd} {vt vx : Value} (H : WdIn s B L w W vt vx) : stepsAt s.WB w = W.steps := by
  unfold Vw.stepsAt
  rw [H.cells.2.2.1]
  simp
/-- What holds at the head of settle's loop. -/
structure SeAt (s : Sx) (B : EarW) (K : KM) (L : Lab) (w : World) (vt vx : Value) (q : Int) (R : Int × Wd) (v : Value) (W1 : Wd) (L1 : Lab) (f : Nat) (wr : World) : Prop where
  wd : WdIn s B L1 wr W1 vt vx
  wi : WI s.c.m K W1
  ext : Ext L L1 w
  kp : Kp L w wr
  res : R = settleW s.c.m q f W1
  fuel : 20001 ≤ f + W1.steps
  v : v = .int .i64 (nextV (following s.c.m W1))

set_option maxRecDepth 100000 in
set_option maxHeartbeats 2000000 in
/-- WHAT settle ANSWERS. -/
theorem settle_any (s : Sx) (B : EarW) (hS : Hid (SxOk s B)) (K : KM) (hK : Hid (Known s.c.m K)) (L : Lab) (w : World) (W : Wd) (vt vx : Value) (H : Hid (WdIn s B L w W vt vx)) (hI : Hid (WI s.c.m K W)) (ps : List Pk) (a : Option Addr) (cap : Nat) (hps : Hid (PkIn s.c.B w ps a)) (hn : ps.length ≤ 400) (q : Int) (hq : 1 ≤ q ∧ q ≤ 10000) (R : Int × Wd) (hR : Hid (R = settleW s.c.m q 20001 (followW s.c.m W ps))) :
    Calls Tryz.prog 17 #[.pointer (some ⟨s.WB, 0, none⟩), .slice a ps.length cap, .int .i64 q] w fun e w' => e = .returned (.int .i64 R.1) ∧ PkPost s B K L w w' R.2 vt vx := by
  have HQ := Sb.hide hq
  clear hq
  go_enter Tryz.func17, Tryz.ntmps17
  go_wp2_with fail
  refine (follow_any s B hS K hK L w W vt vx H hI ps a cap hps hn).mono ?_
  rintro e w1 ⟨vd, L1, rfl, hF⟩
  have h1 := hF.wd
  have h2 := hF.wi
  rw [List.take_length] at h1 h2
  have HWD1 := Sb.hide h1
  have HWI1 := Sb.hide h2
  have HEX1 := Sb.hide hF.ext
  have HKP1 := Sb.hide hF.kp
  obtain ⟨da, dc, rfl⟩ := own_slice hF.row
  clear hF h1 h2
  go_wp2_with fail
  refine (following_any s B hS K hK L1 _ _ vt vx HWD1 HWI1 _ (Sb.hide rfl)).mono ?_
  rintro e w2 ⟨rfl, hb2⟩
  have HST : Hid (SeAt s B K L w vt vx q R (.int .i64 (nextV (following s.c.m (followW s.c.m W ps)))) (followW s.c.m W ps) L1 20001 w2) := ⟨HWD1.out.below hb2, HWI1.out, HEX1.out, HKP1.out.trans HEX1.out (.of_below hb2), hR.out, by omega, rfl⟩
  clear hb2
  go_wp2
  go_loopw [7] (fun v wr => ∃ W1 L1 f, SeAt s B K L w vt vx q R v W1 L1 f wr) (fun _ wr => 20001 - stepsAt s.WB wr)
  case atStart => exact ⟨_, _, _, HST.out⟩
  case round =>
    obtain ⟨W1, L2, f, hA⟩ := hrel
    have hv := hA.v
    subst hv
    have HA := Sb.hide hA
    have hfu := hA.fuel
    have hst := hA.wi.steps
    have hms := hA.wd.stepsAt
    clear hA HST
    obtain ⟨fo, hfo⟩ : ∃ fo, fo = following s.c.m W1 := ⟨_, rfl⟩
    have HFO := Sb.hide hfo
    rw [← hfo]
    obtain ⟨f', rfl⟩ : ∃ f', f = f' + 1 := ⟨f - 1, by omega⟩
    cases fo with
    | none =>
      have HRR : Hid (R = (0, W1)) := by
        unfold Hid
        rw [HA.out.res]
        show (match following s.c.m W1 with | none => (0, W1) | some n => _ : Int × Wd) = _
        rw [← HFO.out]
      clear hfo
      go_wp2
      go_ret
      rw [HRR.out]
      exact ⟨rfl, L2, HA.out.wd, HA.out.wi, HA.out.ext, HA.out.kp⟩
    | some n =>
      obtain ⟨hnl, hns⟩ := nextFrom_lt HA.out.wi.few.1 _ _ hfo.symm
      have HRR : Hid (R = if refE s.c.m W1 ⟨n, q⟩ = 0 then settleW s.c.m q f' (pickW s.c.m W1 ⟨n, q⟩) else (refE s.c.m W1 ⟨n, q⟩, W1)) := by
        unfold Hid
        rw [HA.out.res]
        show (match following s.c.m W1 with | none => (0, W1) | some n => _ : Int × Wd) = _
        rw [← HFO.out]
      obtain ⟨d, hd⟩ : ∃ d, d = pickD s.c.m W1 ⟨n, q⟩ := ⟨_, rfl⟩
      obtain ⟨W2, hW2⟩ : ∃ d, d = pickW s.c.m W1 ⟨n, q⟩ := ⟨_, rfl⟩
      have HD := Sb.hide hd
      have HW2 := Sb.hide hW2
      have n0 : (0 : Int) ≤ (n : Int) := by omega
      have HNV : Hid (nextV (some n) = (n : Int)) := rfl
      clear hd hW2 hfo hns hnl
      rw [HNV.out]
      go_wp2_with fail
      refine (pick_any s B hS K hK L2 _ W1 vt vx (Sb.hide HA.out.wd) (Sb.hide HA.out.wi) ⟨n, q⟩ d HD W2 HW2).mono ?_
      rintro e w3 ⟨rfl, L3, hwd3, hwi3, hex3, hkp3⟩
      have HWD3 := Sb.hide hwd3
      have HWI3 := Sb.hide hwi3
      have HEX3 : Hid (Ext L L3 w) := HA.out.ext.trans hex3 HA.out.kp.size
      have HKP3 := Sb.hide (HA.out.kp.trans HA.out.ext hkp3)
      clear hwd3 hwi3 hex3 hkp3
      have HBD : Hid (Below w3.heap.size w3 (w3.alloc (ddO d.err (d.steps : Int)))) := (Below.refl _ w3).alloc (Nat.le_refl _) _
      have c0 : (w3.alloc (ddO d.err (d.steps : Int))).cell? ⟨w3.heap.size, 0, none⟩ = some (.int .i64 d.err) := by simp [World.cell?_alloc_mark]
      by_cases he : refE s.c.m W1 ⟨n, q⟩ = 0
      · have hde : d.err = 0 := by rw [HD.out, pickD, if_pos he]
        have hds := (ran_few he).1
        have HR2 : Hid (R = settleW s.c.m q f' W2) := by unfold Hid; rw [HRR.out, if_pos he, ← HW2.out]
        have hps2 := (pick_steps s.c.m W1 ⟨n, q⟩).1
        have hpd : (pickD s.c.m W1 ⟨n, q⟩).steps = (ran s.c.m W1 ⟨n, q⟩).1 := by unfold pickD; rw [if_pos he]
        have hW2s : W1.steps + 1 ≤ W2.steps := by rw [HW2.out, hps2, hpd]; omega
        have e0 : (d.err != 0) = false := by simpa using hde
        clear he hde hds hps2 hpd
        go_wp2_with fail
        generalize w3.alloc (ddO d.err (d.steps : Int)) = WA at *
        refine (following_any s B hS K hK L3 _ W2 vt vx (Sb.hide (HWD3.out.below HBD.out)) HWI3 _ (Sb.hide rfl)).mono ?_
        rintro e w4 ⟨rfl, hb4⟩
        have HREL : Hid (SeAt s B K L w vt vx q R (.int .i64 (nextV (following s.c.m W2))) W2 L3 f' w4) := ⟨(HWD3.out.below HBD.out).below hb4, HWI3.out, HEX3.out, (HKP3.out.trans HEX3.out (.of_below HBD.out)).trans HEX3.out (.of_below hb4), HR2.out, by omega, rfl⟩
        have hms4 := HREL.out.wd.stepsAt
        have hst4 := HREL.out.wi.steps
        have HMS := Sb.hide (show 20001 - stepsAt s.WB w4 < 20001 - stepsAt s.WB wr by rw [hms4, hms]; omega)
        clear hb4 hms4
        go_wp2
        go_roundw
        case rel => exact ⟨W2, L3, f', HREL.out⟩
        case measure => exact HMS.out
      · have hde : d.err = refE s.c.m W1 ⟨n, q⟩ := by rw [HD.out, pickD, if_neg he]
        have e0 : (d.err != 0) = true := by rw [hde]; simpa using he
        have HR2 : Hid (R = (d.err, W2)) := by
          unfold Hid
          rw [HRR.out, if_neg he, hde, HW2.out, pickW, if_neg he]
        clear he hde
        go_wp2
        go_ret
        rw [HR2.out]
        exact ⟨rfl, L3, HWD3.out.below HBD.out, HWI3.out, HEX3.out, HKP3.out.trans HEX3.out (.of_below HBD.out)⟩
end Go.Proofs.YtekjhefmhhcboaaGreat.Vw

/- WHAT Settle ANSWERS. -/
namespace Go.Proofs.YtekjhefmhhcboaaGreat.Vw
open Go.RowKit Vf Vm

abbrev setR (m : Md) (ps : List Pk) (q : Int) : Int × Wd := settleW m q 20001 (followW m (firstW m) ps)
def setE (m : Md) (ps : List Pk) (q : Int) : Int := if wrongE m ps.length ≠ 0 then wrongE m ps.length else if 1 ≤ q ∧ q ≤ 10000 then (setR m ps q).1 else 3


set_option maxRecDepth 100000 in
set_option maxHeartbeats 2000000 in
theorem Settle_any (m : Md) (ab au : Option Addr) (cb cu B : Nat) (ps : List Pk) (a : Option Addr) (cap : Nat) (w : World) (hmd : Hid (ModIn B w m ab au)) (hps : Hid (PkIn B w ps a)) (hB : B ≤ w.heap.size) (q : Int) (E : Int) (hE : Hid (E = setE m ps q)) (R : Wd) (hR : Hid (R = (setR m ps q).2)) :
    Calls Tryz.prog 10 #[mdV m ab au cb cu, .slice a ps.length cap, .int .i64 q] w fun e w' => Below w.heap.size w w' ∧ ((E ≠ 0 ∧ e = .returned (.tuple #[.agg #[.slice none 0 0, .slice none 0 0, .int .i64 0], .int .i64 E])) ∨
      (E = 0 ∧ ∃ vE vB ov bv, e = .returned (.tuple #[.agg #[vE, vB, .int .i64 R.steps], .int .i64 0]) ∧ EnIn m R 0 w' vE vB R.ts.length m.boxes.length ov bv ∧ ∃ K, Known m K ∧ WI m K R)) := by
  obtain ⟨E1, hE1⟩ : ∃ E1, E1 = wrongE m ps.length := ⟨_, rfl⟩
  have HE1 := Sb.hide hE1
  clear hE1
  have HF0 := Sb.hide (Sr.first w m ab au cb cu)
  have HM0 : Hid (ModIn B ((w.alloc (mdB m ab au cb cu)).alloc woZ) m ab au) := hmd.out.low (HF0.out.below.mono hB).block
  go_enter Tryz.func10, Tryz.ntmps10
  go_wp2_with fail
  generalize (w.alloc (mdB m ab au cb cu)).alloc woZ = W0 at *
  refine (wrong_any m ab au cb cu B a ps.length cap _ HM0 (by have := HF0.out.below.size; omega) E1 HE1).mono ?_
  rintro e w1 ⟨rfl, hb1⟩
  have HF1 := Sb.hide (HF0.out.on hb1)
  clear hb1
  by_cases h0 : E1 = 0
  · have e0 : (E1 != 0) = false := by simpa using h0
    obtain ⟨hright, hn⟩ := wrongE_zero (m := m) (n := ps.length) (by rw [← HE1.out]; exact h0)
    have HE2 : Hid (E = if 1 ≤ q ∧ q ≤ 10000 then (setR m ps q).1 else 3) := by
      unfold Hid
      rw [hE.out, setE, if_neg (by rw [← HE1.out]; simpa using h0)]
    obtain ⟨bq, hbq⟩ : ∃ b, b = decide (1 ≤ q ∧ q ≤ 10000) := ⟨_, rfl⟩
    have HBQ := Sb.hide hbq
    clear hbq
    obtain ⟨⟨K, hK⟩, hbl⟩ := known_of hright
    have HK := Sb.hide hK
    have HRG := Sb.hide hright
    obtain ⟨cv, cc, hcx⟩ := cx_of cu hmd.out hK.rt.units
    have HCX := Sb.hide hcx
    have hB1 : B ≤ w1.heap.size := by have := HF1.out.below.size; omega
    have hz1 := lt_of_block HF1.out.zero
    have HWF := Sb.hide (wi_first hK hright)
    have c1 := md_cells HF1.out.md
    clear h0 hK hright hcx
    go_wp2_with fail
    refine (isQ_any q _ bq HBQ).mono ?_
    rintro e w1 ⟨rfl, rfl⟩
    cases bq with
    | false =>
      have HE3 : Hid (E = 3) := by unfold Hid; rw [HE2.out, if_neg (by have := HBQ.out; simpa using this.symm)]
      clear c1
      have z := (wo_cells HF1.out.zero).1
      have zf := (wo_cells HF1.out.zero).2
      go_wp2
      have hX := fillW_at (v0 := .slice none 0 0) (v1 := .slice none 0 0) (v2 := .int .i64 0) HF1.out.zero
      have hBD := fillW_below (v0 := .slice none 0 0) (v1 := .slice none 0 0) (v2 := .int .i64 0) HF1.out.below (Nat.le_succ _)
      unfold fillW at hX hBD
      obtain ⟨g0, g1, g2⟩ := hX
      generalize ((w1.setCell ⟨w.heap.size + 1, 0, none⟩ (.slice none 0 0)).setCell ⟨w.heap.size + 1, 1, none⟩ (.slice none 0 0)).setCell ⟨w.heap.size + 1, 2, none⟩ (.int .i64 0) = W4 at *
      exact bodyPost_ret (v := .tuple #[.agg #[.slice none 0 0, .slice none 0 0, .int .i64 0], .int .i64 3]) (by simp [results, Tryz.results10, go_sem, g0, g1, g2]) rfl ⟨hBD, .inl ⟨by rw [HE3.out]; decide, by rw [HE3.out]⟩⟩
    | true =>
      have hq : 1 ≤ q ∧ q ≤ 10000 := by have := HBQ.out; simpa using this.symm
      have HE3 : Hid (E = (setR m ps q).1) := by unfold Hid; rw [HE2.out, if_pos hq]
      go_wp2_with fail
      refine (newWorld_any ⟨m, B, au, cu, cv, cc⟩ K HK HRG hbl _ (Sb.hide (HCX.out.low (HF1.out.below.mono hB).block)) hB1 ab cb (Sb.hide (hmd.out.low (HF1.out.below.mono hB).block).boxes)).mono ?_
      rintro e w2 ⟨s, L, vt, vx, rfl, hsc, hS, hW, hb2, hL⟩
      have HSC := Sb.hide hsc
      have hsm : s.c.m = m := by rw [hsc]
      have hsB : s.c.B = B := by rw [hsc]
      have HSM := Sb.hide hsm
      have HSB := Sb.hide hsB
      have HS := Sb.hide hS
      have HW := Sb.hide hW
      have HF2 := Sb.hide (HF1.out.on hb2)
      have HL := Sb.hide (fun b (hb : b < w.heap.size + 2) => hL b (by omega))
      have hz2 := lt_of_block HF2.out.zero
      have HRR : Hid ((E, R) = settleW s.c.m q 20001 (followW s.c.m (firstW m) ps)) := by
        unfold Hid
        rw [HSM.out, HE3.out, hR.out]
      clear hsc hS hW hb2 hL hsm hsB c1
      go_wp2_with fail
      refine (settle_any s deafW HS K (by rw [HSM.out]; exact HK) L _ (firstW m) vt vx HW (by rw [HSM.out]; exact HWF) ps a cap (by rw [HSB.out]; exact Sb.hide (hps.out.low (HF2.out.below.mono hB).block)) hn q hq (E, R) HRR).mono ?_
      rintro e w3 ⟨rfl, L3, hWD, hWI, _, hkp⟩
      have HF3 := Sb.hide (HF2.out.kp hkp HL.out)
      have HWI := Sb.hide hWI
      have HWD := Sb.hide hWD
      clear hWD hWI hkp
      by_cases h5 : E = 0
      · have e5 : (E != 0) = false := by simpa using h5
        have HE0 := Sb.hide h5
        clear h5
        go_wp2_with fail
        refine (wend_any s deafW HS K (by rw [HSM.out]; exact HK) L3 _ R vt vx HWD HWI (by rw [HSM.out]; exact hbl)).mono ?_
        rintro e w4 ⟨vE, vB, ov, bv, rfl, hb4, hEN⟩
        rw [HSM.out] at hEN
        have HF4 := Sb.hide (HF3.out.on hb4)
        have HEN := Sb.hide (hEN.base (Nat.zero_le _))
        obtain ⟨ea, ec, rfl⟩ := own_slice hEN.ends
        obtain ⟨ba, bc, rfl⟩ := own_slice hEN.bxs
        have z := (wo_cells HF4.out.zero).1
        have zf := (wo_cells HF4.out.zero).2
        clear hb4 hEN
        go_wp2
        have hX := fillW_at (v0 := .slice ea R.ts.length ec) (v1 := .slice ba m.boxes.length bc) (v2 := .int .i64 R.steps) HF4.out.zero
        have hBD := fillW_below (v0 := .slice ea R.ts.length ec) (v1 := .slice ba m.boxes.length bc) (v2 := .int .i64 R.steps) HF4.out.below (Nat.le_succ _)
        have hEE := fillW_en (v0 := .slice ea R.ts.length ec) (v1 := .slice ba m.boxes.length bc) (v2 := .int .i64 R.steps) HF4.out.zero HEN.out
        unfold fillW at hX hBD hEE
        obtain ⟨g0, g1, g2⟩ := hX
        generalize ((w4.setCell ⟨w.heap.size + 1, 0, none⟩ (.slice ea R.ts.length ec)).setCell ⟨w.heap.size + 1, 1, none⟩ (.slice ba m.boxes.length bc)).setCell ⟨w.heap.size + 1, 2, none⟩ (.int .i64 R.steps) = W4 at *
        exact bodyPost_ret (v := .tuple #[.agg #[.slice ea R.ts.length ec, .slice ba m.boxes.length bc, .int .i64 R.steps], .int .i64 0]) (by simp [results, Tryz.results10, go_sem, g0, g1, g2]) rfl ⟨hBD, .inr ⟨HE0.out, _, _, ov, bv, rfl, hEE, K, HK.out, by have := HWI.out; rw [HSM.out] at this; exact this⟩⟩
      · have e5 : (E != 0) = true := by simpa using h5
        have HNZ := Sb.hide h5
        clear h5
        have z := (wo_cells HF3.out.zero).1
        have zf := (wo_cells HF3.out.zero).2
        go_wp2
        have hX := fillW_at (v0 := .slice none 0 0) (v1 := .slice none 0 0) (v2 := .int .i64 0) HF3.out.zero
        have hBD := fillW_below (v0 := .slice none 0 0) (v1 := .slice none 0 0) (v2 := .int .i64 0) HF3.out.below (Nat.le_succ _)
        unfold fillW at hX hBD
        obtain ⟨g0, g1, g2⟩ := hX
        generalize ((w3.setCell ⟨w.heap.size + 1, 0, none⟩ (.slice none 0 0)).setCell ⟨w.heap.size + 1, 1, none⟩ (.slice none 0 0)).setCell ⟨w.heap.size + 1, 2, none⟩ (.int .i64 0) = W4 at *
        exact bodyPost_ret (v := .tuple #[.agg #[.slice none 0 0, .slice none 0 0, .int .i64 0], .int .i64 E]) (by simp [results, Tryz.results10, go_sem, g0, g1, g2]) rfl ⟨hBD, .inl ⟨HNZ.out, rfl⟩⟩
  · have e0 : (E1 != 0) = true := by simpa using h0
    have HEE : Hid (E = E1) := by unfold Hid; rw [hE.out, setE, if_pos (by rw [← HE1.out]; exact h0), ← HE1.out]
    have HNZ := Sb.hide h0
    clear h0
    have z := (wo_cells HF1.out.zero).1
    have zf := (wo_cells HF1.out.zero).2
    go_wp2
    have hX := fillW_at (v0 := .slice none 0 0) (v1 := .slice none 0 0) (v2 := .int .i64 0) HF1.out.zero
    have hBD := fillW_below (v0 := .slice none 0 0) (v1 := .slice none 0 0) (v2 := .int .i64 0) HF1.out.below (Nat.le_succ _)
    unfold fillW at hX hBD
    obtain ⟨g0, g1, g2⟩ := hX
    generalize ((w1.setCell ⟨w.heap.size + 1, 0, none⟩ (.slice none 0 0)).setCell ⟨w.heap.size + 1, 1, none⟩ (.slice none 0 0)).setCell ⟨w.heap.size + 1, 2, none⟩ (.int .i64 0) = W4 at *
    exact bodyPost_ret (v := .tuple #[.agg #[.slice none 0 0, .slice none 0 0, .int .i64 0], .int .i64 E1]) (by simp [results, Tryz.results10, go_sem, g0, g1, g2]) rfl ⟨hBD, .inl ⟨by rw [HEE.out]; exact HNZ.out, by rw [HEE.out]⟩⟩
end Go.Proofs.YtekjhefmhhcboaaGreat.Vw

