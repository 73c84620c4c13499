/- The walk of pick. -/
import Derived.Test.YtpmngjjbhcajfaaGreatM28
import Derived.Laws.Small
namespace Go.Proofs.YtpmngjjbhcajfaaGreat.Vw
open Go.RowKit Vf Vm

abbrev ddV (d : Dd) : Value := .agg #[.int .i64 d.err, .int .i64 d.steps]
abbrev ddO (e s : Int) : Obj := .cells #[.int .i64 e, .int .i64 s] 44 (0, 0)
theorem dd_cells {w : World} {b : Nat} {e s : Int} (h : w.heap[b]? = some (ddO e s)) : (w.cell? ⟨b, 0, none⟩ = some (.int .i64 e) ∧ w.cell? ⟨b, 1, none⟩ = some (.int .i64 s)) ∧ ∀ j, w.frozen? ⟨b, j, none⟩ = false := by simp [World.cell?, World.frozen?, h]
theorem dd_set {w : World} {b : Nat} {e s e' s' : Int} (h : w.heap[b]? = some (ddO e s)) : ((w.setCell ⟨b, 0, none⟩ (.int .i64 e')).setCell ⟨b, 1, none⟩ (.int .i64 s')).heap[b]? = some (ddO e' s') := by
  simp only [World.setCell, Array.getElem?_modify, if_true, h, Option.map_some]
  rfl
/-- What a pick leaves. -/
def PkPost (s : Sx) (B : EarW) (K : KM) (L : Lab) (w w' : World) (W : Wd) (vt vx : Value) : Prop := ∃ L', WdIn s B L' w' W vt vx ∧ WI s.c.m K W ∧ Ext L L' w ∧ Kp L w w'

set_option maxRecDepth 100000 in
set_option maxHeartbeats 2000000 in
/-- WHAT pick ANSWERS. -/
theorem pick_any (s : Sx) (B : EarW) (hS : Hid (SxOk s B)) (K : KM) (hK : Hid (Known s.c.m K)) (L : Lab) (w : World) (W : Wd) (vt vx : Value) (H : Hid (WdIn s B L w W vt vx)) (hI : Hid (WI s.c.m K W)) (p : Pk) (d : Dd) (hd : Hid (d = pickD s.c.m W p)) (W' : Wd) (hW' : Hid (W' = pickW s.c.m W p)) :
    Calls Tryz.prog 27 #[.pointer (some ⟨s.WB, 0, none⟩), pkV p] w fun e w' => e = .returned (ddV d) ∧ PkPost s B K L w w' W' vt vx := by
  have HB0 : Hid (Below w.heap.size w ((w.alloc (pkO p)).alloc (ddO 0 0))) := ((Below.refl _ w).alloc (Nat.le_refl _) _).alloc (by simp) _
  have HP0 : Hid (((w.alloc (pkO p)).alloc (ddO 0 0)).heap[w.heap.size]? = some (pkO p)) := (Below.heap_alloc _ _ _ (by simp)).trans (heap_alloc_new w _)
  have HD0 : Hid (((w.alloc (pkO p)).alloc (ddO 0 0)).heap[w.heap.size + 1]? = some (ddO 0 0)) := by
    have e : (w.alloc (pkO p)).heap.size = w.heap.size + 1 := by simp
    unfold Hid
    rw [← e]
    exact heap_alloc_new _ _
  have c0 : ((w.alloc (pkO p)).alloc (ddO 0 0)).cell? ⟨w.heap.size, 0, none⟩ = some (.int .i64 p.task) ∧ ((w.alloc (pkO p)).alloc (ddO 0 0)).cell? ⟨w.heap.size, 1, none⟩ = some (.int .i64 p.q) := by
    have := HP0.out
    simp [World.cell?, this]
  obtain ⟨r, hr⟩ : ∃ r, r = refE s.c.m W p := ⟨_, rfl⟩
  have HR := Sb.hide hr
  clear hr
  go_enter Tryz.func27, Tryz.ntmps27
  go_wp2_with fail
  generalize (w.alloc (pkO p)).alloc (ddO 0 0) = W0 at *
  refine (refusal_any s B hS K hK L _ W vt vx (Sb.hide (H.out.below HB0.out)) hI p r HR).mono ?_
  rintro e w1 ⟨rfl, hb1⟩
  have HB1 := Sb.hide (HB0.out.trans (hb1.mono HB0.out.size))
  have HP1 := Sb.hide ((hb1.block _ (lt_of_block HP0.out)).trans HP0.out)
  have HD1 := Sb.hide ((hb1.block _ (lt_of_block HD0.out)).trans HD0.out)
  have H1 := Sb.hide (H.out.below HB1.out)
  clear hb1 c0
  obtain ⟨⟨x0, x1⟩, xf⟩ := dd_cells HD1.out
  by_cases h0 : r = 0
  · have e0 : (r != 0) = false := by simpa using h0
    have HR0 : Hid (refE s.c.m W p = 0) := by unfold Hid; rw [← HR.out]; exact h0
    have c1 : w1.cell? ⟨w.heap.size, 0, none⟩ = some (.int .i64 p.task) ∧ w1.cell? ⟨w.heap.size, 1, none⟩ = some (.int .i64 p.q) := by
      have := HP1.out
      simp [World.cell?, this]
    have hre := HR0.out
    unfold refE at hre
    split at hre
    · cases hre
    rename_i t1
    split at hre
    case isFalse => cases hre
    rename_i t2
    split at hre
    case isFalse => cases hre
    rename_i t3
    split at hre
    · cases hre
    rename_i t4
    clear h0 hre
    obtain ⟨o, ho⟩ : ∃ o : Nat, p.task = o := ⟨p.task.toNat, by omega⟩
    obtain ⟨t, ht⟩ : ∃ t, W.ts[o]? = some t := ⟨_, List.getElem?_eq_getElem (by omega)⟩
    have HTK : Hid (W.tk p.task = t) := by unfold Hid Wd.tk; rw [ho]; simp [ht]
    have HO := Sb.hide ho
    have HT := Sb.hide ht
    obtain ⟨y0, _, y2, _, yf⟩ := H1.out.cells
    obtain ⟨ta, tc, hvt⟩ : ∃ a c, vt = .slice a W.ts.length c := own_slice H1.out.trow
    subst hvt
    obtain ⟨g, hta, htc⟩ := own_cell H1.out.trow (ptrs_at s.T (by omega : o < W.ts.length))
    subst hta
    obtain ⟨mm, hmm⟩ : ∃ mm, mm = min p.q.toNat (20000 - W.steps) := ⟨_, rfl⟩
    have HMM := Sb.hide hmm
    have hmi : (if 20000 - (W.steps : Int) < p.q then 20000 - (W.steps : Int) else p.q) = (mm : Int) := by split <;> omega
    have hmi2 : IntKind.i64.wrap (20000 - (W.steps : Int)) = 20000 - (W.steps : Int) := by have := hI.out.steps; rw [IntKind.wrap_i64]; omega
    have hmm2 : mm ≤ 20000 := by omega
    obtain ⟨N, hN⟩ : ∃ N, N = W.ts.length := ⟨_, rfl⟩
    have HN := Sb.hide hN
    rw [ho] at c1 t1
    rw [← hN] at y0 t1
    have n0 : (0 : Int) ≤ (o : Int) := by omega
    have n1 : (o : Int) < (N : Int) := by omega
    obtain ⟨c10, c11⟩ := c1
    have hst := hI.out.steps
    clear ho ht hmm hN t2 t3 t4 t1
    obtain ⟨P, vR, vO, hSt⟩ := H1.out.st HT.out
    have HST := Sb.hide hSt
    have HI0 := Sb.hide (hI.out.tasks o t HT.out)
    have HKE := Sb.hide (keeps_mb (c := s.c) hK.out)
    have HRN : Hid (ran s.c.m W p = go mbX s.c.m mm t W.x) := by unfold Hid ran; rw [HTK.out, ← HMM.out]
    have HDR : Hid (Below w1.heap.size w1 w1.drew) := (Below.refl _ _).drew
    have HNL : Hid (∀ b, w.heap.size ≤ b → (L b).cls = 0) := H.out.ok.new
    have hgz := World.block_lt_of_cell? w1 _ htc
    have hWz := lt_of_block H1.out.blk
    have hPz := lt_of_block HP1.out
    clear hSt
    go_wp2
    go_region_held3 (fun w' => ((w'.cell? ⟨w.heap.size, 0, none⟩ = some (.int .i64 (o : Int)) ∧ w'.cell? ⟨w.heap.size, 1, none⟩ = some (.int .i64 p.q)) ∧ (w'.cell? ⟨s.WB, 0, none⟩ = some (.slice (some ⟨g, 0, none⟩) N tc) ∧ w'.cell? ⟨s.WB, 2, none⟩ = some (.int .i64 W.steps))) ∧ w'.cell? ⟨g, o, none⟩ = some (.pointer (some ⟨s.T o, 0, none⟩))) (go_keep) ((go_at_call 41; refine (run_any (s.E (earOf B o W.evs t.log.length)) mbX s.c s.vb (s.N o) (s.caps o) (Sb.hide (hS.out.hears o W.evs t.log.length)) (Sb.hide (hS.out.boxes _)) (MI s.c.m K) HKE o (s.T o) L P _ t W.x vR vO (Sb.hide (HST.out.below HDR.out)) W.steps mm (by omega) HI0).mono ?_; rintro e w2 ⟨rfl, hW2, hI2⟩; obtain ⟨L2, P2, vR2, vO2, s2, q2, k2⟩ := hW2; have S2 := Sb.hide s2; have E2 := Sb.hide q2; have C2 := Sb.hide k2; have HI2 := Sb.hide hI2; have j0 : w2.cell? ⟨w.heap.size, 0, none⟩ = some (.int .i64 (o : Int)) := (cell_eq (k2.block w.heap.size (by exact hPz) (by intro hx; have := HNL.out w.heap.size (Nat.le_refl _); unfold Vw.WB EB at hx; omega)) _).trans c10; have j1 : w2.cell? ⟨w.heap.size, 1, none⟩ = some (.int .i64 p.q) := (cell_eq (k2.block w.heap.size (by exact hPz) (by intro hx; have := HNL.out w.heap.size (Nat.le_refl _); unfold Vw.WB EB at hx; omega)) _).trans c11; have j2 : w2.cell? ⟨s.WB, 0, none⟩ = some (.slice (some ⟨g, 0, none⟩) N tc) := (cell_eq (k2.block s.WB (by exact hWz) (by intro hx; have := H1.out.lW; unfold Vw.WB EB at hx; omega)) _).trans y0; have j3 : w2.cell? ⟨s.WB, 2, none⟩ = some (.int .i64 W.steps) := (cell_eq (k2.block s.WB (by exact hWz) (by intro hx; have := H1.out.lW; unfold Vw.WB EB at hx; omega)) _).trans y2; have j4 : w2.cell? ⟨g, o, none⟩ = some (.pointer (some ⟨s.T o, 0, none⟩)) := (cell_eq (k2.block g (by exact hgz) (by intro hx; have := H1.out.lt g rfl; unfold Vw.WB EB at hx; omega)) _).trans htc; clear s2 q2 k2 hI2))
    obtain ⟨R, hR⟩ : ∃ R, R = go mbX s.c.m mm t W.x := ⟨_, rfl⟩
    rw [← hR] at S2 HI2 HRN ⊢
    have hRl : R.1 ≤ mm := by rw [hR]; exact go_le _ _ _
    clear hR
    obtain ⟨hb2, hWd, hKp⟩ := (H1.out.below HDR.out).ran HT.out S2.out E2.out C2.out (W.steps + R.1) (o : Int)
    have hcast : ((W.steps + R.1 : Nat) : Int) = (W.steps : Int) + (R.1 : Int) := by simp
    rw [hcast] at hWd hKp
    have HW4 := Sb.hide hWd
    have HK4 := Sb.hide hKp
    have wf := (show w2.cell? ⟨s.WB, 3, none⟩ = some (.int .i64 W.last) ∧ ∀ j, w2.frozen? ⟨s.WB, j, none⟩ = false by simp [World.cell?, World.frozen?, hb2])
    have HD2 : Hid (w2.heap[w.heap.size + 1]? = some (ddO 0 0)) := (C2.out.block _ (by exact lt_of_block HD1.out) (by intro hx; have := HNL.out (w.heap.size + 1) (by omega); unfold Vw.WB EB at hx; omega)).trans HD1.out
    have hneW : ¬ w.heap.size + 1 = s.WB := by have := lt_of_block H.out.blk; omega
    have hneW2 : ¬ s.WB = w.heap.size + 1 := fun e => hneW e.symm
    have hneW3 : ¬ w.heap.size = s.WB := by have := lt_of_block H.out.blk; omega
    have hneW4 : ¬ s.WB = w.heap.size := fun e => hneW3 e.symm
    have HD4 : Hid (((w2.setCell ⟨s.WB, 2, none⟩ (.int .i64 ((W.steps : Int) + (R.1 : Int)))).setCell ⟨s.WB, 3, none⟩ (.int .i64 (o : Int))).heap[w.heap.size + 1]? = some (ddO 0 0)) := (Below.heap_setCell _ ⟨s.WB, 3, none⟩ _ _ hneW).trans ((Below.heap_setCell _ ⟨s.WB, 2, none⟩ _ _ hneW).trans HD2.out)
    have zz := (dd_cells HD2.out).1
    have zf := (dd_cells HD2.out).2
    have hwr : IntKind.i64.wrap ((W.steps : Int) + (R.1 : Int)) = (W.steps : Int) + (R.1 : Int) := by rw [IntKind.wrap_i64]; omega
    clear hWd hKp hb2
    go_wp2
    have hX := dd_set (e' := 0) (s' := (R.1 : Int)) HD4.out
    have hfar := H.out.far HW4.out (b := w.heap.size + 1) (w1 := (((w2.setCell ⟨s.WB, 2, none⟩ (.int .i64 ((W.steps : Int) + (R.1 : Int)))).setCell ⟨s.WB, 3, none⟩ (.int .i64 (o : Int))).setCell ⟨w.heap.size + 1, 0, none⟩ (.int .i64 0)).setCell ⟨w.heap.size + 1, 1, none⟩ (.int .i64 (R.1 : Int))) (by omega) (by rw [E2.out.1 _ (by exact lt_of_block HD1.out)]; exact HNL.out _ (by omega)) (fun k hk => (Below.heap_setCell _ ⟨w.heap.size + 1, 1, none⟩ _ _ hk).trans (Below.heap_setCell _ ⟨w.heap.size + 1, 0, none⟩ _ _ hk)) (by simp [World.setCell])
    have hkp : Kp L w ((((w2.setCell ⟨s.WB, 2, none⟩ (.int .i64 ((W.steps : Int) + (R.1 : Int)))).setCell ⟨s.WB, 3, none⟩ (.int .i64 (o : Int))).setCell ⟨w.heap.size + 1, 0, none⟩ (.int .i64 0)).setCell ⟨w.heap.size + 1, 1, none⟩ (.int .i64 (R.1 : Int))) := by
      have hz := HK4.out.size
      have hz1 := HB1.out.size
      have k4 := HK4.out
      refine ⟨k4.os.trans HB1.out.os, k4.tape.trans HB1.out.tape, k4.output.trans HB1.out.output, ?_, fun b hb h0 => ?_⟩
      · have hz' : w1.heap.size ≤ ((w2.setCell ⟨s.WB, 2, none⟩ (.int .i64 ((W.steps : Int) + (R.1 : Int)))).setCell ⟨s.WB, 3, none⟩ (.int .i64 (o : Int))).heap.size := hz
        simp [World.setCell] at hz' ⊢
        omega
      · exact (Below.heap_setCell _ ⟨w.heap.size + 1, 1, none⟩ _ _ (by show b ≠ w.heap.size + 1; omega)).trans ((Below.heap_setCell _ ⟨w.heap.size + 1, 0, none⟩ _ _ (by show b ≠ w.heap.size + 1; omega)).trans ((k4.block b (by exact Nat.lt_of_lt_of_le hb hz1) h0).trans (HB1.out.block b hb)))
    generalize (((w2.setCell ⟨s.WB, 2, none⟩ (.int .i64 ((W.steps : Int) + (R.1 : Int)))).setCell ⟨s.WB, 3, none⟩ (.int .i64 (o : Int))).setCell ⟨w.heap.size + 1, 0, none⟩ (.int .i64 0)).setCell ⟨w.heap.size + 1, 1, none⟩ (.int .i64 (R.1 : Int)) = W5 at *
    obtain ⟨⟨g0, g1⟩, _⟩ := dd_cells hX
    have HDD : Hid (d = ⟨0, R.1⟩) := by unfold Hid; rw [hd.out, pickD, if_pos HR0.out, HRN.out]
    have HWW : Hid (W' = ⟨W.ts.set o R.2.1, R.2.2, W.steps + R.1, o, W.evs ++ (R.2.1.log.drop t.log.length).map fun e => (o, e)⟩) := by
      unfold Hid
      rw [hW'.out, pickW, if_pos HR0.out, HRN.out, HTK.out, HO.out]
      simp
    refine bodyPost_ret (v := ddV ⟨0, R.1⟩) (by simp [results, Tryz.results27, go_sem, g0, g1]) rfl ⟨by rw [HDD.out], L2, ?_, ?_, fun b hb => E2.out.1 b (by have := HB1.out.size; show b < w1.heap.size; omega), hkp⟩
    · rw [HWW.out]; exact hfar
    · rw [hW'.out]
      exact hI.out.pick HT.out HO.out HR0.out (by rw [HRN.out]; exact HI2.out) (by rw [HRN.out]; omega)
  · have e0 : (r != 0) = true := by simpa using h0
    have HDD : Hid (d = ⟨r, 0⟩) := by unfold Hid; rw [hd.out, pickD, if_neg (by rw [← HR.out]; exact h0), ← HR.out]
    have HWW : Hid (W' = W) := by unfold Hid; rw [hW'.out, pickW, if_neg (by rw [← HR.out]; exact h0)]
    clear h0
    go_wp2
    have hX := dd_set (e' := r) (s' := 0) HD1.out
    have hBD : Below w.heap.size w ((w1.setCell ⟨w.heap.size + 1, 0, none⟩ (.int .i64 r)).setCell ⟨w.heap.size + 1, 1, none⟩ (.int .i64 0)) := (HB1.out.setCell (p := ⟨w.heap.size + 1, 0, none⟩) (Nat.le_succ _) _).setCell (p := ⟨w.heap.size + 1, 1, none⟩) (Nat.le_succ _) _
    generalize (w1.setCell ⟨w.heap.size + 1, 0, none⟩ (.int .i64 r)).setCell ⟨w.heap.size + 1, 1, none⟩ (.int .i64 0) = W2 at *
    obtain ⟨⟨g0, g1⟩, _⟩ := dd_cells hX
    refine bodyPost_ret (v := ddV ⟨r, 0⟩) (by simp [results, Tryz.results27, go_sem, g0, g1]) rfl ⟨by rw [HDD.out], L, ?_, ?_, .refl _ _, .of_below hBD⟩
    · rw [HWW.out]; exact H.out.below hBD
    · rw [HWW.out]; exact hI.out
end Go.Proofs.YtpmngjjbhcajfaaGreat.Vw

/- The walk of follow. -/
namespace Go.Proofs.YtpmngjjbhcajfaaGreat.Vw
open Go.RowKit Vf Vm

theorem Tryz.info44 : (Tryz.prog.info? 44).map (fun i => (i.zero, i.size, i.bytes)) = some (some (.agg #[.int .i64 0, .int .i64 0]), 2, 16) := by kernel_rfl
/-- Picks in memory. -/
def PkIn (B : Nat) (w : World) (ps : List Pk) (a : Option Addr) : Prop := ∀ (i : Nat) p, ps[i]? = some p → ∃ b off, a = some ⟨b, off, none⟩ ∧ b < B ∧ w.cell? ⟨b, off + i * 2, none⟩ = some (.int .i64 p.task) ∧ w.cell? ⟨b, off + i * 2 + 1, none⟩ = some (.int .i64 p.q)
def ddc (d : Dd) : List Value := [.int .i64 d.err, .int .i64 (d.steps : Int)]
def ddCells (l : List Dd) : List Value := l.flatMap ddc
theorem ddCells_app (l : List Dd) (d : Dd) : ddCells (l ++ [d]) = ddCells l ++ ddc d := by simp [ddCells]
theorem ddCells_len : ∀ l : List Dd, (ddCells l).length = l.length * 2
  | [] => rfl
  | d :: l => by have := ddCells_len l; simp only [ddCells, List.flatMap_cons, List.length_append, List.length_cons] at *; simp only [this, ddc, List.length_cons, List.length_nil]; omega
theorem follow_snoc (m : Md) : ∀ (w : Wd) (ps : List Pk) (p : Pk), followW m w (ps ++ [p]) = pickW m (followW m w ps) p ∧ followD m w (ps ++ [p]) = followD m w ps ++ [pickD m (followW m w ps) p]
  | w, [], p => ⟨rfl, rfl⟩
  | w, q :: ps, p => by
    obtain ⟨h1, h2⟩ := follow_snoc m (pickW m w q) ps p
    exact ⟨h1, by simp [followD, h2, followW]⟩
/-- What holds at the head of follow's loop. -/
structure FoAt (s : Sx) (B : EarW) (K : KM) (L : Lab) (w : World) (W : Wd) (vt vx : Value) (ps : List Pk) (k : Nat) (vd : Value) (L' : Lab) (wr : World) : Prop where
  le : k ≤ ps.length
  wd : WdIn s B L' wr (followW s.c.m W (ps.take k)) vt vx
  wi : WI s.c.m K (followW s.c.m W (ps.take k))
  ext : Ext L L' w
  kp : Kp L w wr
  row : wr.ownsRow w.heap.size 44 2 vd k (ddCells (followD s.c.m W (ps.take k)))
  lab : ∀ b, vd.ownBlock = some b → (L' b).cls = 0
theorem dd_news (W : World) (d : Dd) : ∀ j u, (ddc d)[j]? = some u → (W.alloc (.cells #[.int .i64 d.err, .int .i64 (d.steps : Int)] 44)).cell? ((⟨W.heap.size, 0, none⟩ : Addr).add j) = some u := by
  intro j u hu
  rw [add_none, World.cell?_alloc_mark]
  match j, hu with
  | 0, hu => simpa [ddc] using hu
  | 1, hu => simpa [ddc] using hu
  | j + 2, hu => simp [ddc] at hu
theorem dd_one (d : Dd) : ∀ u ∈ ddc d, u.oneCell' = true := by
  intro u hu
  simp [ddc] at hu
  rcases hu with rfl | rfl <;> rfl

set_option maxRecDepth 100000 in
set_option maxHeartbeats 2000000 in
/-- WHAT follow ANSWERS. -/
theorem follow_any (s : Sx) (B : EarW) (hS : Hid (SxOk s B)) (K : KM) (hK : Hid (Known s.c.m K)) (L : Lab) (w : World) (W : Wd) (vt vx : Value) (H : Hid (WdIn s B L w W vt vx)) (hI : Hid (WI s.c.m K W)) (ps : List Pk) (a : Option Addr) (cap : Nat) (hps : Hid (PkIn s.c.B w ps a)) (hn : ps.length ≤ 400) :
    Calls Tryz.prog 21 #[.pointer (some ⟨s.WB, 0, none⟩), .slice a ps.length cap] w fun e w' => ∃ vd L', e = .returned vd ∧ FoAt s B K L w W vt vx ps ps.length vd L' w' := by
  obtain ⟨i0, hi, hz0, hz1, hz2⟩ := info_parts Tryz.info44
  have HST : Hid (FoAt s B K L w W vt vx ps 0 (.slice none 0 0) L w) := ⟨Nat.zero_le _, H.out, hI.out, .refl _ _, .refl _ _, ⟨rfl, .inl ⟨rfl, rfl⟩⟩, fun b hb => by cases hb⟩
  go_enter Tryz.func21, Tryz.ntmps21
  go_wp2
  go_loopw [5, 10] (fun vd v wr => ∃ k : Nat, v = .int .i64 k ∧ ∃ L', FoAt s B K L w W vt vx ps k vd L' wr) (fun _ v _ => ps.length - (intOf v).toNat)
  case atStart => exact ⟨0, rfl, L, HST.out⟩
  case round =>
    obtain ⟨k, rfl, L1, hA⟩ := hrel
    have HA := Sb.hide hA
    have hk := hA.le
    clear hA HST
    by_cases hlt : k < ps.length
    · obtain ⟨p, hp⟩ : ∃ p, ps[k]? = some p := ⟨_, List.getElem?_eq_getElem hlt⟩
      obtain ⟨pb, poff, rfl, hpb, x0, x1⟩ := hps.out k p hp
      have hBz := H.out.ok.size
      have hp0 := H.out.ok.low pb hpb
      have y0 : wr.cell? ⟨pb, poff + k * 2, none⟩ = some (.int .i64 p.task) := (cell_eq (HA.out.kp.block pb (by omega) hp0) _).trans x0
      have y1 : wr.cell? ⟨pb, poff + k * 2 + 1, none⟩ = some (.int .i64 p.q) := (cell_eq (HA.out.kp.block pb (by omega) hp0) _).trans x1
      obtain ⟨n, hnn⟩ : ∃ n, n = ps.length := ⟨_, rfl⟩
      have HNN := Sb.hide hnn
      rw [← hnn] at hlt hn hk ⊢
      have n0 : (0 : Int) ≤ (k : Int) := by omega
      have n1 : (k : Int) < (n : Int) := by omega
      have HTK : Hid (ps.take (k + 1) = ps.take k ++ [p]) := by unfold Hid; rw [List.take_add_one, hp]; rfl
      obtain ⟨d, hd⟩ : ∃ d, d = pickD s.c.m (followW s.c.m W (ps.take k)) p := ⟨_, rfl⟩
      obtain ⟨W2, hW2⟩ : ∃ d, d = pickW s.c.m (followW s.c.m W (ps.take k)) p := ⟨_, rfl⟩
      have HD := Sb.hide hd
      have HW2 := Sb.hide hW2
      have HBA : Hid (Below wr.heap.size wr (wr.alloc (pkO p))) := (Below.refl _ wr).alloc (Nat.le_refl _) _
      have c0 : (wr.alloc (pkO p)).cell? ⟨wr.heap.size, 0, none⟩ = some (.int .i64 p.task) := by simp [World.cell?_alloc_mark]
      have c1 : (wr.alloc (pkO p)).cell? ⟨wr.heap.size, 1, none⟩ = some (.int .i64 p.q) := by simp [World.cell?_alloc_mark]
      clear hd hW2 hnn hp x0 x1
      go_wp2_with fail
      generalize wr.alloc (pkO p) = WA at *
      refine (pick_any s B hS K hK L1 _ (followW s.c.m W (ps.take k)) vt vx (Sb.hide (HA.out.wd.below HBA.out)) (Sb.hide HA.out.wi) p d HD W2 HW2).mono ?_
      rintro e w2 ⟨rfl, L2, hwd2, hwi2, hex2, hkp2⟩
      have hz2' := hkp2.size
      have hzA := HBA.out.size
      have hzw := HA.out.kp.size
      have HWD2 := Sb.hide hwd2
      have HWI2 := Sb.hide hwi2
      have HEX2 : Hid (Ext L1 L2 wr) := fun b hb => hex2 b (by omega)
      have HKP2 : Hid (Kp L1 wr w2) := (Kp.of_below HBA.out).trans (.refl _ _) hkp2
      have HR2 : Hid (w2.ownsRow w.heap.size 44 2 u5 k (ddCells (followD s.c.m W (ps.take k)))) := own_keep HA.out.row (fun b hb => HKP2.out.block b (HA.out.row.lt b hb).2 (HA.out.lab b hb))
      have HL2 : Hid (∀ b, u5.ownBlock = some b → (L2 b).cls = 0) := fun b hb => by rw [HEX2.out b (HA.out.row.lt b hb).2]; exact HA.out.lab b hb
      have HRW : Hid ((w2.alloc (ddO d.err (d.steps : Int))).ownsRow w.heap.size 44 2 u5 k (ddCells (followD s.c.m W (ps.take k)))) := HR2.out.alloc _
      clear hwd2 hwi2 hex2 hkp2 c0 c1
      go_wp2_with (at_builtin; refine wpList_append_where rfl (.tmp 14) (.tmp 18) 37 rfl w.heap.size 44 i0 (.agg #[.int .i64 0, .int .i64 0]) 2 16 Tryz.underlying37 hi hz0 hz1 hz2 rfl (by decide) u5 k (ddCells (followD s.c.m W (ps.take k))) rfl HRW.out ⟨w2.heap.size, 0, none⟩ 1 1 (ddc d) rfl rfl (dd_news w2 d) (dd_one d) (by decide) (by unfold maxLen; omega) (by omega) (by simp; omega) ?_)
      intro R4 cap4 w4 hown4 hg4 hR4
      have hzg := hg4.size
      simp at hzg
      have hF : ∀ b, (u5.ownBlock = some b ∨ b = w2.heap.size ∨ b = w2.heap.size + 1) → w.heap.size ≤ b ∧ (L2 b).cls = 0 := fun b hb => by
        rcases hb with hb | rfl | rfl
        · exact ⟨(HR2.out.lt b hb).1, HL2.out b hb⟩
        · exact ⟨by omega, HWD2.out.ok.new _ (Nat.le_refl _)⟩
        · exact ⟨by omega, HWD2.out.ok.new _ (by omega)⟩
      have blk4 : ∀ b, b < w2.heap.size → ¬ u5.ownBlock = some b → w4.heap[b]? = w2.heap[b]? := fun b hb hn => (hg4.block b (by simp; omega) (fun e => hn e.symm)).trans (Below.heap_alloc _ _ _ hb)
      have HREL : Hid (FoAt s B K L w W vt vx ps (k + 1) (.slice (some ⟨R4, 0, none⟩) (k + 1) cap4) L2 w4) := by
        refine ⟨by have := HNN.out; omega, ?_, ?_, fun b hb => (HEX2.out b (by omega)).trans (HA.out.ext b hb), ?_, ?_, fun b hb => ?_⟩
        · rw [HTK.out, (follow_snoc s.c.m W (ps.take k) p).1, ← HW2.out]
          exact H.out.more HWD2.out (fun b => u5.ownBlock = some b) (fun b hb => hF b (.inl hb)) blk4 (by omega)
        · rw [HTK.out, (follow_snoc s.c.m W (ps.take k) p).1, ← HW2.out]
          exact HWI2.out
        · have k1 := HA.out.kp.trans HA.out.ext HKP2.out
          refine ⟨hg4.os.trans k1.os, hg4.tape.trans k1.tape, hg4.output.trans k1.output, by omega, fun b hb h0 => (blk4 b (by omega) (fun e => ?_)).trans (k1.block b hb h0)⟩
          have := (HR2.out.lt b e).1
          omega
        · rw [HTK.out, (follow_snoc s.c.m W (ps.take k) p).2, ddCells_app, ← HD.out]
          exact hown4
        · simp [Value.ownBlock] at hb
          subst hb
          rcases hR4 with e | e
          · exact HL2.out _ e
          · exact (hF _ (.inr (.inr (by simpa using e)))).2
      clear hown4 hg4 hR4 hF blk4
      go_wp2
      go_roundw
      case rel => exact ⟨k + 1, by go_num, L2, HREL.out⟩
      case measure => simp [intOf]; omega
    · have ek : k = ps.length := by omega
      subst ek
      go_wp2
      go_ret
      exact ⟨_, L1, rfl, HA.out⟩
end Go.Proofs.YtpmngjjbhcajfaaGreat.Vw

/- The walks of following and settle. -/
namespace Go.Proofs.YtpmngjjbhcajfaaGreat.Vw
open Go.RowKit Vf Vm

def nextV (o : Option Nat) : Int := match o with | some n => (n : Int) | none => -1
theorem nextFrom_lt {m : Md} {W : Wd} (h : 0 < W.ts.length) : ∀ (n i : Nat) {k : Nat}, nextFrom m W n i = some k → k < W.ts.length ∧ (stat mbX m (W.tk (k : Int)) W.x).1 = 1
  | 0, _, _, hk => by cases hk
  | n + 1, i, k, hk => by
    unfold nextFrom at hk
    split at hk
    · rename_i hs
      cases hk
      refine ⟨?_, hs⟩
      unfold behind
      have h1 := Int.emod_lt_of_pos (W.last + 1 + (i : Int)) (by omega : (0 : Int) < W.ts.length)
      have h2 := Int.emod_nonneg (W.last + 1 + (i : Int)) (by omega : (W.ts.length : Int) ≠ 0)
      omega
    · exact nextFrom_lt h n (i + 1) hk

set_option maxRecDepth 100000 in
set_option maxHeartbeats 2000000 in
/-- WHAT following ANSWERS. -/
theorem following_any (s : Sx) (B : EarW) (hS : Hid (SxOk s B)) (K : KM) (hK : Hid (Known s.c.m K)) (L : Lab) (w : World) (W : Wd) (vt vx : Value) (H : Hid (WdIn s B L w W vt vx)) (hI : Hid (WI s.c.m K W)) (r : Int) (hr : Hid (r = nextV (following s.c.m W))) :
    Calls Tryz.prog 26 #[.pointer (some ⟨s.WB, 0, none⟩)] w fun e w' => e = .returned (.int .i64 r) ∧ Below w.heap.size w w' := by
  obtain ⟨d0, d1, d2, d3, _⟩ := H.out.cells
  obtain ⟨ta, tc, hvt⟩ : ∃ a c, vt = .slice a W.ts.length c := own_slice H.out.trow
  subst hvt
  have hfew := hI.out.few
  have hlast := hI.out.last
  obtain ⟨N, hN⟩ : ∃ N, N = W.ts.length := ⟨_, rfl⟩
  have HN := Sb.hide hN
  rw [← hN] at hfew d0 hlast
  have HST : Hid (r = nextV (nextFrom s.c.m W (N - 0) 0)) := by unfold Hid; rw [hr.out, HN.out]; rfl
  have hWz := lt_of_block H.out.blk
  have HC : Hid (∀ W2, Below w.heap.size w W2 → W2.cell? ⟨s.WB, 0, none⟩ = some (.slice ta N tc) ∧ W2.cell? ⟨s.WB, 3, none⟩ = some (.int .i64 W.last)) := fun W2 hb => ⟨(cell_eq (hb.block _ hWz) _).trans d0, (cell_eq (hb.block _ hWz) _).trans d3⟩
  obtain ⟨la, hla⟩ : ∃ l, l = W.last := ⟨_, rfl⟩
  have HLA := Sb.hide hla
  rw [← hla] at hlast HC
  clear hN d1 d2 d3 hr hla
  go_enter Tryz.func26, Tryz.ntmps26
  go_wp2
  clear d0
  go_loopw [10] (fun v wr => ∃ k : Nat, v = .int .i64 k ∧ k ≤ N ∧ Below w.heap.size w wr ∧ r = nextV (nextFrom s.c.m W (N - k) k)) (fun v _ => N - (intOf v).toNat)
  case atStart => exact ⟨0, rfl, Nat.zero_le _, .refl _ _, HST.out⟩
  case round =>
    obtain ⟨k, rfl, hk, hb, hrk⟩ := hrel
    have HB := Sb.hide hb
    have HRK := Sb.hide hrk
    clear hb hrk HST
    by_cases hlt : k < N
    · obtain ⟨o, ho⟩ : ∃ o, o = behind W k := ⟨_, rfl⟩
      have hob : o < N ∧ (la + 1 + (k : Int)).tmod (N : Int) = (o : Int) := by
        rw [ho]
        unfold behind
        rw [← HN.out, ← HLA.out]
        have h1 := Int.emod_lt_of_pos (la + 1 + (k : Int)) (by omega : (0 : Int) < N)
        have h2 := Int.emod_nonneg (la + 1 + (k : Int)) (by omega : (N : Int) ≠ 0)
        refine ⟨by omega, ?_⟩
        rw [Int.tmod_eq_emod_of_nonneg (by omega)]
        omega
      have HOB := Sb.hide ho
      obtain ⟨t, ht⟩ : ∃ t, W.ts[o]? = some t := ⟨_, List.getElem?_eq_getElem (by rw [← HN.out]; exact hob.1)⟩
      have HT := Sb.hide ht
      have HTK : Hid (W.tk (behind W k : Int) = t) := by unfold Hid Wd.tk; rw [← ho]; simp [ht]
      have HRR : Hid (r = if (stat mbX s.c.m t W.x).1 = 1 then (o : Int) else nextV (nextFrom s.c.m W (N - (k + 1)) (k + 1))) := by
        unfold Hid
        rw [HRK.out, show N - k = (N - (k + 1)) + 1 by omega]
        show nextV (if (stat mbX s.c.m (W.tk (behind W k : Int)) W.x).1 = 1 then some (behind W k) else _) = _
        rw [HTK.out, ← ho]
        split <;> rfl
      have HAT := Sb.hide (hI.out.at (c := s.c) rfl hK.out ht)
      obtain ⟨P, vR, vO, hSt⟩ := H.out.st ht
      have HST := Sb.hide hSt
      obtain ⟨g, hta, htc⟩ := own_cell H.out.trow (ptrs_at s.T (by rw [← HN.out]; exact hob.1 : o < W.ts.length))
      have hgz := World.block_lt_of_cell? w _ htc
      have t5 : wr.cell? ⟨g, o, none⟩ = some (.pointer (some ⟨s.T o, 0, none⟩)) := (cell_eq (HB.out.block g hgz) _).trans htc
      obtain ⟨br, hbr⟩ : ∃ b, b = ((stat mbX s.c.m t W.x).1 == 1) := ⟨_, rfl⟩
      have HBR := Sb.hide hbr
      subst hta
      obtain ⟨c0, c3⟩ := HC.out _ HB.out
      have w1 : IntKind.i64.wrap (la + 1) = la + 1 := by rw [IntKind.wrap_i64]; omega
      have w2 : IntKind.i64.wrap (la + 1 + (k : Int)) = la + 1 + (k : Int) := by rw [IntKind.wrap_i64]; omega
      obtain ⟨hob1, hob2⟩ := hob
      have nz : ¬ (N : Int) = 0 := by omega
      have n0 : (0 : Int) ≤ (o : Int) := by omega
      have n1 : (o : Int) < (N : Int) := by omega
      clear ho ht hSt htc hbr
      go_wp2
      go_quiet (fail)
      go_wp2_with fail
      refine (ready_any (s.E (earOf B o W.evs t.log.length)) mbX s.c s.vb (s.ev o) o (s.T o) L P _ t W.x vR vO (Sb.hide (HST.out.below (below_drewN HB.out _))) (Sb.hide (hS.out.boxes _)) HAT br HBR).mono ?_
      rintro e w3 ⟨rfl, hb3⟩
      have HB3 : Hid (Below w.heap.size w w3) := (below_drewN HB.out _).trans (hb3.mono (by exact HB.out.size))
      clear hb3
      cases br with
      | true =>
        have HF : Hid (r = (o : Int)) := by unfold Hid; rw [HRR.out, if_pos (by have := HBR.out; simpa using this.symm)]
        go_wp2
        go_ret
        exact ⟨by rw [HF.out]; rfl, HB3.out⟩
      | false =>
        have HF : Hid (r = nextV (nextFrom s.c.m W (N - (k + 1)) (k + 1))) := by unfold Hid; rw [HRR.out, if_neg (by have := HBR.out; simpa using this.symm)]
        go_wp2
        go_roundw
        case rel => exact ⟨k + 1, by go_num, by omega, HB3.out, HF.out⟩
        case measure => simp [intOf]; omega
    · have HF : Hid (r = -1) := by unfold Hid; rw [HRK.out, show N - k = 0 by omega]; rfl
      go_wp2
      go_ret
      exact ⟨by rw [HF.out]; rfl, HB.out⟩
/-- How many steps were taken, as memory says. -/
def stepsAt (b : Nat) (w : World) : Nat := match w.cell? ⟨b, 2, none⟩ with | some (.int _ n) => n.toNat | _ => 0
theorem WdIn.stepsAt {s : Sx} {B : EarW} {L : Lab} {w : World} {W : Wd} {vt vx : Value} (H : WdIn s B L w W vt vx) : stepsAt s.WB w = W.steps := by
  unfold Vw.stepsAt
  rw [H.cells.2.2.1]
  simp
/-- What holds at the head of settle's loop. -/
structure SeAt (s : Sx) (B : EarW) (K : KM) (L : Lab) (w : World) (vt vx : Value) (q : Int) (R : Int × Wd) (v : Value) (W1 : Wd) (L1 : Lab) (f : Nat) (wr : World) : Prop where
  wd : WdIn s B L1 wr W1 vt vx
  wi : WI s.c.m K W1
  ext : Ext L L1 w
  kp : Kp L w wr
  res : R = settleW s.c.m q f W1
  fuel : 20001 ≤ f + W1.steps
  v : v = .int .i64 (nextV (following s.c.m W1))

set_option maxRecDepth 100000 in
set_option maxHeartbeats 2000000 in
/-- WHAT settle ANSWERS. -/
theorem settle_any (s : Sx) (B : EarW) (hS : Hid (SxOk s B)) (K : KM) (hK : Hid (Known s.c.m K)) (L : Lab) (w : World) (W : Wd) (vt vx : Value) (H : Hid (WdIn s B L w W vt vx)) (hI : Hid (WI s.c.m K W)) (ps : List Pk) (a : Option Addr) (cap : Nat) (hps : Hid (PkIn s.c.B w ps a)) (hn : ps.length ≤ 400) (q : Int) (hq : 1 ≤ q ∧ q ≤ 10000) (R : Int × Wd) (hR : Hid (R = settleW s.c.m q 20001 (followW s.c.m W ps))) :
    Calls Tryz.prog 17 #[.pointer (some ⟨s.WB, 0, none⟩), .slice a ps.length cap, .int .i64 q] w fun e w' => e = .returned (.int .i64 R.1) ∧ PkPost s B K L w w' R.2 vt vx := by
  have HQ := Sb.hide hq
  clear hq
  go_enter Tryz.func17, Tryz.ntmps17
  go_wp2_with fail
  refine (follow_any s B hS K hK L w W vt vx H hI ps a cap hps hn).mono ?_
  rintro e w1 ⟨vd, L1, rfl, hF⟩
  have h1 := hF.wd
  have h2 := hF.wi
  rw [List.take_length] at h1 h2
  have HWD1 := Sb.hide h1
  have HWI1 := Sb.hide h2
  have HEX1 := Sb.hide hF.ext
  have HKP1 := Sb.hide hF.kp
  obtain ⟨da, dc, rfl⟩ := own_slice hF.row
  clear hF h1 h2
  go_wp2_with fail
  refine (following_any s B hS K hK L1 _ _ vt vx HWD1 HWI1 _ (Sb.hide rfl)).mono ?_
  rintro e w2 ⟨rfl, hb2⟩
  have HST : Hid (SeAt s B K L w vt vx q R (.int .i64 (nextV (following s.c.m (followW s.c.m W ps)))) (followW s.c.m W ps) L1 20001 w2) := ⟨HWD1.out.below hb2, HWI1.out, HEX1.out, HKP1.out.trans HEX1.out (.of_below hb2), hR.out, by omega, rfl⟩
  clear hb2
  go_wp2
  go_loopw [7] (fun v wr => ∃ W1 L1 f, SeAt s B K L w vt vx q R v W1 L1 f wr) (fun _ wr => 20001 - stepsAt s.WB wr)
  case atStart => exact ⟨_, _, _, HST.out⟩
  case round =>
    obtain ⟨W1, L2, f, hA⟩ := hrel
    have hv := hA.v
    subst hv
    have HA := Sb.hide hA
    have hfu := hA.fuel
    have hst := hA.wi.steps
    have hms := hA.wd.stepsAt
    clear hA HST
    obtain ⟨fo, hfo⟩ : ∃ fo, fo = following s.c.m W1 := ⟨_, rfl⟩
    have HFO := Sb.hide hfo
    rw [← hfo]
    obtain ⟨f', rfl⟩ : ∃ f', f = f' + 1 := ⟨f - 1, by omega⟩
    cases fo with
    | none =>
      have HRR : Hid (R = (0, W1)) := by
        unfold Hid
        rw [HA.out.res]
        show (match following s.c.m W1 with | none => (0, W1) | some n => _ : Int × Wd) = _
        rw [← HFO.out]
      clear hfo
      go_wp2
      go_ret
      rw [HRR.out]
      exact ⟨rfl, L2, HA.out.wd, HA.out.wi, HA.out.ext, HA.out.kp⟩
    | some n =>
      obtain ⟨hnl, hns⟩ := nextFrom_lt HA.out.wi.few.1 _ _ hfo.symm
      have HRR : Hid (R = if refE s.c.m W1 ⟨n, q⟩ = 0 then settleW s.c.m q f' (pickW s.c.m W1 ⟨n, q⟩) else (refE s.c.m W1 ⟨n, q⟩, W1)) := by
        unfold Hid
        rw [HA.out.res]
        show (match following s.c.m W1 with | none => (0, W1) | some n => _ : Int × Wd) = _
        rw [← HFO.out]
      obtain ⟨d, hd⟩ : ∃ d, d = pickD s.c.m W1 ⟨n, q⟩ := ⟨_, rfl⟩
      obtain ⟨W2, hW2⟩ : ∃ d, d = pickW s.c.m W1 ⟨n, q⟩ := ⟨_, rfl⟩
      have HD := Sb.hide hd
      have HW2 := Sb.hide hW2
      have n0 : (0 : Int) ≤ (n : Int) := by omega
      have HNV : Hid (nextV (some n) = (n : Int)) := rfl
      clear hd hW2 hfo hns hnl
      rw [HNV.out]
      go_wp2_with fail
      refine (pick_any s B hS K hK L2 _ W1 vt vx (Sb.hide HA.out.wd) (Sb.hide HA.out.wi) ⟨n, q⟩ d HD W2 HW2).mono ?_
      rintro e w3 ⟨rfl, L3, hwd3, hwi3, hex3, hkp3⟩
      have HWD3 := Sb.hide hwd3
      have HWI3 := Sb.hide hwi3
      have HEX3 : Hid (Ext L L3 w) := HA.out.ext.trans hex3 HA.out.kp.size
      have HKP3 := Sb.hide (HA.out.kp.trans HA.out.ext hkp3)
      clear hwd3 hwi3 hex3 hkp3
      have HBD : Hid (Below w3.heap.size w3 (w3.alloc (ddO d.err (d.steps : Int)))) := (Below.refl _ w3).alloc (Nat.le_refl _) _
      have c0 : (w3.alloc (ddO d.err (d.steps : Int))).cell? ⟨w3.heap.size, 0, none⟩ = some (.int .i64 d.err) := by simp [World.cell?_alloc_mark]
      by_cases he : refE s.c.m W1 ⟨n, q⟩ = 0
      · have hde : d.err = 0 := by rw [HD.out, pickD, if_pos he]
        have hds := (ran_few he).1
        have HR2 : Hid (R = settleW s.c.m q f' W2) := by unfold Hid; rw [HRR.out, if_pos he, ← HW2.out]
        have hps2 := (pick_steps s.c.m W1 ⟨n, q⟩).1
        have hpd : (pickD s.c.m W1 ⟨n, q⟩).steps = (ran s.c.m W1 ⟨n, q⟩).1 := by unfold pickD; rw [if_pos he]
        have hW2s : W1.steps + 1 ≤ W2.steps := by rw [HW2.out, hps2, hpd]; omega
        have e0 : (d.err != 0) = false := by simpa using hde
        clear he hde hds hps2 hpd
        go_wp2_with fail
        generalize w3.alloc (ddO d.err (d.steps : Int)) = WA at *
        refine (following_any s B hS K hK L3 _ W2 vt vx (Sb.hide (HWD3.out.below HBD.out)) HWI3 _ (Sb.hide rfl)).mono ?_
        rintro e w4 ⟨rfl, hb4⟩
        have HREL : Hid (SeAt s B K L w vt vx q R (.int .i64 (nextV (following s.c.m W2))) W2 L3 f' w4) := ⟨(HWD3.out.below HBD.out).below hb4, HWI3.out, HEX3.out, (HKP3.out.trans HEX3.out (.of_below HBD.out)).trans HEX3.out (.of_below hb4), HR2.out, by omega, rfl⟩
        have hms4 := HREL.out.wd.stepsAt
        have hst4 := HREL.out.wi.steps
        have HMS := Sb.hide (show 20001 - stepsAt s.WB w4 < 20001 - stepsAt s.WB wr by rw [hms4, hms]; omega)
        clear hb4 hms4
        go_wp2
        go_roundw
        case rel => exact ⟨W2, L3, f', HREL.out⟩
        case measure => exact HMS.out
      · have hde : d.err = refE s.c.m W1 ⟨n, q⟩ := by rw [HD.out, pickD, if_neg he]
        have e0 : (d.err != 0) = true := by rw [hde]; simpa using he
        have HR2 : Hid (R = (d.err, W2)) := by
          unfold Hid
          rw [HRR.out, if_neg he, hde, HW2.out, pickW, if_neg he]
        clear he hde
        go_wp2
        go_ret
        rw [HR2.out]
        exact ⟨rfl, L3, HWD3.out.below HBD.out, HWI3.out, HEX3.out, HKP3.out.trans HEX3.out (.of_below HBD.out)⟩
end Go.Proofs.YtpmngjjbhcajfaaGreat.Vw

