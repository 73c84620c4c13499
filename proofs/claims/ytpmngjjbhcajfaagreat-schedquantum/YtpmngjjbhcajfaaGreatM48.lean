/- wrong, Run and Settle. -/
import Derived.Test.YtpmngjjbhcajfaaGreatM47
namespace Go.Proofs.YtpmngjjbhcajfaaGreat.Vw
open Go.RowKit Vf Vm

/-- What a module's code is, in memory. -/
theorem cx_of {B : Nat} {w : World} {m : Md} {ab au : Option Addr} (cu : Nat) (h : ModIn B w m ab au) (hf : m.units.length ≤ 30) : ∃ cv cc, CxIn ⟨m, B, au, cu, cv, cc⟩ w := by
  have key : ∀ i : Nat, ∃ p : Option Addr × Nat, ∀ u, m.units[i]? = some u → ∃ b off al cl, au = some ⟨b, off, none⟩ ∧ b < B ∧ UnIn B w u al p.1 cl p.2 ∧ w.cell? ⟨b, off + i * 6, none⟩ = some (.int .i64 u.kind) ∧ w.cell? ⟨b, off + i * 6 + 1, none⟩ = some (.int .i64 u.params) ∧ w.cell? ⟨b, off + i * 6 + 2, none⟩ = some (.slice al u.locals.length cl) ∧ w.cell? ⟨b, off + i * 6 + 3, none⟩ = some (.int .i64 u.result) ∧ w.cell? ⟨b, off + i * 6 + 4, none⟩ = some (.int .i64 u.takes) ∧ w.cell? ⟨b, off + i * 6 + 5, none⟩ = some (.slice p.1 u.code.length p.2) := fun i => by
    cases hu : m.units[i]? with
    | none => exact ⟨(none, 0), fun u e => by cases e⟩
    | some u =>
      obtain ⟨b, off, al, cl, ac, cc, e, hb, hun, c0, c1, c2, c3, c4, c5⟩ := h.units i u hu
      exact ⟨(ac, cc), fun u' e' => by cases e'; exact ⟨b, off, al, cl, e, hb, hun, c0, c1, c2, c3, c4, c5⟩⟩
  exact ⟨fun i => (key i).choose.1, fun i => (key i).choose.2, hf, fun i u hu => (key i).choose_spec u hu⟩

abbrev mdB (m : Md) (ab au : Option Addr) (cb cu : Nat) : Obj := .cells #[.slice ab m.boxes.length cb, .slice au m.units.length cu] 25 (0, 0)
theorem md_cells {w : World} {b : Nat} {m : Md} {ab au : Option Addr} {cb cu : Nat} (h : w.heap[b]? = some (mdB m ab au cb cu)) : w.cell? ⟨b, 0, none⟩ = some (.slice ab m.boxes.length cb) ∧ w.cell? ⟨b, 1, none⟩ = some (.slice au m.units.length cu) := by simp [World.cell?, h]
theorem below_grown0 {w w1 : World} (h : w.grownBy w1 none) : Below w.heap.size w w1 := ⟨h.os, h.tape, h.output, h.size, fun b hb => h.block b hb (by simp)⟩
abbrev woZ : Obj := woO (.slice none 0 0) (.slice none 0 0) 0
/-- What there is behind a piece of Run: what was there before it, the module's box and the result's. -/
structure Sr (w : World) (m : Md) (ab au : Option Addr) (cb cu : Nat) (wr : World) : Prop where
  below : Below w.heap.size w wr
  md : wr.heap[w.heap.size]? = some (mdB m ab au cb cu)
  zero : wr.heap[w.heap.size + 1]? = some woZ
section
variable {w : World} {m : Md} {ab au : Option Addr} {cb cu : Nat} {wr wr' : World}
theorem Sr.on (h : Sr w m ab au cb cu wr) (hb : Below wr.heap.size wr wr') : Sr w m ab au cb cu wr' :=
  ⟨h.below.trans (hb.mono h.below.size), (hb.block _ (lt_of_block h.md)).trans h.md, (hb.block _ (lt_of_block h.zero)).trans h.zero⟩
theorem Sr.first (w : World) (m : Md) (ab au : Option Addr) (cb cu : Nat) : Sr w m ab au cb cu ((w.alloc (mdB m ab au cb cu)).alloc woZ) := by
  have e : (w.alloc (mdB m ab au cb cu)).heap.size = w.heap.size + 1 := by simp
  refine ⟨((Below.refl _ w).alloc (Nat.le_refl _) _).alloc (by simp) _, (Below.heap_alloc _ _ _ (by simp)).trans (heap_alloc_new w _), ?_⟩
  rw [← e]
  exact heap_alloc_new _ _
theorem Sr.kp {L : Lab} (h : Sr w m ab au cb cu wr) (hC : Kp L wr wr') (hL : ∀ b, b < w.heap.size + 2 → (L b).cls = 0) : Sr w m ab au cb cu wr' := by
  have k : ∀ b, b < w.heap.size + 2 → b < wr.heap.size → wr'.heap[b]? = wr.heap[b]? := fun b hb hz => hC.block b hz (hL b hb)
  have hz := h.below.size
  exact ⟨⟨hC.os.trans h.below.os, hC.tape.trans h.below.tape, hC.output.trans h.below.output, Nat.le_trans hz hC.size, fun b hb => (k b (by omega) (by omega)).trans (h.below.block b hb)⟩, (k _ (by omega) (lt_of_block h.md)).trans h.md, (k _ (by omega) (lt_of_block h.zero)).trans h.zero⟩
end
abbrev fillW (w : World) (b : Nat) (v0 v1 v2 : Value) : World := ((w.setCell ⟨b, 0, none⟩ v0).setCell ⟨b, 1, none⟩ v1).setCell ⟨b, 2, none⟩ v2
theorem fillW_at {w : World} {b : Nat} {v0 v1 v2 : Value} (h : w.heap[b]? = some woZ) : (fillW w b v0 v1 v2).cell? ⟨b, 0, none⟩ = some v0 ∧ (fillW w b v0 v1 v2).cell? ⟨b, 1, none⟩ = some v1 ∧ (fillW w b v0 v1 v2).cell? ⟨b, 2, none⟩ = some v2 := by
  have : (fillW w b v0 v1 v2).heap[b]? = some (.cells #[v0, v1, v2] 31 (0, 0)) := by
    simp only [World.setCell, Array.getElem?_modify, if_true, h, Option.map_some]
    rfl
  generalize fillW w b v0 v1 v2 = W at this ⊢
  simp [World.cell?, this]
theorem fillW_ne {w : World} {b : Nat} {v0 v1 v2 : Value} {b' : Nat} (hn : b' ≠ b) : (fillW w b v0 v1 v2).heap[b']? = w.heap[b']? := by
  rw [Below.heap_setCell _ ⟨b, 2, none⟩ _ _ hn, Below.heap_setCell _ ⟨b, 1, none⟩ _ _ hn, Below.heap_setCell _ ⟨b, 0, none⟩ _ _ hn]
theorem fillW_below {w0 w : World} {B b : Nat} {v0 v1 v2 : Value} (h : Below B w0 w) (hB : B ≤ b) : Below B w0 (fillW w b v0 v1 v2) :=
  ((h.setCell (p := ⟨b, 0, none⟩) hB _).setCell (p := ⟨b, 1, none⟩) hB _).setCell (p := ⟨b, 2, none⟩) hB _
theorem fillW_own {w : World} {b : Nat} {v0 v1 v2 : Value} (h : w.heap[b]? = some woZ) {B e size n : Nat} {v : Value} {xs : List Value} (ho : w.ownsRow B e size v n xs) (he : e ≠ 31) : (fillW w b v0 v1 v2).ownsRow B e size v n xs :=
  own_keep ho (fun k hk => fillW_ne (fun e2 => ty_ne ho h (Ne.symm he) (by rw [hk, e2])))
theorem fillW_en {w : World} {b : Nat} {v0 v1 v2 : Value} (h : w.heap[b]? = some woZ) {m : Md} {W : Wd} {C : Nat} {vE vB : Value} {k1 k2 : Nat} {ov bv : Nat → Value} (k : EnIn m W C w vE vB k1 k2 ov bv) : EnIn m W C (fillW w b v0 v1 v2) vE vB k1 k2 ov bv :=
  ⟨fillW_own h k.ends (by decide), fun i hi => fillW_own h (k.outs i hi) (by decide), fillW_own h k.bxs (by decide), fun i q hi hq => fillW_own h (k.words i q hi hq) (by decide)⟩
theorem EnIn.base {m : Md} {W : Wd} {C C' : Nat} {w : World} {vE vB : Value} {k1 k2 : Nat} {ov bv : Nat → Value} (h : EnIn m W C w vE vB k1 k2 ov bv) (hc : C' ≤ C) : EnIn m W C' w vE vB k1 k2 ov bv :=
  ⟨own_base h.ends hc, fun i hi => own_base (h.outs i hi) hc, own_base h.bxs hc, fun i q hi hq => own_base (h.words i q hi hq) hc⟩

/-- What is wrong with what is asked. -/
def wrongE (m : Md) (n : Nat) : Int := if (verify m).1 ≠ 0 then (verify m).1 else if 400 < n then 5 else 0
theorem verify_zero {m : Md} (h0 : (verify m).1 = 0) : verify m = (0, 0, 0) := by
  have e : ∀ n k, (from' m n k).1 = 0 → from' m n k = (0, 0, 0) := by
    intro n
    induction n with
    | zero => intro k _; rfl
    | succ n ih =>
      intro k hk
      unfold from' at hk ⊢
      split
      · rename_i e; rw [if_pos e] at hk; exact ih _ hk
      · rename_i e; rw [if_neg e] at hk; exact absurd hk e
  exact e 6 0 h0
theorem wrongE_zero {m : Md} {n : Nat} (h : wrongE m n = 0) : verify m = (0, 0, 0) ∧ n ≤ 400 := by
  unfold wrongE at h
  split at h
  · rename_i h0; exact absurd h h0
  · rename_i h0
    split at h
    · cases h
    · exact ⟨verify_zero (by simpa using h0), by omega⟩

set_option maxRecDepth 100000 in
set_option maxHeartbeats 2000000 in
theorem wrong_any (m : Md) (ab au : Option Addr) (cb cu B : Nat) (a : Option Addr) (n cap : Nat) (w : World) (hmd : Hid (ModIn B w m ab au)) (hB : B ≤ w.heap.size) (E : Int) (hE : Hid (E = wrongE m n)) :
    Calls Tryz.prog 14 #[mdV m ab au cb cu, .slice a n cap] w fun e w' => e = .returned (.int .i64 E) ∧ Below w.heap.size w w' := by
  obtain ⟨ve, hve⟩ : ∃ v, v = verify m := ⟨_, rfl⟩
  have HVE := Sb.hide hve
  clear hve
  have HB0 : Hid (Below w.heap.size w (w.alloc (mdB m ab au cb cu))) := (Below.refl _ w).alloc (Nat.le_refl _) _
  go_enter Tryz.func14, Tryz.ntmps14
  go_wp2_with fail
  generalize w.alloc (mdB m ab au cb cu) = W0 at *
  refine (verify_any m ab au cb cu B _ (Sb.hide (hmd.out.low (HB0.out.mono hB).block)) (by have := HB0.out.size; omega) ve HVE).mono ?_
  rintro e w1 ⟨rfl, hg1⟩
  have HB1 := Sb.hide (HB0.out.trans ((below_grown0 hg1).mono HB0.out.size))
  have hz1 := HB1.out.size
  clear hg1
  have HB2 : Hid (Below w.heap.size w (w1.alloc (.cells #[.int .i64 ve.1, .int .i64 ve.2.1, .int .i64 ve.2.2] 70))) := HB1.out.alloc HB1.out.size _
  have v1 : (w1.alloc (.cells #[.int .i64 ve.1, .int .i64 ve.2.1, .int .i64 ve.2.2] 70)).cell? ⟨w1.heap.size, 0, none⟩ = some (.int .i64 ve.1) := by simp [World.cell?_alloc_mark]
  by_cases h0 : ve.1 = 0
  · have e0 : (ve.1 != 0) = false := by simpa using h0
    by_cases h1 : 400 < n
    · have HR : Hid (E = 5) := by unfold Hid; rw [hE.out, wrongE, if_neg (by rw [← HVE.out]; simpa using h0), if_pos h1]
      have n1 : (400 : Int) < (n : Int) := by omega
      clear h0 h1
      go_wp2
      go_ret
      exact ⟨by rw [HR.out]; rfl, HB2.out⟩
    · have HR : Hid (E = 0) := by unfold Hid; rw [hE.out, wrongE, if_neg (by rw [← HVE.out]; simpa using h0), if_neg h1]
      have n1 : ¬ (400 : Int) < (n : Int) := by omega
      clear h0 h1
      go_wp2
      go_ret
      exact ⟨by rw [HR.out]; rfl, HB2.out⟩
  · have e0 : (ve.1 != 0) = true := by simpa using h0
    have HR : Hid (E = ve.1) := by unfold Hid; rw [hE.out, wrongE, if_pos (by rw [← HVE.out]; exact h0), ← HVE.out]
    clear h0
    go_wp2
    go_ret
    exact ⟨by rw [HR.out]; rfl, HB2.out⟩
end Go.Proofs.YtpmngjjbhcajfaaGreat.Vw

/- WHAT Run ANSWERS. -/
namespace Go.Proofs.YtpmngjjbhcajfaaGreat.Vw
open Go.RowKit Vf Vm

theorem PkIn.low {B : Nat} {w w' : World} {ps : List Pk} {a : Option Addr} (h : PkIn B w ps a) (hk : ∀ b, b < B → w'.heap[b]? = w.heap[b]?) : PkIn B w' ps a := fun i p hp => by
  obtain ⟨b, off, e, hb, h1, h2⟩ := h i p hp
  exact ⟨b, off, e, hb, (cell_eq (hk b hb) _).trans h1, (cell_eq (hk b hb) _).trans h2⟩
abbrev runW (m : Md) (ps : List Pk) : Wd := followW m (firstW m) ps
abbrev runD (m : Md) (ps : List Pk) : List Dd := followD m (firstW m) ps


set_option maxRecDepth 100000 in
set_option maxHeartbeats 2000000 in
theorem Run_any (m : Md) (ab au : Option Addr) (cb cu B : Nat) (ps : List Pk) (a : Option Addr) (cap : Nat) (w : World) (hmd : Hid (ModIn B w m ab au)) (hps : Hid (PkIn B w ps a)) (hB : B ≤ w.heap.size) (E : Int) (hE : Hid (E = wrongE m ps.length)) :
    Calls Tryz.prog 12 #[mdV m ab au cb cu, .slice a ps.length cap] w fun e w' => Below w.heap.size w w' ∧ ((E ≠ 0 ∧ e = .returned (.tuple #[.agg #[.slice none 0 0, .slice none 0 0, .int .i64 0], .slice none 0 0, .int .i64 E])) ∨
      (E = 0 ∧ ∃ vE vB vd ov bv, e = .returned (.tuple #[.agg #[vE, vB, .int .i64 (runW m ps).steps], vd, .int .i64 0]) ∧ EnIn m (runW m ps) 0 w' vE vB (runW m ps).ts.length m.boxes.length ov bv ∧ w'.ownsRow 0 44 2 vd ps.length (ddCells (runD m ps)) ∧ ∃ K, Known m K ∧ WI m K (runW m ps))) := by
  have HF0 := Sb.hide (Sr.first w m ab au cb cu)
  have HM0 : Hid (ModIn B ((w.alloc (mdB m ab au cb cu)).alloc woZ) m ab au) := hmd.out.low (HF0.out.below.mono hB).block
  go_enter Tryz.func12, Tryz.ntmps12
  go_wp2_with fail
  generalize (w.alloc (mdB m ab au cb cu)).alloc woZ = W0 at *
  refine (wrong_any m ab au cb cu B a ps.length cap _ HM0 (by have := HF0.out.below.size; omega) E hE).mono ?_
  rintro e w1 ⟨rfl, hb1⟩
  have HF1 := Sb.hide (HF0.out.on hb1)
  clear hb1
  by_cases h0 : E = 0
  · have e0 : (E != 0) = false := by simpa using h0
    have HE0 := Sb.hide h0
    have c1 := md_cells HF1.out.md
    obtain ⟨hright, hn⟩ := wrongE_zero (m := m) (n := ps.length) (by rw [← hE.out]; exact h0)
    obtain ⟨⟨K, hK⟩, hbl⟩ := known_of hright
    have HK := Sb.hide hK
    have HRG := Sb.hide hright
    obtain ⟨cv, cc, hcx⟩ := cx_of cu hmd.out hK.rt.units
    have HCX := Sb.hide hcx
    have hB1 : B ≤ w1.heap.size := by have := HF1.out.below.size; omega
    have hz1 := lt_of_block HF1.out.zero
    have HWF := Sb.hide (wi_first hK hright)
    clear h0 hK hright hcx
    go_wp2_with fail
    refine (newWorld_any ⟨m, B, au, cu, cv, cc⟩ K HK HRG hbl _ (Sb.hide (HCX.out.low (HF1.out.below.mono hB).block)) hB1 ab cb (Sb.hide (hmd.out.low (HF1.out.below.mono hB).block).boxes)).mono ?_
    rintro e w2 ⟨s, L, vt, vx, rfl, hsc, hS, hW, hb2, hL⟩
    have HSC := Sb.hide hsc
    have hsm : s.c.m = m := by rw [hsc]
    have hsB : s.c.B = B := by rw [hsc]
    have HSM := Sb.hide hsm
    have HSB := Sb.hide hsB
    have HS := Sb.hide hS
    have HW := Sb.hide hW
    have HF2 := Sb.hide (HF1.out.on hb2)
    have HL := Sb.hide (fun b (hb : b < w.heap.size + 2) => hL b (by omega))
    have hz2 := lt_of_block HF2.out.zero
    clear hsc hS hW hb2 hL hsm hsB c1
    go_wp2_with fail
    refine (follow_any s deafW HS K (by rw [HSM.out]; exact HK) L _ (firstW m) vt vx HW (by rw [HSM.out]; exact HWF) ps a cap (by rw [HSB.out]; exact Sb.hide (hps.out.low (HF2.out.below.mono hB).block)) hn).mono ?_
    rintro e w3 ⟨vd, L3, rfl, hF⟩
    have hF3 := HF2.out.kp hF.kp HL.out
    have hWI := hF.wi
    have hWD := hF.wd
    have hRW := hF.row
    rw [List.take_length, HSM.out] at hWI hWD hRW
    have HF3 := Sb.hide hF3
    have HWI := Sb.hide hWI
    have HWD := Sb.hide hWD
    have HRW := Sb.hide hRW
    clear hF hF3 hWI hWD hRW
    go_wp2_with fail
    refine (wend_any s deafW HS K (by rw [HSM.out]; exact HK) L3 _ (followW m (firstW m) ps) vt vx HWD (by rw [HSM.out]; exact HWI) (by rw [HSM.out]; exact hbl)).mono ?_
    rintro e w4 ⟨vE, vB, ov, bv, rfl, hb4, hEN⟩
    rw [HSM.out] at hEN
    have HF4 := Sb.hide (HF3.out.on hb4)
    have HEN := Sb.hide (hEN.base (Nat.zero_le _))
    have HR4 : Hid (w4.ownsRow 0 44 2 vd ps.length (ddCells (followD m (firstW m) ps))) := own_base (own_keep HRW.out (fun b hb => hb4.block b (HRW.out.lt b hb).2)) (Nat.zero_le _)
    obtain ⟨ea, ec, rfl⟩ := own_slice hEN.ends
    obtain ⟨ba, bc, rfl⟩ := own_slice hEN.bxs
    obtain ⟨da, dc, rfl⟩ := own_slice HRW.out
    have z := (wo_cells HF4.out.zero).1
    have zf := (wo_cells HF4.out.zero).2
    clear hb4 hEN
    go_wp2
    have hX := fillW_at (v0 := .slice ea (followW m (firstW m) ps).ts.length ec) (v1 := .slice ba m.boxes.length bc) (v2 := .int .i64 (followW m (firstW m) ps).steps) HF4.out.zero
    have hBD := fillW_below (v0 := .slice ea (followW m (firstW m) ps).ts.length ec) (v1 := .slice ba m.boxes.length bc) (v2 := .int .i64 (followW m (firstW m) ps).steps) HF4.out.below (Nat.le_succ _)
    have hEE := fillW_en (v0 := .slice ea (followW m (firstW m) ps).ts.length ec) (v1 := .slice ba m.boxes.length bc) (v2 := .int .i64 (followW m (firstW m) ps).steps) HF4.out.zero HEN.out
    have hRR := fillW_own (v0 := .slice ea (followW m (firstW m) ps).ts.length ec) (v1 := .slice ba m.boxes.length bc) (v2 := .int .i64 (followW m (firstW m) ps).steps) HF4.out.zero HR4.out (by decide)
    unfold fillW at hX hBD hEE hRR
    obtain ⟨g0, g1, g2⟩ := hX
    generalize ((w4.setCell ⟨w.heap.size + 1, 0, none⟩ (.slice ea (followW m (firstW m) ps).ts.length ec)).setCell ⟨w.heap.size + 1, 1, none⟩ (.slice ba m.boxes.length bc)).setCell ⟨w.heap.size + 1, 2, none⟩ (.int .i64 (followW m (firstW m) ps).steps) = W4 at *
    exact bodyPost_ret (v := .tuple #[.agg #[.slice ea (followW m (firstW m) ps).ts.length ec, .slice ba m.boxes.length bc, .int .i64 (followW m (firstW m) ps).steps], .slice da ps.length dc, .int .i64 0]) (by simp [results, Tryz.results12, go_sem, g0, g1, g2]) rfl ⟨hBD, .inr ⟨HE0.out, _, _, _, ov, bv, rfl, hEE, hRR, K, HK.out, HWI.out⟩⟩
  · have e0 : (E != 0) = true := by simpa using h0
    have HNZ := Sb.hide h0
    clear h0
    have z := (wo_cells HF1.out.zero).1
    have zf := (wo_cells HF1.out.zero).2
    go_wp2
    have hX := fillW_at (v0 := .slice none 0 0) (v1 := .slice none 0 0) (v2 := .int .i64 0) HF1.out.zero
    have hBD := fillW_below (v0 := .slice none 0 0) (v1 := .slice none 0 0) (v2 := .int .i64 0) HF1.out.below (Nat.le_succ _)
    unfold fillW at hX hBD
    obtain ⟨g0, g1, g2⟩ := hX
    generalize ((w1.setCell ⟨w.heap.size + 1, 0, none⟩ (.slice none 0 0)).setCell ⟨w.heap.size + 1, 1, none⟩ (.slice none 0 0)).setCell ⟨w.heap.size + 1, 2, none⟩ (.int .i64 0) = W4 at *
    exact bodyPost_ret (v := .tuple #[.agg #[.slice none 0 0, .slice none 0 0, .int .i64 0], .slice none 0 0, .int .i64 E]) (by simp [results, Tryz.results12, go_sem, g0, g1, g2]) rfl ⟨hBD, .inl ⟨HNZ.out, rfl⟩⟩
end Go.Proofs.YtpmngjjbhcajfaaGreat.Vw

