/- WHAT Run ANSWERS. -/
import Derived.Test.YtekjhefmhhcboaaGreatM34
set_option maxRecDepth 100000
set_option maxHeartbeats 2000000
namespace Go.Proofs.YtekjhefmhhcboaaGreat.Vw
open Go.RowKit Vf Vm
theorem Run_any (m : Md) (ab au : Option Addr) (cb cu B : Nat) (ps : List Pk) (a : Option Addr) (cap : Nat) (w : World) (hmd : Hid (ModIn B w m ab au)) (hps : Hid (PkIn B w ps a)) (hB : B ≤ w.heap.size) (E : Int) (hE : Hid (E = wrongE m ps.length)) :
  Calls Tryz.prog 12 #[mdV m ab au cb cu, .slice a ps.length cap] w fun e w' => Below w.heap.size w w' ∧ ((E ≠ 0 ∧ e = .returned (.tuple #[.agg #[.slice none 0 0, .slice none 0 0, .int .i64 0], .slice none 0 0, .int .i64 E])) ∨
   (E = 0 ∧ ∃ vE vB vd ov bv, e = .returned (.tuple #[.agg #[vE, vB, .int .i64 (runW m ps).steps], vd, .int .i64 0]) ∧ EnIn m (runW m ps) 0 w' vE vB (runW m ps).ts.length m.boxes.length ov bv ∧ w'.ownsRow 0 44 2 vd ps.length (ddCells (runD m ps)) ∧ ∃ K, Known m K ∧ WI m K (runW m ps))) := by
 have HF0 := Sb.hide (Sr.first w m ab au cb cu)
 have HM0 : Hid (ModIn B ((w.alloc (mdB m ab au cb cu)).alloc woZ) m ab au) := hmd.out.low (HF0.out.below.mono hB).block
 go_enter Tryz.func12, Tryz.ntmps12
 go_wp2_with fail
 generalize (w.alloc (mdB m ab au cb cu)).alloc woZ = W0 at *
 refine (wrong_any m ab au cb cu B a ps.length cap _ HM0 (by have := HF0.out.below.size; omega) E hE).mono ?_
 rintro e w1 ⟨rfl, hb1⟩
 have HF1 := Sb.hide (HF0.out.on hb1)
 clear hb1
 by_cases h0 : E = 0
 ·have e0 : (E != 0) = false := by simpa using h0
  have HE0 := Sb.hide h0
  have c1 := md_cells HF1.out.md
  obtain ⟨hright, hn⟩ := wrongE_zero (m := m) (n := ps.length) (by rw [← hE.out]; exact h0)
  obtain ⟨⟨K, hK⟩, hbl⟩ := known_of hright
  have HK := Sb.hide hK
  have HRG := Sb.hide hright
  obtain ⟨cv, cc, hcx⟩ := cx_of cu hmd.out hK.rt.units
  have HCX := Sb.hide hcx
  have hB1 : B ≤ w1.heap.size := by have := HF1.out.below.size; omega
  have hz1 := lt_of_block HF1.out.zero
  have HWF := Sb.hide (wi_first hK hright)
  clear h0 hK hright hcx
  go_wp2_with fail
  refine (newWorld_any ⟨m, B, au, cu, cv, cc⟩ K HK HRG hbl _ (Sb.hide (HCX.out.low (HF1.out.below.mono hB).block)) hB1 ab cb (Sb.hide (hmd.out.low (HF1.out.below.mono hB).block).boxes)).mono ?_
  rintro e w2 ⟨s, L, vt, vx, rfl, hsc, hS, hW, hb2, hL⟩
  have HSC := Sb.hide hsc
  have hsm : s.c.m = m := by rw [hsc]
  have hsB : s.c.B = B := by rw [hsc]
  have HSM := Sb.hide hsm
  have HSB := Sb.hide hsB
  have HS := Sb.hide hS
  have HW := Sb.hide hW
  have HF2 := Sb.hide (HF1.out.on hb2)
  have HL := Sb.hide (fun b (hb : b < w.heap.size + 2) => hL b (by omega))
  have hz2 := lt_of_block HF2.out.zero
  clear hsc hS hW hb2 hL hsm hsB c1
  go_wp2_with fail
  refine (follow_any s deafW HS K (by rw [HSM.out]; exact HK) L _ (firstW m) vt vx HW (by rw [HSM.out]; exact HWF) ps a cap (by rw [HSB.out]; exact Sb.hide (hps.out.low (HF2.out.below.mono hB).block)) hn).mono ?_
  rintro e w3 ⟨vd, L3, rfl, hF⟩
  have hF3 := HF2.out.kp hF.kp HL.out
  have hWI := hF.wi
  have hWD := hF.wd
  have hRW := hF.row
  rw [List.take_length, HSM.out] at hWI hWD hRW
  have HF3 := Sb.hide hF3
  have HWI := Sb.hide hWI
  have HWD := Sb.hide hWD
  have HRW := Sb.hide hRW
  clear hF hF3 hWI hWD hRW
  go_wp2_with fail
  refine (wend_any s deafW HS K (by rw [HSM.out]; exact HK) L3 _ (followW m (firstW m) ps) vt vx HWD (by rw [HSM.out]; exact HWI) (by rw [HSM.out]; exact hbl)).mono ?_
  rintro e w4 ⟨vE, vB, ov, bv, rfl, hb4, hEN⟩
  rw [HSM.out] at hEN
  have HF4 := Sb.hide (HF3.out.on hb4)
  have HEN := Sb.hide (hEN.base (Nat.zero_le _))
  have HR4 : Hid (w4.ownsRow 0 44 2 vd ps.length (ddCells (followD m (firstW m) ps))) := own_base (own_keep HRW.out (fun b hb => hb4.block b (HRW.out.lt b hb).2)) (Nat.zero_le _)
  obtain ⟨ea, ec, rfl⟩ := own_slice hEN.ends
  obtain ⟨ba, bc, rfl⟩ := own_slice hEN.bxs
  obtain ⟨da, dc, rfl⟩ := own_slice HRW.out
  have z := (wo_cells HF4.out.zero).1
  have zf := (wo_cells HF4.out.zero).2
  clear hb4 hEN
  go_wp2
  have hX := fillW_at (v0 := .slice ea (followW m (firstW m) ps).ts.length ec) (v1 := .slice ba m.boxes.length bc) (v2 := .int .i64 (followW m (firstW m) ps).steps) HF4.out.zero
  have hBD := fillW_below (v0 := .slice ea (followW m (firstW m) ps).ts.length ec) (v1 := .slice ba m.boxes.length bc) (v2 := .int .i64 (followW m (firstW m) ps).steps) HF4.out.below (Nat.le_succ _)
  have hEE := fillW_en (v0 := .slice ea (followW m (firstW m) ps).ts.length ec) (v1 := .slice ba m.boxes.length bc) (v2 := .int .i64 (followW m (firstW m) ps).steps) HF4.out.zero HEN.out
  have hRR := fillW_own (v0 := .slice ea (followW m (firstW m) ps).ts.length ec) (v1 := .slice ba m.boxes.length bc) (v2 := .int .i64 (followW m (firstW m) ps).steps) HF4.out.zero HR4.out (by decide)
  unfold fillW at hX hBD hEE hRR
  obtain ⟨g0, g1, g2⟩ := hX
  generalize ((w4.setCell ⟨w.heap.size + 1, 0, none⟩ (.slice ea (followW m (firstW m) ps).ts.length ec)).setCell ⟨w.heap.size + 1, 1, none⟩ (.slice ba m.boxes.length bc)).setCell ⟨w.heap.size + 1, 2, none⟩ (.int .i64 (followW m (firstW m) ps).steps) = W4 at *
  exact bodyPost_ret (v := .tuple #[.agg #[.slice ea (followW m (firstW m) ps).ts.length ec, .slice ba m.boxes.length bc, .int .i64 (followW m (firstW m) ps).steps], .slice da ps.length dc, .int .i64 0]) (by simp [results, Tryz.results12, go_sem, g0, g1, g2]) rfl ⟨hBD, .inr ⟨HE0.out, _, _, _, ov, bv, rfl, hEE, hRR, K, HK.out, HWI.out⟩⟩
 ·have e0 : (E != 0) = true := by simpa using h0
  have HNZ := Sb.hide h0
  clear h0
  have z := (wo_cells HF1.out.zero).1
  have zf := (wo_cells HF1.out.zero).2
  go_wp2
  have hX := fillW_at (v0 := .slice none 0 0) (v1 := .slice none 0 0) (v2 := .int .i64 0) HF1.out.zero
  have hBD := fillW_below (v0 := .slice none 0 0) (v1 := .slice none 0 0) (v2 := .int .i64 0) HF1.out.below (Nat.le_succ _)
  unfold fillW at hX hBD
  obtain ⟨g0, g1, g2⟩ := hX
  generalize ((w1.setCell ⟨w.heap.size + 1, 0, none⟩ (.slice none 0 0)).setCell ⟨w.heap.size + 1, 1, none⟩ (.slice none 0 0)).setCell ⟨w.heap.size + 1, 2, none⟩ (.int .i64 0) = W4 at *
  exact bodyPost_ret (v := .tuple #[.agg #[.slice none 0 0, .slice none 0 0, .int .i64 0], .slice none 0 0, .int .i64 E]) (by simp [results, Tryz.results12, go_sem, g0, g1, g2]) rfl ⟨hBD, .inl ⟨HNZ.out, rfl⟩⟩
theorem own_cellN {w : World} {B e size n : Nat} {va : Option Addr} {vc : Nat} {xs : List Value} (h : w.ownsRow B e size (.slice va n vc) n xs) {k : Nat} {u : Value} (hk : xs[k]? = some u) : ∃ g, va = some ⟨g, 0, none⟩ ∧ w.cell? ⟨g, k, none⟩ = some u := by
 rcases h.2 with ⟨e1, h0⟩ | ⟨g, cap, cur, e1, _⟩
 ·have hl := h.1
  rw [h0] at hl
  have hx : xs = [] := List.eq_nil_of_length_eq_zero (by simpa using hl)
  rw [hx] at hk; cases hk
 ·have e2 := e1
  simp at e2
  refine ⟨g, e2.1, ?_⟩
  have := h.cells (g := g) (by rw [e1]; rfl) k _ hk
  rw [add_none] at this
  simpa using this
def RI (w : World) (v : Value) (l : List Int) : Prop := ∃ a c, v = .slice a l.length c ∧ l.length ≤ c ∧ ∀ (i : Nat) x, l[i]? = some x → ∃ b off, a = some ⟨b, off, none⟩ ∧ w.cell? ⟨b, off + i, none⟩ = some (.int .i64 x)
def RS (w : World) (v : Value) (ls : List (List Int)) : Prop := ∃ a c, v = .slice a ls.length c ∧ ∀ (i : Nat) l, ls[i]? = some l → ∃ b off u, a = some ⟨b, off, none⟩ ∧ w.cell? ⟨b, off + i, none⟩ = some u ∧ RI w u l
theorem own_reads {w : World} {B n : Nat} {e : TypeId} {v : Value} {ws : List Int} (h : w.ownsRow B e 1 v n (ints ws)) : RI w v ws := by
 have hl : ws.length = n := by have := h.1; simpa using this
 subst hl
 rcases h.2 with ⟨rfl, h0⟩ | ⟨g, cap, cur, rfl, _, _, hc, _⟩
 ·refine ⟨none, 0, by rw [h0], by omega, fun i x hx => ?_⟩
  have := (List.getElem?_eq_some_iff.1 hx).1
  omega
 ·refine ⟨_, cap, rfl, hc, fun i x hx => ?_⟩
  obtain ⟨g', e', hc'⟩ := own_cell h (k := i) (u := .int .i64 x) (by rw [List.getElem?_map, hx]; rfl)
  cases e'
  exact ⟨g, 0, rfl, by rw [Nat.zero_add]; exact hc'⟩
theorem RI.below {w w' : World} {v : Value} {l : List Int} (h : RI w v l) (hb : Below w.heap.size w w') : RI w' v l := by
 obtain ⟨a, c, e, hc, hr⟩ := h
 refine ⟨a, c, e, hc, fun i x hx => ?_⟩
 obtain ⟨b, off, e2, hcell⟩ := hr i x hx
 exact ⟨b, off, e2, (cell_eq (hb.block b (World.block_lt_of_cell? w _ hcell)) _).trans hcell⟩
theorem RS.below {w w' : World} {v : Value} {ls : List (List Int)} (h : RS w v ls) (hb : Below w.heap.size w w') : RS w' v ls := by
 obtain ⟨a, c, e, hr⟩ := h
 refine ⟨a, c, e, fun i x hx => ?_⟩
 obtain ⟨b, off, u, e2, hcell, hi⟩ := hr i x hx
 exact ⟨b, off, u, e2, (cell_eq (hb.block b (World.block_lt_of_cell? w _ hcell)) _).trans hcell, hi.below hb⟩
structure WRd (w : World) (m : Md) (ts : List Tk) (x : List Bq) (vE vB : Value) : Prop where
 ends : ∃ a c, vE = .slice a ts.length c ∧ ∀ (i : Nat) t, ts[i]? = some t → ∃ b off vo, a = some ⟨b, off, none⟩ ∧ w.cell? ⟨b, off + i * 4, none⟩ = some (.int .i64 (stat mbX m t x).1) ∧ w.cell? ⟨b, off + i * 4 + 1, none⟩ = some (.int .i64 (stat mbX m t x).2) ∧ w.cell? ⟨b, off + i * 4 + 2, none⟩ = some (.int .i64 t.trap) ∧ w.cell? ⟨b, off + i * 4 + 3, none⟩ = some vo ∧ RI w vo t.out
 boxes : RS w vB (x.map (·.ws))
theorem WRd.below {w w' : World} {m : Md} {ts : List Tk} {x : List Bq} {vE vB : Value} (h : WRd w m ts x vE vB) (hb : Below w.heap.size w w') : WRd w' m ts x vE vB := by
 obtain ⟨a, c, e, hr⟩ := h.ends
 refine ⟨⟨a, c, e, fun i t ht => ?_⟩, h.boxes.below hb⟩
 obtain ⟨b, off, vo, e2, h0, h1, h2, h3, h4⟩ := hr i t ht
 have hk := cell_eq (hb.block b (World.block_lt_of_cell? w _ h0))
 exact ⟨b, off, vo, e2, (hk _).trans h0, (hk _).trans h1, (hk _).trans h2, (hk _).trans h3, h4.below hb⟩
theorem enCells_len (m : Md) (W : Wd) (ov : Nat → Value) : ∀ n, (enCells m W ov n).length = n * 4
 | 0 => rfl
 | n + 1 => by rw [enCells_succ, List.length_append, enCells_len m W ov n]; simp [enc]; omega
theorem enCells_at (m : Md) (W : Wd) (ov : Nat → Value) : ∀ (n i j : Nat), i < n → j < 4 → (enCells m W ov n)[i * 4 + j]? = (enc m W ov i)[j]?
 | n + 1, i, j, hi, hj => by
  rw [enCells_succ]
  by_cases e : i = n
  ·subst e
   rw [List.getElem?_append_right (by rw [enCells_len]; omega), enCells_len]
   congr 1
   omega
  ·rw [List.getElem?_append_left (by rw [enCells_len]; omega)]
   exact enCells_at m W ov n i j (by omega) hj
theorem EnIn.reads {m : Md} {W : Wd} {C : Nat} {w : World} {vE vB : Value} {nb : Nat} {ov bv : Nat → Value} (h : EnIn m W C w vE vB W.ts.length nb ov bv) (hx : W.x.length = nb) : WRd w m W.ts W.x vE vB := by
 obtain ⟨ea, ec, rfl⟩ := own_slice h.ends
 obtain ⟨ba, bc, rfl⟩ := own_slice h.bxs
 refine ⟨⟨ea, ec, rfl, fun i t ht => ?_⟩, ⟨ba, bc, by simp [hx], fun i l hl => ?_⟩⟩
 ·have hi := (List.getElem?_eq_some_iff.1 ht).1
  have etk : W.tk (i : Int) = t := by simp [Wd.tk, ht]
  have ho := h.outs i hi
  rw [etk] at ho
  obtain ⟨g, rfl, c0⟩ := own_cellN h.ends (enCells_at m W ov W.ts.length i 0 hi (by omega))
  obtain ⟨g1, e1, c1⟩ := own_cellN h.ends (enCells_at m W ov W.ts.length i 1 hi (by omega))
  cases e1
  obtain ⟨g1, e1, c2⟩ := own_cellN h.ends (enCells_at m W ov W.ts.length i 2 hi (by omega))
  cases e1
  obtain ⟨g1, e1, c3⟩ := own_cellN h.ends (enCells_at m W ov W.ts.length i 3 hi (by omega))
  cases e1
  rw [etk] at c0 c1 c2
  simp only [Nat.add_zero] at c0 c1 c2 c3 ⊢
  exact ⟨g, 0, ov i, rfl, by simpa using c0, by simpa using c1, by simpa using c2, by simpa using c3, own_reads ho⟩
 ·rw [List.getElem?_map] at hl
  cases hq : W.x[i]? with
  | none => rw [hq] at hl; cases hl
  | some q =>
   rw [hq] at hl
   cases hl
   have hi := (List.getElem?_eq_some_iff.1 hq).1
   obtain ⟨g, e, hc⟩ := own_cell h.bxs (k := i) (u := bv i) (by simp [svs, show i < nb by omega])
   exact ⟨g, 0, bv i, e, by rw [Nat.zero_add]; exact hc, own_reads (h.words i q (by omega) hq)⟩
abbrev acO : Obj := .cells #[.int .i64 1, .int .i64 0, .int .i64 7, .int .i64 28, .int .i64 0, .int .i64 0, .int .i64 25, .int .i64 0, .int .i64 0] 55 (0, 0)
abbrev auO (c : Nat) : Obj := .cells #[.int .i64 4, .int .i64 0, .slice none 0 0, .int .i64 0, .int .i64 0, .slice (some ⟨c, 0, none⟩) 3 3] 59 (0, 0)
def am : Md := ⟨[], [⟨4, 0, [], 0, 0, [⟨1, 0, 7⟩, ⟨28, 0, 0⟩, ⟨25, 0, 0⟩]⟩]⟩
theorem am_in {B c u : Nat} {w : World} (hc : w.heap[c]? = some acO) (hu : w.heap[u]? = some (auO c)) (hB : w.heap.size ≤ B) : ModIn B w am none (some ⟨u, 0, none⟩) := by
 have hcl := lt_of_block hc
 have hul := lt_of_block hu
 refine ⟨by simp [am], fun i x hx => by simp [am] at hx, fun i x hx => ?_⟩
 match i, hx with
 | 0, hx =>
  simp [am] at hx
  subst hx
  refine ⟨u, 0, none, 0, some ⟨c, 0, none⟩, 3, rfl, by omega, ⟨⟨(by decide : I64 4), (by decide : I64 0), (by decide : I64 0), (by decide : I64 0)⟩, by simp, by simp, fun j y hy => by simp at hy, fun j y hy => ?_⟩, by simp [World.cell?, hu], by simp [World.cell?, hu], by simp [World.cell?, hu], by simp [World.cell?, hu], by simp [World.cell?, hu], by simp [World.cell?, hu]⟩
  match j, hy with
  | 0, hy =>
   simp at hy
   subst hy
   exact ⟨by decide, by decide, by decide, c, 0, rfl, by omega, by simp [World.cell?, hc], by simp [World.cell?, hc], by simp [World.cell?, hc]⟩
  | 1, hy =>
   simp at hy
   subst hy
   exact ⟨by decide, by decide, by decide, c, 0, rfl, by omega, by simp [World.cell?, hc], by simp [World.cell?, hc], by simp [World.cell?, hc]⟩
  | 2, hy =>
   simp at hy
   subst hy
   exact ⟨by decide, by decide, by decide, c, 0, rfl, by omega, by simp [World.cell?, hc], by simp [World.cell?, hc], by simp [World.cell?, hc]⟩
  | j + 3, hy => simp at hy
 | i + 1, hx => simp [am] at hx
def ap : List Pk := [⟨0, 2⟩]
theorem am_ok : wrongE am ap.length = 0 := by decide +kernel
theorem am_did : ddCells (runD am ap) = [.int .i64 0, .int .i64 2] := by rfl
theorem am_len : (runW am ap).ts.length = 1 := by decide +kernel
theorem am_st : (stat mbX am ((runW am ap).tk ((0 : Nat) : Int)) (runW am ap).x).1 = 1 := by decide +kernel
theorem am_out : ((runW am ap).tk ((0 : Nat) : Int)).out = [7] := by decide +kernel
theorem alive_any (w : World) : Calls Tryz.prog 9 #[] w fun e w' => e = .returned (.bool true) ∧ Below w.heap.size w w' := by
 obtain ⟨W4, hW4⟩ : ∃ W4 : World, (((w.alloc acO).alloc (auO w.heap.size)).alloc (.cells #[.slice none 0 0, .slice (some ⟨w.heap.size + 1, 0, none⟩) 1 1] 25)).alloc (pkO ⟨0, 2⟩) = W4 := ⟨_, rfl⟩
 have HC4 : Hid (W4.heap[w.heap.size]? = some acO) := by
  rw [← hW4]
  exact (Below.heap_alloc _ _ _ (by first | (simp; done) | (simp; omega))).trans ((Below.heap_alloc _ _ _ (by first | (simp; done) | (simp; omega))).trans ((Below.heap_alloc _ _ _ (by simp)).trans (heap_alloc_new w _)))
 have HU4 : Hid (W4.heap[w.heap.size + 1]? = some (auO w.heap.size)) := by
  rw [← hW4]
  have e : (w.alloc acO).heap.size = w.heap.size + 1 := by simp
  refine (Below.heap_alloc _ _ _ (by first | (simp; done) | (simp; omega))).trans ((Below.heap_alloc _ _ _ (by simp)).trans ?_)
  rw [← e]
  exact heap_alloc_new _ _
 have HP4 : Hid (W4.heap[w.heap.size + 1 + 1 + 1]? = some (pkO ⟨0, 2⟩)) := by
  rw [← hW4]
  have e : (((w.alloc acO).alloc (auO w.heap.size)).alloc (.cells #[.slice none 0 0, .slice (some ⟨w.heap.size + 1, 0, none⟩) 1 1] 25)).heap.size = w.heap.size + 1 + 1 + 1 := by simp
  rw [← e]
  exact heap_alloc_new _ _
 have HB4 : Hid (Below w.heap.size w W4) := by rw [← hW4]; exact ((((Below.refl _ w).alloc (Nat.le_refl _) _).alloc (by simp) _).alloc (by first | (simp; done) | (simp; omega)) _).alloc (by first | (simp; done) | (simp; omega)) _
 have HPK : Hid (PkIn W4.heap.size W4 ap (some ⟨w.heap.size + 1 + 1 + 1, 0, none⟩)) := fun i p hp => by
  have hpb := HP4.out
  have hz := lt_of_block HP4.out
  match i, hp with
  | 0, hp =>
   simp [ap] at hp
   subst hp
   exact ⟨_, 0, rfl, hz, by simp [World.cell?, hpb], by simp [World.cell?, hpb]⟩
  | i + 1, hp => simp [ap] at hp
 have HW4 := Sb.hide hW4
 clear hW4
 go_enter Tryz.func9, Tryz.ntmps9
 go_wp2_with fail
 rw [HW4.out]
 refine (Run_any am none (some ⟨w.heap.size + 1, 0, none⟩) 0 1 W4.heap.size ap (some ⟨w.heap.size + 1 + 1 + 1, 0, none⟩) 1 W4 (Sb.hide (am_in HC4.out HU4.out (Nat.le_refl _))) HPK (Nat.le_refl _) 0 (Sb.hide am_ok.symm)).mono ?_
 rintro e w5 ⟨hb5, hr⟩
 rcases hr with ⟨h0, _⟩ | ⟨_, vE, vB, vd, ov, bv, rfl, hEN, hD, _⟩
 ·exact absurd rfl h0
 have hO := hEN.outs 0 (by rw [am_len]; omega)
 have hE := hEN.ends
 have hBx := hEN.bxs
 rw [am_out] at hO
 rw [am_len] at hE
 rw [am_did] at hD
 obtain ⟨oa, oc, hov⟩ := own_slice hO
 obtain ⟨ea, ec, rfl⟩ := own_slice hE
 obtain ⟨da, dc, rfl⟩ := own_slice hD
 obtain ⟨ba, bc, rfl⟩ := own_slice hBx
 obtain ⟨g, rfl, k1⟩ := own_cellN hD (k := 1) (u := .int .i64 2) rfl
 obtain ⟨g0, e0, k0⟩ := own_cellN hD (k := 0) (u := .int .i64 0) rfl
 cases e0
 obtain ⟨h, rfl, j0⟩ := own_cellN hE (k := 0) (u := .int .i64 1) (by simp [enCells, enc]; exact_mod_cast am_st)
 obtain ⟨h1, e1, j1⟩ := own_cellN hE (k := 1) (u := .int .i64 (stat mbX am ((runW am ap).tk ((0 : Nat) : Int)) (runW am ap).x).2) (by simp [enCells, enc])
 cases e1
 obtain ⟨h1, e1, j2⟩ := own_cellN hE (k := 2) (u := .int .i64 ((runW am ap).tk ((0 : Nat) : Int)).trap) (by simp [enCells, enc])
 cases e1
 obtain ⟨h1, e1, j3⟩ := own_cellN hE (k := 3) (u := .slice oa 1 oc) (by simp [enCells, enc, hov])
 cases e1
 have HB5 : Hid (Below w.heap.size w w5) := HB4.out.trans (hb5.mono HB4.out.size)
 have hgz := World.block_lt_of_cell? w5 _ k1
 have hhz := World.block_lt_of_cell? w5 _ j0
 clear hb5 hEN hD hO hE hBx
 go_wp2
 go_ret
 exact ⟨rfl, HB5.out.alloc HB5.out.size _⟩
end Go.Proofs.YtekjhefmhhcboaaGreat.Vw
