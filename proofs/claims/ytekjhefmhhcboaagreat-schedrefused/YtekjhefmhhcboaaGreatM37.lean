/- The walk of SchedCounts: NO PICK OVERDOES. -/
import Derived.Test.YtekjhefmhhcboaaGreatM35
import Derived.Test.YtekjhefmhhcboaaGreatM30
import Derived.Test.YtekjhefmhhcboaaGreatM36
import Derived.Test.YtekjhefmhhcboaaGreatM1
import Derived.ChangeArms
import Derived.DataReads
set_option maxRecDepth 100000
set_option maxHeartbeats 2000000
namespace Go.Proofs.YtekjhefmhhcboaaGreat.Vw
open Go.RowKit Vf Vm
theorem ddCells_at : ∀ (l : List Dd) (k : Nat) d, l[k]? = some d → (ddCells l)[k * 2]? = some (.int .i64 d.err) ∧ (ddCells l)[k * 2 + 1]? = some (.int .i64 (d.steps : Int))
 | x :: l, 0, d, h => by simp at h; subst h; simp [ddCells, ddc]
 | x :: l, k + 1, d, h => by
  have := ddCells_at l k d (by simpa using h)
  have e : ddCells (x :: l) = .int .i64 x.err :: .int .i64 (x.steps : Int) :: ddCells l := by simp [ddCells, ddc]
  rw [e, show (k + 1) * 2 = k * 2 + 1 + 1 by omega]
  simpa using this
theorem mod_up {B B' : Nat} {w : World} {m : Md} {ab au : Option Addr} (h : ModIn B w m ab au) (hB : B ≤ B') : ModIn B' w m ab au := by
 refine ⟨h.few, fun i x hx => ?_, fun i u hu => ?_⟩
 ·obtain ⟨h1, h2, b, off, e, hb, c⟩ := h.boxes i x hx
  exact ⟨h1, h2, b, off, e, by omega, c⟩
 ·obtain ⟨b, off, al, cl, ac, cc, e, hb, hU, c⟩ := h.units i u hu
  refine ⟨b, off, al, cl, ac, cc, e, by omega, ⟨hU.nums, hU.few, hU.caps, fun j x hx => ?_, fun j x hx => ?_⟩, c⟩
  ·obtain ⟨h1, b, off, e, hb, c⟩ := hU.locals j x hx
   exact ⟨h1, b, off, e, by omega, c⟩
  ·obtain ⟨h1, h2, h3, b, off, e, hb, c⟩ := hU.code j x hx
   exact ⟨h1, h2, h3, b, off, e, by omega, c⟩
theorem Tryz.info41 : (Tryz.prog.info? 41).map (fun i => (i.zero, i.size, i.bytes)) = some (some (.agg #[.int .i64 0, .int .i64 0]), 2, 16) := by kernel_rfl
def pkc (p : Pk) : List Value := [.int .i64 p.task, .int .i64 p.q]
def pkCells (l : List Pk) : List Value := l.flatMap pkc
theorem pkCells_app (l : List Pk) (p : Pk) : pkCells (l ++ [p]) = pkCells l ++ pkc p := by simp [pkCells]
theorem pkCells_at : ∀ (l : List Pk) (k : Nat) p, l[k]? = some p → (pkCells l)[k * 2]? = some (.int .i64 p.task) ∧ (pkCells l)[k * 2 + 1]? = some (.int .i64 p.q)
 | x :: l, 0, d, h => by simp at h; subst h; simp [pkCells, pkc]
 | x :: l, k + 1, d, h => by
  have := pkCells_at l k d (by simpa using h)
  have e : pkCells (x :: l) = .int .i64 x.task :: .int .i64 x.q :: pkCells l := by simp [pkCells, pkc]
  rw [e, show (k + 1) * 2 = k * 2 + 1 + 1 by omega]
  simpa using this
theorem pk_news (W : World) (d : Pk) : ∀ j u, (pkc d)[j]? = some u → (W.alloc (.cells #[.int .i64 d.task, .int .i64 d.q] 41)).cell? ((⟨W.heap.size, 0, none⟩ : Addr).add j) = some u := by
 intro j u hu
 rw [add_none, World.cell?_alloc_mark]
 match j, hu with
 | 0, hu => simpa [pkc] using hu
 | 1, hu => simpa [pkc] using hu
 | j + 2, hu => simp [pkc] at hu
theorem pk_one (d : Pk) : ∀ u ∈ pkc d, u.oneCell' = true := by
 intro u hu
 simp [pkc] at hu
 rcases hu with rfl | rfl <;> rfl
theorem own_picks {w : World} {B : Nat} {v : Value} {l : List Pk} (h : w.ownsRow B 41 2 v l.length (pkCells l)) : ∃ a c, v = .slice a l.length c ∧ PkIn w.heap.size w l a := by
 obtain ⟨a, c, rfl⟩ := own_slice h
 refine ⟨a, c, rfl, fun i p hp => ?_⟩
 have hc := pkCells_at l i p hp
 obtain ⟨g, rfl, c0⟩ := own_cellN h hc.1
 obtain ⟨g', e, c1⟩ := own_cellN h hc.2
 cases e
 exact ⟨g, 0, rfl, World.block_lt_of_cell? w _ c0, by rw [Nat.zero_add]; exact c0, by rw [Nat.zero_add]; exact c1⟩
def gd (ps : List Pk) (D : List Dd) (k : Nat) : List Pk := (((ps.zip D).take k).filter (fun x => x.2.err == 0)).map (·.1)
theorem gd_succ {ps : List Pk} {D : List Dd} {k : Nat} {p : Pk} {d : Dd} (hp : ps[k]? = some p) (hd : D[k]? = some d) : gd ps D (k + 1) = gd ps D k ++ if d.err == 0 then [p] else [] := by
 unfold gd
 have e : (ps.zip D)[k]? = some (p, d) := by rw [List.getElem?_zip_eq_some]; exact ⟨hp, hd⟩
 rw [List.take_add_one, e, List.filter_append, List.map_append]
 congr 1
 by_cases h : d.err == 0
 ·simp [h]
 ·simp [h]
theorem gd_all (m : Md) : ∀ (w : Wd) (ps : List Pk), gd ps (followD m w ps) ps.length = good m w ps
 | _, [] => rfl
 | w, p :: ps => by
  unfold gd
  show List.map _ (List.filter _ (List.take (ps.length + 1) ((p :: ps).zip (pickD m w p :: followD m (pickW m w p) ps)))) = _
  rw [List.zip_cons_cons, List.take_succ_cons, List.filter_cons]
  unfold good
  have ih := gd_all m (pickW m w p) ps
  unfold gd at ih
  by_cases h : (pickD m w p).err = 0
  ·rw [if_pos (by simpa using h), if_pos h, List.map_cons, ih]
  ·rw [if_neg (by simpa using h), if_neg h, ih, pickW_no h]
theorem gd_len (ps : List Pk) (D : List Dd) (k : Nat) : (gd ps D k).length ≤ k := by
 unfold gd
 rw [List.length_map]
 refine Nat.le_trans (List.length_filter_le _ _) ?_
 simp
 omega
theorem wi_few {m : Md} {K : KM} {W : Wd} (h : WI m K W) (hv : verify m = (0, 0, 0)) : W.ts.length ≤ 1000 ∧ W.x.length = m.boxes.length ∧ m.boxes.length ≤ 30 ∧ (∀ t ∈ W.ts, t.out.length ≤ 1000000) ∧ ∀ q ∈ W.x, q.ws.length ≤ 1000000 := by
 have hb := (known_of hv).2
 obtain ⟨t0, ht0⟩ : ∃ t, W.ts[0]? = some t := ⟨_, List.getElem?_eq_getElem h.few.1⟩
 have hM := h.tasks 0 t0 ht0
 have hst := h.steps
 refine ⟨by have := h.few.2; omega, hM.len, hb, fun t ht => ?_, fun q hq => ?_⟩
 ·obtain ⟨o, ho⟩ := List.getElem?_of_mem ht
  have := (h.tasks o t ho).out
  omega
 ·obtain ⟨i, hi⟩ := List.getElem?_of_mem hq
  obtain ⟨b, hb'⟩ : ∃ b, m.boxes[i]? = some b := ⟨_, List.getElem?_eq_getElem (by have := (List.getElem?_eq_some_iff.1 hi).1; have := hM.len; omega)⟩
  have h1 := hM.boxes i q b hi hb'
  have h2 := box_caps hv hb'
  omega
theorem refused_any (m : Md) (ab au : Option Addr) (cb cu : Nat) (ps : List Pk) (a : Option Addr) (cap : Nat) (w : World) (hmd : ModIn w.heap.size w m ab au) (hps : PkIn w.heap.size w ps a) :
  Calls Tryz.prog 6 #[mdV m ab au cb cu, .slice a ps.length cap] w fun e w' => e = .returned (.bool true) ∧ Below w.heap.size w w' := by
 obtain ⟨i0, hi, hz0, hz1, hz2⟩ := info_parts Tryz.info41
 have HMD := Sb.hide hmd
 have HPS := Sb.hide hps
 obtain ⟨E, hE⟩ : ∃ E, E = wrongE m ps.length := ⟨_, rfl⟩
 have HE := Sb.hide hE
 have HB0 : Hid (Below w.heap.size w (w.alloc (mdB m ab au cb cu))) := (Below.refl _ w).alloc (Nat.le_refl _) _
 have HM0 : Hid ((w.alloc (mdB m ab au cb cu)).heap[w.heap.size]? = some (mdB m ab au cb cu)) := heap_alloc_new w _
 clear hmd hps hE
 go_enter Tryz.func6, Tryz.ntmps6
 go_wp2_with fail
 generalize w.alloc (mdB m ab au cb cu) = W0 at *
 refine (alive_any _).mono ?_
 rintro e w1 ⟨rfl, hb1⟩
 have HB1 := Sb.hide (HB0.out.trans (hb1.mono HB0.out.size))
 have HM1 := Sb.hide ((hb1.block _ (lt_of_block HM0.out)).trans HM0.out)
 have c1 := md_cells HM1.out
 clear hb1
 go_wp2_with fail
 refine (Run_any m ab au cb cu w.heap.size ps a cap _ (Sb.hide (HMD.out.low HB1.out.block)) (Sb.hide (HPS.out.low HB1.out.block)) HB1.out.size E HE).mono ?_
 rintro e w2 ⟨hb2, hr⟩
 have HB2 := Sb.hide (HB1.out.trans (hb2.mono HB1.out.size))
 have HM2 := Sb.hide ((hb2.block _ (lt_of_block HM1.out)).trans HM1.out)
 clear hb2 c1
 rcases hr with ⟨h0, rfl⟩ | ⟨h0, vE, vB, vd, ov, bv, rfl, hEN, hD, K, hK, hWI⟩
 ·have e0 : (E != 0) = true := by simpa using h0
  clear h0
  go_wp2
  go_ret
  exact ⟨rfl, HB2.out.alloc HB2.out.size _⟩
 ·obtain ⟨da, dc, rfl⟩ := own_slice hD
  obtain ⟨ea, ec, rfl⟩ := own_slice hEN.ends
  obtain ⟨ba, bc, rfl⟩ := own_slice hEN.bxs
  have HD := Sb.hide hD
  obtain ⟨D, hDD⟩ : ∃ D, D = runD m ps := ⟨_, rfl⟩
  have HDD := Sb.hide hDD
  have hlen : D.length = ps.length := by rw [hDD]; exact followD_len m _ _
  obtain ⟨hvz, hn⟩ := wrongE_zero (m := m) (n := ps.length) (by rw [← HE.out, h0])
  have HVZ := Sb.hide hvz
  have HWI := Sb.hide hWI
  obtain ⟨t0, ht0⟩ : ∃ t, (runW m ps).ts[0]? = some t := ⟨_, List.getElem?_eq_getElem hWI.few.1⟩
  have hxl := (hWI.tasks 0 t0 ht0).len
  have HRD := Sb.hide (hEN.reads hxl)
  obtain ⟨S, hS⟩ : ∃ S, S = (runW m ps).steps := ⟨_, rfl⟩
  rw [← hS]
  have HSS := Sb.hide hS
  obtain ⟨N, hN⟩ : ∃ N, N = ps.length := ⟨_, rfl⟩
  rw [← hN] at hlen hn ⊢
  have HN := Sb.hide hN
  have HLN := Sb.hide hlen
  subst h0
  have HO2 : Hid ((w2.alloc (woO (.slice ea (runW m ps).ts.length ec) (.slice ba m.boxes.length bc) S)).heap[w2.heap.size]? = some (woO (.slice ea (runW m ps).ts.length ec) (.slice ba m.boxes.length bc) S)) := heap_alloc_new w2 _
  have HB3 : Hid (Below w2.heap.size w2 (w2.alloc (woO (.slice ea (runW m ps).ts.length ec) (.slice ba m.boxes.length bc) S))) := (Below.refl _ w2).alloc (Nat.le_refl _) _
  have f1 : ((N : Int) != (N : Int)) = false := by simp
  clear hD hEN hDD hN hlen hS hvz hWI ht0 hxl
  go_wp2
  generalize w2.alloc (woO (.slice ea (runW m ps).ts.length ec) (.slice ba m.boxes.length bc) S) = W3 at *
  have HBW := Sb.hide (HB2.out.trans (HB3.out.mono HB2.out.size))
  have hy2 := HB2.out.size
  have hy3 := HB3.out.size
  have HST : Hid (W3.ownsRow W3.heap.size 41 2 (.slice none 0 0) (gd ps D 0).length (pkCells (gd ps D 0))) := ⟨rfl, .inl ⟨rfl, rfl⟩⟩
  go_loopw [8, 31] (fun vg v wr => ∃ k : Nat, v = .int .i64 k ∧ k ≤ N ∧ Below W3.heap.size W3 wr ∧ wr.ownsRow W3.heap.size 41 2 vg (gd ps D k).length (pkCells (gd ps D k))) (fun _ v _ => N - (intOf v).toNat)
  case atStart => exact ⟨0, rfl, Nat.zero_le _, .refl _ _, HST.out⟩
  case round =>
   obtain ⟨k, rfl, hk, hb, hrow⟩ := hrel
   have HB := Sb.hide hb
   have HROW := Sb.hide hrow
   have hzb := hb.size
   have hgl := gd_len ps D k
   clear hb hrow HST
   by_cases hlt : k < N
   ·obtain ⟨d, hd⟩ : ∃ d, D[k]? = some d := ⟨_, List.getElem?_eq_getElem (by have := HLN.out; omega)⟩
    obtain ⟨p, hp⟩ : ∃ p, ps[k]? = some p := ⟨_, List.getElem?_eq_getElem (by have := HN.out; omega)⟩
    obtain ⟨pb, po, rfl, hpb, y0, y1⟩ := HPS.out k p hp
    have hcl := ddCells_at D k d hd
    rw [HDD.out] at hcl
    obtain ⟨g, rfl, x0⟩ := own_cellN HD.out hcl.1
    have hgz : g < w2.heap.size := World.block_lt_of_cell? w2 _ x0
    have a1 : pb < wr.heap.size := by omega
    have a2 : pb < W3.heap.size := by omega
    have a3 : pb < w2.heap.size := by omega
    have a4 : g < wr.heap.size := by omega
    have a5 : g < W3.heap.size := by omega
    have z0 : wr.cell? ⟨pb, po + k * 2, none⟩ = some (.int .i64 p.task) := (cell_eq ((HB.out.block pb a2).trans ((HB3.out.block pb a3).trans (HB2.out.block pb hpb))) _).trans y0
    have z1 : wr.cell? ⟨pb, po + k * 2 + 1, none⟩ = some (.int .i64 p.q) := (cell_eq ((HB.out.block pb a2).trans ((HB3.out.block pb a3).trans (HB2.out.block pb hpb))) _).trans y1
    have z2 : (wr.alloc (pkO p)).cell? ⟨g, k * 2, none⟩ = some (.int .i64 d.err) := (cell_eq ((Below.heap_alloc wr _ _ a4).trans ((HB.out.block g a5).trans (HB3.out.block g hgz))) _).trans x0
    have HGS := Sb.hide (gd_succ hp hd)
    obtain ⟨G, hG⟩ : ∃ G, G = gd ps D k := ⟨_, rfl⟩
    rw [← hG] at HROW HGS hgl
    have n0 : (0 : Int) ≤ (k : Int) := by omega
    have n1 : (k : Int) < (N : Int) := by omega
    have hG4 : G.length ≤ 400 := by omega
    clear hd hp y0 y1 x0 hcl hG
    by_cases h0 : d.err = 0
    ·have e0 : (d.err == 0) = true := by simpa using h0
     have HG1 : Hid (gd ps D (k + 1) = G ++ [p]) := by unfold Hid; rw [HGS.out, if_pos e0]
     have HRW : Hid (((wr.alloc (pkO p)).alloc (pkO p)).ownsRow W3.heap.size 41 2 u8 G.length (pkCells G)) := (HROW.out.alloc _).alloc _
     clear h0
     go_wp2_with (at_builtin; refine wpList_append_where rfl (.tmp 42) (.tmp 44) 26 rfl W3.heap.size 41 i0 (.agg #[.int .i64 0, .int .i64 0]) 2 16 Tryz.underlying26 hi hz0 hz1 hz2 rfl (by decide) u8 G.length (pkCells G) rfl HRW.out ⟨(wr.alloc (pkO p)).heap.size, 0, none⟩ 1 1 (pkc p) (by rw [show (wr.alloc (pkO p)).heap.size = wr.heap.size + 1 by simp]; rfl) rfl (pk_news (wr.alloc (pkO p)) p) (pk_one p) (by decide) (by unfold maxLen; omega) (by omega) (by simp; omega) ?_)
     intro R4 cap4 w4 hown4 hg4 hR4
     have HO4 : Hid (w4.ownsRow W3.heap.size 41 2 (.slice (some ⟨R4, 0, none⟩) (G.length + 1) cap4) (gd ps D (k + 1)).length (pkCells (gd ps D (k + 1)))) := by
      unfold Hid
      rw [HG1.out, pkCells_app, List.length_append]
      exact hown4
     have HB4 : Hid (Below W3.heap.size W3 w4) := ((HB.out.alloc hzb _).alloc (by simp; omega) _).grown hg4 (by simp; omega) (fun b hb => (HROW.out.lt b hb).1)
     clear hown4 hg4 hR4
     go_wp2
     go_roundw
     case rel => exact ⟨k + 1, by go_num, hlt, HB4.out, HO4.out⟩
     case measure => simp [intOf]; omega
    ·have e0 : (d.err == 0) = false := by simpa using h0
     have HG1 : Hid (gd ps D (k + 1) = G) := by unfold Hid; rw [HGS.out, if_neg (by rw [e0]; simp), List.append_nil]
     clear h0
     have HO4 : Hid ((wr.alloc (pkO p)).ownsRow W3.heap.size 41 2 u8 (gd ps D (k + 1)).length (pkCells (gd ps D (k + 1)))) := by
      unfold Hid
      rw [HG1.out]
      exact HROW.out.alloc _
     have HB4 : Hid (Below W3.heap.size W3 (wr.alloc (pkO p))) := HB.out.alloc hzb _
     go_wp2
     go_roundw
     case rel => exact ⟨k + 1, by go_num, hlt, HB4.out, HO4.out⟩
     case measure => simp [intOf]; omega
   ·have ek : k = N := by omega
    obtain ⟨G, hG⟩ : ∃ G, G = good m (firstW m) ps := ⟨_, rfl⟩
    have hgd : gd ps D k = G := by rw [ek, HN.out, HDD.out, hG]; exact gd_all m _ _
    rw [hgd] at HROW hgl
    obtain ⟨ga, gc, hgv, hgp⟩ := own_picks HROW.out
    subst hgv
    have HGP := Sb.hide hgp
    have HFG : Hid (runW m G = runW m ps) := by unfold Hid; rw [hG]; exact follow_good m _ _
    have hGn : G.length ≤ 400 := by omega
    have HE2 : Hid ((0 : Int) = wrongE m G.length) := by
     unfold Hid wrongE
     rw [if_neg (by rw [HVZ.out]; simp), if_neg (by omega)]
    have HBE := Sb.hide (HBW.out.trans (HB.out.mono HBW.out.size))
    have HMW := Sb.hide (mod_up (HMD.out.low HBE.out.block) HBE.out.size)
    have hm2z := lt_of_block HM2.out
    have hmw : wr.heap[w.heap.size]? = some (mdB m ab au cb cu) := (HB.out.block _ (by omega)).trans ((HB3.out.block _ hm2z).trans HM2.out)
    have c2 := md_cells hmw
    have HOW := Sb.hide ((HB.out.block _ (lt_of_block HO2.out)).trans HO2.out)
    have n1 : ¬ (k : Int) < (N : Int) := by omega
    clear hgd hG hmw hgp
    go_wp2_with fail
    refine (Run_any m ab au cb cu wr.heap.size G ga gc wr HMW HGP (Nat.le_refl _) 0 HE2).mono ?_
    rintro e w5 ⟨hb5, hr⟩
    rcases hr with ⟨h0, _⟩ | ⟨_, vE5, vB5, vd5, ov5, bv5, rfl, hEN5, hD5, _⟩
    ·exact absurd rfl h0
    rw [HFG.out] at hEN5
    obtain ⟨q1, q2, q3, q4, q5⟩ := wi_few HWI.out HVZ.out
    have HRD5 := Sb.hide (hEN5.reads q2)
    have HB5 := Sb.hide (HBE.out.trans (hb5.mono HBE.out.size))
    have HRDa : Hid (WRd w5 m (runW m ps).ts (runW m ps).x (.slice ea (runW m ps).ts.length ec) (.slice ba m.boxes.length bc)) := ((HRD.out.below HB3.out).below HB.out).below hb5
    obtain ⟨ea5, ec5, rfl⟩ := own_slice hEN5.ends
    obtain ⟨ba5, bc5, rfl⟩ := own_slice hEN5.bxs
    obtain ⟨da5, dc5, rfl⟩ := own_slice hD5
    have how5 := (hb5.block _ (lt_of_block HOW.out)).trans HOW.out
    have z5 := (wo_cells how5).1
    have hz5 := lt_of_block how5
    rw [HFG.out, ← HSS.out]
    clear hb5 hEN5 hD5 c2 how5
    have HBF : Hid (Below w5.heap.size w5 (w5.alloc (woO (.slice ea5 (runW m ps).ts.length ec5) (.slice ba5 m.boxes.length bc5) S))) := (Below.refl _ w5).alloc (Nat.le_refl _) _
    go_wp2_with fail
    refine (sameW_any m (runW m ps).ts (runW m ps).x S _ _ _ _ _ (Sb.hide (HRDa.out.below HBF.out)) (Sb.hide (HRD5.out.below HBF.out)) q1 (by omega) (Sb.hide q4) (Sb.hide q5)).mono ?_
    rintro e w6 ⟨rfl, hb6⟩
    have HB6 := Sb.hide ((HB5.out.trans (HBF.out.mono HB5.out.size)).trans (hb6.mono (Nat.le_trans HB5.out.size HBF.out.size)))
    clear hb6
    go_wp2
    go_ret
    exact ⟨rfl, HB6.out⟩
end Go.Proofs.YtekjhefmhhcboaaGreat.Vw
namespace Go.Proofs.YtekjhefmhhcboaaGreat
open Go.RowKit
section
variable {H : Type} {enc : TypeId × Value → H} {w : World} {base : Nat} {spare : Nat → Bool} {held : Bool}
theorem cells_at {a : Addr} {i n : Nat} {cs : List Value} (hn : 0 < n) (h : w.cells? base (a.add (i * n)) n = some cs) (h0 : a.spot = none) :
  a.block < w.heap.size ∧ ∀ j, j < n → w.cell? ⟨a.block, a.off + i * n + j, none⟩ = cs[j]? := by
 obtain ⟨hb, hl, hc⟩ := World.cells?_some h
 have hadd : ∀ k, a.add k = ⟨a.block, a.off + k, none⟩ := by
  intro k
  unfold Addr.add
  split
  ·subst_vars; cases a; simp_all
  ·rfl
 have hcell : ∀ j, j < n → w.cell? ⟨a.block, a.off + i * n + j, none⟩ = cs[j]? := by
  intro j hj
  have := hc j hj
  rw [hadd] at this
  rw [← this]
  congr 1
  unfold Addr.add
  split
  ·subst_vars; rfl
  ·rfl
 refine ⟨?_, hcell⟩
 have h1 := hcell 0 hn
 rw [List.getElem?_eq_getElem (by omega)] at h1
 cases hh : w.heap[a.block]? with
 | none => simp [World.cell?, hh] at h1
 | some o => exact lt_of_block hh
theorem spot_of {a : Addr} {n : Nat} {cs : List Value} (hn : 0 < n) (h : w.cells? base (a.add (0 * n)) n = some cs) : a.spot = none := by
 obtain ⟨hb, hl, hc⟩ := World.cells?_some h
 have h1 := hc 0 hn
 rw [List.getElem?_eq_getElem (by omega)] at h1
 simp only [Nat.zero_mul, Addr.add, if_true] at h1
 unfold World.cell? at h1
 split at h1
 ·split at h1
  ·simp at h1
  ·rename_i hs; simpa using hs
 ·simp at h1
theorem list_of {α : Type} {p : Nat → α → Prop} : ∀ (n : Nat), (∀ i, i < n → ∃ y, p i y) → ∃ l : List α, l.length = n ∧ ∀ i y, l[i]? = some y → p i y
 | 0, _ => ⟨[], rfl, fun i y hy => by simp at hy⟩
 | m + 1, hall => by
  obtain ⟨l, h1, h2⟩ := list_of m (fun i hi => hall i (by omega))
  obtain ⟨y, h3⟩ := hall m (by omega)
  refine ⟨l ++ [y], by simp [h1], fun i z hz => ?_⟩
  by_cases hi : i < l.length
  ·rw [List.getElem?_append_left hi] at hz; exact h2 i z hz
  ·rw [List.getElem?_append_right (by omega)] at hz
   have hi2 : i - l.length = 0 := by
    have := (List.getElem?_eq_some_iff.1 hz).1
    simp at this; omega
   rw [hi2] at hz
   simp at hz
   subst hz
   obtain rfl : i = m := by omega
   exact h3
theorem slice_list {α : Type} {t e : TypeId} {n fuel : Nat} {cs : List Value} {x : DataW H × List MemPlace} (Q : Nat → List Value → α → Prop)
  (ht : Tryz.prog.underlying t = some (.slice e)) (hce : Tryz.prog.cellsOf e = n) (hn : 0 < n)
  (hQ : ∀ f cs' x', f < fuel → DataW.trod enc Tryz.prog w base spare held f e cs' = some x' → ∃ y, Q f cs' y)
  (h : DataW.trod enc Tryz.prog w base spare held fuel t cs = some x) :
  ∃ (l : List α) (a : Option Addr) (c : Nat), cs = [.slice a l.length c] ∧ l.length ≤ maxLen ∧ l.length ≤ c ∧
   ∀ i y, l[i]? = some y → ∃ b off cs' f, a = some ⟨b, off, none⟩ ∧ b < w.heap.size ∧ f < fuel ∧ cs'.length = n ∧ Q f cs' y ∧ ∀ j, j < n → w.cell? ⟨b, off + i * n + j, none⟩ = cs'[j]? := by
 rcases DataW.trod_slice ht h with ⟨rfl, _⟩ | ⟨a, len, cap, elems, rest, k, rfl, rfl, _, hb, hl, hm, hlen, hel, _, _⟩
 ·exact ⟨[], none, 0, rfl, Nat.zero_le _, Nat.zero_le _, fun i y hy => by simp at hy⟩
 ·rw [hce] at hel
  have hall : ∀ i, i < len → ∃ cs' y, w.cells? base (a.add (i * n)) n = some cs' ∧ Q k cs' y := by
   intro i hi
   have := hel i hi
   rw [List.getElem?_eq_getElem (by omega)] at this
   obtain ⟨cs', h1, h2⟩ := Option.bind_eq_some_iff.1 this
   obtain ⟨y, hy⟩ := hQ k cs' _ (by omega) h2
   exact ⟨cs', y, h1, hy⟩
  obtain ⟨l, hll, hlq⟩ := list_of (p := fun i y => ∃ cs', w.cells? base (a.add (i * n)) n = some cs' ∧ Q k cs' y) len (fun i hi => by
   obtain ⟨cs', y, h1, h2⟩ := hall i hi
   exact ⟨y, cs', h1, h2⟩)
  refine ⟨l, some a, cap, by rw [hll], by omega, by omega, fun i y hy => ?_⟩
  have hi := (List.getElem?_eq_some_iff.1 hy).1
  have hsp : a.spot = none := by
   obtain ⟨cs0, y0, h1, _⟩ := hall 0 (by omega)
   exact spot_of hn h1
  obtain ⟨cs', h1, h2⟩ := hlq i y hy
  obtain ⟨h3, h4⟩ := cells_at hn h1 hsp
  exact ⟨a.block, a.off, cs', k, by cases a; simp_all, h3, by omega, (World.cells?_some h1).2.1, h2, h4⟩
theorem two {cs : List Value} (h : cs.length = 2) : ∃ a b, cs = [a, b] := by
 match cs, h with
 | [a, b], _ => exact ⟨a, b, rfl⟩
theorem three {cs : List Value} (h : cs.length = 3) : ∃ a b c, cs = [a, b, c] := by
 match cs, h with
 | [a, b, c], _ => exact ⟨a, b, c, rfl⟩
theorem field_some {fs : Array Field} {n : Nat} {cs : List Value} {xs : List (DataW H × List MemPlace)} (hl : xs.length = fs.size)
  (h : ∀ (i : Nat) (f : Field), fs[i]? = some f → DataW.trod enc Tryz.prog w base spare held n f.type ((cs.drop f.offset).take (Tryz.prog.cellsOf f.type)) = xs[i]?)
  (i : Nat) (f : Field) (hf : fs[i]? = some f) : ∃ x, DataW.trod enc Tryz.prog w base spare held n f.type ((cs.drop f.offset).take (Tryz.prog.cellsOf f.type)) = some x := by
 have hi : i < fs.size := (Array.getElem?_eq_some_iff.1 hf).1
 exact ⟨xs[i]'(by omega), by rw [h i f hf, List.getElem?_eq_getElem]⟩
theorem six {cs : List Value} (h : cs.length = 6) : ∃ a b c d e f, cs = [a, b, c, d, e, f] := by
 match cs, h with
 | [a, b, c, d, e, f], _ => exact ⟨a, b, c, d, e, f, rfl⟩
theorem cells_box : Tryz.prog.cellsOf 50 = 2 := by kernel_rfl
theorem cells_ins : Tryz.prog.cellsOf 55 = 3 := by kernel_rfl
theorem cells_un : Tryz.prog.cellsOf 59 = 6 := by kernel_rfl
theorem cells_md : Tryz.prog.cellsOf 25 = 2 := by kernel_rfl
theorem cells_int : Tryz.prog.cellsOf 3 = 1 := by kernel_rfl
theorem cells_i64 : Tryz.prog.cellsOf 2 = 1 := by kernel_rfl
theorem cells_ints : Tryz.prog.cellsOf 57 = 1 := by kernel_rfl
theorem cells_code : Tryz.prog.cellsOf 56 = 1 := by kernel_rfl
theorem cells_boxes : Tryz.prog.cellsOf 22 = 1 := by kernel_rfl
theorem cells_units : Tryz.prog.cellsOf 23 = 1 := by kernel_rfl
theorem wf_i64 {n : Int} (h : (Lit.int .i64 n).wf = true) : I64 n := by
 simp only [Lit.wf, Bool.and_eq_true, decide_eq_true_eq] at h
 have e1 : IntKind.i64.min = -9223372036854775808 := by decide
 have e2 : IntKind.i64.max = 9223372036854775807 := by decide
 rw [e1, e2] at h
 exact h
theorem int_open {fuel : Nat} {cs : List Value} {x : DataW H × List MemPlace} (h : DataW.trod enc Tryz.prog w base spare held fuel 3 cs = some x) : ∃ n : Int, I64 n ∧ cs = [.int .i64 n] := by
 obtain ⟨n, hn, _, hw⟩ := DataW.trod_int Tryz.underlying3 h
 exact ⟨n, wf_i64 hw, hn⟩
theorem i64_open {fuel : Nat} {cs : List Value} {x : DataW H × List MemPlace} (h : DataW.trod enc Tryz.prog w base spare held fuel 2 cs = some x) : ∃ n : Int, I64 n ∧ cs = [.int .i64 n] := by
 obtain ⟨n, hn, _, hw⟩ := DataW.trod_int Tryz.underlying2 h
 exact ⟨n, wf_i64 hw, hn⟩
theorem ints_open {fuel : Nat} {cs : List Value} {x : DataW H × List MemPlace} (h : DataW.trod enc Tryz.prog w base spare held fuel 57 cs = some x) :
  ∃ (l : List Int) (a : Option Addr) (c : Nat), cs = [.slice a l.length c] ∧ IntsIn w.heap.size w l a ∧ l.length ≤ 9223372036854775807 ∧ l.length ≤ c := by
 obtain ⟨l, a, c, hcs, hm, hc, hall⟩ := slice_list (n := 1) (fun _ cs' (y : Int) => I64 y ∧ cs' = [.int .i64 y]) Tryz.underlying57 cells_int (by decide) (fun f cs' x' _ hx' => int_open hx') h
 refine ⟨l, a, c, hcs, fun i y hy => ?_, by unfold maxLen at hm; omega, hc⟩
 obtain ⟨b, off, cs', f, he, hb, _, _, ⟨h1, rfl⟩, hcell⟩ := hall i y hy
 exact ⟨h1, b, off, he, hb, by have := hcell 0 (by decide); rw [Nat.mul_one] at this; exact this⟩
theorem box_open {fuel : Nat} {cs : List Value} {x : DataW H × List MemPlace} (h : DataW.trod enc Tryz.prog w base spare held fuel 50 cs = some x) :
  ∃ o : Vf.Bx, (I64 o.ty ∧ I64 o.cap) ∧ cs = [.int .i64 o.ty, .int .i64 o.cap] := by
 obtain ⟨xs, n, rfl, _, hl, hxl, hf⟩ := DataW.trod_struct Tryz.underlying50 h
 rw [cells_box] at hl
 obtain ⟨a, b, rfl⟩ := two hl
 obtain ⟨x0, h0⟩ : ∃ x, DataW.trod enc Tryz.prog w base spare held n 3 (([a, b].drop 0).take (Tryz.prog.cellsOf 3)) = some x := field_some hxl hf 0 _ rfl
 obtain ⟨x1, h1⟩ : ∃ x, DataW.trod enc Tryz.prog w base spare held n 3 (([a, b].drop 1).take (Tryz.prog.cellsOf 3)) = some x := field_some hxl hf 1 _ rfl
 simp only [cells_int] at h0 h1
 obtain ⟨p, p1, p2⟩ := int_open h0
 obtain ⟨q, q1, q2⟩ := int_open h1
 simp at p2 q2
 exact ⟨⟨p, q⟩, ⟨p1, q1⟩, by rw [p2, q2]⟩
theorem ins_open {fuel : Nat} {cs : List Value} {x : DataW H × List MemPlace} (h : DataW.trod enc Tryz.prog w base spare held fuel 55 cs = some x) :
  ∃ o : Vf.Ins, (I64 o.op ∧ I64 o.a ∧ I64 o.n) ∧ cs = [.int .i64 o.op, .int .i64 o.a, .int .i64 o.n] := by
 obtain ⟨xs, n, rfl, _, hl, hxl, hf⟩ := DataW.trod_struct Tryz.underlying55 h
 rw [cells_ins] at hl
 obtain ⟨a, b, c, rfl⟩ := three hl
 obtain ⟨x0, h0⟩ : ∃ x, DataW.trod enc Tryz.prog w base spare held n 3 (([a, b, c].drop 0).take (Tryz.prog.cellsOf 3)) = some x := field_some hxl hf 0 _ rfl
 obtain ⟨x1, h1⟩ : ∃ x, DataW.trod enc Tryz.prog w base spare held n 3 (([a, b, c].drop 1).take (Tryz.prog.cellsOf 3)) = some x := field_some hxl hf 1 _ rfl
 obtain ⟨x2, h2⟩ : ∃ x, DataW.trod enc Tryz.prog w base spare held n 2 (([a, b, c].drop 2).take (Tryz.prog.cellsOf 2)) = some x := field_some hxl hf 2 _ rfl
 simp only [cells_int, cells_i64] at h0 h1 h2
 obtain ⟨p, p1, p2⟩ := int_open h0
 obtain ⟨q, q1, q2⟩ := int_open h1
 obtain ⟨r, r1, r2⟩ := i64_open h2
 simp at p2 q2 r2
 exact ⟨⟨p, q, r⟩, ⟨p1, q1, r1⟩, by rw [p2, q2, r2]⟩
theorem code_open {fuel : Nat} {cs : List Value} {x : DataW H × List MemPlace} (h : DataW.trod enc Tryz.prog w base spare held fuel 56 cs = some x) :
  ∃ (l : List Vf.Ins) (a : Option Addr) (c : Nat), cs = [.slice a l.length c] ∧ CodeIn w.heap.size w l a ∧ l.length ≤ 9223372036854775807 ∧ l.length ≤ c := by
 obtain ⟨l, a, c, hcs, hm, hc, hall⟩ := slice_list (n := 3) (fun _ cs' (y : Vf.Ins) => (I64 y.op ∧ I64 y.a ∧ I64 y.n) ∧ cs' = [.int .i64 y.op, .int .i64 y.a, .int .i64 y.n]) Tryz.underlying56 cells_ins (by decide) (fun f cs' x' _ hx' => ins_open hx') h
 refine ⟨l, a, c, hcs, fun i y hy => ?_, by unfold maxLen at hm; omega, hc⟩
 obtain ⟨b, off, cs', f, he, hb, _, _, ⟨⟨h1, h2, h3⟩, rfl⟩, hcell⟩ := hall i y hy
 exact ⟨h1, h2, h3, b, off, he, hb, hcell 0 (by decide), hcell 1 (by decide), hcell 2 (by decide)⟩
theorem unit_open {fuel : Nat} {cs : List Value} {x : DataW H × List MemPlace} (h : DataW.trod enc Tryz.prog w base spare held fuel 59 cs = some x) :
  ∃ u : Vf.Un, ∃ al cl ac cc, UnIn w.heap.size w u al ac cl cc ∧ cs = [.int .i64 u.kind, .int .i64 u.params, .slice al u.locals.length cl, .int .i64 u.result, .int .i64 u.takes, .slice ac u.code.length cc] := by
 obtain ⟨xs, n, rfl, _, hl, hxl, hf⟩ := DataW.trod_struct Tryz.underlying59 h
 rw [cells_un] at hl
 obtain ⟨a, b, c, d, e, f, rfl⟩ := six hl
 obtain ⟨x0, h0⟩ : ∃ x, DataW.trod enc Tryz.prog w base spare held n 3 (([a, b, c, d, e, f].drop 0).take (Tryz.prog.cellsOf 3)) = some x := field_some hxl hf 0 _ rfl
 obtain ⟨x1, h1⟩ : ∃ x, DataW.trod enc Tryz.prog w base spare held n 3 (([a, b, c, d, e, f].drop 1).take (Tryz.prog.cellsOf 3)) = some x := field_some hxl hf 1 _ rfl
 obtain ⟨x2, h2⟩ : ∃ x, DataW.trod enc Tryz.prog w base spare held n 57 (([a, b, c, d, e, f].drop 2).take (Tryz.prog.cellsOf 57)) = some x := field_some hxl hf 2 _ rfl
 obtain ⟨x3, h3⟩ : ∃ x, DataW.trod enc Tryz.prog w base spare held n 3 (([a, b, c, d, e, f].drop 3).take (Tryz.prog.cellsOf 3)) = some x := field_some hxl hf 3 _ rfl
 obtain ⟨x4, h4⟩ : ∃ x, DataW.trod enc Tryz.prog w base spare held n 3 (([a, b, c, d, e, f].drop 4).take (Tryz.prog.cellsOf 3)) = some x := field_some hxl hf 4 _ rfl
 obtain ⟨x5, h5⟩ : ∃ x, DataW.trod enc Tryz.prog w base spare held n 56 (([a, b, c, d, e, f].drop 5).take (Tryz.prog.cellsOf 56)) = some x := field_some hxl hf 5 _ rfl
 simp only [cells_int, cells_ints, cells_code] at h0 h1 h2 h3 h4 h5
 obtain ⟨p0, i0, e0⟩ := int_open h0
 obtain ⟨p1, i1, e1⟩ := int_open h1
 obtain ⟨p2, a2, c2, e2, i2, l2, k2⟩ := ints_open h2
 obtain ⟨p3, i3, e3⟩ := int_open h3
 obtain ⟨p4, i4, e4⟩ := int_open h4
 obtain ⟨p5, a5, c5, e5, i5, l5, k5⟩ := code_open h5
 simp at e0 e1 e2 e3 e4 e5
 exact ⟨⟨p0, p1, p2, p3, p4, p5⟩, a2, c2, a5, c5, ⟨⟨i0, i1, i3, i4⟩, ⟨l2, l5⟩, ⟨k2, k5⟩, i2, i5⟩, by rw [e0, e1, e2, e3, e4, e5]⟩
theorem mod_open {fuel : Nat} {cs : List Value} {x : DataW H × List MemPlace} (h : DataW.trod enc Tryz.prog w base spare held fuel 25 cs = some x) :
  ∃ m : Vf.Md, ∃ ab cb au cu, cs = [.slice ab m.boxes.length cb, .slice au m.units.length cu] ∧ ModIn w.heap.size w m ab au := by
 obtain ⟨xs, n, rfl, _, hl, hxl, hf⟩ := DataW.trod_struct Tryz.underlying25 h
 rw [cells_md] at hl
 obtain ⟨p, q, rfl⟩ := two hl
 obtain ⟨x0, h0⟩ : ∃ x, DataW.trod enc Tryz.prog w base spare held n 22 (([p, q].drop 0).take (Tryz.prog.cellsOf 22)) = some x := field_some hxl hf 0 _ rfl
 obtain ⟨x1, h1⟩ : ∃ x, DataW.trod enc Tryz.prog w base spare held n 23 (([p, q].drop 1).take (Tryz.prog.cellsOf 23)) = some x := field_some hxl hf 1 _ rfl
 simp only [cells_boxes, cells_units] at h0 h1
 obtain ⟨l, a, c, hcs, hm, _, hall⟩ := slice_list (n := 2) (fun _ cs' (y : Vf.Bx) => (I64 y.ty ∧ I64 y.cap) ∧ cs' = [.int .i64 y.ty, .int .i64 y.cap]) Tryz.underlying22 cells_box (by decide) (fun f cs' x' _ hx' => box_open hx') h0
 obtain ⟨l2, a2, c2, hcs2, hm2, _, hall2⟩ := slice_list (n := 6) (fun _ cs' (u : Vf.Un) => ∃ al cl ac cc, UnIn w.heap.size w u al ac cl cc ∧ cs' = [.int .i64 u.kind, .int .i64 u.params, .slice al u.locals.length cl, .int .i64 u.result, .int .i64 u.takes, .slice ac u.code.length cc]) Tryz.underlying23 cells_un (by decide) (fun f cs' x' _ hx' => unit_open hx') h1
 simp at hcs hcs2
 refine ⟨⟨l, l2⟩, a, c, a2, c2, by rw [hcs, hcs2], ⟨by unfold maxLen at hm; omega, by unfold maxLen at hm2; omega⟩, fun i y hy => ?_, fun i y hy => ?_⟩
 ·obtain ⟨b, off, cs', f, he, hb, _, _, ⟨⟨h1, h2⟩, rfl⟩, hcell⟩ := hall i y hy
  exact ⟨h1, h2, b, off, he, hb, hcell 0 (by decide), hcell 1 (by decide)⟩
 ·obtain ⟨b, off, cs', f, he, hb, _, _, ⟨al, cl, ac, cc, hu, rfl⟩, hcell⟩ := hall2 i y hy
  exact ⟨b, off, al, cl, ac, cc, he, hb, hu, hcell 0 (by decide), hcell 1 (by decide), hcell 2 (by decide), hcell 3 (by decide), hcell 4 (by decide), hcell 5 (by decide)⟩
end
end Go.Proofs.YtekjhefmhhcboaaGreat
