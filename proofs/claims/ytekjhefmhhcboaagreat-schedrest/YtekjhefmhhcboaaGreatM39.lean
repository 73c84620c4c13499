/- The walk of SchedCounts: NO PICK OVERDOES. -/
import Derived.Test.YtekjhefmhhcboaaGreatM38
import Derived.Test.YtekjhefmhhcboaaGreatM33
import Derived.Test.YtekjhefmhhcboaaGreatM34
namespace Go.Proofs.YtekjhefmhhcboaaGreat.Vw
open Go.RowKit Vf Vm

theorem sumD_take : ∀ (l : List Dd) (k : Nat) d, l[k]? = some d → sumD (l.take (k + 1)) = sumD (l.take k) + d.steps
  | x :: l, 0, d, h => by simp at h; subst h; simp [sumD]
  | x :: l, k + 1, d, h => by
    have := sumD_take l k d (by simpa using h)
    simp only [List.take_succ_cons, sumD, this]
    omega
theorem sumD_le : ∀ (l : List Dd) (k : Nat), sumD (l.take k) ≤ sumD l
  | [], k => by simp
  | x :: l, 0 => by simp [sumD]
  | x :: l, k + 1 => by
    have := sumD_le l k
    simp only [List.take_succ_cons, sumD]
    omega
theorem ddCells_at : ∀ (l : List Dd) (k : Nat) d, l[k]? = some d → (ddCells l)[k * 2]? = some (.int .i64 d.err) ∧ (ddCells l)[k * 2 + 1]? = some (.int .i64 (d.steps : Int))
  | x :: l, 0, d, h => by simp at h; subst h; simp [ddCells, ddc]
  | x :: l, k + 1, d, h => by
    have := ddCells_at l k d (by simpa using h)
    have e : ddCells (x :: l) = .int .i64 x.err :: .int .i64 (x.steps : Int) :: ddCells l := by simp [ddCells, ddc]
    rw [e, show (k + 1) * 2 = k * 2 + 1 + 1 by omega]
    simpa using this

set_option maxRecDepth 100000 in
set_option maxHeartbeats 2000000 in
theorem counts_any (m : Md) (ab au : Option Addr) (cb cu : Nat) (ps : List Pk) (a : Option Addr) (cap : Nat) (w : World) (hmd : ModIn w.heap.size w m ab au) (hps : PkIn w.heap.size w ps a) :
    Calls Tryz.prog 5 #[mdV m ab au cb cu, .slice a ps.length cap] w fun e w' => e = .returned (.bool true) ∧ Below w.heap.size w w' := by
  have HMD := Sb.hide hmd
  have HPS := Sb.hide hps
  obtain ⟨E, hE⟩ : ∃ E, E = wrongE m ps.length := ⟨_, rfl⟩
  have HE := Sb.hide hE
  have HB0 : Hid (Below w.heap.size w (w.alloc (mdB m ab au cb cu))) := (Below.refl _ w).alloc (Nat.le_refl _) _
  have HM0 : Hid ((w.alloc (mdB m ab au cb cu)).heap[w.heap.size]? = some (mdB m ab au cb cu)) := heap_alloc_new w _
  clear hmd hps hE
  go_enter Tryz.func5, Tryz.ntmps5
  go_wp2_with fail
  generalize w.alloc (mdB m ab au cb cu) = W0 at *
  refine (alive_any _).mono ?_
  rintro e w1 ⟨rfl, hb1⟩
  have HB1 := Sb.hide (HB0.out.trans (hb1.mono HB0.out.size))
  have hm1 := (hb1.block _ (lt_of_block HM0.out)).trans HM0.out
  have c1 := md_cells hm1
  clear hb1 hm1
  go_wp2_with fail
  refine (Run_any m ab au cb cu w.heap.size ps a cap _ (Sb.hide (HMD.out.low HB1.out.block)) (Sb.hide (HPS.out.low HB1.out.block)) HB1.out.size E HE).mono ?_
  rintro e w2 ⟨hb2, hr⟩
  have HB2 := Sb.hide (HB1.out.trans (hb2.mono HB1.out.size))
  clear hb2 c1
  rcases hr with ⟨h0, rfl⟩ | ⟨h0, vE, vB, vd, ov, bv, rfl, hEN, hD, _⟩
  · have e0 : (E != 0) = true := by simpa using h0
    clear h0
    go_wp2
    go_ret
    exact ⟨rfl, HB2.out.alloc HB2.out.size _⟩
  · obtain ⟨da, dc, rfl⟩ := own_slice hD
    obtain ⟨ea, ec, rfl⟩ := own_slice hEN.ends
    obtain ⟨ba, bc, rfl⟩ := own_slice hEN.bxs
    have HD := Sb.hide hD
    obtain ⟨D, hDD⟩ : ∃ D, D = runD m ps := ⟨_, rfl⟩
    have HDD := Sb.hide hDD
    have hlen : D.length = ps.length := by rw [hDD]; exact followD_len m _ _
    obtain ⟨hs1, hs2⟩ := follow_sum m (firstW m) ps
    have hs3 := hs2 (by show 0 ≤ 20000; omega)
    have hs4 : (runW m ps).steps = sumD D := by rw [hDD, hs1]; show (0 : Nat) + sumD _ = sumD _; exact Nat.zero_add _
    have hn : ps.length ≤ 400 := (wrongE_zero (by rw [← HE.out, h0])).2
    obtain ⟨S, hS⟩ : ∃ S, S = (runW m ps).steps := ⟨_, rfl⟩
    rw [← hS] at hs3 hs4
    rw [← hS]
    have HS4 := Sb.hide hs4
    obtain ⟨N, hN⟩ : ∃ N, N = ps.length := ⟨_, rfl⟩
    rw [← hN] at hlen hn ⊢
    have HN := Sb.hide hN
    have HLN := Sb.hide hlen
    subst h0
    have HAT : Hid (∀ (k : Nat) d p, D[k]? = some d → ps[k]? = some p → (d.err = 0 → 1 ≤ d.steps ∧ (d.steps : Int) ≤ p.q) ∧ (d.err ≠ 0 → d.steps = 0)) := fun k d p h1 h2 => followD_at m (firstW m) ps k p d h2 (by show (runD m ps)[k]? = some d; rw [← HDD.out]; exact h1)
    have HO2 : Hid ((w2.alloc (woO (.slice ea (runW m ps).ts.length ec) (.slice ba m.boxes.length bc) S)).heap[w2.heap.size]? = some (woO (.slice ea (runW m ps).ts.length ec) (.slice ba m.boxes.length bc) S)) := heap_alloc_new w2 _
    have HB3 : Hid (Below w2.heap.size w2 (w2.alloc (woO (.slice ea (runW m ps).ts.length ec) (.slice ba m.boxes.length bc) S))) := (Below.refl _ w2).alloc (Nat.le_refl _) _
    clear hD hEN hDD hs1 hs2 hs4 hN hlen hS
    go_wp2
    generalize w2.alloc (woO (.slice ea (runW m ps).ts.length ec) (.slice ba m.boxes.length bc) S) = W3 at *
    have HBW := Sb.hide (HB2.out.trans (HB3.out.mono HB2.out.size))
    have hz2 := HB2.out.size
    have hz3 := HB3.out.size
    go_loopw [8, 27] (fun vn v wr => ∃ k : Nat, v = .int .i64 k ∧ k ≤ N ∧ vn = .int .i64 (sumD (D.take k)) ∧ Below W3.heap.size W3 wr) (fun _ v _ => N - (intOf v).toNat)
    case atStart => exact ⟨0, rfl, Nat.zero_le _, by simp [sumD], .refl _ _⟩
    case round =>
      obtain ⟨k, rfl, hk, rfl, hb⟩ := hrel
      have HB := Sb.hide hb
      have hzb := hb.size
      have hle := sumD_le D k
      rw [← HS4.out] at hle
      clear hb
      by_cases hlt : k < N
      · obtain ⟨d, hd⟩ : ∃ d, D[k]? = some d := ⟨_, List.getElem?_eq_getElem (by have := HLN.out; omega)⟩
        obtain ⟨p, hp⟩ : ∃ p, ps[k]? = some p := ⟨_, List.getElem?_eq_getElem (by have := HN.out; omega)⟩
        obtain ⟨pb, po, rfl, hpb, y0, y1⟩ := HPS.out k p hp
        obtain ⟨h1, h2⟩ := HAT.out k d p hd hp
        have hcl := ddCells_at D k d hd
        rw [HDD.out] at hcl
        obtain ⟨g, rfl, x0⟩ := own_cellN HD.out hcl.1
        obtain ⟨g', eg, x1⟩ := own_cellN HD.out hcl.2
        cases eg
        have hgz : g < w2.heap.size := World.block_lt_of_cell? w2 _ x0
        have z0 : wr.cell? ⟨g, k * 2, none⟩ = some (.int .i64 d.err) := (cell_eq ((HB.out.block g (by omega)).trans (HB3.out.block g hgz)) _).trans x0
        have z1 : wr.cell? ⟨g, k * 2 + 1, none⟩ = some (.int .i64 d.steps) := (cell_eq ((HB.out.block g (by omega)).trans (HB3.out.block g hgz)) _).trans x1
        have hst := sumD_take D k d hd
        have hl2 := sumD_le D (k + 1)
        rw [← HS4.out] at hl2
        have HST := Sb.hide hst
        have HY : Hid ((wr.alloc (.cells #[.int .i64 d.err, .int .i64 d.steps] 44)).cell? ⟨pb, po + k * 2 + 1, none⟩ = some (.int .i64 p.q)) := by
          have a1 : pb < wr.heap.size := by omega
          have a2 : pb < W3.heap.size := by omega
          have a3 : pb < w2.heap.size := by omega
          exact (cell_eq ((Below.heap_alloc wr _ _ a1).trans ((HB.out.block pb a2).trans ((HB3.out.block pb a3).trans (HB2.out.block pb hpb)))) _).trans y1
        have q0 : (wr.alloc (.cells #[.int .i64 d.err, .int .i64 d.steps] 44)).cell? ⟨wr.heap.size, 0, none⟩ = some (.int .i64 d.err) := by simp [World.cell?_alloc_mark]
        have q1 : (wr.alloc (.cells #[.int .i64 d.err, .int .i64 d.steps] 44)).cell? ⟨wr.heap.size, 1, none⟩ = some (.int .i64 d.steps) := by simp [World.cell?_alloc_mark]
        have q2 := HY.out
        have HBN : Hid (Below W3.heap.size W3 (wr.alloc (.cells #[.int .i64 d.err, .int .i64 d.steps] 44))) := HB.out.alloc hzb _
        have n0 : (0 : Int) ≤ (k : Int) := by omega
        have n1 : (k : Int) < (N : Int) := by omega
        obtain ⟨t, ht⟩ : ∃ t, t = sumD (D.take k) := ⟨_, rfl⟩
        rw [← ht] at hst hle HST ⊢
        clear hd hp y0 y1 x0 x1 hcl ht HY
        by_cases h0 : d.err = 0
        · obtain ⟨j1, j2⟩ := h1 h0
          have e0 : (d.err == 0) = true := by simpa using h0
          have e1 : decide ((d.steps : Int) < 1) = false := by simp; omega
          have e2 : decide (p.q < (d.steps : Int)) = false := by simp; omega
          have e3 : (d.err != 0) = false := by simpa using h0
          clear h1 h2 h0
          go_wp2
          generalize wr.alloc (.cells #[.int .i64 d.err, .int .i64 d.steps] 44) = W4 at *
          go_quiet (fail)
          go_wp2
          go_roundw
          case rel => exact ⟨k + 1, by go_num, hlt, by rw [HST.out]; simp, below_drewN HBN.out _⟩
          case measure => simp [intOf]; omega
        · have J1 := Sb.hide (h2 h0)
          have e0 : (d.err == 0) = false := by simpa using h0
          have e3 : (d.err != 0) = true := by simpa using h0
          have e4 : ((d.steps : Int) != 0) = false := by have := J1.out; simp; omega
          clear h1 h2 h0
          go_wp2
          generalize wr.alloc (.cells #[.int .i64 d.err, .int .i64 d.steps] 44) = W4 at *
          go_quiet (fail)
          go_wp2
          go_roundw
          case rel => exact ⟨k + 1, by go_num, hlt, by rw [HST.out]; simp, below_drewN HBN.out _⟩
          case measure => simp [intOf]; omega
      · have ek : k = N := by omega
        subst ek
        have es : sumD (D.take k) = S := by rw [← HLN.out, List.take_length]; exact HS4.out.symm
        rw [es]
        have k2 : wr.cell? ⟨w2.heap.size, 2, none⟩ = some (.int .i64 S) := by
          have h3 := HO2.out
          have := (HB.out.block _ (lt_of_block h3)).trans h3
          simp [World.cell?, this]
        have n1 : ¬ (k : Int) < (k : Int) := by omega
        have n2 : decide ((S : Int) ≤ 20000) = true := by simp; omega
        have HBE := Sb.hide (HBW.out.trans (HB.out.mono HBW.out.size))
        clear hlt es hle
        go_wp2
        go_ret
        exact ⟨rfl, HBE.out⟩
end Go.Proofs.YtekjhefmhhcboaaGreat.Vw

/- Picks of one's own; the walk of SchedRefused: WHAT IS REFUSED CHANGES NOTHING. -/
namespace Go.Proofs.YtekjhefmhhcboaaGreat.Vw
open Go.RowKit Vf Vm

theorem mod_up {B B' : Nat} {w : World} {m : Md} {ab au : Option Addr} (h : ModIn B w m ab au) (hB : B ≤ B') : ModIn B' w m ab au := by
  refine ⟨h.few, fun i x hx => ?_, fun i u hu => ?_⟩
  · obtain ⟨h1, h2, b, off, e, hb, c⟩ := h.boxes i x hx
    exact ⟨h1, h2, b, off, e, by omega, c⟩
  · obtain ⟨b, off, al, cl, ac, cc, e, hb, hU, c⟩ := h.units i u hu
    refine ⟨b, off, al, cl, ac, cc, e, by omega, ⟨hU.nums, hU.few, hU.caps, fun j x hx => ?_, fun j x hx => ?_⟩, c⟩
    · obtain ⟨h1, b, off, e, hb, c⟩ := hU.locals j x hx
      exact ⟨h1, b, off, e, by omega, c⟩
    · obtain ⟨h1, h2, h3, b, off, e, hb, c⟩ := hU.code j x hx
      exact ⟨h1, h2, h3, b, off, e, by omega, c⟩

theorem Tryz.info41 : (Tryz.prog.info? 41).map (fun i => (i.zero, i.size, i.bytes)) = some (some (.agg #[.int .i64 0, .int .i64 0]), 2, 16) := by kernel_rfl
def pkc (p : Pk) : List Value := [.int .i64 p.task, .int .i64 p.q]
def pkCells (l : List Pk) : List Value := l.flatMap pkc
theorem pkCells_app (l : List Pk) (p : Pk) : pkCells (l ++ [p]) = pkCells l ++ pkc p := by simp [pkCells]
theorem pkCells_at : ∀ (l : List Pk) (k : Nat) p, l[k]? = some p → (pkCells l)[k * 2]? = some (.int .i64 p.task) ∧ (pkCells l)[k * 2 + 1]? = some (.int .i64 p.q)
  | x :: l, 0, d, h => by simp at h; subst h; simp [pkCells, pkc]
  | x :: l, k + 1, d, h => by
    have := pkCells_at l k d (by simpa using h)
    have e : pkCells (x :: l) = .int .i64 x.task :: .int .i64 x.q :: pkCells l := by simp [pkCells, pkc]
    rw [e, show (k + 1) * 2 = k * 2 + 1 + 1 by omega]
    simpa using this
theorem pk_news (W : World) (d : Pk) : ∀ j u, (pkc d)[j]? = some u → (W.alloc (.cells #[.int .i64 d.task, .int .i64 d.q] 41)).cell? ((⟨W.heap.size, 0, none⟩ : Addr).add j) = some u := by
  intro j u hu
  rw [add_none, World.cell?_alloc_mark]
  match j, hu with
  | 0, hu => simpa [pkc] using hu
  | 1, hu => simpa [pkc] using hu
  | j + 2, hu => simp [pkc] at hu
theorem pk_one (d : Pk) : ∀ u ∈ pkc d, u.oneCell' = true := by
  intro u hu
  simp [pkc] at hu
  rcases hu with rfl | rfl <;> rfl
/-- Picks of one's own are picks in memory. -/
theorem own_picks {w : World} {B : Nat} {v : Value} {l : List Pk} (h : w.ownsRow B 41 2 v l.length (pkCells l)) : ∃ a c, v = .slice a l.length c ∧ PkIn w.heap.size w l a := by
  obtain ⟨a, c, rfl⟩ := own_slice h
  refine ⟨a, c, rfl, fun i p hp => ?_⟩
  have hc := pkCells_at l i p hp
  obtain ⟨g, rfl, c0⟩ := own_cellN h hc.1
  obtain ⟨g', e, c1⟩ := own_cellN h hc.2
  cases e
  exact ⟨g, 0, rfl, World.block_lt_of_cell? w _ c0, by rw [Nat.zero_add]; exact c0, by rw [Nat.zero_add]; exact c1⟩

/-- The first k picks that are not refused. -/
def gd (ps : List Pk) (D : List Dd) (k : Nat) : List Pk := (((ps.zip D).take k).filter (fun x => x.2.err == 0)).map (·.1)
theorem gd_succ {ps : List Pk} {D : List Dd} {k : Nat} {p : Pk} {d : Dd} (hp : ps[k]? = some p) (hd : D[k]? = some d) : gd ps D (k + 1) = gd ps D k ++ if d.err == 0 then [p] else [] := by
  unfold gd
  have e : (ps.zip D)[k]? = some (p, d) := by rw [List.getElem?_zip_eq_some]; exact ⟨hp, hd⟩
  rw [List.take_add_one, e, List.filter_append, List.map_append]
  congr 1
  by_cases h : d.err == 0
  · simp [h]
  · simp [h]
theorem gd_all (m : Md) : ∀ (w : Wd) (ps : List Pk), gd ps (followD m w ps) ps.length = good m w ps
  | _, [] => rfl
  | w, p :: ps => by
    unfold gd
    show List.map _ (List.filter _ (List.take (ps.length + 1) ((p :: ps).zip (pickD m w p :: followD m (pickW m w p) ps)))) = _
    rw [List.zip_cons_cons, List.take_succ_cons, List.filter_cons]
    unfold good
    have ih := gd_all m (pickW m w p) ps
    unfold gd at ih
    by_cases h : (pickD m w p).err = 0
    · rw [if_pos (by simpa using h), if_pos h, List.map_cons, ih]
    · rw [if_neg (by simpa using h), if_neg h, ih, pickW_no h]
theorem gd_len (ps : List Pk) (D : List Dd) (k : Nat) : (gd ps D k).length ≤ k := by
  unfold gd
  rw [List.length_map]
  refine Nat.le_trans (List.length_filter_le _ _) ?_
  simp
  omega
theorem good_len (m : Md) (w : Wd) (ps : List Pk) : (good m w ps).length ≤ ps.length := by rw [← gd_all]; exact gd_len _ _ _

/-- How long what is seen of a world may be. -/
theorem wi_few {m : Md} {K : KM} {W : Wd} (h : WI m K W) (hv : verify m = (0, 0, 0)) : W.ts.length ≤ 1000 ∧ W.x.length = m.boxes.length ∧ m.boxes.length ≤ 30 ∧ (∀ t ∈ W.ts, t.out.length ≤ 1000000) ∧ ∀ q ∈ W.x, q.ws.length ≤ 1000000 := by
  have hb := (known_of hv).2
  obtain ⟨t0, ht0⟩ : ∃ t, W.ts[0]? = some t := ⟨_, List.getElem?_eq_getElem h.few.1⟩
  have hM := h.tasks 0 t0 ht0
  have hst := h.steps
  refine ⟨by have := h.few.2; omega, hM.len, hb, fun t ht => ?_, fun q hq => ?_⟩
  · obtain ⟨o, ho⟩ := List.getElem?_of_mem ht
    have := (h.tasks o t ho).out
    omega
  · obtain ⟨i, hi⟩ := List.getElem?_of_mem hq
    obtain ⟨b, hb'⟩ : ∃ b, m.boxes[i]? = some b := ⟨_, List.getElem?_eq_getElem (by have := (List.getElem?_eq_some_iff.1 hi).1; have := hM.len; omega)⟩
    have h1 := hM.boxes i q b hi hb'
    have h2 := box_caps hv hb'
    omega

set_option maxRecDepth 100000 in
set_option maxHeartbeats 2000000 in
theorem refused_any (m : Md) (ab au : Option Addr) (cb cu : Nat) (ps : List Pk) (a : Option Addr) (cap : Nat) (w : World) (hmd : ModIn w.heap.size w m ab au) (hps : PkIn w.heap.size w ps a) :
    Calls Tryz.prog 6 #[mdV m ab au cb cu, .slice a ps.length cap] w fun e w' => e = .returned (.bool true) ∧ Below w.heap.size w w' := by
  obtain ⟨i0, hi, hz0, hz1, hz2⟩ := info_parts Tryz.info41
  have HMD := Sb.hide hmd
  have HPS := Sb.hide hps
  obtain ⟨E, hE⟩ : ∃ E, E = wrongE m ps.length := ⟨_, rfl⟩
  have HE := Sb.hide hE
  have HB0 : Hid (Below w.heap.size w (w.alloc (mdB m ab au cb cu))) := (Below.refl _ w).alloc (Nat.le_refl _) _
  have HM0 : Hid ((w.alloc (mdB m ab au cb cu)).heap[w.heap.size]? = some (mdB m ab au cb cu)) := heap_alloc_new w _
  clear hmd hps hE
  go_enter Tryz.func6, Tryz.ntmps6
  go_wp2_with fail
  generalize w.alloc (mdB m ab au cb cu) = W0 at *
  refine (alive_any _).mono ?_
  rintro e w1 ⟨rfl, hb1⟩
  have HB1 := Sb.hide (HB0.out.trans (hb1.mono HB0.out.size))
  have HM1 := Sb.hide ((hb1.block _ (lt_of_block HM0.out)).trans HM0.out)
  have c1 := md_cells HM1.out
  clear hb1
  go_wp2_with fail
  refine (Run_any m ab au cb cu w.heap.size ps a cap _ (Sb.hide (HMD.out.low HB1.out.block)) (Sb.hide (HPS.out.low HB1.out.block)) HB1.out.size E HE).mono ?_
  rintro e w2 ⟨hb2, hr⟩
  have HB2 := Sb.hide (HB1.out.trans (hb2.mono HB1.out.size))
  have HM2 := Sb.hide ((hb2.block _ (lt_of_block HM1.out)).trans HM1.out)
  clear hb2 c1
  rcases hr with ⟨h0, rfl⟩ | ⟨h0, vE, vB, vd, ov, bv, rfl, hEN, hD, K, hK, hWI⟩
  · have e0 : (E != 0) = true := by simpa using h0
    clear h0
    go_wp2
    go_ret
    exact ⟨rfl, HB2.out.alloc HB2.out.size _⟩
  · obtain ⟨da, dc, rfl⟩ := own_slice hD
    obtain ⟨ea, ec, rfl⟩ := own_slice hEN.ends
    obtain ⟨ba, bc, rfl⟩ := own_slice hEN.bxs
    have HD := Sb.hide hD
    obtain ⟨D, hDD⟩ : ∃ D, D = runD m ps := ⟨_, rfl⟩
    have HDD := Sb.hide hDD
    have hlen : D.length = ps.length := by rw [hDD]; exact followD_len m _ _
    obtain ⟨hvz, hn⟩ := wrongE_zero (m := m) (n := ps.length) (by rw [← HE.out, h0])
    have HVZ := Sb.hide hvz
    have HWI := Sb.hide hWI
    obtain ⟨t0, ht0⟩ : ∃ t, (runW m ps).ts[0]? = some t := ⟨_, List.getElem?_eq_getElem hWI.few.1⟩
    have hxl := (hWI.tasks 0 t0 ht0).len
    have HRD := Sb.hide (hEN.reads hxl)
    obtain ⟨S, hS⟩ : ∃ S, S = (runW m ps).steps := ⟨_, rfl⟩
    rw [← hS]
    have HSS := Sb.hide hS
    obtain ⟨N, hN⟩ : ∃ N, N = ps.length := ⟨_, rfl⟩
    rw [← hN] at hlen hn ⊢
    have HN := Sb.hide hN
    have HLN := Sb.hide hlen
    subst h0
    have HO2 : Hid ((w2.alloc (woO (.slice ea (runW m ps).ts.length ec) (.slice ba m.boxes.length bc) S)).heap[w2.heap.size]? = some (woO (.slice ea (runW m ps).ts.length ec) (.slice ba m.boxes.length bc) S)) := heap_alloc_new w2 _
    have HB3 : Hid (Below w2.heap.size w2 (w2.alloc (woO (.slice ea (runW m ps).ts.length ec) (.slice ba m.boxes.length bc) S))) := (Below.refl _ w2).alloc (Nat.le_refl _) _
    have f1 : ((N : Int) != (N : Int)) = false := by simp
    clear hD hEN hDD hN hlen hS hvz hWI ht0 hxl
    go_wp2
    generalize w2.alloc (woO (.slice ea (runW m ps).ts.length ec) (.slice ba m.boxes.length bc) S) = W3 at *
    have HBW := Sb.hide (HB2.out.trans (HB3.out.mono HB2.out.size))
    have hy2 := HB2.out.size
    have hy3 := HB3.out.size
    have HST : Hid (W3.ownsRow W3.heap.size 41 2 (.slice none 0 0) (gd ps D 0).length (pkCells (gd ps D 0))) := ⟨rfl, .inl ⟨rfl, rfl⟩⟩
    go_loopw [8, 31] (fun vg v wr => ∃ k : Nat, v = .int .i64 k ∧ k ≤ N ∧ Below W3.heap.size W3 wr ∧ wr.ownsRow W3.heap.size 41 2 vg (gd ps D k).length (pkCells (gd ps D k))) (fun _ v _ => N - (intOf v).toNat)
    case atStart => exact ⟨0, rfl, Nat.zero_le _, .refl _ _, HST.out⟩
    case round =>
      obtain ⟨k, rfl, hk, hb, hrow⟩ := hrel
      have HB := Sb.hide hb
      have HROW := Sb.hide hrow
      have hzb := hb.size
      have hgl := gd_len ps D k
      clear hb hrow HST
      by_cases hlt : k < N
      · obtain ⟨d, hd⟩ : ∃ d, D[k]? = some d := ⟨_, List.getElem?_eq_getElem (by have := HLN.out; omega)⟩
        obtain ⟨p, hp⟩ : ∃ p, ps[k]? = some p := ⟨_, List.getElem?_eq_getElem (by have := HN.out; omega)⟩
        obtain ⟨pb, po, rfl, hpb, y0, y1⟩ := HPS.out k p hp
        have hcl := ddCells_at D k d hd
        rw [HDD.out] at hcl
        obtain ⟨g, rfl, x0⟩ := own_cellN HD.out hcl.1
        have hgz : g < w2.heap.size := World.block_lt_of_cell? w2 _ x0
        have a1 : pb < wr.heap.size := by omega
        have a2 : pb < W3.heap.size := by omega
        have a3 : pb < w2.heap.size := by omega
        have a4 : g < wr.heap.size := by omega
        have a5 : g < W3.heap.size := by omega
        have z0 : wr.cell? ⟨pb, po + k * 2, none⟩ = some (.int .i64 p.task) := (cell_eq ((HB.out.block pb a2).trans ((HB3.out.block pb a3).trans (HB2.out.block pb hpb))) _).trans y0
        have z1 : wr.cell? ⟨pb, po + k * 2 + 1, none⟩ = some (.int .i64 p.q) := (cell_eq ((HB.out.block pb a2).trans ((HB3.out.block pb a3).trans (HB2.out.block pb hpb))) _).trans y1
        have z2 : (wr.alloc (pkO p)).cell? ⟨g, k * 2, none⟩ = some (.int .i64 d.err) := (cell_eq ((Below.heap_alloc wr _ _ a4).trans ((HB.out.block g a5).trans (HB3.out.block g hgz))) _).trans x0
        have HGS := Sb.hide (gd_succ hp hd)
        obtain ⟨G, hG⟩ : ∃ G, G = gd ps D k := ⟨_, rfl⟩
        rw [← hG] at HROW HGS hgl
        have n0 : (0 : Int) ≤ (k : Int) := by omega
        have n1 : (k : Int) < (N : Int) := by omega
        have hG4 : G.length ≤ 400 := by omega
        clear hd hp y0 y1 x0 hcl hG
        by_cases h0 : d.err = 0
        · have e0 : (d.err == 0) = true := by simpa using h0
          have HG1 : Hid (gd ps D (k + 1) = G ++ [p]) := by unfold Hid; rw [HGS.out, if_pos e0]
          have HRW : Hid (((wr.alloc (pkO p)).alloc (pkO p)).ownsRow W3.heap.size 41 2 u8 G.length (pkCells G)) := (HROW.out.alloc _).alloc _
          clear h0
          go_wp2_with (at_builtin; refine wpList_append_where rfl (.tmp 42) (.tmp 44) 26 rfl W3.heap.size 41 i0 (.agg #[.int .i64 0, .int .i64 0]) 2 16 Tryz.underlying26 hi hz0 hz1 hz2 rfl (by decide) u8 G.length (pkCells G) rfl HRW.out ⟨(wr.alloc (pkO p)).heap.size, 0, none⟩ 1 1 (pkc p) (by rw [show (wr.alloc (pkO p)).heap.size = wr.heap.size + 1 by simp]; rfl) rfl (pk_news (wr.alloc (pkO p)) p) (pk_one p) (by decide) (by unfold maxLen; omega) (by omega) (by simp; omega) ?_)
          intro R4 cap4 w4 hown4 hg4 hR4
          have HO4 : Hid (w4.ownsRow W3.heap.size 41 2 (.slice (some ⟨R4, 0, none⟩) (G.length + 1) cap4) (gd ps D (k + 1)).length (pkCells (gd ps D (k + 1)))) := by
            unfold Hid
            rw [HG1.out, pkCells_app, List.length_append]
            exact hown4
          have HB4 : Hid (Below W3.heap.size W3 w4) := ((HB.out.alloc hzb _).alloc (by simp; omega) _).grown hg4 (by simp; omega) (fun b hb => (HROW.out.lt b hb).1)
          clear hown4 hg4 hR4
          go_wp2
          go_roundw
          case rel => exact ⟨k + 1, by go_num, hlt, HB4.out, HO4.out⟩
          case measure => simp [intOf]; omega
        · have e0 : (d.err == 0) = false := by simpa using h0
          have HG1 : Hid (gd ps D (k + 1) = G) := by unfold Hid; rw [HGS.out, if_neg (by rw [e0]; simp), List.append_nil]
          clear h0
          have HO4 : Hid ((wr.alloc (pkO p)).ownsRow W3.heap.size 41 2 u8 (gd ps D (k + 1)).length (pkCells (gd ps D (k + 1)))) := by
            unfold Hid
            rw [HG1.out]
            exact HROW.out.alloc _
          have HB4 : Hid (Below W3.heap.size W3 (wr.alloc (pkO p))) := HB.out.alloc hzb _
          go_wp2
          go_roundw
          case rel => exact ⟨k + 1, by go_num, hlt, HB4.out, HO4.out⟩
          case measure => simp [intOf]; omega
      · have ek : k = N := by omega
        obtain ⟨G, hG⟩ : ∃ G, G = good m (firstW m) ps := ⟨_, rfl⟩
        have hgd : gd ps D k = G := by rw [ek, HN.out, HDD.out, hG]; exact gd_all m _ _
        rw [hgd] at HROW hgl
        obtain ⟨ga, gc, hgv, hgp⟩ := own_picks HROW.out
        subst hgv
        have HGP := Sb.hide hgp
        have HFG : Hid (runW m G = runW m ps) := by unfold Hid; rw [hG]; exact follow_good m _ _
        have hGn : G.length ≤ 400 := by omega
        have HE2 : Hid ((0 : Int) = wrongE m G.length) := by
          unfold Hid wrongE
          rw [if_neg (by rw [HVZ.out]; simp), if_neg (by omega)]
        have HBE := Sb.hide (HBW.out.trans (HB.out.mono HBW.out.size))
        have HMW := Sb.hide (mod_up (HMD.out.low HBE.out.block) HBE.out.size)
        have hm2z := lt_of_block HM2.out
        have hmw : wr.heap[w.heap.size]? = some (mdB m ab au cb cu) := (HB.out.block _ (by omega)).trans ((HB3.out.block _ hm2z).trans HM2.out)
        have c2 := md_cells hmw
        have HOW := Sb.hide ((HB.out.block _ (lt_of_block HO2.out)).trans HO2.out)
        have n1 : ¬ (k : Int) < (N : Int) := by omega
        clear hgd hG hmw hgp
        go_wp2_with fail
        refine (Run_any m ab au cb cu wr.heap.size G ga gc wr HMW HGP (Nat.le_refl _) 0 HE2).mono ?_
        rintro e w5 ⟨hb5, hr⟩
        rcases hr with ⟨h0, _⟩ | ⟨_, vE5, vB5, vd5, ov5, bv5, rfl, hEN5, hD5, _⟩
        · exact absurd rfl h0
        rw [HFG.out] at hEN5
        obtain ⟨q1, q2, q3, q4, q5⟩ := wi_few HWI.out HVZ.out
        have HRD5 := Sb.hide (hEN5.reads q2)
        have HB5 := Sb.hide (HBE.out.trans (hb5.mono HBE.out.size))
        have HRDa : Hid (WRd w5 m (runW m ps).ts (runW m ps).x (.slice ea (runW m ps).ts.length ec) (.slice ba m.boxes.length bc)) := ((HRD.out.below HB3.out).below HB.out).below hb5
        obtain ⟨ea5, ec5, rfl⟩ := own_slice hEN5.ends
        obtain ⟨ba5, bc5, rfl⟩ := own_slice hEN5.bxs
        obtain ⟨da5, dc5, rfl⟩ := own_slice hD5
        have how5 := (hb5.block _ (lt_of_block HOW.out)).trans HOW.out
        have z5 := (wo_cells how5).1
        have hz5 := lt_of_block how5
        rw [HFG.out, ← HSS.out]
        clear hb5 hEN5 hD5 c2 how5
        have HBF : Hid (Below w5.heap.size w5 (w5.alloc (woO (.slice ea5 (runW m ps).ts.length ec5) (.slice ba5 m.boxes.length bc5) S))) := (Below.refl _ w5).alloc (Nat.le_refl _) _
        go_wp2_with fail
        refine (sameW_any m (runW m ps).ts (runW m ps).x S _ _ _ _ _ (Sb.hide (HRDa.out.below HBF.out)) (Sb.hide (HRD5.out.below HBF.out)) q1 (by omega) (Sb.hide q4) (Sb.hide q5)).mono ?_
        rintro e w6 ⟨rfl, hb6⟩
        have HB6 := Sb.hide ((HB5.out.trans (HBF.out.mono HB5.out.size)).trans (hb6.mono (Nat.le_trans HB5.out.size HBF.out.size)))
        clear hb6
        go_wp2
        go_ret
        exact ⟨rfl, HB6.out⟩
end Go.Proofs.YtekjhefmhhcboaaGreat.Vw

/- The walks of following and settle. -/
namespace Go.Proofs.YtekjhefmhhcboaaGreat.Vw
open Go.RowKit Vf Vm

def nextV (o : Option Nat) : Int := match o with | some n => (n : Int) | none => -1
theorem nextFrom_lt {m : Md} {W : Wd} (h : 0 < W.ts.length) : ∀ (n i : Nat) {k : Nat}, nextFrom m W n i = some k → k < W.ts.length ∧ (stat mbX m (W.tk (k : Int)) W.x).1 = 1
  | 0, _, _, hk => by cases hk
  | n + 1, i, k, hk => by
    unfold nextFrom at hk
    split at hk
    · rename_i hs
      cases hk
      refine ⟨?_, hs⟩
      unfold behind
      have h1 := Int.emod_lt_of_pos (W.last + 1 + (i : Int)) (by omega : (0 : Int) < W.ts.length)
      have h2 := Int.emod_nonneg (W.last + 1 + (i : Int)) (by omega : (W.ts.length : Int) ≠ 0)
      omega
    · exact nextFrom_lt h n (i + 1) hk

set_option maxRecDepth 100000 in
set_option maxHeartbeats 2000000 in
/-- WHAT following ANSWERS. -/
theorem following_any (s : Sx) (B : EarW) (hS : Hid (SxOk s B)) (K : KM) (hK : Hid (Known s.c.m K)) (L : Lab) (w : World) (W : Wd) (vt vx : Value) (H : Hid (WdIn s B L w W vt vx)) (hI : Hid (WI s.c.m K W)) (r : Int) (hr : Hid (r = nextV (following s.c.m W))) :
    Calls Tryz.prog 26 #[.pointer (some ⟨s.WB, 0, none⟩)] w fun e w' => e = .returned (.int .i64 r) ∧ Below w.heap.size w w' := by
  obtain ⟨d0, d1, d2, d3, _⟩ := H.out.cells
  obtain ⟨ta, tc, hvt⟩ : ∃ a c, vt = .slice a W.ts.length c := own_slice H.out.trow
  subst hvt
  have hfew := hI.out.few
  have hlast := hI.out.last
  obtain ⟨N, hN⟩ : ∃ N, N = W.ts.length := ⟨_, rfl⟩
  have HN := Sb.hide hN
  rw [← hN] at hfew d0 hlast
  have HST : Hid (r = nextV (nextFrom s.c.m W (N - 0) 0)) := by unfold Hid; rw [hr.out, HN.out]; rfl
  have hWz := lt_of_block H.out.blk
  have HC : Hid (∀ W2, Below w.heap.size w W2 → W2.cell? ⟨s.WB, 0, none⟩ = some (.slice ta N tc) ∧ W2.cell? ⟨s.WB, 3, none⟩ = some (.int .i64 W.last)) := fun W2 hb => ⟨(cell_eq (hb.block _ hWz) _).trans d0, (cell_eq (hb.block _ hWz) _).trans d3⟩
  obtain ⟨la, hla⟩ : ∃ l, l = W.last := ⟨_, rfl⟩
  have HLA := Sb.hide hla
  rw [← hla] at hlast HC
  clear hN d1 d2 d3 hr hla
  go_enter Tryz.func26, Tryz.ntmps26
  go_wp2
  clear d0
  go_loopw [10] (fun v wr => ∃ k : Nat, v = .int .i64 k ∧ k ≤ N ∧ Below w.heap.size w wr ∧ r = nextV (nextFrom s.c.m W (N - k) k)) (fun v _ => N - (intOf v).toNat)
  case atStart => exact ⟨0, rfl, Nat.zero_le _, .refl _ _, HST.out⟩
  case round =>
    obtain ⟨k, rfl, hk, hb, hrk⟩ := hrel
    have HB := Sb.hide hb
    have HRK := Sb.hide hrk
    clear hb hrk HST
    by_cases hlt : k < N
    · obtain ⟨o, ho⟩ : ∃ o, o = behind W k := ⟨_, rfl⟩
      have hob : o < N ∧ (la + 1 + (k : Int)).tmod (N : Int) = (o : Int) := by
        rw [ho]
        unfold behind
        rw [← HN.out, ← HLA.out]
        have h1 := Int.emod_lt_of_pos (la + 1 + (k : Int)) (by omega : (0 : Int) < N)
        have h2 := Int.emod_nonneg (la + 1 + (k : Int)) (by omega : (N : Int) ≠ 0)
        refine ⟨by omega, ?_⟩
        rw [Int.tmod_eq_emod_of_nonneg (by omega)]
        omega
      have HOB := Sb.hide ho
      obtain ⟨t, ht⟩ : ∃ t, W.ts[o]? = some t := ⟨_, List.getElem?_eq_getElem (by rw [← HN.out]; exact hob.1)⟩
      have HT := Sb.hide ht
      have HTK : Hid (W.tk (behind W k : Int) = t) := by unfold Hid Wd.tk; rw [← ho]; simp [ht]
      have HRR : Hid (r = if (stat mbX s.c.m t W.x).1 = 1 then (o : Int) else nextV (nextFrom s.c.m W (N - (k + 1)) (k + 1))) := by
        unfold Hid
        rw [HRK.out, show N - k = (N - (k + 1)) + 1 by omega]
        show nextV (if (stat mbX s.c.m (W.tk (behind W k : Int)) W.x).1 = 1 then some (behind W k) else _) = _
        rw [HTK.out, ← ho]
        split <;> rfl
      have HAT := Sb.hide (hI.out.at (c := s.c) rfl hK.out ht)
      obtain ⟨P, vR, vO, hSt⟩ := H.out.st ht
      have HST := Sb.hide hSt
      obtain ⟨g, hta, htc⟩ := own_cell H.out.trow (ptrs_at s.T (by rw [← HN.out]; exact hob.1 : o < W.ts.length))
      have hgz := World.block_lt_of_cell? w _ htc
      have t5 : wr.cell? ⟨g, o, none⟩ = some (.pointer (some ⟨s.T o, 0, none⟩)) := (cell_eq (HB.out.block g hgz) _).trans htc
      obtain ⟨br, hbr⟩ : ∃ b, b = ((stat mbX s.c.m t W.x).1 == 1) := ⟨_, rfl⟩
      have HBR := Sb.hide hbr
      subst hta
      obtain ⟨c0, c3⟩ := HC.out _ HB.out
      have w1 : IntKind.i64.wrap (la + 1) = la + 1 := by rw [IntKind.wrap_i64]; omega
      have w2 : IntKind.i64.wrap (la + 1 + (k : Int)) = la + 1 + (k : Int) := by rw [IntKind.wrap_i64]; omega
      obtain ⟨hob1, hob2⟩ := hob
      have nz : ¬ (N : Int) = 0 := by omega
      have n0 : (0 : Int) ≤ (o : Int) := by omega
      have n1 : (o : Int) < (N : Int) := by omega
      clear ho ht hSt htc hbr
      go_wp2
      go_quiet (fail)
      go_wp2_with fail
      refine (ready_any (s.E (earOf B o W.evs t.log.length)) mbX s.c s.vb (s.ev o) o (s.T o) L P _ t W.x vR vO (Sb.hide (HST.out.below (below_drewN HB.out _))) (Sb.hide (hS.out.boxes _)) HAT br HBR).mono ?_
      rintro e w3 ⟨rfl, hb3⟩
      have HB3 : Hid (Below w.heap.size w w3) := (below_drewN HB.out _).trans (hb3.mono (by exact HB.out.size))
      clear hb3
      cases br with
      | true =>
        have HF : Hid (r = (o : Int)) := by unfold Hid; rw [HRR.out, if_pos (by have := HBR.out; simpa using this.symm)]
        go_wp2
        go_ret
        exact ⟨by rw [HF.out]; rfl, HB3.out⟩
      | false =>
        have HF : Hid (r = nextV (nextFrom s.c.m W (N - (k + 1)) (k + 1))) := by unfold Hid; rw [HRR.out, if_neg (by have := HBR.out; simpa using this.symm)]
        go_wp2
        go_roundw
        case rel => exact ⟨k + 1, by go_num, by omega, HB3.out, HF.out⟩
        case measure => simp [intOf]; omega
    · have HF : Hid (r = -1) := by unfold Hid; rw [HRK.out, show N - k = 0 by omega]; rfl
      go_wp2
      go_ret
      exact ⟨by rw [HF.out]; rfl, HB.out⟩
/-- How many steps were taken, as memory says. -/
def stepsAt (b : Nat) (w : World) : Nat := match w.cell? ⟨b, 2, none⟩ with | some (.int _ n) => n.toNat | _ => 0
theorem WdIn.stepsAt {s : Sx} {B : EarW} {L : Lab} {w : World} {W : Wd} {vt vx : Value} (H : WdIn s B L w W vt vx) : stepsAt s.WB w = W.steps := by
  unfold Vw.stepsAt
  rw [H.cells.2.2.1]
  simp
/-- What holds at the head of settle's loop. -/
structure SeAt (s : Sx) (B : EarW) (K : KM) (L : Lab) (w : World) (vt vx : Value) (q : Int) (R : Int × Wd) (v : Value) (W1 : Wd) (L1 : Lab) (f : Nat) (wr : World) : Prop where
  wd : WdIn s B L1 wr W1 vt vx
  wi : WI s.c.m K W1
  ext : Ext L L1 w
  kp : Kp L w wr
  res : R = settleW s.c.m q f W1
  fuel : 20001 ≤ f + W1.steps
  v : v = .int .i64 (nextV (following s.c.m W1))

set_option maxRecDepth 100000 in
set_option maxHeartbeats 2000000 in
/-- WHAT settle ANSWERS. -/
theorem settle_any (s : Sx) (B : EarW) (hS : Hid (SxOk s B)) (K : KM) (hK : Hid (Known s.c.m K)) (L : Lab) (w : World) (W : Wd) (vt vx : Value) (H : Hid (WdIn s B L w W vt vx)) (hI : Hid (WI s.c.m K W)) (ps : List Pk) (a : Option Addr) (cap : Nat) (hps : Hid (PkIn s.c.B w ps a)) (hn : ps.length ≤ 400) (q : Int) (hq : 1 ≤ q ∧ q ≤ 10000) (R : Int × Wd) (hR : Hid (R = settleW s.c.m q 20001 (followW s.c.m W ps))) :
    Calls Tryz.prog 17 #[.pointer (some ⟨s.WB, 0, none⟩), .slice a ps.length cap, .int .i64 q] w fun e w' => e = .returned (.int .i64 R.1) ∧ PkPost s B K L w w' R.2 vt vx := by
  have HQ := Sb.hide hq
  clear hq
  go_enter Tryz.func17, Tryz.ntmps17
  go_wp2_with fail
  refine (follow_any s B hS K hK L w W vt vx H hI ps a cap hps hn).mono ?_
  rintro e w1 ⟨vd, L1, rfl, hF⟩
  have h1 := hF.wd
  have h2 := hF.wi
  rw [List.take_length] at h1 h2
  have HWD1 := Sb.hide h1
  have HWI1 := Sb.hide h2
  have HEX1 := Sb.hide hF.ext
  have HKP1 := Sb.hide hF.kp
  obtain ⟨da, dc, rfl⟩ := own_slice hF.row
  clear hF h1 h2
  go_wp2_with fail
  refine (following_any s B hS K hK L1 _ _ vt vx HWD1 HWI1 _ (Sb.hide rfl)).mono ?_
  rintro e w2 ⟨rfl, hb2⟩
  have HST : Hid (SeAt s B K L w vt vx q R (.int .i64 (nextV (following s.c.m (followW s.c.m W ps)))) (followW s.c.m W ps) L1 20001 w2) := ⟨HWD1.out.below hb2, HWI1.out, HEX1.out, HKP1.out.trans HEX1.out (.of_below hb2), hR.out, by omega, rfl⟩
  clear hb2
  go_wp2
  go_loopw [7] (fun v wr => ∃ W1 L1 f, SeAt s B K L w vt vx q R v W1 L1 f wr) (fun _ wr => 20001 - stepsAt s.WB wr)
  case atStart => exact ⟨_, _, _, HST.out⟩
  case round =>
    obtain ⟨W1, L2, f, hA⟩ := hrel
    have hv := hA.v
    subst hv
    have HA := Sb.hide hA
    have hfu := hA.fuel
    have hst := hA.wi.steps
    have hms := hA.wd.stepsAt
    clear hA HST
    obtain ⟨fo, hfo⟩ : ∃ fo, fo = following s.c.m W1 := ⟨_, rfl⟩
    have HFO := Sb.hide hfo
    rw [← hfo]
    obtain ⟨f', rfl⟩ : ∃ f', f = f' + 1 := ⟨f - 1, by omega⟩
    cases fo with
    | none =>
      have HRR : Hid (R = (0, W1)) := by
        unfold Hid
        rw [HA.out.res]
        show (match following s.c.m W1 with | none => (0, W1) | some n => _ : Int × Wd) = _
        rw [← HFO.out]
      clear hfo
      go_wp2
      go_ret
      rw [HRR.out]
      exact ⟨rfl, L2, HA.out.wd, HA.out.wi, HA.out.ext, HA.out.kp⟩
    | some n =>
      obtain ⟨hnl, hns⟩ := nextFrom_lt HA.out.wi.few.1 _ _ hfo.symm
      have HRR : Hid (R = if refE s.c.m W1 ⟨n, q⟩ = 0 then settleW s.c.m q f' (pickW s.c.m W1 ⟨n, q⟩) else (refE s.c.m W1 ⟨n, q⟩, W1)) := by
        unfold Hid
        rw [HA.out.res]
        show (match following s.c.m W1 with | none => (0, W1) | some n => _ : Int × Wd) = _
        rw [← HFO.out]
      obtain ⟨d, hd⟩ : ∃ d, d = pickD s.c.m W1 ⟨n, q⟩ := ⟨_, rfl⟩
      obtain ⟨W2, hW2⟩ : ∃ d, d = pickW s.c.m W1 ⟨n, q⟩ := ⟨_, rfl⟩
      have HD := Sb.hide hd
      have HW2 := Sb.hide hW2
      have n0 : (0 : Int) ≤ (n : Int) := by omega
      have HNV : Hid (nextV (some n) = (n : Int)) := rfl
      clear hd hW2 hfo hns hnl
      rw [HNV.out]
      go_wp2_with fail
      refine (pick_any s B hS K hK L2 _ W1 vt vx (Sb.hide HA.out.wd) (Sb.hide HA.out.wi) ⟨n, q⟩ d HD W2 HW2).mono ?_
      rintro e w3 ⟨rfl, L3, hwd3, hwi3, hex3, hkp3⟩
      have HWD3 := Sb.hide hwd3
      have HWI3 := Sb.hide hwi3
      have HEX3 : Hid (Ext L L3 w) := HA.out.ext.trans hex3 HA.out.kp.size
      have HKP3 := Sb.hide (HA.out.kp.trans HA.out.ext hkp3)
      clear hwd3 hwi3 hex3 hkp3
      have HBD : Hid (Below w3.heap.size w3 (w3.alloc (ddO d.err (d.steps : Int)))) := (Below.refl _ w3).alloc (Nat.le_refl _) _
      have c0 : (w3.alloc (ddO d.err (d.steps : Int))).cell? ⟨w3.heap.size, 0, none⟩ = some (.int .i64 d.err) := by simp [World.cell?_alloc_mark]
      by_cases he : refE s.c.m W1 ⟨n, q⟩ = 0
      · have hde : d.err = 0 := by rw [HD.out, pickD, if_pos he]
        have hds := (ran_few he).1
        have HR2 : Hid (R = settleW s.c.m q f' W2) := by unfold Hid; rw [HRR.out, if_pos he, ← HW2.out]
        have hps2 := (pick_steps s.c.m W1 ⟨n, q⟩).1
        have hpd : (pickD s.c.m W1 ⟨n, q⟩).steps = (ran s.c.m W1 ⟨n, q⟩).1 := by unfold pickD; rw [if_pos he]
        have hW2s : W1.steps + 1 ≤ W2.steps := by rw [HW2.out, hps2, hpd]; omega
        have e0 : (d.err != 0) = false := by simpa using hde
        clear he hde hds hps2 hpd
        go_wp2_with fail
        generalize w3.alloc (ddO d.err (d.steps : Int)) = WA at *
        refine (following_any s B hS K hK L3 _ W2 vt vx (Sb.hide (HWD3.out.below HBD.out)) HWI3 _ (Sb.hide rfl)).mono ?_
        rintro e w4 ⟨rfl, hb4⟩
        have HREL : Hid (SeAt s B K L w vt vx q R (.int .i64 (nextV (following s.c.m W2))) W2 L3 f' w4) := ⟨(HWD3.out.below HBD.out).below hb4, HWI3.out, HEX3.out, (HKP3.out.trans HEX3.out (.of_below HBD.out)).trans HEX3.out (.of_below hb4), HR2.out, by omega, rfl⟩
        have hms4 := HREL.out.wd.stepsAt
        have hst4 := HREL.out.wi.steps
        have HMS := Sb.hide (show 20001 - stepsAt s.WB w4 < 20001 - stepsAt s.WB wr by rw [hms4, hms]; omega)
        clear hb4 hms4
        go_wp2
        go_roundw
        case rel => exact ⟨W2, L3, f', HREL.out⟩
        case measure => exact HMS.out
      · have hde : d.err = refE s.c.m W1 ⟨n, q⟩ := by rw [HD.out, pickD, if_neg he]
        have e0 : (d.err != 0) = true := by rw [hde]; simpa using he
        have HR2 : Hid (R = (d.err, W2)) := by
          unfold Hid
          rw [HRR.out, if_neg he, hde, HW2.out, pickW, if_neg he]
        clear he hde
        go_wp2
        go_ret
        rw [HR2.out]
        exact ⟨rfl, L3, HWD3.out.below HBD.out, HWI3.out, HEX3.out, HKP3.out.trans HEX3.out (.of_below HBD.out)⟩
end Go.Proofs.YtekjhefmhhcboaaGreat.Vw

