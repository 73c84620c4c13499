/- The walk of SchedCounts: NO PICK OVERDOES. -/
import Derived.Test.YtekjhefmhhcboaaGreatM38
import Derived.Test.YtekjhefmhhcboaaGreatM33
import Derived.Laws.OwnMore
import Derived.Laws.AppendOwnNone
namespace Go.Proofs.YtekjhefmhhcboaaGreat.Vw
open Go.RowKit Vf Vm

theorem sumD_take : ∀ (l : List Dd) (k : Nat) d, l[k]? = some d → sumD (l.take (k + 1)) = sumD (l.take k) + d.steps
  | x :: l, 0, d, h => by simp at h; subst h; simp [sumD]
  | x :: l, k + 1, d, h => by
    have := sumD_take l k d (by simpa using h)
    simp only [List.take_succ_cons, sumD, this]
    omega
theorem sumD_le : ∀ (l : List Dd) (k : Nat), sumD (l.take k) ≤ sumD l
  | [], k => by simp
  | x :: l, 0 => by simp [sumD]
  | x :: l, k + 1 => by
    have := sumD_le l k
    simp only [List.take_succ_cons, sumD]
    omega
theorem ddCells_at : ∀ (l : List Dd) (k : Nat) d, l[k]? = some d → (ddCells l)[k * 2]? = some (.int .i64 d.err) ∧ (ddCells l)[k * 2 + 1]? = some (.int .i64 (d.steps : Int))
  | x :: l, 0, d, h => by simp at h; subst h; simp [ddCells, ddc]
  | x :: l, k + 1, d, h => by
    have := ddCells_at l k d (by simpa using h)
    have e : ddCells (x :: l) = .int .i64 x.err :: .int .i64 (x.steps : Int) :: ddCells l := by simp [ddCells, ddc]
    rw [e, show (k + 1) * 2 = k * 2 + 1 + 1 by omega]
    simpa using this

set_option maxRecDepth 100000 in
set_option maxHeartbeats 2000000 in
theorem counts_any (m : Md) (ab au : Option Addr) (cb cu : Nat) (ps : List Pk) (a : Option Addr) (cap : Nat) (w : World) (hmd : ModIn w.heap.size w m ab au) (hps : PkIn w.heap.size w ps a) :
    Calls Tryz.prog 5 #[mdV m ab au cb cu, .slice a ps.length cap] w fun e w' => e = .returned (.bool true) ∧ Below w.heap.size w w' := by
  have HMD := Sb.hide hmd
  have HPS := Sb.hide hps
  obtain ⟨E, hE⟩ : ∃ E, E = wrongE m ps.length := ⟨_, rfl⟩
  have HE := Sb.hide hE
  have HB0 : Hid (Below w.heap.size w (w.alloc (mdB m ab au cb cu))) := (Below.refl _ w).alloc (Nat.le_refl _) _
  have HM0 : Hid ((w.alloc (mdB m ab au cb cu)).heap[w.heap.size]? = some (mdB m ab au cb cu)) := heap_alloc_new w _
  clear hmd hps hE
  go_enter Tryz.func5, Tryz.ntmps5
  go_wp2_with fail
  generalize w.alloc (mdB m ab au cb cu) = W0 at *
  refine (alive_any _).mono ?_
  rintro e w1 ⟨rfl, hb1⟩
  have HB1 := Sb.hide (HB0.out.trans (hb1.mono HB0.out.size))
  have hm1 := (hb1.block _ (lt_of_block HM0.out)).trans HM0.out
  have c1 := md_cells hm1
  clear hb1 hm1
  go_wp2_with fail
  refine (Run_any m ab au cb cu w.heap.size ps a cap _ (Sb.hide (HMD.out.low HB1.out.block)) (Sb.hide (HPS.out.low HB1.out.block)) HB1.out.size E HE).mono ?_
  rintro e w2 ⟨hb2, hr⟩
  have HB2 := Sb.hide (HB1.out.trans (hb2.mono HB1.out.size))
  clear hb2 c1
  rcases hr with ⟨h0, rfl⟩ | ⟨h0, vE, vB, vd, ov, bv, rfl, hEN, hD, _⟩
  · have e0 : (E != 0) = true := by simpa using h0
    clear h0
    go_wp2
    go_ret
    exact ⟨rfl, HB2.out.alloc HB2.out.size _⟩
  · obtain ⟨da, dc, rfl⟩ := own_slice hD
    obtain ⟨ea, ec, rfl⟩ := own_slice hEN.ends
    obtain ⟨ba, bc, rfl⟩ := own_slice hEN.bxs
    have HD := Sb.hide hD
    obtain ⟨D, hDD⟩ : ∃ D, D = runD m ps := ⟨_, rfl⟩
    have HDD := Sb.hide hDD
    have hlen : D.length = ps.length := by rw [hDD]; exact followD_len m _ _
    obtain ⟨hs1, hs2⟩ := follow_sum m (firstW m) ps
    have hs3 := hs2 (by show 0 ≤ 20000; omega)
    have hs4 : (runW m ps).steps = sumD D := by rw [hDD, hs1]; show (0 : Nat) + sumD _ = sumD _; exact Nat.zero_add _
    have hn : ps.length ≤ 400 := (wrongE_zero (by rw [← HE.out, h0])).2
    obtain ⟨S, hS⟩ : ∃ S, S = (runW m ps).steps := ⟨_, rfl⟩
    rw [← hS] at hs3 hs4
    rw [← hS]
    have HS4 := Sb.hide hs4
    obtain ⟨N, hN⟩ : ∃ N, N = ps.length := ⟨_, rfl⟩
    rw [← hN] at hlen hn ⊢
    have HN := Sb.hide hN
    have HLN := Sb.hide hlen
    subst h0
    have HAT : Hid (∀ (k : Nat) d p, D[k]? = some d → ps[k]? = some p → (d.err = 0 → 1 ≤ d.steps ∧ (d.steps : Int) ≤ p.q) ∧ (d.err ≠ 0 → d.steps = 0)) := fun k d p h1 h2 => followD_at m (firstW m) ps k p d h2 (by show (runD m ps)[k]? = some d; rw [← HDD.out]; exact h1)
    have HO2 : Hid ((w2.alloc (woO (.slice ea (runW m ps).ts.length ec) (.slice ba m.boxes.length bc) S)).heap[w2.heap.size]? = some (woO (.slice ea (runW m ps).ts.length ec) (.slice ba m.boxes.length bc) S)) := heap_alloc_new w2 _
    have HB3 : Hid (Below w2.heap.size w2 (w2.alloc (woO (.slice ea (runW m ps).ts.length ec) (.slice ba m.boxes.length bc) S))) := (Below.refl _ w2).alloc (Nat.le_refl _) _
    clear hD hEN hDD hs1 hs2 hs4 hN hlen hS
    go_wp2
    generalize w2.alloc (woO (.slice ea (runW m ps).ts.length ec) (.slice ba m.boxes.length bc) S) = W3 at *
    have HBW := Sb.hide (HB2.out.trans (HB3.out.mono HB2.out.size))
    have hz2 := HB2.out.size
    have hz3 := HB3.out.size
    go_loopw [8, 27] (fun vn v wr => ∃ k : Nat, v = .int .i64 k ∧ k ≤ N ∧ vn = .int .i64 (sumD (D.take k)) ∧ Below W3.heap.size W3 wr) (fun _ v _ => N - (intOf v).toNat)
    case atStart => exact ⟨0, rfl, Nat.zero_le _, by simp [sumD], .refl _ _⟩
    case round =>
      obtain ⟨k, rfl, hk, rfl, hb⟩ := hrel
      have HB := Sb.hide hb
      have hzb := hb.size
      have hle := sumD_le D k
      rw [← HS4.out] at hle
      clear hb
      by_cases hlt : k < N
      · obtain ⟨d, hd⟩ : ∃ d, D[k]? = some d := ⟨_, List.getElem?_eq_getElem (by have := HLN.out; omega)⟩
        obtain ⟨p, hp⟩ : ∃ p, ps[k]? = some p := ⟨_, List.getElem?_eq_getElem (by have := HN.out; omega)⟩
        obtain ⟨pb, po, rfl, hpb, y0, y1⟩ := HPS.out k p hp
        obtain ⟨h1, h2⟩ := HAT.out k d p hd hp
        have hcl := ddCells_at D k d hd
        rw [HDD.out] at hcl
        obtain ⟨g, rfl, x0⟩ := own_cellN HD.out hcl.1
        obtain ⟨g', eg, x1⟩ := own_cellN HD.out hcl.2
        cases eg
        have hgz : g < w2.heap.size := World.block_lt_of_cell? w2 _ x0
        have z0 : wr.cell? ⟨g, k * 2, none⟩ = some (.int .i64 d.err) := (cell_eq ((HB.out.block g (by omega)).trans (HB3.out.block g hgz)) _).trans x0
        have z1 : wr.cell? ⟨g, k * 2 + 1, none⟩ = some (.int .i64 d.steps) := (cell_eq ((HB.out.block g (by omega)).trans (HB3.out.block g hgz)) _).trans x1
        have hst := sumD_take D k d hd
        have hl2 := sumD_le D (k + 1)
        rw [← HS4.out] at hl2
        have HST := Sb.hide hst
        have HY : Hid ((wr.alloc (.cells #[.int .i64 d.err, .int .i64 d.steps] 44)).cell? ⟨pb, po + k * 2 + 1, none⟩ = some (.int .i64 p.q)) := by
          have a1 : pb < wr.heap.size := by omega
          have a2 : pb < W3.heap.size := by omega
          have a3 : pb < w2.heap.size := by omega
          exact (cell_eq ((Below.heap_alloc wr _ _ a1).trans ((HB.out.block pb a2).trans ((HB3.out.block pb a3).trans (HB2.out.block pb hpb)))) _).trans y1
        have q0 : (wr.alloc (.cells #[.int .i64 d.err, .int .i64 d.steps] 44)).cell? ⟨wr.heap.size, 0, none⟩ = some (.int .i64 d.err) := by simp [World.cell?_alloc_mark]
        have q1 : (wr.alloc (.cells #[.int .i64 d.err, .int .i64 d.steps] 44)).cell? ⟨wr.heap.size, 1, none⟩ = some (.int .i64 d.steps) := by simp [World.cell?_alloc_mark]
        have q2 := HY.out
        have HBN : Hid (Below W3.heap.size W3 (wr.alloc (.cells #[.int .i64 d.err, .int .i64 d.steps] 44))) := HB.out.alloc hzb _
        have n0 : (0 : Int) ≤ (k : Int) := by omega
        have n1 : (k : Int) < (N : Int) := by omega
        obtain ⟨t, ht⟩ : ∃ t, t = sumD (D.take k) := ⟨_, rfl⟩
        rw [← ht] at hst hle HST ⊢
        clear hd hp y0 y1 x0 x1 hcl ht HY
        by_cases h0 : d.err = 0
        · obtain ⟨j1, j2⟩ := h1 h0
          have e0 : (d.err == 0) = true := by simpa using h0
          have e1 : decide ((d.steps : Int) < 1) = false := by simp; omega
          have e2 : decide (p.q < (d.steps : Int)) = false := by simp; omega
          have e3 : (d.err != 0) = false := by simpa using h0
          clear h1 h2 h0
          go_wp2
          generalize wr.alloc (.cells #[.int .i64 d.err, .int .i64 d.steps] 44) = W4 at *
          go_quiet (fail)
          go_wp2
          go_roundw
          case rel => exact ⟨k + 1, by go_num, hlt, by rw [HST.out]; simp, below_drewN HBN.out _⟩
          case measure => simp [intOf]; omega
        · have J1 := Sb.hide (h2 h0)
          have e0 : (d.err == 0) = false := by simpa using h0
          have e3 : (d.err != 0) = true := by simpa using h0
          have e4 : ((d.steps : Int) != 0) = false := by have := J1.out; simp; omega
          clear h1 h2 h0
          go_wp2
          generalize wr.alloc (.cells #[.int .i64 d.err, .int .i64 d.steps] 44) = W4 at *
          go_quiet (fail)
          go_wp2
          go_roundw
          case rel => exact ⟨k + 1, by go_num, hlt, by rw [HST.out]; simp, below_drewN HBN.out _⟩
          case measure => simp [intOf]; omega
      · have ek : k = N := by omega
        subst ek
        have es : sumD (D.take k) = S := by rw [← HLN.out, List.take_length]; exact HS4.out.symm
        rw [es]
        have k2 : wr.cell? ⟨w2.heap.size, 2, none⟩ = some (.int .i64 S) := by
          have h3 := HO2.out
          have := (HB.out.block _ (lt_of_block h3)).trans h3
          simp [World.cell?, this]
        have n1 : ¬ (k : Int) < (k : Int) := by omega
        have n2 : decide ((S : Int) ≤ 20000) = true := by simp; omega
        have HBE := Sb.hide (HBW.out.trans (HB.out.mono HBW.out.size))
        clear hlt es hle
        go_wp2
        go_ret
        exact ⟨rfl, HBE.out⟩
end Go.Proofs.YtekjhefmhhcboaaGreat.Vw

/- Picks of one's own; the walk of SchedRefused: WHAT IS REFUSED CHANGES NOTHING. -/
namespace Go.Proofs.YtekjhefmhhcboaaGreat.Vw
open Go.RowKit Vf Vm

theorem mod_up {B B' : Nat} {w : World} {m : Md} {ab au : Option Addr} (h : ModIn B w m ab au) (hB : B ≤ B') : ModIn B' w m ab au := by
  refine ⟨h.few, fun i x hx => ?_, fun i u hu => ?_⟩
  · obtain ⟨h1, h2, b, off, e, hb, c⟩ := h.boxes i x hx
    exact ⟨h1, h2, b, off, e, by omega, c⟩
  · obtain ⟨b, off, al, cl, ac, cc, e, hb, hU, c⟩ := h.units i u hu
    refine ⟨b, off, al, cl, ac, cc, e, by omega, ⟨hU.nums, hU.few, hU.caps, fun j x hx => ?_, fun j x hx => ?_⟩, c⟩
    · obtain ⟨h1, b, off, e, hb, c⟩ := hU.locals j x hx
      exact ⟨h1, b, off, e, by omega, c⟩
    · obtain ⟨h1, h2, h3, b, off, e, hb, c⟩ := hU.code j x hx
      exact ⟨h1, h2, h3, b, off, e, by omega, c⟩

theorem Tryz.info41 : (Tryz.prog.info? 41).map (fun i => (i.zero, i.size, i.bytes)) = some (some (.agg #[.int .i64 0, .int .i64 0]), 2, 16) := by kernel_rfl
def pkc (p : Pk) : List Value := [.int .i64 p.task, .int .i64 p.q]
def pkCells (l : List Pk) : List Value := l.flatMap pkc
theorem pkCells_app (l : List Pk) (p : Pk) : pkCells (l ++ [p]) = pkCells l ++ pkc p := by simp [pkCells]
theorem pkCells_at : ∀ (l : List Pk) (k : Nat) p, l[k]? = some p → (pkCells l)[k * 2]? = some (.int .i64 p.task) ∧ (pkCells l)[k * 2 + 1]? = some (.int .i64 p.q)
  | x :: l, 0, d, h => by simp at h; subst h; simp [pkCells, pkc]
  | x :: l, k + 1, d, h => by
    have := pkCells_at l k d (by simpa using h)
    have e : pkCells (x :: l) = .int .i64 x.task :: .int .i64 x.q :: pkCells l := by simp [pkCells, pkc]
    rw [e, show (k + 1) * 2 = k * 2 + 1 + 1 by omega]
    simpa using this
theorem pk_news (W : World) (d : Pk) : ∀ j u, (pkc d)[j]? = some u → (W.alloc (.cells #[.int .i64 d.task, .int .i64 d.q] 41)).cell? ((⟨W.heap.size, 0, none⟩ : Addr).add j) = some u := by
  intro j u hu
  rw [add_none, World.cell?_alloc_mark]
  match j, hu with
  | 0, hu => simpa [pkc] using hu
  | 1, hu => simpa [pkc] using hu
  | j + 2, hu => simp [pkc] at hu
theorem pk_one (d : Pk) : ∀ u ∈ pkc d, u.oneCell' = true := by
  intro u hu
  simp [pkc] at hu
  rcases hu with rfl | rfl <;> rfl
/-- Picks of one's own are picks in memory. -/
theorem own_picks {w : World} {B : Nat} {v : Value} {l : List Pk} (h : w.ownsRow B 41 2 v l.length (pkCells l)) : ∃ a c, v = .slice a l.length c ∧ PkIn w.heap.size w l a := by
  obtain ⟨a, c, rfl⟩ := own_slice h
  refine ⟨a, c, rfl, fun i p hp => ?_⟩
  have hc := pkCells_at l i p hp
  obtain ⟨g, rfl, c0⟩ := own_cellN h hc.1
  obtain ⟨g', e, c1⟩ := own_cellN h hc.2
  cases e
  exact ⟨g, 0, rfl, World.block_lt_of_cell? w _ c0, by rw [Nat.zero_add]; exact c0, by rw [Nat.zero_add]; exact c1⟩

/-- The first k picks that are not refused. -/
def gd (ps : List Pk) (D : List Dd) (k : Nat) : List Pk := (((ps.zip D).take k).filter (fun x => x.2.err == 0)).map (·.1)
theorem gd_succ {ps : List Pk} {D : List Dd} {k : Nat} {p : Pk} {d : Dd} (hp : ps[k]? = some p) (hd : D[k]? = some d) : gd ps D (k + 1) = gd ps D k ++ if d.err == 0 then [p] else [] := by
  unfold gd
  have e : (ps.zip D)[k]? = some (p, d) := by rw [List.getElem?_zip_eq_some]; exact ⟨hp, hd⟩
  rw [List.take_add_one, e, List.filter_append, List.map_append]
  congr 1
  by_cases h : d.err == 0
  · simp [h]
  · simp [h]
theorem gd_all (m : Md) : ∀ (w : Wd) (ps : List Pk), gd ps (followD m w ps) ps.length = good m w ps
  | _, [] => rfl
  | w, p :: ps => by
    unfold gd
    show List.map _ (List.filter _ (List.take (ps.length + 1) ((p :: ps).zip (pickD m w p :: followD m (pickW m w p) ps)))) = _
    rw [List.zip_cons_cons, List.take_succ_cons, List.filter_cons]
    unfold good
    have ih := gd_all m (pickW m w p) ps
    unfold gd at ih
    by_cases h : (pickD m w p).err = 0
    · rw [if_pos (by simpa using h), if_pos h, List.map_cons, ih]
    · rw [if_neg (by simpa using h), if_neg h, ih, pickW_no h]
theorem gd_len (ps : List Pk) (D : List Dd) (k : Nat) : (gd ps D k).length ≤ k := by
  unfold gd
  rw [List.length_map]
  refine Nat.le_trans (List.length_filter_le _ _) ?_
  simp
  omega
theorem good_len (m : Md) (w : Wd) (ps : List Pk) : (good m w ps).length ≤ ps.length := by rw [← gd_all]; exact gd_len _ _ _

/-- How long what is seen of a world may be. -/
theorem wi_few {m : Md} {K : KM} {W : Wd} (h : WI m K W) (hv : verify m = (0, 0, 0)) : W.ts.length ≤ 1000 ∧ W.x.length = m.boxes.length ∧ m.boxes.length ≤ 30 ∧ (∀ t ∈ W.ts, t.out.length ≤ 1000000) ∧ ∀ q ∈ W.x, q.ws.length ≤ 1000000 := by
  have hb := (known_of hv).2
  obtain ⟨t0, ht0⟩ : ∃ t, W.ts[0]? = some t := ⟨_, List.getElem?_eq_getElem h.few.1⟩
  have hM := h.tasks 0 t0 ht0
  have hst := h.steps
  refine ⟨by have := h.few.2; omega, hM.len, hb, fun t ht => ?_, fun q hq => ?_⟩
  · obtain ⟨o, ho⟩ := List.getElem?_of_mem ht
    have := (h.tasks o t ho).out
    omega
  · obtain ⟨i, hi⟩ := List.getElem?_of_mem hq
    obtain ⟨b, hb'⟩ : ∃ b, m.boxes[i]? = some b := ⟨_, List.getElem?_eq_getElem (by have := (List.getElem?_eq_some_iff.1 hi).1; have := hM.len; omega)⟩
    have h1 := hM.boxes i q b hi hb'
    have h2 := box_caps hv hb'
    omega

set_option maxRecDepth 100000 in
set_option maxHeartbeats 2000000 in
theorem refused_any (m : Md) (ab au : Option Addr) (cb cu : Nat) (ps : List Pk) (a : Option Addr) (cap : Nat) (w : World) (hmd : ModIn w.heap.size w m ab au) (hps : PkIn w.heap.size w ps a) :
    Calls Tryz.prog 6 #[mdV m ab au cb cu, .slice a ps.length cap] w fun e w' => e = .returned (.bool true) ∧ Below w.heap.size w w' := by
  obtain ⟨i0, hi, hz0, hz1, hz2⟩ := info_parts Tryz.info41
  have HMD := Sb.hide hmd
  have HPS := Sb.hide hps
  obtain ⟨E, hE⟩ : ∃ E, E = wrongE m ps.length := ⟨_, rfl⟩
  have HE := Sb.hide hE
  have HB0 : Hid (Below w.heap.size w (w.alloc (mdB m ab au cb cu))) := (Below.refl _ w).alloc (Nat.le_refl _) _
  have HM0 : Hid ((w.alloc (mdB m ab au cb cu)).heap[w.heap.size]? = some (mdB m ab au cb cu)) := heap_alloc_new w _
  clear hmd hps hE
  go_enter Tryz.func6, Tryz.ntmps6
  go_wp2_with fail
  generalize w.alloc (mdB m ab au cb cu) = W0 at *
  refine (alive_any _).mono ?_
  rintro e w1 ⟨rfl, hb1⟩
  have HB1 := Sb.hide (HB0.out.trans (hb1.mono HB0.out.size))
  have HM1 := Sb.hide ((hb1.block _ (lt_of_block HM0.out)).trans HM0.out)
  have c1 := md_cells HM1.out
  clear hb1
  go_wp2_with fail
  refine (Run_any m ab au cb cu w.heap.size ps a cap _ (Sb.hide (HMD.out.low HB1.out.block)) (Sb.hide (HPS.out.low HB1.out.block)) HB1.out.size E HE).mono ?_
  rintro e w2 ⟨hb2, hr⟩
  have HB2 := Sb.hide (HB1.out.trans (hb2.mono HB1.out.size))
  have HM2 := Sb.hide ((hb2.block _ (lt_of_block HM1.out)).trans HM1.out)
  clear hb2 c1
  rcases hr with ⟨h0, rfl⟩ | ⟨h0, vE, vB, vd, ov, bv, rfl, hEN, hD, K, hK, hWI⟩
  · have e0 : (E != 0) = true := by simpa using h0
    clear h0
    go_wp2
    go_ret
    exact ⟨rfl, HB2.out.alloc HB2.out.size _⟩
  · obtain ⟨da, dc, rfl⟩ := own_slice hD
    obtain ⟨ea, ec, rfl⟩ := own_slice hEN.ends
    obtain ⟨ba, bc, rfl⟩ := own_slice hEN.bxs
    have HD := Sb.hide hD
    obtain ⟨D, hDD⟩ : ∃ D, D = runD m ps := ⟨_, rfl⟩
    have HDD := Sb.hide hDD
    have hlen : D.length = ps.length := by rw [hDD]; exact followD_len m _ _
    obtain ⟨hvz, hn⟩ := wrongE_zero (m := m) (n := ps.length) (by rw [← HE.out, h0])
    have HVZ := Sb.hide hvz
    have HWI := Sb.hide hWI
    obtain ⟨t0, ht0⟩ : ∃ t, (runW m ps).ts[0]? = some t := ⟨_, List.getElem?_eq_getElem hWI.few.1⟩
    have hxl := (hWI.tasks 0 t0 ht0).len
    have HRD := Sb.hide (hEN.reads hxl)
    obtain ⟨S, hS⟩ : ∃ S, S = (runW m ps).steps := ⟨_, rfl⟩
    rw [← hS]
    have HSS := Sb.hide hS
    obtain ⟨N, hN⟩ : ∃ N, N = ps.length := ⟨_, rfl⟩
    rw [← hN] at hlen hn ⊢
    have HN := Sb.hide hN
    have HLN := Sb.hide hlen
    subst h0
    have HO2 : Hid ((w2.alloc (woO (.slice ea (runW m ps).ts.length ec) (.slice ba m.boxes.length bc) S)).heap[w2.heap.size]? = some (woO (.slice ea (runW m ps).ts.length ec) (.slice ba m.boxes.length bc) S)) := heap_alloc_new w2 _
    have HB3 : Hid (Below w2.heap.size w2 (w2.alloc (woO (.slice ea (runW m ps).ts.length ec) (.slice ba m.boxes.length bc) S))) := (Below.refl _ w2).alloc (Nat.le_refl _) _
    have f1 : ((N : Int) != (N : Int)) = false := by simp
    clear hD hEN hDD hN hlen hS hvz hWI ht0 hxl
    go_wp2
    generalize w2.alloc (woO (.slice ea (runW m ps).ts.length ec) (.slice ba m.boxes.length bc) S) = W3 at *
    have HBW := Sb.hide (HB2.out.trans (HB3.out.mono HB2.out.size))
    have hy2 := HB2.out.size
    have hy3 := HB3.out.size
    have HST : Hid (W3.ownsRow W3.heap.size 41 2 (.slice none 0 0) (gd ps D 0).length (pkCells (gd ps D 0))) := ⟨rfl, .inl ⟨rfl, rfl⟩⟩
    go_loopw [8, 31] (fun vg v wr => ∃ k : Nat, v = .int .i64 k ∧ k ≤ N ∧ Below W3.heap.size W3 wr ∧ wr.ownsRow W3.heap.size 41 2 vg (gd ps D k).length (pkCells (gd ps D k))) (fun _ v _ => N - (intOf v).toNat)
    case atStart => exact ⟨0, rfl, Nat.zero_le _, .refl _ _, HST.out⟩
    case round =>
      obtain ⟨k, rfl, hk, hb, hrow⟩ := hrel
      have HB := Sb.hide hb
      have HROW := Sb.hide hrow
      have hzb := hb.size
      have hgl := gd_len ps D k
      clear hb hrow HST
      by_cases hlt : k < N
      · obtain ⟨d, hd⟩ : ∃ d, D[k]? = some d := ⟨_, List.getElem?_eq_getElem (by have := HLN.out; omega)⟩
        obtain ⟨p, hp⟩ : ∃ p, ps[k]? = some p := ⟨_, List.getElem?_eq_getElem (by have := HN.out; omega)⟩
        obtain ⟨pb, po, rfl, hpb, y0, y1⟩ := HPS.out k p hp
        have hcl := ddCells_at D k d hd
        rw [HDD.out] at hcl
        obtain ⟨g, rfl, x0⟩ := own_cellN HD.out hcl.1
        have hgz : g < w2.heap.size := World.block_lt_of_cell? w2 _ x0
        have a1 : pb < wr.heap.size := by omega
        have a2 : pb < W3.heap.size := by omega
        have a3 : pb < w2.heap.size := by omega
        have a4 : g < wr.heap.size := by omega
        have a5 : g < W3.heap.size := by omega
        have z0 : wr.cell? ⟨pb, po + k * 2, none⟩ = some (.int .i64 p.task) := (cell_eq ((HB.out.block pb a2).trans ((HB3.out.block pb a3).trans (HB2.out.block pb hpb))) _).trans y0
        have z1 : wr.cell? ⟨pb, po + k * 2 + 1, none⟩ = some (.int .i64 p.q) := (cell_eq ((HB.out.block pb a2).trans ((HB3.out.block pb a3).trans (HB2.out.block pb hpb))) _).trans y1
        have z2 : (wr.alloc (pkO p)).cell? ⟨g, k * 2, none⟩ = some (.int .i64 d.err) := (cell_eq ((Below.heap_alloc wr _ _ a4).trans ((HB.out.block g a5).trans (HB3.out.block g hgz))) _).trans x0
        have HGS := Sb.hide (gd_succ hp hd)
        obtain ⟨G, hG⟩ : ∃ G, G = gd ps D k := ⟨_, rfl⟩
        rw [← hG] at HROW HGS hgl
        have n0 : (0 : Int) ≤ (k : Int) := by omega
        have n1 : (k : Int) < (N : Int) := by omega
        have hG4 : G.length ≤ 400 := by omega
        clear hd hp y0 y1 x0 hcl hG
        by_cases h0 : d.err = 0
        · have e0 : (d.err == 0) = true := by simpa using h0
          have HG1 : Hid (gd ps D (k + 1) = G ++ [p]) := by unfold Hid; rw [HGS.out, if_pos e0]
          have HRW : Hid (((wr.alloc (pkO p)).alloc (pkO p)).ownsRow W3.heap.size 41 2 u8 G.length (pkCells G)) := (HROW.out.alloc _).alloc _
          clear h0
          go_wp2_with (at_builtin; refine wpList_append_where rfl (.tmp 42) (.tmp 44) 26 rfl W3.heap.size 41 i0 (.agg #[.int .i64 0, .int .i64 0]) 2 16 Tryz.underlying26 hi hz0 hz1 hz2 rfl (by decide) u8 G.length (pkCells G) rfl HRW.out ⟨(wr.alloc (pkO p)).heap.size, 0, none⟩ 1 1 (pkc p) (by rw [show (wr.alloc (pkO p)).heap.size = wr.heap.size + 1 by simp]; rfl) rfl (pk_news (wr.alloc (pkO p)) p) (pk_one p) (by decide) (by unfold maxLen; omega) (by omega) (by simp; omega) ?_)
          intro R4 cap4 w4 hown4 hg4 hR4
          have HO4 : Hid (w4.ownsRow W3.heap.size 41 2 (.slice (some ⟨R4, 0, none⟩) (G.length + 1) cap4) (gd ps D (k + 1)).length (pkCells (gd ps D (k + 1)))) := by
            unfold Hid
            rw [HG1.out, pkCells_app, List.length_append]
            exact hown4
          have HB4 : Hid (Below W3.heap.size W3 w4) := ((HB.out.alloc hzb _).alloc (by simp; omega) _).grown hg4 (by simp; omega) (fun b hb => (HROW.out.lt b hb).1)
          clear hown4 hg4 hR4
          go_wp2
          go_roundw
          case rel => exact ⟨k + 1, by go_num, hlt, HB4.out, HO4.out⟩
          case measure => simp [intOf]; omega
        · have e0 : (d.err == 0) = false := by simpa using h0
          have HG1 : Hid (gd ps D (k + 1) = G) := by unfold Hid; rw [HGS.out, if_neg (by rw [e0]; simp), List.append_nil]
          clear h0
          have HO4 : Hid ((wr.alloc (pkO p)).ownsRow W3.heap.size 41 2 u8 (gd ps D (k + 1)).length (pkCells (gd ps D (k + 1)))) := by
            unfold Hid
            rw [HG1.out]
            exact HROW.out.alloc _
          have HB4 : Hid (Below W3.heap.size W3 (wr.alloc (pkO p))) := HB.out.alloc hzb _
          go_wp2
          go_roundw
          case rel => exact ⟨k + 1, by go_num, hlt, HB4.out, HO4.out⟩
          case measure => simp [intOf]; omega
      · have ek : k = N := by omega
        obtain ⟨G, hG⟩ : ∃ G, G = good m (firstW m) ps := ⟨_, rfl⟩
        have hgd : gd ps D k = G := by rw [ek, HN.out, HDD.out, hG]; exact gd_all m _ _
        rw [hgd] at HROW hgl
        obtain ⟨ga, gc, hgv, hgp⟩ := own_picks HROW.out
        subst hgv
        have HGP := Sb.hide hgp
        have HFG : Hid (runW m G = runW m ps) := by unfold Hid; rw [hG]; exact follow_good m _ _
        have hGn : G.length ≤ 400 := by omega
        have HE2 : Hid ((0 : Int) = wrongE m G.length) := by
          unfold Hid wrongE
          rw [if_neg (by rw [HVZ.out]; simp), if_neg (by omega)]
        have HBE := Sb.hide (HBW.out.trans (HB.out.mono HBW.out.size))
        have HMW := Sb.hide (mod_up (HMD.out.low HBE.out.block) HBE.out.size)
        have hm2z := lt_of_block HM2.out
        have hmw : wr.heap[w.heap.size]? = some (mdB m ab au cb cu) := (HB.out.block _ (by omega)).trans ((HB3.out.block _ hm2z).trans HM2.out)
        have c2 := md_cells hmw
        have HOW := Sb.hide ((HB.out.block _ (lt_of_block HO2.out)).trans HO2.out)
        have n1 : ¬ (k : Int) < (N : Int) := by omega
        clear hgd hG hmw hgp
        go_wp2_with fail
        refine (Run_any m ab au cb cu wr.heap.size G ga gc wr HMW HGP (Nat.le_refl _) 0 HE2).mono ?_
        rintro e w5 ⟨hb5, hr⟩
        rcases hr with ⟨h0, _⟩ | ⟨_, vE5, vB5, vd5, ov5, bv5, rfl, hEN5, hD5, _⟩
        · exact absurd rfl h0
        rw [HFG.out] at hEN5
        obtain ⟨q1, q2, q3, q4, q5⟩ := wi_few HWI.out HVZ.out
        have HRD5 := Sb.hide (hEN5.reads q2)
        have HB5 := Sb.hide (HBE.out.trans (hb5.mono HBE.out.size))
        have HRDa : Hid (WRd w5 m (runW m ps).ts (runW m ps).x (.slice ea (runW m ps).ts.length ec) (.slice ba m.boxes.length bc)) := ((HRD.out.below HB3.out).below HB.out).below hb5
        obtain ⟨ea5, ec5, rfl⟩ := own_slice hEN5.ends
        obtain ⟨ba5, bc5, rfl⟩ := own_slice hEN5.bxs
        obtain ⟨da5, dc5, rfl⟩ := own_slice hD5
        have how5 := (hb5.block _ (lt_of_block HOW.out)).trans HOW.out
        have z5 := (wo_cells how5).1
        have hz5 := lt_of_block how5
        rw [HFG.out, ← HSS.out]
        clear hb5 hEN5 hD5 c2 how5
        have HBF : Hid (Below w5.heap.size w5 (w5.alloc (woO (.slice ea5 (runW m ps).ts.length ec5) (.slice ba5 m.boxes.length bc5) S))) := (Below.refl _ w5).alloc (Nat.le_refl _) _
        go_wp2_with fail
        refine (sameW_any m (runW m ps).ts (runW m ps).x S _ _ _ _ _ (Sb.hide (HRDa.out.below HBF.out)) (Sb.hide (HRD5.out.below HBF.out)) q1 (by omega) (Sb.hide q4) (Sb.hide q5)).mono ?_
        rintro e w6 ⟨rfl, hb6⟩
        have HB6 := Sb.hide ((HB5.out.trans (HBF.out.mono HB5.out.size)).trans (hb6.mono (Nat.le_trans HB5.out.size HBF.out.size)))
        clear hb6
        go_wp2
        go_ret
        exact ⟨rfl, HB6.out⟩
end Go.Proofs.YtekjhefmhhcboaaGreat.Vw

/- Rows of one's own that are copied and changed. -/
namespace Go.Proofs.YtekjhefmhhcboaaGreat.Vw
open Go.RowKit Vf Vm

section
variable {P : Program} {w : World}
theorem run_append_nothing (base : Nat) (t ty e : TypeId) (i : TypeInfo) (size : Nat) (ht : P.underlying t = some (.slice e)) (hi : P.info? e = some i) (v : Value) (n : Nat) (xs : List Value) (hown : w.ownsRow base e size v n xs) (c : Nat) :
    (Builtin.append_ #[t, t] ty #[v, .slice none 0 c]).run P w = .ok v w := by
  rcases hown.2 with ⟨rfl, rfl⟩ | ⟨g, cap, cur, rfl, _, _, hnc, _⟩
  · simp [Builtin.append_, run_underlying ht, sizeOf, typeInfo, hi, Builtin.lenOf, Builtin.firstCells]
  · simp [Builtin.append_, run_underlying ht, sizeOf, typeInfo, hi, Builtin.lenOf, Builtin.firstCells, hnc, storeCells]
end
theorem own_empty (X : World) (e : TypeId) {M : Nat} (hM : M ≤ X.heap.size) (size : Nat) : (X.alloc (.cells #[] e)).ownsRow M e size (.slice (some ⟨X.heap.size, 0, none⟩) 0 0) 0 [] :=
  ⟨by simp, .inr ⟨X.heap.size, 0, #[], rfl, hM, heap_alloc_new X _, Nat.le_refl _, by unfold maxLen; omega, by simp, by simp⟩⟩
theorem fm_len {α : Type} (f : α → List Value) (k : Nat) (hf : ∀ x, (f x).length = k) (l : List α) : (l.flatMap f).length = l.length * k := by
  induction l with
  | nil => simp
  | cons x l ih => rw [List.flatMap_cons, List.length_append, ih, hf, List.length_cons, Nat.succ_mul]; omega
theorem fm_at {α : Type} (f : α → List Value) (k : Nat) (hf : ∀ x, (f x).length = k) : ∀ (l : List α) (i : Nat) (x : α), l[i]? = some x → ∀ j, j < k → (l.flatMap f)[i * k + j]? = (f x)[j]?
  | y :: l, 0, x, h, j, hj => by
    simp at h
    subst h
    rw [List.flatMap_cons, List.getElem?_append_left (by rw [hf]; omega)]
    simp
  | y :: l, i + 1, x, h, j, hj => by
    have := fm_at f k hf l i x (by simpa using h) j hj
    rw [List.flatMap_cons, Nat.succ_mul, List.getElem?_append_right (by rw [hf]; omega), ← this]
    congr 1
    rw [hf]
    omega
theorem fm_mem {α : Type} (f : α → List Value) (k : Nat) (h0 : 0 < k) (hf : ∀ x, (f x).length = k) {l : List α} {j : Nat} {v : Value} (h : (l.flatMap f)[j]? = some v) : ∃ i j' x, j = i * k + j' ∧ j' < k ∧ l[i]? = some x ∧ (f x)[j']? = some v := by
  have hlt := (List.getElem?_eq_some_iff.1 h).1
  rw [fm_len f k hf] at hlt
  have hi : j / k < l.length := (Nat.div_lt_iff_lt_mul h0).2 hlt
  have hm := Nat.mod_lt j h0
  have hx := List.getElem?_eq_getElem hi
  have e : j = j / k * k + j % k := by rw [Nat.mul_comm]; exact (Nat.div_add_mod j k).symm
  refine ⟨j / k, j % k, l[j / k], e, hm, hx, ?_⟩
  rw [← fm_at f k hf l _ _ hx _ hm, ← e]
  exact h
theorem pk_src {B : Nat} {w : World} {l : List Pk} {a : Option Addr} (h : PkIn B w l a) : ∀ ad, a = some ad → ∀ j v, (pkCells l)[j]? = some v → w.cell? (ad.add j) = some v := by
  intro ad ha j v hv
  obtain ⟨i, j', x, rfl, hj, hx, hv'⟩ := fm_mem pkc 2 (by decide) (fun _ => rfl) hv
  obtain ⟨b, off, e, _, c0, c1⟩ := h i x hx
  rw [ha] at e
  cases e
  rw [add_none]
  rcases (by omega : j' = 0 ∨ j' = 1) with rfl | rfl
  · rw [show off + (i * 2 + 0) = off + i * 2 by omega, c0]; exact hv'
  · rw [show off + (i * 2 + 1) = off + i * 2 + 1 by omega, c1]; exact hv'
theorem pks_one (l : List Pk) : ∀ v ∈ pkCells l, v.oneCell' = true := by
  intro v hv
  obtain ⟨x, _, hx⟩ := List.mem_flatMap.1 hv
  simp [pkc] at hx
  rcases hx with rfl | rfl <;> rfl
end Go.Proofs.YtekjhefmhhcboaaGreat.Vw

