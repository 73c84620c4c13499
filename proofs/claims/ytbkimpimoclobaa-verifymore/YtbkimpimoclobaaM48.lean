/- For the walk of VerifyMore: what lies there behind each two appends. -/
import Derived.Test.YtbkimpimoclobaaM47
namespace Go.Proofs.Ytbkimpimoclobaa
open Go.RowKit

def Vf.moreM (m : Vf.Md) (p : Nat) (u : Vf.Un) : Vf.Md := ⟨m.boxes ++ [⟨2, 1⟩], (m.units ++ [Vf.smallU]).set p (Vf.addC u)⟩
theorem Vf.moreM_more {m : Vf.Md} {p : Nat} {u : Vf.Un} (hu : m.units[p]? = some u) (hb : m.boxes.length < 30) (hn : m.units.length < 30) (hc : u.code.length + 2 ≤ 4000) : Vf.More m (Vf.moreM m p u) := by
  have hp := (List.getElem?_eq_some_iff.1 hu).1
  refine ⟨rfl, hb, hn, by simp [Vf.moreM], ?_, fun k x v hx hv => ?_⟩
  · show ((m.units ++ [Vf.smallU]).set p (Vf.addC u))[m.units.length]? = _
    rw [List.getElem?_set_ne (by omega), List.getElem?_append_right (Nat.le_refl _)]
    simp
  · have hv' : ((m.units ++ [Vf.smallU]).set p (Vf.addC u))[k]? = some v := hv
    have hk := (List.getElem?_eq_some_iff.1 hx).1
    by_cases hkp : k = p
    · subst hkp
      rw [List.getElem?_set_self (by simp; omega)] at hv'
      cases hv'
      rw [hu] at hx
      cases hx
      exact ⟨Vf.Ext.add _, .inr (by simp [Vf.addC]; omega)⟩
    · rw [List.getElem?_set_ne (by omega), List.getElem?_append_left hk, hx] at hv'
      cases hv'
      exact ⟨Vf.Ext.refl _, .inl rfl⟩

theorem am_set0 {w : World} {N : Nat} {x y : Value} (h : w.heap[N]? = some (.cells #[x, y] 25 (0, 0))) (z : Value) : (w.setCell ⟨N, 0, none⟩ z).heap[N]? = some (.cells #[z, y] 25 (0, 0)) := by
  simp only [World.setCell, Array.getElem?_modify, if_true, h, Option.map_some]
  rfl
theorem am_frozen {w : World} {N : Nat} {x y : Value} (h : w.heap[N]? = some (.cells #[x, y] 25 (0, 0))) (o : Nat) : w.frozen? ⟨N, o, none⟩ = false := by
  simp [World.frozen?, h]
theorem set_far {w : World} {N o j : Nat} {v : Value} (h : j ≠ N) : (w.setCell ⟨N, o, none⟩ v).heap[j]? = w.heap[j]? := Below.heap_setCell _ ⟨N, o, none⟩ _ _ (by show j ≠ N; exact h)

structure VB (m : Vf.Md) (au : Option Addr) (cu : Nat) (w w2 : World) (g1 cap1 : Nat) (W : World) : Prop where
  blk : W.heap[w2.heap.size]? = some (.cells #[.slice (some ⟨g1, 0, none⟩) (m.boxes.length + 1) cap1, .slice au m.units.length cu] 25 (0, 0))
  row : ∃ cur : List Value, W.heap[g1]? = some (.cells (List.toArray cur) 37 (0, 0)) ∧ cur.take ((m.boxes.length + 1) * 2) = (m.boxes ++ [(⟨2, 1⟩ : Vf.Bx)]).flatMap bxC
  low : ∀ j, j < w2.heap.size → W.heap[j]? = w2.heap[j]?
  grown : w.grownBy W none
  gt : w2.heap.size + 1 ≤ g1
theorem vm_boxes {m : Vf.Md} {ab au : Option Addr} {cb cu : Nat} {w w2 W3 w4 w5 : World} {v1 v2 : Value} {bo : Obj} (h3 : w2.grownBy W3 none) (hz3 : W3.heap.size = w2.heap.size + 1 + 1) (hN3 : W3.heap[w2.heap.size]? = some (amO m ab au cb cu))
    (own1 : w4.ownsRow (w2.heap.size + 1) 37 2 v1 (0 + m.boxes.length) ([] ++ m.boxes.flatMap bxC)) (hgr1 : W3.grownBy w4 (some (w2.heap.size + 1)))
    (own2 : w5.ownsRow (w2.heap.size + 1) 37 2 v2 (0 + m.boxes.length + 1) ([] ++ m.boxes.flatMap bxC ++ [.int .i64 2, .int .i64 1])) (hgr2 : (w4.alloc bo).grownBy w5 v1.ownBlock) (hg2 : w.grownBy w2 none) :
    ∃ g1 cap1 W, v2 = .slice (some ⟨g1, 0, none⟩) (m.boxes.length + 1) cap1 ∧ w5.setCell ⟨w2.heap.size, 0, none⟩ (.slice (some ⟨g1, 0, none⟩) (m.boxes.length + 1) cap1) = W ∧ VB m au cu w w2 g1 cap1 W ∧ w5.cell? ⟨w2.heap.size, 0, none⟩ = some (.slice ab m.boxes.length cb) ∧ w5.frozen? ⟨w2.heap.size, 0, none⟩ = false := by
  have hz := hg2.size
  have hz4 := hgr1.size
  have kp : ∀ j, j < w2.heap.size + 1 → w5.heap[j]? = W3.heap[j]? := fun j hj => by
    have e1 : w5.heap[j]? = (w4.alloc bo).heap[j]? := hgr2.block j (by simp; omega) (fun e => by have := (own_block own1 j e.symm).1; omega)
    rw [e1, Below.heap_alloc _ _ _ (by omega)]
    exact hgr1.block j (by omega) (by simp; omega)
  have hN5 : w5.heap[w2.heap.size]? = some (amO m ab au cb cu) := (kp _ (by omega)).trans hN3
  obtain ⟨e0, _, _⟩ := am_cells hN5
  obtain ⟨g1, cap1, cur, rfl, hg1, _, hb, ht, hl⟩ := own_row own2 (by omega)
  have hG : w.grownBy w5 none := by
    have h4 : w.grownBy w4 none := grown0_any (grown0_tr' hg2 h3) hgr1 (fun j e => by cases e; omega)
    exact grown0_any (grown0_new h4 bo) hgr2 (fun j e => by have := (own_block own1 j e).1; omega)
  refine ⟨g1, cap1, _, by rw [Nat.zero_add], rfl, ⟨am_set0 hN5 _, ⟨cur, (set_far (by omega)).trans hb, ?_⟩, fun j hj => (set_far (by omega)).trans ((kp j (by omega)).trans (kept0 h3 hj)), grown0_setN hG hz _ _, hg1⟩, e0, am_frozen hN5 _⟩
  rw [Nat.zero_add] at ht
  rw [ht]
  simp

structure VU (m : Vf.Md) (us : List UV) (c : Nat) (w w2 : World) (g1 cap1 g2 cap2 : Nat) (W : World) : Prop where
  blk : W.heap[w2.heap.size]? = some (.cells #[.slice (some ⟨g1, 0, none⟩) (m.boxes.length + 1) cap1, .slice (some ⟨g2, 0, none⟩) (m.units.length + 1) cap2] 25 (0, 0))
  row : ∃ cur : List Value, W.heap[g1]? = some (.cells (List.toArray cur) 37 (0, 0)) ∧ cur.take ((m.boxes.length + 1) * 2) = (m.boxes ++ [(⟨2, 1⟩ : Vf.Bx)]).flatMap bxC
  ts : TsIn w.heap.size W g2 (us ++ [smUV c])
  low : ∀ j, j < w2.heap.size → W.heap[j]? = w2.heap[j]?
  grown : w.grownBy W none
  gt1 : w2.heap.size + 1 ≤ g1
  gt2 : g1 < g2
theorem vm_units {m : Vf.Md} {us : List UV} {au : Option Addr} {cu c g1 cap1 : Nat} {w w2 W6 W7 w8 w9 w10 : World} {v3 v4 : Value} {uo : Obj} (hB : VB m au cu w w2 g1 cap1 W6) (hun : ∀ (i : Nat) (x : UV), us[i]? = some x → UnIn w.heap.size w2 x.u x.al x.ac x.cl x.cc) (hl : us.length = m.units.length) (hw : w.heap.size ≤ w2.heap.size)
    (h7 : W6.grownBy W7 none) (own3 : w8.ownsRow W6.heap.size 35 6 v3 (0 + m.units.length) ([] ++ uvs us)) (hgr3 : W7.grownBy w8 (some W6.heap.size)) (hg9 : w8.grownBy w9 none) (hs : w9.heap[c]? = some (codO 28)) (hc : w8.heap.size ≤ c)
    (own4 : w10.ownsRow W6.heap.size 35 6 v4 (0 + m.units.length + 1) ([] ++ uvs us ++ uvC (smUV c))) (hgr4 : (w9.alloc uo).grownBy w10 v3.ownBlock) :
    ∃ g2 cap2 W, v4 = .slice (some ⟨g2, 0, none⟩) (m.units.length + 1) cap2 ∧ w10.setCell ⟨w2.heap.size, 1, none⟩ (.slice (some ⟨g2, 0, none⟩) (m.units.length + 1) cap2) = W ∧ VU m us c w w2 g1 cap1 g2 cap2 W ∧ w10.cell? ⟨w2.heap.size, 1, none⟩ = some (.slice au m.units.length cu) ∧ w10.frozen? ⟨w2.heap.size, 1, none⟩ = false := by
  have hA := lt_of_block hB.blk
  obtain ⟨cb, hcb, hcbt⟩ := hB.row
  have hg1l := lt_of_block hcb
  have hcl := lt_of_block hs
  have hz8 := hg9.size
  have hG : W6.grownBy w10 none := by
    have h4 : W6.grownBy w8 none := grown0_any h7 hgr3 (fun j e => by cases e; omega)
    exact grown0_any (grown0_new (grown0_tr' h4 hg9) uo) hgr4 (fun j e => (own_block own3 j e).1)
  have hN10 := (kept0 hG hA).trans hB.blk
  obtain ⟨_, e1, e2⟩ := am_cells hN10
  obtain ⟨g2, cap2, cur, rfl, hg2, _, hb, ht, hlen⟩ := own_row own4 (by omega)
  have hc10 : w10.heap[c]? = some (codO 28) := by
    have e : w10.heap[c]? = (w9.alloc uo).heap[c]? := hgr4.block c (by simp; omega) (fun e => by have := (own_block own3 c e.symm).2; omega)
    rw [e, Below.heap_alloc _ _ _ hcl]
    exact hs
  have hcA : w2.heap.size < c := by have h1 := hgr3.size; have h2 := h7.size; omega
  have lowW : ∀ j, j < w2.heap.size → (w10.setCell ⟨w2.heap.size, 1, none⟩ (.slice (some ⟨g2, 0, none⟩) (m.units.length + 1) cap2)).heap[j]? = w2.heap[j]? := fun j hj => (set_far (by omega)).trans ((kept0 hG (by omega)).trans (hB.low j hj))
  have hul : (us ++ [smUV c]).length = m.units.length + 1 := by simp [hl]
  refine ⟨g2, cap2, _, by rw [Nat.zero_add], rfl, ⟨am_set hN10 _, ⟨cb, (set_far (by have := hB.gt; omega)).trans ((kept0 hG hg1l).trans hcb), hcbt⟩, ⟨⟨cur, (set_far (by omega)).trans hb, ?_, ?_⟩, fun i x hx => ?_⟩, lowW, grown0_setN (grown0_tr' hB.grown hG) hw _ _, hB.gt, by omega⟩, e1, e2⟩
  · rw [Nat.zero_add] at ht
    rw [hul, ht]
    simp [uvs]
  · rw [hul]; omega
  · by_cases hi : i < us.length
    · rw [List.getElem?_append_left hi] at hx
      exact .inl ((hun i x hx).low (fun j hj => lowW j (by omega)))
    · have hlt := (List.getElem?_eq_some_iff.1 hx).1
      have : i = us.length := by rw [hul] at hlt; omega
      subst this
      rw [List.getElem?_append_right (Nat.le_refl _)] at hx
      simp at hx
      subst hx
      exact .inr ⟨c, rfl, (set_far (by omega)).trans hc10⟩

structure VC (m : Vf.Md) (p : Nat) (u : Vf.Un) (w w2 : World) (g1 cap1 g2 cap2 : Nat) (W : World) : Prop where
  blk : W.heap[w2.heap.size]? = some (.cells #[.slice (some ⟨g1, 0, none⟩) (m.boxes.length + 1) cap1, .slice (some ⟨g2, 0, none⟩) (m.units.length + 1) cap2] 25 (0, 0))
  md : ModIn W.heap.size W (Vf.moreM m p u) (some ⟨g1, 0, none⟩) (some ⟨g2, 0, none⟩)
  grown : w.grownBy W none
theorem vm_code {m : Vf.Md} {us : List UV} {ab au : Option Addr} {c g1 cap1 g2 cap2 p : Nat} {x : UV} {w w2 W11 W12 w13 w14 : World} {v5 v6 : Value} {io : Obj} (hU : VU m us c w w2 g1 cap1 g2 cap2 W11) (hm : ModIn w.heap.size w2 m ab au) (hus : us.map (·.u) = m.units) (hx : us[p]? = some x) (hux : UnIn w.heap.size w2 x.u x.al x.ac x.cl x.cc) (hw : w.heap.size ≤ w2.heap.size) (hb30 : m.boxes.length < 30) (hu30 : m.units.length < 30) (hc4 : x.u.code.length + 2 ≤ 4000)
    (h12 : W11.grownBy W12 none) (own5 : w13.ownsRow W11.heap.size 41 3 v5 (0 + x.u.code.length) ([] ++ x.u.code.flatMap inC)) (hgr5 : W12.grownBy w13 (some W11.heap.size))
    (own6 : w14.ownsRow W11.heap.size 41 3 v6 (0 + x.u.code.length + 2) ([] ++ x.u.code.flatMap inC ++ [.int .i64 7, .int .i64 0, .int .i64 0, .int .i64 5, .int .i64 0, .int .i64 0])) (hgr6 : (w13.alloc io).grownBy w14 v5.ownBlock) :
    ∃ g3 cap3 W, v6 = .slice (some ⟨g3, 0, none⟩) (x.u.code.length + 2) cap3 ∧ w14.setCell ⟨g2, p * 6 + 5, none⟩ (.slice (some ⟨g3, 0, none⟩) (x.u.code.length + 2) cap3) = W ∧ VC m p x.u w w2 g1 cap1 g2 cap2 W ∧ w14.cell? ⟨g2, p * 6 + 5, none⟩ = some (.slice x.ac x.u.code.length x.cc) ∧ w14.frozen? ⟨g2, p * 6 + 5, none⟩ = false := by
  have hA := lt_of_block hU.blk
  have h1 := hU.gt1
  have h2 := hU.gt2
  have hul : us.length = m.units.length := by rw [← hus]; simp
  have hp := (List.getElem?_eq_some_iff.1 hx).1
  have hxL : (us ++ [smUV c])[p]? = some x := by rw [List.getElem?_append_left hp]; exact hx
  have hG : W11.grownBy w14 none := by
    have h4 : W11.grownBy w13 none := grown0_any h12 hgr5 (fun j e => by cases e; omega)
    exact grown0_any (grown0_new h4 io) hgr6 (fun j e => (own_block own5 j e).1)
  have hts : TsIn w.heap.size w14 g2 (us ++ [smUV c]) := hU.ts.keep hU.grown.size hG
  obtain ⟨cur, hb, ht, hlen⟩ := hts.blk
  have hg2l : g2 < W11.heap.size := by obtain ⟨cur', hb', _⟩ := hU.ts.blk; exact lt_of_block hb'
  have hcell : w14.cell? ⟨g2, p * 6 + 5, none⟩ = some (.slice x.ac x.u.code.length x.cc) := by
    have h5 := uvs_at (us ++ [smUV c]) p x hxL 5 (by decide)
    have hpl : p * 6 + 5 < (us ++ [smUV c]).length * 6 := by simp; omega
    have h6 : w14.cell? ⟨g2, p * 6 + 5, none⟩ = (uvC x)[5]? := by
      rw [← h5, ← ht, List.getElem?_take, if_pos hpl]
      simp [World.cell?, hb]
    exact h6
  obtain ⟨g3, cap3, cur3, rfl, hg3, hcap3, hb3, ht3, hl3⟩ := own_row own6 (by omega)
  have hsz : (w14.setCell ⟨g2, p * 6 + 5, none⟩ (.slice (some ⟨g3, 0, none⟩) (x.u.code.length + 2) cap3)).heap.size = w14.heap.size := by simp [World.setCell]
  have hgs : w14.grownBy (w14.setCell ⟨g2, p * 6 + 5, none⟩ (.slice (some ⟨g3, 0, none⟩) (x.u.code.length + 2) cap3)) (some g2) := grown_set (grown_refl _ _) _ _
  have hGw : w.grownBy w14 none := grown0_tr' hU.grown hG
  have hGW : w.grownBy (w14.setCell ⟨g2, p * 6 + 5, none⟩ (.slice (some ⟨g3, 0, none⟩) (x.u.code.length + 2) cap3)) none := grown0_up hGw hgs (by omega)
  refine ⟨g3, cap3, _, by rw [Nat.zero_add], rfl, ?_, hcell, by simp [World.frozen?, hb]⟩
  generalize hW : w14.setCell ⟨g2, p * 6 + 5, none⟩ (.slice (some ⟨g3, 0, none⟩) (x.u.code.length + 2) cap3) = W at *
  have far : ∀ j, j ≠ g2 → W.heap[j]? = w14.heap[j]? := fun j hj => by rw [← hW]; exact set_far hj
  have lowW : ∀ j, j < w2.heap.size → W.heap[j]? = w2.heap[j]? := fun j hj => (far j (by omega)).trans ((kept0 hG (by omega)).trans (hU.low j hj))
  have hwW := hGW.size
  refine ⟨(far _ (by omega)).trans ((kept0 hG hA).trans hU.blk), ⟨⟨?_, ?_⟩, ?_, ?_⟩, hGW⟩
  · simp [Vf.moreM]; omega
  · simp [Vf.moreM]; omega
  · obtain ⟨cb, hcb, hcbt⟩ := hU.row
    refine boxes_row (cur := cb) ((far g1 (by omega)).trans ((kept0 hG (lt_of_block hcb)).trans hcb)) (by show cb.take ((m.boxes ++ [(⟨2, 1⟩ : Vf.Bx)]).length * 2) = _; rw [List.length_append]; exact hcbt) (fun y hy => ?_)
    rcases List.mem_append.1 hy with h5 | h5
    · obtain ⟨i, hi⟩ := List.getElem?_of_mem h5
      obtain ⟨h6, h7, _⟩ := hm.boxes i y hi
      exact ⟨h6, h7⟩
    · simp at h5
      subst h5
      exact ⟨by decide, by decide⟩
  · have hmap : (((us ++ [smUV c]).set p ⟨Vf.addC x.u, x.al, some ⟨g3, 0, none⟩, x.cl, cap3⟩).map (·.u)) = (Vf.moreM m p x.u).units := by
      show _ = (m.units ++ [Vf.smallU]).set p (Vf.addC x.u)
      rw [← hus, List.map_set, List.map_append]
      rfl
    rw [← hmap]
    refine UsIn.units (cap := cap2) ⟨⟨cur.set (p * 6 + 5) (.slice (some ⟨g3, 0, none⟩) (x.u.code.length + 2) cap3), ?_, ?_, by simp at hlen ⊢; omega⟩, fun i y hy => ?_⟩ (Nat.le_refl _)
    · rw [← hW]
      exact set_row hb _ _
    · rw [List.length_set, uvs_set5 (Vf.addC x.u) (some ⟨g3, 0, none⟩) cap3 x rfl rfl rfl rfl rfl _ p hxL, ← ht]
      simp only [List.take_set]
      simp [Vf.addC]
    · by_cases hip : i = p
      · subst hip
        rw [List.getElem?_set_self (by simp; omega)] at hy
        cases hy
        have hlo := hux.low (w' := W) (fun j hj => lowW j (by omega))
        refine ⟨hlo.nums, ⟨hlo.few.1, by simp [Vf.addC]; omega⟩, ⟨hlo.caps.1, by simp [Vf.addC]; omega⟩, (hlo.mono hwW).locals, ?_⟩
        refine code_row (cur := cur3) ((far g3 (by omega)).trans hb3) ?_ (fun y hy => ?_)
        · show cur3.take ((x.u.code ++ [(⟨7, 0, 0⟩ : Vf.Ins), ⟨5, 0, 0⟩]).length * 3) = _
          rw [Nat.zero_add] at ht3
          rw [List.length_append]
          show cur3.take ((x.u.code.length + 2) * 3) = _
          rw [ht3]
          simp [Vf.addC]
        · rcases List.mem_append.1 hy with h5 | h5
          · obtain ⟨k, hk⟩ := List.getElem?_of_mem h5
            obtain ⟨h6, h7, h8, _⟩ := hux.code k y hk
            exact ⟨h6, h7, h8⟩
          · simp at h5
            rcases h5 with rfl | rfl <;> exact ⟨by decide, by decide, by decide⟩
      · rw [List.getElem?_set_ne (by omega)] at hy
        rcases hts.un i y hy with h4 | ⟨c', rfl, h4⟩
        · exact (h4.low (fun j hj => far j (by omega))).mono hwW
        · have hne : c' ≠ g2 := fun e => by subst e; rw [hb] at h4; cases h4
          exact small_un2 ((far c' hne).trans h4)

end Go.Proofs.Ytbkimpimoclobaa

