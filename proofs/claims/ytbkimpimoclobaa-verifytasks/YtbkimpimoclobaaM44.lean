/- The walk of VerifyTasks. -/
import Derived.Test.YtbkimpimoclobaaM43
namespace Go.Proofs.Ytbkimpimoclobaa
open Go.RowKit

abbrev amO (m : Vf.Md) (ab au : Option Addr) (cb cu : Nat) : Obj := .cells #[.slice ab m.boxes.length cb, .slice au m.units.length cu] 25 (0, 0)
theorem am_cells {w : World} {N : Nat} {x y : Value} (h : w.heap[N]? = some (.cells #[x, y] 25 (0, 0))) : w.cell? ⟨N, 0, none⟩ = some x ∧ w.cell? ⟨N, 1, none⟩ = some y ∧ w.frozen? ⟨N, 1, none⟩ = false := by
  simp [World.cell?, World.frozen?, h]
theorem am_set {w : World} {N : Nat} {x y : Value} (h : w.heap[N]? = some (.cells #[x, y] 25 (0, 0))) (z : Value) : (w.setCell ⟨N, 1, none⟩ z).heap[N]? = some (.cells #[x, z] 25 (0, 0)) := by
  simp only [World.setCell, Array.getElem?_modify, if_true, h, Option.map_some]
  rfl
abbrev smUV (c : Nat) : UV := ⟨Vf.smallU, none, some ⟨c, 0, none⟩, 0, 3⟩
theorem small_un2 {w : World} {c : Nat} (hc : w.heap[c]? = some (codO 28)) : UnIn w.heap.size w Vf.smallU none (some ⟨c, 0, none⟩) 0 3 := by
  have hcl := lt_of_block hc
  refine ⟨⟨(by decide : I64 4), (by decide : I64 0), (by decide : I64 0), (by decide : I64 0)⟩, by decide, by decide, fun j y hy => by simp [Vf.smallU] at hy, fun j y hy => ?_⟩
  match j, hy with
  | 0, hy =>
    simp [Vf.smallU] at hy
    subst hy
    exact ⟨by decide, by decide, by decide, c, 0, rfl, by omega, by simp [World.cell?, hc], by simp [World.cell?, hc], by simp [World.cell?, hc]⟩
  | 1, hy =>
    simp [Vf.smallU] at hy
    subst hy
    exact ⟨by decide, by decide, by decide, c, 0, rfl, by omega, by simp [World.cell?, hc], by simp [World.cell?, hc], by simp [World.cell?, hc]⟩
  | 2, hy =>
    simp [Vf.smallU] at hy
    subst hy
    exact ⟨by decide, by decide, by decide, c, 0, rfl, by omega, by simp [World.cell?, hc], by simp [World.cell?, hc], by simp [World.cell?, hc]⟩
  | j + 3, hy => simp [Vf.smallU] at hy

/-- Units of two kinds: those that were there below B, and small ones. -/
structure TsIn (B : Nat) (w : World) (g : Nat) (L : List UV) : Prop where
  blk : ∃ cur : List Value, w.heap[g]? = some (.cells (List.toArray cur) 35 (0, 0)) ∧ cur.take (L.length * 6) = uvs L ∧ L.length * 6 ≤ cur.length
  un : ∀ (i : Nat) x, L[i]? = some x → UnIn B w x.u x.al x.ac x.cl x.cc ∨ ∃ c, x = smUV c ∧ w.heap[c]? = some (codO 28)
theorem TsIn.us {B : Nat} {w : World} {g cap : Nat} {L : List UV} (h : TsIn B w g L) (hB : B ≤ w.heap.size) : UsIn w.heap.size w g L cap :=
  ⟨h.blk, fun i x hx => by
    rcases h.un i x hx with h1 | ⟨c, rfl, h1⟩
    · exact h1.mono hB
    · exact small_un2 h1⟩
theorem TsIn.keep {B : Nat} {w w' : World} {g : Nat} {L : List UV} (h : TsIn B w g L) (hB : B ≤ w.heap.size) (hg : w.grownBy w' none) : TsIn B w' g L := by
  obtain ⟨cur, h1, h2, h3⟩ := h.blk
  refine ⟨⟨cur, (kept0 hg (lt_of_block h1)).trans h1, h2, h3⟩, fun i x hx => ?_⟩
  rcases h.un i x hx with h4 | ⟨c, rfl, h4⟩
  · exact .inl (h4.low (low0 hg hB))
  · exact .inr ⟨c, rfl, (kept0 hg (lt_of_block h4)).trans h4⟩
theorem TsIn.at {B : Nat} {w : World} {g k : Nat} {L : List UV} (h : TsIn B w g L) (hk : k < L.length) : ∃ y : UV, w.cell? ⟨g, k * 6, none⟩ = some (.int .i64 y.u.kind) ∧ w.cell? ⟨g, k * 6 + 1, none⟩ = some (.int .i64 y.u.params) ∧ w.cell? ⟨g, k * 6 + 2, none⟩ = some (.slice y.al y.u.locals.length y.cl) ∧ w.cell? ⟨g, k * 6 + 3, none⟩ = some (.int .i64 y.u.result) ∧ w.cell? ⟨g, k * 6 + 4, none⟩ = some (.int .i64 y.u.takes) ∧ w.cell? ⟨g, k * 6 + 5, none⟩ = some (.slice y.ac y.u.code.length y.cc) ∧ ∀ o, w.frozen? ⟨g, o, none⟩ = false := by
  obtain ⟨cur, h1, h2, h3⟩ := h.blk
  have hx := List.getElem?_eq_getElem hk
  have cell : ∀ j, j < 6 → w.cell? ⟨g, k * 6 + j, none⟩ = (uvC L[k])[j]? := fun j hj => by
    rw [← uvs_at L k _ hx j hj, ← h2, List.getElem?_take, if_pos (by omega)]
    simp [World.cell?, h1]
  exact ⟨L[k], cell 0 (by decide), cell 1 (by decide), cell 2 (by decide), cell 3 (by decide), cell 4 (by decide), cell 5 (by decide), fun o => by simp [World.frozen?, h1]⟩
abbrev sixS (w : World) (g k : Nat) (y : UV) : World := ((((((w.setCell ⟨g, k * 6, none⟩ (.int .i64 y.u.kind)).setCell ⟨g, k * 6 + 1, none⟩ (.int .i64 y.u.params)).setCell ⟨g, k * 6 + 2, none⟩ (.slice y.al y.u.locals.length y.cl)).setCell ⟨g, k * 6 + 3, none⟩ (.int .i64 y.u.result)).setCell ⟨g, k * 6 + 4, none⟩ (.int .i64 y.u.takes)).setCell ⟨g, k * 6 + 5, none⟩ (.slice y.ac y.u.code.length y.cc))
theorem six_grown (w : World) (g k : Nat) (y : UV) : w.grownBy (sixS w g k y) (some g) := grown_set (grown_set (grown_set (grown_set (grown_set (grown_set (grown_refl w g) _ _) _ _) _ _) _ _) _ _) _ _
theorem TsIn.put {B : Nat} {w : World} {g k c : Nat} {L : List UV} (h : TsIn B w g L) (hk : k < L.length) (hB : B ≤ g) (hc : w.heap[c]? = some (codO 28)) : TsIn B (sixS w g k (smUV c)) g (L.set k (smUV c)) := by
  obtain ⟨cur, h1, h2, h3⟩ := h.blk
  have hg := six_grown w g k (smUV c)
  have hcg : ∀ c', w.heap[c']? = some (codO 28) → (sixS w g k (smUV c)).heap[c']? = some (codO 28) := fun c' hc' => (hg.block c' (lt_of_block hc') (by
    intro e
    simp at e
    subst e
    rw [h1] at hc'
    cases hc')).trans hc'
  refine ⟨⟨(((((cur.set (k * 6) (.int .i64 (smUV c).u.kind)).set (k * 6 + 1) (.int .i64 (smUV c).u.params)).set (k * 6 + 2) (.slice (smUV c).al (smUV c).u.locals.length (smUV c).cl)).set (k * 6 + 3) (.int .i64 (smUV c).u.result)).set (k * 6 + 4) (.int .i64 (smUV c).u.takes)).set (k * 6 + 5) (.slice (smUV c).ac (smUV c).u.code.length (smUV c).cc), ?_, ?_, by simp; omega⟩, fun i x hx => ?_⟩
  · exact set_row (set_row (set_row (set_row (set_row (set_row h1 _ _) _ _) _ _) _ _) _ _) _ _
  · rw [List.length_set, uvs_set _ L k hk, ← h2]
    simp only [List.take_set]
  · by_cases hik : i = k
    · subst hik
      rw [List.getElem?_set_self hk] at hx
      cases hx
      exact .inr ⟨c, rfl, hcg c hc⟩
    · rw [List.getElem?_set_ne (by omega)] at hx
      rcases h.un i x hx with h4 | ⟨c', rfl, h4⟩
      · exact .inl (h4.low (fun j hj => hg.block j (by have := lt_of_block h1; omega) (by simp; omega)))
      · exact .inr ⟨c', rfl, hcg c' h4⟩

/-- At the head of the loop. -/
structure TaAt (m : Vf.Md) (us L : List UV) (B : Nat) (W5 : World) (g k : Nat) (t : Int) (W : World) : Prop where
  le : k ≤ m.units.length
  len : L.length = us.length
  same : ∀ (i : Nat) x y, us[i]? = some x → L[i]? = some y → y = x ∨ (x.u.kind = 4 ∧ y.u = Vf.smallU)
  ts : TsIn B W g L
  grown : W5.grownBy W (some g)
  cnt : 0 ≤ t ∧ t ≤ k ∧ (t = 0 → ∀ (i : Nat) u, i < k → m.units[i]? = some u → u.kind ≠ 4)
theorem TaAt.like {m : Vf.Md} {us L : List UV} {B : Nat} {W5 W : World} {g k : Nat} {t : Int} (h : TaAt m us L B W5 g k t W) (hus : us.map (·.u) = m.units) : Vf.Like m ⟨m.boxes, L.map (·.u)⟩ := by
  refine ⟨rfl, by rw [← hus]; simp [h.len], fun i u v hu hv => ?_⟩
  rw [← hus, List.getElem?_map] at hu
  obtain ⟨x, hx, rfl⟩ := Option.map_eq_some_iff.1 hu
  have hv' : (L.map (·.u))[i]? = some v := hv
  rw [List.getElem?_map] at hv'
  obtain ⟨y, hy, rfl⟩ := Option.map_eq_some_iff.1 hv'
  rcases h.same i x y hx hy with h1 | h1
  · exact .inl (by rw [h1])
  · exact .inr h1

theorem TaAt.skip {m : Vf.Md} {us L : List UV} {B : Nat} {W5 W W' : World} {g k : Nat} {t : Int} {u : Vf.Un} (h : TaAt m us L B W5 g k t W) (hB : B ≤ W.heap.size) (hu : m.units[k]? = some u) (h4 : u.kind ≠ 4) (hg : W.grownBy W' none) : TaAt m us L B W5 g (k + 1) t W' := by
  have hk := (List.getElem?_eq_some_iff.1 hu).1
  have hc := h.cnt
  refine ⟨by omega, h.len, h.same, h.ts.keep hB hg, grown_tr h.grown (grownM_of0 hg), hc.1, by omega, fun e i u' hi hu' => ?_⟩
  by_cases hik : i = k
  · subst hik
    rw [hu] at hu'
    cases hu'
    exact h4
  · exact hc.2.2 e i u' (by omega) hu'
theorem TaAt.count {m : Vf.Md} {us L : List UV} {B : Nat} {W5 W W' : World} {g k : Nat} {t : Int} {u : Vf.Un} (h : TaAt m us L B W5 g k t W) (hB : B ≤ W.heap.size) (hu : m.units[k]? = some u) (hg : W.grownBy W' none) : TaAt m us L B W5 g (k + 1) (t + 1) W' := by
  have hk := (List.getElem?_eq_some_iff.1 hu).1
  have hc := h.cnt
  exact ⟨by omega, h.len, h.same, h.ts.keep hB hg, grown_tr h.grown (grownM_of0 hg), by omega, by omega, fun e => by omega⟩
theorem TaAt.six {m : Vf.Md} {us L : List UV} {B : Nat} {W5 W W' : World} {g k c : Nat} {t : Int} {u : Vf.Un} (h : TaAt m us L B W5 g k t W) (hus : us.map (·.u) = m.units) (hB : B ≤ W.heap.size) (hBg : B ≤ g) (hu : m.units[k]? = some u) (h4 : u.kind = 4) (hg : W.grownBy W' none) (hc : W'.heap[c]? = some (codO 28)) : TaAt m us (L.set k (smUV c)) B W5 g (k + 1) (t + 1) (sixS W' g k (smUV c)) := by
  have hk := (List.getElem?_eq_some_iff.1 hu).1
  have hn := h.cnt
  have hl : us.length = m.units.length := by rw [← hus]; simp
  have hL := h.len
  refine ⟨by omega, by simp [hL], fun i x y hx hy => ?_, (h.ts.keep hB hg).put (by omega) hBg hc, grown_tr (grown_tr h.grown (grownM_of0 hg)) (six_grown _ _ _ _), by omega, by omega, fun e => by omega⟩
  by_cases hik : i = k
  · subst hik
    rw [List.getElem?_set_self (by omega)] at hy
    cases hy
    rw [← hus, List.getElem?_map, hx] at hu
    cases hu
    exact .inr ⟨h4, rfl⟩
  · rw [List.getElem?_set_ne (by omega)] at hy
    exact h.same i x y hx hy
theorem grown0_up {a b c : World} {N : Nat} (h : a.grownBy b none) (k : b.grownBy c (some N)) (hN : a.heap.size ≤ N) : a.grownBy c none := h.andThen k (fun j e => by cases e; exact .inl hN)
/-- What lies there behind the append. -/
structure VtAt (m : Vf.Md) (us : List UV) (ab : Option Addr) (cb : Nat) (w w2 : World) (g cap : Nat) (W : World) : Prop where
  blk : W.heap[w2.heap.size]? = some (.cells #[.slice ab m.boxes.length cb, .slice (some ⟨g, 0, none⟩) m.units.length cap] 25 (0, 0))
  low : ∀ j, j < w2.heap.size → W.heap[j]? = w2.heap[j]?
  ts : TsIn w.heap.size W g us
  grown : w.grownBy W none
  gt : w2.heap.size + 1 ≤ g
theorem vt_after {m : Vf.Md} {us : List UV} {ab au : Option Addr} {cb cu : Nat} {w w2 W3 w5 : World} {v' : Value} (hpos : 0 < m.units.length) (hl : us.length = m.units.length) (h3 : w2.grownBy W3 none)
    (hown : w5.ownsRow (w2.heap.size + 1) 35 6 v' (0 + m.units.length) ([] ++ uvs us)) (hgr : W3.grownBy w5 (some (w2.heap.size + 1))) (hN3 : W3.heap[w2.heap.size]? = some (amO m ab au cb cu))
    (hun : ∀ (i : Nat) (x : UV), us[i]? = some x → UnIn w.heap.size w2 x.u x.al x.ac x.cl x.cc) (hz3 : W3.heap.size = w2.heap.size + 1 + 1) (hg2 : w.grownBy w2 none) :
    ∃ g cap W, v' = .slice (some ⟨g, 0, none⟩) m.units.length cap ∧ w5.setCell ⟨w2.heap.size, 1, none⟩ (.slice (some ⟨g, 0, none⟩) m.units.length cap) = W ∧ VtAt m us ab cb w w2 g cap W ∧ w5.cell? ⟨w2.heap.size, 1, none⟩ = some (.slice au m.units.length cu) ∧ w5.frozen? ⟨w2.heap.size, 1, none⟩ = false := by
  have hz := hg2.size
  rw [show 0 + m.units.length = us.length by omega, List.nil_append] at hown
  have hL5 : ∀ j, j < w2.heap.size → w5.heap[j]? = w2.heap[j]? := fun j hj => (hgr.block j (by omega) (by simp; omega)).trans (kept0 h3 hj)
  obtain ⟨g, cap, rfl, hgC, hg5, hcap, hus5⟩ := us_own (B := w.heap.size) hown (by omega) (fun i x hx => (hun i x hx).low (fun j hj => hL5 j (by omega)))
  have hN5 : w5.heap[w2.heap.size]? = some (amO m ab au cb cu) := (hgr.block _ (by omega) (by simp)).trans hN3
  obtain ⟨_, e1, e2⟩ := am_cells hN5
  have hk : ∀ j v, j ≠ w2.heap.size → (w5.setCell ⟨w2.heap.size, 1, none⟩ v).heap[j]? = w5.heap[j]? := fun j v hj => Below.heap_setCell _ ⟨w2.heap.size, 1, none⟩ _ _ (by show j ≠ w2.heap.size; exact hj)
  obtain ⟨cur, h1, h2, h4⟩ := hus5.blk
  refine ⟨g, cap, _, by rw [hl], rfl, ⟨am_set hN5 _, fun j hj => (hk j _ (by omega)).trans (hL5 j hj), ⟨⟨cur, (hk g _ (by omega)).trans h1, h2, h4⟩, fun i x hx => .inl ((hun i x hx).low (fun j hj => (hk j _ (by omega)).trans (hL5 j (by omega))))⟩, ?_, hgC⟩, e1, e2⟩
  exact grown0_setN (grown0_up (grown0_tr' hg2 h3) hgr (by omega)) hz _ _

set_option maxRecDepth 100000 in
set_option maxHeartbeats 4000000 in
theorem vtasks_any (m : Vf.Md) (ab au : Option Addr) (cb cu : Nat) (keep : Int) (w : World) (hin : Hid (ModIn w.heap.size w m ab au)) :
    Calls Try.prog 5 #[.agg #[.slice ab m.boxes.length cb, .slice au m.units.length cu], .int .i64 keep] w fun e w' => e = .returned (.bool true) ∧ w.grownBy w' none := by
  obtain ⟨i0, hi, hz0, hz1, hz2⟩ := info_parts Try.infounit
  have HT0 : Hid (w.grownBy (w.alloc (amO m ab au cb cu)) none) := grown0_new (World.grownBy.refl _ _) _
  have HB0 : Hid ((w.alloc (amO m ab au cb cu)).heap[w.heap.size]? = some (amO m ab au cb cu)) := heap_alloc_new _ _
  go_enter Try.func5, Try.ntmps5
  go_wp2_with fail
  refine (alive_any _).mono ?_
  rintro e w1 ⟨rfl, hg1⟩
  have HG1 : Hid (w.grownBy w1 none) := grown0_tr' HT0.out hg1
  have hb1 : w1.heap[w.heap.size]? = some (amO m ab au cb cu) := (kept0 hg1 (lt_of_block HB0.out)).trans HB0.out
  obtain ⟨c0, c1, _⟩ := am_cells hb1
  have HB1 := hide hb1
  have HM1 : Hid (ModIn w.heap.size w1 m ab au) := hin.out.low (low0 HG1.out (Nat.le_refl _))
  obtain ⟨ra, rb, rc, hr⟩ : ∃ a b c, (a, b, c) = Vf.verify m := ⟨_, _, _, rfl⟩
  have HR := hide hr
  have hz1w := HG1.out.size
  clear hg1 hb1 hr
  go_wp2_with fail
  refine (verify_any m ab au cb cu w.heap.size _ HM1 hz1w (ra, rb, rc) HR).mono ?_
  rintro e w2 ⟨rfl, hg2⟩
  have HG2 : Hid (w.grownBy w2 none) := grown0_tr' HG1.out hg2
  have hb2 : w2.heap[w.heap.size]? = some (amO m ab au cb cu) := (kept0 hg2 (lt_of_block HB1.out)).trans HB1.out
  obtain ⟨d0, d1, _⟩ := am_cells hb2
  have HB2 := hide hb2
  have hz2w := HG2.out.size
  have hwl2 := lt_of_block hb2
  clear hg2 hb2 c0 c1
  by_cases ha : ra = 0
  · by_cases hb : rb = 0
    · by_cases hc : rc = 0
      · subst ha hb hc
        have HV : Hid (Vf.verify m = (0, 0, 0)) := HR.out.symm
        have hlk := Vf.right_iff.1 HV.out
        obtain ⟨hRt, hbx⟩ := rt_of (hlk 0 (by omega)) (hlk 1 (by omega)) (hlk 2 (by omega))
        have hmu := hRt.units
        have htask : ∃ (i : Nat) (u : Vf.Un), m.units[i]? = some u ∧ u.kind = 4 := by
          have h3 : Vf.tasksE m = 0 := hlk 3 (by omega)
          unfold Vf.tasksE at h3
          split at h3
          · rename_i ha
            rw [List.any_eq_true] at ha
            obtain ⟨u, hu, h4⟩ := ha
            obtain ⟨i, hi'⟩ := List.getElem?_of_mem hu
            exact ⟨i, u, hi', by simpa using h4⟩
          · cases h3
        have HTS := hide htask
        have hpos : 0 < m.units.length := by
          obtain ⟨i, u, hu, _⟩ := htask
          have := (List.getElem?_eq_some_iff.1 hu).1
          omega
        clear hlk hRt htask
        have hm2 : ModIn w.heap.size w2 m ab au := hin.out.low (low0 HG2.out (Nat.le_refl _))
        obtain ⟨bU, oU, _, _, _, _, hau, hbU, _⟩ := hm2.units 0 _ (List.getElem?_eq_getElem hpos)
        have huu := hm2.units
        rw [hau] at huu
        obtain ⟨us, hus, hun, hcel⟩ := uvs_of huu
        have huslen : us.length = m.units.length := by rw [← hus]; simp
        have HUS := hide hus
        have HUN := hide hun
        have HCE := hide hcel
        have HM2 := hide hm2
        have HAU := hide hau
        clear hus hun hcel hm2 hau huu
        rw [HAU.out] at d1
        rw [HAU.out]
        obtain ⟨W3, hW3⟩ : ∃ W3 : World, (w2.alloc (amO m ab (some ⟨bU, oU, none⟩) cb cu)).alloc (.cells #[] 35) = W3 := ⟨_, rfl⟩
        have HT3 : Hid (w2.grownBy W3 none) := by rw [← hW3]; exact two_new _ _ _
        have HN3 : Hid (W3.heap[w2.heap.size]? = some (amO m ab (some ⟨bU, oU, none⟩) cb cu)) := by rw [← hW3]; exact (Below.heap_alloc _ _ _ (by simp)).trans (heap_alloc_new _ _)
        have HO3 : Hid (W3.ownsRow (w2.heap.size + 1) 35 6 (.slice (some ⟨w2.heap.size + 1, 0, none⟩) 0 0) 0 []) := by
          have e : (w2.alloc (amO m ab (some ⟨bU, oU, none⟩) cb cu)).heap.size = w2.heap.size + 1 := by simp
          rw [← hW3]
          have := own_empty6 (w2.alloc (amO m ab (some ⟨bU, oU, none⟩) cb cu)) 35 (M := w2.heap.size + 1) (by simp) 6
          rw [e] at this
          exact this
        have HW3 := hide hW3
        have hz3 : W3.heap.size = w2.heap.size + 1 + 1 := by rw [← hW3]; simp
        have hn30 : m.units.length ≤ 30 := hmu
        clear hW3
        go_wp2_with (at_builtin; rw [HW3.out]; refine wpList_append_own _ rfl _ _ 23 rfl (w2.heap.size + 1) 35 i0 _ 6 80 Try.underlying23 hi hz0 hz1 hz2 rfl (by decide) _ 0 [] rfl HO3.out ⟨bU, oU, none⟩ m.units.length cu (uvs us) rfl (by rw [uvs_len, huslen]) (fun j v hv => (by have h1 := HCE.out j v hv; rw [← h1]; unfold Addr.add; split <;> exact cell_eq (kept0 HT3.out (by show bU < _; omega)) _)) (uvs_one us) (by unfold maxLen; omega) (by omega) (by omega) ?_; intro v' w5 hown hgrow _; obtain ⟨g, cap, W5, rfl, hW5, hV5, e1, e2⟩ := vt_after (w := w) hpos huslen HT3.out hown hgrow HN3.out HUN.out hz3 HG2.out; have HV5 := hide hV5; have e3 : W5.cell? ⟨w.heap.size, 1, none⟩ = some (.slice (some ⟨bU, oU, none⟩) m.units.length cu) := (cell_eq (hV5.low _ hwl2) _).trans d1; clear hown hgrow hV5)
        clear hW5 e1 e2 e3
        go_loopw [5, 24] (fun tv i wr => ∃ (t : Int) (L : List UV) (k : Nat), tv = .int .i64 t ∧ i = .int .i64 k ∧ TaAt m us L w.heap.size W5 g k t wr) (fun _ i _ => m.units.length - (intOf i).toNat)
        case atStart => exact ⟨0, us, 0, rfl, rfl, Nat.zero_le _, rfl, fun i x y hx hy => .inl (by rw [hx] at hy; cases hy; rfl), HV5.out.ts, World.grownBy.refl _ _, by decide, by decide, fun _ i u hi => by omega⟩
        case round =>
          obtain ⟨t, L, k, rfl, rfl, hA⟩ := hrel
          have HA := hide hA
          have hkle := hA.le
          have hcnt := hA.cnt
          have HLr : Hid (∀ j, j < w2.heap.size → wr.heap[j]? = w2.heap[j]?) := fun j hj => by
            have h6 := HV5.out.gt
            have h7 := lt_of_block HV5.out.blk
            exact (HA.out.grown.block j (by omega) (by simp; omega)).trans (HV5.out.low j hj)
          have hNr : wr.heap[w2.heap.size]? = some (.cells #[.slice ab m.boxes.length cb, .slice (some ⟨g, 0, none⟩) m.units.length cap] 25 (0, 0)) := by
            have h6 := HV5.out.gt
            exact (hA.grown.block _ (lt_of_block HV5.out.blk) (by simp; omega)).trans HV5.out.blk
          have HNr := hide hNr
          have hzr := lt_of_block hNr
          obtain ⟨e0, e1, e2⟩ := am_cells hNr
          clear hA hNr
          by_cases hlt : k < m.units.length
          · obtain ⟨u, hu⟩ : ∃ u, m.units[k]? = some u := ⟨_, List.getElem?_eq_getElem hlt⟩
            have HU := hide hu
            have n0 : (0 : Int) ≤ (k : Int) := by omega
            have n1 : (k : Int) < (m.units.length : Int) := by omega
            have huu := (HM2.out.low (w' := wr) (fun j hj => HLr.out j (by omega))).units
            rw [HAU.out] at huu
            obtain ⟨_, _, al, cl, ac, cc, he, _, hU, x0, x1, x2, x3, x4, x5⟩ := huu k u hu
            cases he
            have hI : I64 u.kind := hU.nums.1
            have hbr : bU < wr.heap.size := by omega
            clear huu hU hu
            by_cases h4 : u.kind = 4
            · rw [h4] at x0
              obtain ⟨W7, hW7⟩ : ∃ W7 : World, wr.alloc (.cells #[.int .i64 4, .int .i64 u.params, .slice al u.locals.length cl, .int .i64 u.result, .int .i64 u.takes, .slice ac u.code.length cc] 35) = W7 := ⟨_, rfl⟩
              have HT7 : Hid (wr.grownBy W7 none) := by rw [← hW7]; exact grown0_new (World.grownBy.refl _ _) _
              have h70 : W7.cell? ⟨wr.heap.size, 0, none⟩ = some (.int .i64 4) := by
                have hb7 : W7.heap[wr.heap.size]? = some (.cells #[.int .i64 4, .int .i64 u.params, .slice al u.locals.length cl, .int .i64 u.result, .int .i64 u.takes, .slice ac u.code.length cc] 35 (0, 0)) := by rw [← hW7]; exact heap_alloc_new _ _
                simp [World.cell?, hb7]
              have hw7 : w2.heap.size < W7.heap.size := by have := HT7.out.size; omega
              by_cases hkk : (k : Int) = keep
              · have qk : ((k : Int) == keep) = true := by simpa using hkk
                clear hkk
                go_wp2
                refine ⟨⟨t + 1, L, k + 1, rfl, by go_num, HA.out.count (by omega) HU.out HT7.out⟩, by simp [intOf]; omega⟩
              · have q0 : W7.cell? ⟨w2.heap.size, 1, none⟩ = some (.slice (some ⟨g, 0, none⟩) m.units.length cap) := (cell_eq (kept0 HT7.out hzr) _).trans e1
                go_wp2_with fail
                refine wp_region_held_drew (S := fun w' => w'.cell? ⟨w2.heap.size, 1, none⟩ = some (.slice (some ⟨g, 0, none⟩) m.units.length cap)) (by kernel_rfl) q0 (fun hHeld => ?_)
                refine wpAnyH_take (i := 0) (oi := _) (v := ?_) rfl (by kernel_rfl) (by kernel_rfl) (by kernel_rfl) (fun _ _ _ h => h) (Or.inl ⟨by rfl, ?_⟩) (by assumption) ?_
                rotate_left
                · intro w hSw
                  (try dsimp only at hSw)
                  go_simp
                  (try with_reducible rfl)
                (try go_frame)
                refine wpAnyH_take (i := 1) (oi := _) (v := ?_) rfl (by kernel_rfl) (by kernel_rfl) (by kernel_rfl) (fun _ _ _ h => h) (Or.inl ⟨by rfl, ?_⟩) (by assumption) ?_
                rotate_left
                · intro w hSw
                  (try dsimp only at hSw)
                  go_simp
                  (try with_reducible rfl)
                (try go_frame)
                refine wpAnyH_take (i := 2) (oi := _) (v := ?_) rfl (by kernel_rfl) (by kernel_rfl) (by kernel_rfl) (fun _ _ _ h => h) (Or.inl ⟨by rfl, ?_⟩) (by assumption) ?_
                rotate_left
                · intro w hSw
                  (try dsimp only at hSw)
                  go_simp
                  (try with_reducible rfl)
                (try go_frame)
                refine wpAnyH_ready (rs := [3]) (by kernel_rfl) (by simp) ?_
                refine AllReadyH.cons (o := _) rfl (fun K hK => ?_) AllReadyH.nil
                go_simp
                refine (small_any _).mono ?_
                rintro e w8 ⟨rfl, hg8, hs8'⟩
                have hs8 : SmIn (W7.heap.size + 1) (W7.heap.size + 1 + 1) w8 := hs8'
                have HT8 : Hid (wr.grownBy w8 none) := grown0_tr' (grown0_drew HT7.out) hg8
                have HS8 := hide hs8
                have q1 : w8.cell? ⟨w2.heap.size, 1, none⟩ = some (.slice (some ⟨g, 0, none⟩) m.units.length cap) := (cell_eq (kept0 HT8.out hzr) _).trans e1
                have u0 : w8.cell? ⟨W7.heap.size + 1 + 1, 0, none⟩ = some (.int .i64 4) := by simp [World.cell?, hs8.un]
                have u1 : w8.cell? ⟨W7.heap.size + 1 + 1, 1, none⟩ = some (.int .i64 0) := by simp [World.cell?, hs8.un]
                have u2 : w8.cell? ⟨W7.heap.size + 1 + 1, 2, none⟩ = some (.slice none 0 0) := by simp [World.cell?, hs8.un]
                have u3 : w8.cell? ⟨W7.heap.size + 1 + 1, 3, none⟩ = some (.int .i64 0) := by simp [World.cell?, hs8.un]
                have u4 : w8.cell? ⟨W7.heap.size + 1 + 1, 4, none⟩ = some (.int .i64 0) := by simp [World.cell?, hs8.un]
                have u5 : w8.cell? ⟨W7.heap.size + 1 + 1, 5, none⟩ = some (.slice (some ⟨W7.heap.size + 1, 0, none⟩) 3 3) := by simp [World.cell?, hs8.un]
                obtain ⟨y, v0, v1, v2, v3, v4, v5, v6⟩ := (HA.out.ts.keep (by omega) HT8.out).at (k := k) (by rw [HA.out.len, huslen]; exact hlt)
                clear hg8 hs8 hs8'
                refine hK.out _ _ q1 (fun hHeld => ?_)
                clear hK
                refine wpAnyH_ready (rs := [4]) (by kernel_rfl) (by simp) ?_
                refine AllReadyH.cons (o := _) rfl (fun K hK => ?_) AllReadyH.nil
                go_simp
                refine hK.out _ _ q1 (fun hHeld => ?_)
                clear hK
                refine wpAnyH_ready (rs := [5]) (by kernel_rfl) (by simp) ?_
                refine AllReadyH.cons (o := _) rfl (fun K hK => ?_) AllReadyH.nil
                go_simp
                refine hK.out _ _ q1 (fun hHeld => ?_)
                clear hK
                refine wpAnyH_ready (rs := [6]) (by kernel_rfl) (by simp) ?_
                refine AllReadyH.cons (o := _) rfl (fun K hK => ?_) AllReadyH.nil
                go_simp
                refine hK.out _ _ q1 (fun hHeld => ?_)
                clear hK
                refine wpAnyH_ready (rs := [7]) (by kernel_rfl) (by simp) ?_
                refine AllReadyH.cons (o := _) rfl (fun K hK => ?_) AllReadyH.nil
                go_simp
                refine hK.out _ _ q1 (fun hHeld => ?_)
                clear hK
                refine wpAnyH_ready (rs := [8]) (by kernel_rfl) (by simp) ?_
                refine AllReadyH.cons (o := _) rfl (fun K hK => ?_) AllReadyH.nil
                go_simp
                have HSX : Hid (w8.grownBy (sixS w8 g k (smUV (W7.heap.size + 1))) (some g)) := six_grown _ _ _ _
                have hgt := HV5.out.gt
                refine hK.out _ (sixS w8 g k (smUV (W7.heap.size + 1))) ((cell_eq (HSX.out.block _ (by have := HT8.out.size; omega) (by simp; omega)) _).trans q1) (fun hHeld => ?_)
                clear hK
                refine wpAnyH_done (by kernel_rfl) ?_ _
                go_wp2
                refine ⟨⟨t + 1, L.set k (smUV (W7.heap.size + 1)), k + 1, rfl, by go_num, HA.out.six HUS.out (by omega) (by omega) HU.out h4 HT8.out HS8.out.cod⟩, by simp [intOf]; omega⟩
            · have q4 : (u.kind == 4) = false := by simpa using h4
              go_wp2
              refine ⟨⟨t, L, k + 1, rfl, by go_num, HA.out.skip (by omega) HU.out h4 (grown0_new (World.grownBy.refl _ _) _)⟩, by simp [intOf]; omega⟩
          · obtain rfl : k = m.units.length := by omega
            have ht : 0 < t := by
              obtain ⟨i, u, hu, h4⟩ := HTS.out
              rcases (by omega : t = 0 ∨ 0 < t) with h0 | h0
              · exact absurd h4 (hcnt.2.2 h0 i u (List.getElem?_eq_some_iff.1 hu).1 hu)
              · exact h0
            have hBr : w.heap.size ≤ wr.heap.size := by omega
            have HMn : Hid (ModIn wr.heap.size wr ⟨m.boxes, L.map (·.u)⟩ ab (some ⟨g, 0, none⟩)) :=
              ⟨⟨HM2.out.few.1, by simp [HA.out.len, huslen]; omega⟩, fun i x hx => by
                obtain ⟨h1, h2, b, off, e, hs, c0, c1⟩ := (HM2.out.boxes.low (w' := wr) (fun j hj => HLr.out j (by omega))) i x hx
                exact ⟨h1, h2, b, off, e, by omega, c0, c1⟩, (HA.out.ts.us (cap := cap) hBr).units (Nat.le_refl _)⟩
            have hv := verify_any ⟨m.boxes, L.map (·.u)⟩ ab (some ⟨g, 0, none⟩) cb cap wr.heap.size wr HMn (Nat.le_refl _) (0, 0, 0) (hide (Vf.tasks_right (HA.out.like HUS.out) HV.out).symm)
            have hLl : (L.map (·.u)).length = m.units.length := by simp [HA.out.len, huslen]
            unfold mdV at hv
            dsimp only at hv
            rw [hLl] at hv
            have HVv := hide hv
            clear hv hLl hcnt
            go_wp2_with fail
            refine HVv.out.mono ?_
            rintro e w9 ⟨rfl, hg9⟩
            have HG9 : Hid (w.grownBy w9 none) := grown0_tr' (grown0_up HV5.out.grown HA.out.grown (by have := HV5.out.gt; omega)) hg9
            have q9 := eq_where 0 0 0 0 0 0 w9
            clear hg9
            go_wp2
            go_ret
            exact ⟨rfl, HG9.out⟩
      · have q1 : (ra == 0) = true := by simpa using ha
        have q2 : (rb == 0) = true := by simpa using hb
        have q3 : (rc == 0) = false := by simpa using hc
        have q := eq_where ra rb rc 0 0 0 w2
        rw [q1, q2, q3] at q
        clear ha hb hc
        go_wp2
        all_goals (go_ret; exact ⟨rfl, HG2.out⟩)
    · have q1 : (ra == 0) = true := by simpa using ha
      have q2 : (rb == 0) = false := by simpa using hb
      have q := eq_where ra rb rc 0 0 0 w2
      rw [q1, q2] at q
      clear ha hb
      go_wp2
      all_goals (go_ret; exact ⟨rfl, HG2.out⟩)
  · have q1 : (ra == 0) = false := by simpa using ha
    have q := eq_where ra rb rc 0 0 0 w2
    rw [q1] at q
    clear ha
    go_wp2
    all_goals (go_ret; exact ⟨rfl, HG2.out⟩)

end Go.Proofs.Ytbkimpimoclobaa

