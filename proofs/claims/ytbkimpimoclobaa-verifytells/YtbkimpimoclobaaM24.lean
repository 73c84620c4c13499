/- The walk of VerifyTasks. -/
import Derived.Test.YtbkimpimoclobaaM23
import Derived.Test.YtbkimpimoclobaaM11
namespace Go.Proofs.Ytbkimpimoclobaa
open Go.RowKit

abbrev amO (m : Vf.Md) (ab au : Option Addr) (cb cu : Nat) : Obj := .cells #[.slice ab m.boxes.length cb, .slice au m.units.length cu] 25 (0, 0)
theorem am_cells {w : World} {N : Nat} {x y : Value} (h : w.heap[N]? = some (.cells #[x, y] 25 (0, 0))) : w.cell? ⟨N, 0, none⟩ = some x ∧ w.cell? ⟨N, 1, none⟩ = some y ∧ w.frozen? ⟨N, 1, none⟩ = false := by
  simp [World.cell?, World.frozen?, h]
abbrev smUV (c : Nat) : UV := ⟨Vf.smallU, none, some ⟨c, 0, none⟩, 0, 3⟩
theorem small_un2 {w : World} {c : Nat} (hc : w.heap[c]? = some (codO 28)) : UnIn w.heap.size w Vf.smallU none (some ⟨c, 0, none⟩) 0 3 := by
  have hcl := lt_of_block hc
  refine ⟨⟨(by decide : I64 4), (by decide : I64 0), (by decide : I64 0), (by decide : I64 0)⟩, by decide, by decide, fun j y hy => by simp [Vf.smallU] at hy, fun j y hy => ?_⟩
  match j, hy with
  | 0, hy =>
    simp [Vf.smallU] at hy
    subst hy
    exact ⟨by decide, by decide, by decide, c, 0, rfl, by omega, by simp [World.cell?, hc], by simp [World.cell?, hc], by simp [World.cell?, hc]⟩
  | 1, hy =>
    simp [Vf.smallU] at hy
    subst hy
    exact ⟨by decide, by decide, by decide, c, 0, rfl, by omega, by simp [World.cell?, hc], by simp [World.cell?, hc], by simp [World.cell?, hc]⟩
  | 2, hy =>
    simp [Vf.smallU] at hy
    subst hy
    exact ⟨by decide, by decide, by decide, c, 0, rfl, by omega, by simp [World.cell?, hc], by simp [World.cell?, hc], by simp [World.cell?, hc]⟩
  | j + 3, hy => simp [Vf.smallU] at hy

/-- Units of two kinds: those that were there below B, and small ones. -/
structure TsIn (B : Nat) (w : World) (g : Nat) (L : List UV) : Prop where
  blk : ∃ cur : List Value, w.heap[g]? = some (.cells (List.toArray cur) 35 (0, 0)) ∧ cur.take (L.length * 6) = uvs L ∧ L.length * 6 ≤ cur.length
  un : ∀ (i : Nat) x, L[i]? = some x → UnIn B w x.u x.al x.ac x.cl x.cc ∨ ∃ c, x = smUV c ∧ w.heap[c]? = some (codO 28)
theorem TsIn.us {B : Nat} {w : World} {g cap : Nat} {L : List UV} (h : TsIn B w g L) (hB : B ≤ w.heap.size) : UsIn w.heap.size w g L cap :=
  ⟨h.blk, fun i x hx => by
    rcases h.un i x hx with h1 | ⟨c, rfl, h1⟩
    · exact h1.mono hB
    · exact small_un2 h1⟩
theorem TsIn.keep {B : Nat} {w w' : World} {g : Nat} {L : List UV} (h : TsIn B w g L) (hB : B ≤ w.heap.size) (hg : w.grownBy w' none) : TsIn B w' g L := by
  obtain ⟨cur, h1, h2, h3⟩ := h.blk
  refine ⟨⟨cur, (kept0 hg (lt_of_block h1)).trans h1, h2, h3⟩, fun i x hx => ?_⟩
  rcases h.un i x hx with h4 | ⟨c, rfl, h4⟩
  · exact .inl (h4.low (low0 hg hB))
  · exact .inr ⟨c, rfl, (kept0 hg (lt_of_block h4)).trans h4⟩
theorem TsIn.at {B : Nat} {w : World} {g k : Nat} {L : List UV} (h : TsIn B w g L) (hk : k < L.length) : ∃ y : UV, w.cell? ⟨g, k * 6, none⟩ = some (.int .i64 y.u.kind) ∧ w.cell? ⟨g, k * 6 + 1, none⟩ = some (.int .i64 y.u.params) ∧ w.cell? ⟨g, k * 6 + 2, none⟩ = some (.slice y.al y.u.locals.length y.cl) ∧ w.cell? ⟨g, k * 6 + 3, none⟩ = some (.int .i64 y.u.result) ∧ w.cell? ⟨g, k * 6 + 4, none⟩ = some (.int .i64 y.u.takes) ∧ w.cell? ⟨g, k * 6 + 5, none⟩ = some (.slice y.ac y.u.code.length y.cc) ∧ ∀ o, w.frozen? ⟨g, o, none⟩ = false := by
  obtain ⟨cur, h1, h2, h3⟩ := h.blk
  have hx := List.getElem?_eq_getElem hk
  have cell : ∀ j, j < 6 → w.cell? ⟨g, k * 6 + j, none⟩ = (uvC L[k])[j]? := fun j hj => by
    rw [← uvs_at L k _ hx j hj, ← h2, List.getElem?_take, if_pos (by omega)]
    simp [World.cell?, h1]
  exact ⟨L[k], cell 0 (by decide), cell 1 (by decide), cell 2 (by decide), cell 3 (by decide), cell 4 (by decide), cell 5 (by decide), fun o => by simp [World.frozen?, h1]⟩
abbrev sixS (w : World) (g k : Nat) (y : UV) : World := ((((((w.setCell ⟨g, k * 6, none⟩ (.int .i64 y.u.kind)).setCell ⟨g, k * 6 + 1, none⟩ (.int .i64 y.u.params)).setCell ⟨g, k * 6 + 2, none⟩ (.slice y.al y.u.locals.length y.cl)).setCell ⟨g, k * 6 + 3, none⟩ (.int .i64 y.u.result)).setCell ⟨g, k * 6 + 4, none⟩ (.int .i64 y.u.takes)).setCell ⟨g, k * 6 + 5, none⟩ (.slice y.ac y.u.code.length y.cc))
theorem six_grown (w : World) (g k : Nat) (y : UV) : w.grownBy (sixS w g k y) (some g) := grown_set (grown_set (grown_set (grown_set (grown_set (grown_set (grown_refl w g) _ _) _ _) _ _) _ _) _ _) _ _
theorem TsIn.put {B : Nat} {w : World} {g k c : Nat} {L : List UV} (h : TsIn B w g L) (hk : k < L.length) (hB : B ≤ g) (hc : w.heap[c]? = some (codO 28)) : TsIn B (sixS w g k (smUV c)) g (L.set k (smUV c)) := by
  obtain ⟨cur, h1, h2, h3⟩ := h.blk
  have hg := six_grown w g k (smUV c)
  have hcg : ∀ c', w.heap[c']? = some (codO 28) → (sixS w g k (smUV c)).heap[c']? = some (codO 28) := fun c' hc' => (hg.block c' (lt_of_block hc') (by
    intro e
    simp at e
    subst e
    rw [h1] at hc'
    cases hc')).trans hc'
  refine ⟨⟨(((((cur.set (k * 6) (.int .i64 (smUV c).u.kind)).set (k * 6 + 1) (.int .i64 (smUV c).u.params)).set (k * 6 + 2) (.slice (smUV c).al (smUV c).u.locals.length (smUV c).cl)).set (k * 6 + 3) (.int .i64 (smUV c).u.result)).set (k * 6 + 4) (.int .i64 (smUV c).u.takes)).set (k * 6 + 5) (.slice (smUV c).ac (smUV c).u.code.length (smUV c).cc), ?_, ?_, by simp; omega⟩, fun i x hx => ?_⟩
  · exact set_row (set_row (set_row (set_row (set_row (set_row h1 _ _) _ _) _ _) _ _) _ _) _ _
  · rw [List.length_set, uvs_set _ L k hk, ← h2]
    simp only [List.take_set]
  · by_cases hik : i = k
    · subst hik
      rw [List.getElem?_set_self hk] at hx
      cases hx
      exact .inr ⟨c, rfl, hcg c hc⟩
    · rw [List.getElem?_set_ne (by omega)] at hx
      rcases h.un i x hx with h4 | ⟨c', rfl, h4⟩
      · exact .inl (h4.low (fun j hj => hg.block j (by have := lt_of_block h1; omega) (by simp; omega)))
      · exact .inr ⟨c', rfl, hcg c' h4⟩

/-- At the head of the loop. -/
structure TaAt (m : Vf.Md) (us L : List UV) (B : Nat) (W5 : World) (g k : Nat) (t : Int) (W : World) : Prop where
  le : k ≤ m.units.length
  len : L.length = us.length
  same : ∀ (i : Nat) x y, us[i]? = some x → L[i]? = some y → y = x ∨ (x.u.kind = 4 ∧ y.u = Vf.smallU)
  ts : TsIn B W g L
  grown : W5.grownBy W (some g)
  cnt : 0 ≤ t ∧ t ≤ k ∧ (t = 0 → ∀ (i : Nat) u, i < k → m.units[i]? = some u → u.kind ≠ 4)
theorem TaAt.skip {m : Vf.Md} {us L : List UV} {B : Nat} {W5 W W' : World} {g k : Nat} {t : Int} {u : Vf.Un} (h : TaAt m us L B W5 g k t W) (hB : B ≤ W.heap.size) (hu : m.units[k]? = some u) (h4 : u.kind ≠ 4) (hg : W.grownBy W' none) : TaAt m us L B W5 g (k + 1) t W' := by
  have hk := (List.getElem?_eq_some_iff.1 hu).1
  have hc := h.cnt
  refine ⟨by omega, h.len, h.same, h.ts.keep hB hg, grown_tr h.grown (grownM_of0 hg), hc.1, by omega, fun e i u' hi hu' => ?_⟩
  by_cases hik : i = k
  · subst hik
    rw [hu] at hu'
    cases hu'
    exact h4
  · exact hc.2.2 e i u' (by omega) hu'
theorem TaAt.count {m : Vf.Md} {us L : List UV} {B : Nat} {W5 W W' : World} {g k : Nat} {t : Int} {u : Vf.Un} (h : TaAt m us L B W5 g k t W) (hB : B ≤ W.heap.size) (hu : m.units[k]? = some u) (hg : W.grownBy W' none) : TaAt m us L B W5 g (k + 1) (t + 1) W' := by
  have hk := (List.getElem?_eq_some_iff.1 hu).1
  have hc := h.cnt
  exact ⟨by omega, h.len, h.same, h.ts.keep hB hg, grown_tr h.grown (grownM_of0 hg), by omega, by omega, fun e => by omega⟩
theorem TaAt.six {m : Vf.Md} {us L : List UV} {B : Nat} {W5 W W' : World} {g k c : Nat} {t : Int} {u : Vf.Un} (h : TaAt m us L B W5 g k t W) (hus : us.map (·.u) = m.units) (hB : B ≤ W.heap.size) (hBg : B ≤ g) (hu : m.units[k]? = some u) (h4 : u.kind = 4) (hg : W.grownBy W' none) (hc : W'.heap[c]? = some (codO 28)) : TaAt m us (L.set k (smUV c)) B W5 g (k + 1) (t + 1) (sixS W' g k (smUV c)) := by
  have hk := (List.getElem?_eq_some_iff.1 hu).1
  have hn := h.cnt
  have hl : us.length = m.units.length := by rw [← hus]; simp
  have hL := h.len
  refine ⟨by omega, by simp [hL], fun i x y hx hy => ?_, (h.ts.keep hB hg).put (by omega) hBg hc, grown_tr (grown_tr h.grown (grownM_of0 hg)) (six_grown _ _ _ _), by omega, by omega, fun e => by omega⟩
  by_cases hik : i = k
  · subst hik
    rw [List.getElem?_set_self (by omega)] at hy
    cases hy
    rw [← hus, List.getElem?_map, hx] at hu
    cases hu
    exact .inr ⟨h4, rfl⟩
  · rw [List.getElem?_set_ne (by omega)] at hy
    exact h.same i x y hx hy
end Go.Proofs.Ytbkimpimoclobaa

/- The document's answer, chapter 7, walked: plain, Is. -/
namespace Go.Proofs.Ytbkimpimoclobaa
open Go.RowKit

set_option maxHeartbeats 400000 in
theorem rplain_any (t : Int) (w : World) (b : Bool) (hb : Hid (b = Vf.plain t)) :
    Calls Try.prog 29 #[.int .i64 t] w fun e w' => e = .returned (.bool b) ∧ w' = w := by
  rw [hb.out]
  unfold Vf.plain
  clear hb
  by_cases h1 : t = 1
  · have e1 : (t == 1) = true := by simpa using h1
    go_enter Try.func29, Try.ntmps29
    go_wp2
    go_ret
    rw [e1]
    exact ⟨rfl, rfl⟩
  · have e1 : (t == 1) = false := by simpa using h1
    go_enter Try.func29, Try.ntmps29
    go_wp2
    go_ret
    rw [e1]
    exact ⟨rfl, rfl⟩


theorem ris_any (m : Vf.Md) (ab au : Option Addr) (cb cu B : Nat) (k n : Int) (w : World) (hm : Hid (ModIn B w m ab au)) (hB : B ≤ w.heap.size) (b : Bool) (hb : Hid (b = Vf.is m k n)) :
    Calls Try.prog 47 #[mdV m ab au cb cu, .int .i64 n, .int .i64 k] w fun e w' => e = .returned (.bool b) ∧ w' = w.alloc (amO m ab au cb cu) := by
  by_cases h0 : 0 ≤ n
  · obtain ⟨j, rfl⟩ := nn_of h0
    by_cases h1 : j < m.units.length
    · obtain ⟨u, hu⟩ : ∃ u, m.units[j]? = some u := ⟨_, List.getElem?_eq_getElem h1⟩
      obtain ⟨bu, off, al, cl, ac, cc, ha, hbu, _, u0, _⟩ := hm.out.units j u hu
      have HR : Hid (b = (u.kind == k)) := by rw [hb.out, is_in hu]; rfl
      have hd : (0 : Int) ≤ (j : Int) := by omega
      have hd1 : (j : Int) < (m.units.length : Int) := by omega
      have hbl : bu < w.heap.size := by omega
      subst ha
      clear hu hb
      go_enter Try.func47, Try.ntmps47
      go_wp2
      go_ret
      rw [HR.out]
      exact ⟨rfl, rfl⟩
    · have HR : Hid (b = false) := by rw [hb.out, is_out (by omega)]; rfl
      have hd : (0 : Int) ≤ (j : Int) := by omega
      have hd1 : decide (j < m.units.length) = false := by simpa using h1
      go_enter Try.func47, Try.ntmps47
      go_wp2
      go_ret
      rw [HR.out]
      exact ⟨rfl, rfl⟩
  · have HR : Hid (b = false) := by rw [hb.out, is_neg h0]; rfl
    have hd : decide (0 ≤ n) = false := by simpa using h0
    go_enter Try.func47, Try.ntmps47
    go_wp2
    go_ret
    rw [HR.out]
    exact ⟨rfl, rfl⟩

end Go.Proofs.Ytbkimpimoclobaa

