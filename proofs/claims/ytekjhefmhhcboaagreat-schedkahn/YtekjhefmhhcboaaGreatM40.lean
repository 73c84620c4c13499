/- Two instructions of two tasks change places, as far as boxes go. -/
import Derived.Test.YtekjhefmhhcboaaGreatM39
namespace Go.Proofs.YtekjhefmhhcboaaGreat.Vw
open Go.RowKit Vf Vm

theorem put_at (x : List Bq) (i j : Nat) (v : Int) : (mbX.put x i v)[j]? = if i = j then (x[j]?).map (fun q => { q with ws := q.ws ++ [v] }) else x[j]? := by
  simp only [mbX]
  cases hx : x[i]? with
  | none =>
    by_cases e : i = j
    · subst e; simp [hx]
    · simp [e]
  | some q =>
    have hi := (List.getElem?_eq_some_iff.1 hx).1
    by_cases e : i = j
    · subst e; rw [if_pos rfl, hx, List.getElem?_set_self hi]; rfl
    · simp [e]
theorem take_at (x : List Bq) (i j : Nat) : (mbX.take x i)[j]? = if i = j then (x[j]?).map (fun q => { q with ws := q.ws.tail }) else x[j]? := by
  simp only [mbX]
  cases hx : x[i]? with
  | none =>
    by_cases e : i = j
    · subst e; simp [hx]
    · simp [e]
  | some q =>
    have hi := (List.getElem?_eq_some_iff.1 hx).1
    by_cases e : i = j
    · subst e; rw [if_pos rfl, hx, List.getElem?_set_self hi]; rfl
    · simp [e]
theorem full_of {x y : List Bq} {n : Nat} (h : x[n]? = y[n]?) : mbX.full x n = mbX.full y n := by simp only [mbX, h]
theorem empty_of {x y : List Bq} {n : Nat} (h : x[n]? = y[n]?) : mbX.empty x n = mbX.empty y n := by simp only [mbX, h]
theorem head_of {x y : List Bq} {n : Nat} (h : x[n]? = y[n]?) : mbX.head x n = mbX.head y n := by simp only [mbX, h]
theorem not_empty {x : List Bq} {n : Nat} (h : mbX.empty x n = false) : ∃ q u ws, x[n]? = some q ∧ q.ws = u :: ws := by
  simp only [mbX] at h
  cases hx : x[n]? with
  | none => rw [hx] at h; simp at h
  | some q =>
    rw [hx] at h
    cases hw : q.ws with
    | nil => simp [hw] at h
    | cons u ws => exact ⟨q, u, ws, rfl, hw⟩
/-- No box has more than its places. -/
def Fits (x : List Bq) : Prop := ∀ (n : Nat) q, x[n]? = some q → q.ws.length ≤ q.cap

theorem box_swap {c d : Ins} {x : List Bq} (v u : Int) (hF : Fits x) (hA : Apart c d) (hc : May c x) (hd : May d x) :
    May d (stX mbX c v x) ∧ (d.op = 27 → mbX.head (stX mbX c v x) d.a.toNat = mbX.head x d.a.toNat) ∧ stX mbX d u (stX mbX c v x) = stX mbX c v (stX mbX d u x) := by
  obtain ⟨a, ha⟩ : ∃ a, a = c.a.toNat := ⟨_, rfl⟩
  obtain ⟨b, hb⟩ : ∃ b, b = d.a.toNat := ⟨_, rfl⟩
  by_cases c26 : c.op = 26
  · have eC : ∀ y, stX mbX c v y = mbX.put y a v := fun y => by unfold stX; rw [if_pos c26, ha]
    rw [eC]
    by_cases d26 : d.op = 26
    · have hne : a ≠ b := by rw [ha, hb]; exact hA.1 c26 d26
      have eD : ∀ y, stX mbX d u y = mbX.put y b u := fun y => by unfold stX; rw [if_pos d26, hb]
      refine ⟨⟨fun _ => ?_, fun e => by omega⟩, fun e => by omega, ?_⟩
      · rw [← hb, full_of (y := x) (by rw [put_at, if_neg hne]), hb]; exact hd.1 d26
      · rw [eD, eD, eC]
        apply List.ext_getElem?
        intro j
        simp only [put_at]
        by_cases e1 : b = j <;> by_cases e2 : a = j <;> simp [e1, e2] <;> omega
    · by_cases d27 : d.op = 27
      · have eD : ∀ y, stX mbX d u y = mbX.take y b := fun y => by unfold stX; rw [if_neg d26, if_pos d27, hb]
        obtain ⟨q, h, ws, hq, hw⟩ := not_empty (hd.2 d27)
        rw [← hb] at hq
        by_cases e : a = b
        · have hput : (mbX.put x a v)[b]? = some { q with ws := q.ws ++ [v] } := by rw [put_at, if_pos e, hq]; rfl
          refine ⟨⟨fun e => by omega, fun _ => ?_⟩, fun _ => ?_, ?_⟩
          · rw [← hb]; simp [mbX] at hput ⊢; simp [hput]
          · rw [← hb]; simp only [mbX] at hput ⊢; simp [hput, hq, hw]
          · rw [eD, eD, eC]
            apply List.ext_getElem?
            intro j
            simp only [put_at, take_at]
            by_cases e1 : b = j
            · subst e1
              simp [e, hq, hw]
            · simp [e1, e]
        · refine ⟨⟨fun e => by omega, fun _ => ?_⟩, fun _ => ?_, ?_⟩
          · rw [← hb, empty_of (y := x) (by rw [put_at, if_neg e]), hb]; exact hd.2 d27
          · rw [← hb]; exact head_of (by rw [put_at, if_neg e])
          · rw [eD, eD, eC]
            apply List.ext_getElem?
            intro j
            simp only [put_at, take_at]
            by_cases e1 : b = j <;> by_cases e2 : a = j <;> simp [e1, e2] <;> omega
      · have eD : ∀ y, stX mbX d u y = y := fun y => stX_none d26 d27
        refine ⟨⟨fun e => absurd e d26, fun e => absurd e d27⟩, fun e => absurd e d27, by rw [eD, eD, eC]⟩
  · by_cases c27 : c.op = 27
    · have eC : ∀ y, stX mbX c v y = mbX.take y a := fun y => by unfold stX; rw [if_neg c26, if_pos c27, ha]
      rw [eC]
      obtain ⟨q, h, ws, hq, hw⟩ := not_empty (hc.2 c27)
      rw [← ha] at hq
      by_cases d26 : d.op = 26
      · have eD : ∀ y, stX mbX d u y = mbX.put y b u := fun y => by unfold stX; rw [if_pos d26, hb]
        by_cases e : a = b
        · have htk : (mbX.take x a)[b]? = some { q with ws := q.ws.tail } := by rw [take_at, if_pos e, ← e, hq]; rfl
          have hfit := hF a q hq
          refine ⟨⟨fun _ => ?_, fun e => by omega⟩, fun e => by omega, ?_⟩
          · rw [← hb]
            simp only [mbX] at htk ⊢
            simp [htk, hw] at hfit ⊢
            omega
          · rw [eD, eD, eC]
            apply List.ext_getElem?
            intro j
            simp only [put_at, take_at]
            by_cases e1 : b = j
            · subst e1
              rw [e] at hq
              simp [e, hq, hw]
            · simp [e1, e]
        · refine ⟨⟨fun _ => ?_, fun e => by omega⟩, fun e => by omega, ?_⟩
          · rw [← hb, full_of (y := x) (by rw [take_at, if_neg e]), hb]; exact hd.1 d26
          · rw [eD, eD, eC]
            apply List.ext_getElem?
            intro j
            simp only [put_at, take_at]
            by_cases e1 : b = j <;> by_cases e2 : a = j <;> simp [e1, e2] <;> omega
      · by_cases d27 : d.op = 27
        · have hne : a ≠ b := by rw [ha, hb]; exact hA.2 c27 d27
          have eD : ∀ y, stX mbX d u y = mbX.take y b := fun y => by unfold stX; rw [if_neg d26, if_pos d27, hb]
          refine ⟨⟨fun e => by omega, fun _ => ?_⟩, fun _ => ?_, ?_⟩
          · rw [← hb, empty_of (y := x) (by rw [take_at, if_neg hne]), hb]; exact hd.2 d27
          · rw [← hb]; exact head_of (by rw [take_at, if_neg hne])
          · rw [eD, eD, eC]
            apply List.ext_getElem?
            intro j
            simp only [take_at]
            by_cases e1 : b = j <;> by_cases e2 : a = j <;> simp [e1, e2] <;> omega
        · have eD : ∀ y, stX mbX d u y = y := fun y => stX_none d26 d27
          refine ⟨⟨fun e => absurd e d26, fun e => absurd e d27⟩, fun e => absurd e d27, by rw [eD, eD, eC]⟩
    · have eC : ∀ y, stX mbX c v y = y := fun y => stX_none c26 c27
      rw [eC, eC]
      exact ⟨hd, fun _ => rfl, rfl⟩
end Go.Proofs.YtekjhefmhhcboaaGreat.Vw

/- Steps of a world: two of two tasks change places. -/
namespace Go.Proofs.YtekjhefmhhcboaaGreat.Vw
open Go.RowKit Vf Vm

/-- What is not received is not asked for. -/
theorem act_rv (m : Md) (c : Ins) (t : Tk) (a b : Int) (h : c.op ≠ 27) : t.act m c a = t.act m c b := by
  unfold Tk.act
  rw [if_neg h, if_neg h]
/-- All tasks and all boxes. -/
abbrev Wx := List Tk × List Bq
/-- A step of some task. -/
def Step1 (m : Md) (s s' : Wx) : Prop := ∃ (o : Nat) (t : Tk), s.1[o]? = some t ∧ (stat mbX m t s.2).1 = 1 ∧ s' = (s.1.set o (one mbX m t s.2).1, (one mbX m t s.2).2)
/-- What is known of a world for its steps to change places. -/
structure Kah (m : Md) (s : Wx) : Prop where
  fits : Fits s.2
  over : ∀ (o : Nat) t, s.1[o]? = some t → t.over = 0 ∨ t.over = 4 ∨ t.over = 5
  apart : ∀ (o p : Nat) t u, o ≠ p → s.1[o]? = some t → s.1[p]? = some u → t.over = 0 → u.over = 0 → Apart (t.ins m) (u.ins m)
theorem ready_zero {m : Md} {t : Tk} {x : List Bq} (h : (stat mbX m t x).1 = 1) (ho : t.over = 0 ∨ t.over = 4 ∨ t.over = 5) : t.over = 0 := by
  rcases ho with e | e | e
  · exact e
  · unfold stat at h; rw [if_pos (by omega)] at h; simp at h; omega
  · unfold stat at h; rw [if_pos (by omega)] at h; simp at h; omega
/-- A task's step is the same behind another's. -/
theorem one_after {m : Md} {t u : Tk} {x : List Bq} (hF : Fits x) (hA : Apart (t.ins m) (u.ins m)) (ht : May (t.ins m) x) (hu : May (u.ins m) x) :
    May (u.ins m) (one mbX m t x).2 ∧ (one mbX m u (one mbX m t x).2).1 = (one mbX m u x).1 ∧ (one mbX m u (one mbX m t x).2).2 = stX mbX (u.ins m) (u.goto (u.frame.pc + 1)).last (stX mbX (t.ins m) (t.goto (t.frame.pc + 1)).last x) := by
  obtain ⟨h1, h2, _⟩ := box_swap (t.goto (t.frame.pc + 1)).last (u.goto (u.frame.pc + 1)).last hF hA ht hu
  refine ⟨h1, ?_, rfl⟩
  show u.step m (mbX.head (stX mbX (t.ins m) (t.goto (t.frame.pc + 1)).last x) (u.ins m).a.toNat) = u.step m (mbX.head x (u.ins m).a.toNat)
  by_cases e : (u.ins m).op = 27
  · rw [h2 e]
  · exact act_rv m _ _ _ _ e
theorem Apart.symm {c d : Ins} (h : Apart c d) : Apart d c := ⟨fun a b e => h.1 b a e.symm, fun a b e => h.2 b a e.symm⟩
/-- THE DIAMOND. -/
theorem diamond {m : Md} {s a b : Wx} (hK : Kah m s) (ha : Step1 m s a) (hb : Step1 m s b) : a = b ∨ ∃ c, Step1 m a c ∧ Step1 m b c := by
  obtain ⟨o, t, ht, hst, rfl⟩ := ha
  obtain ⟨p, u, hu, hsu, rfl⟩ := hb
  by_cases e : o = p
  · subst e
    rw [ht] at hu
    cases hu
    exact .inl rfl
  · right
    have t0 := ready_zero hst (hK.over o t ht)
    have u0 := ready_zero hsu (hK.over p u hu)
    have hA := hK.apart o p t u e ht hu t0 u0
    have mt := (stat_may t0).1 hst
    have mu := (stat_may u0).1 hsu
    obtain ⟨k1, k2, k3⟩ := one_after hK.fits hA mt mu
    obtain ⟨l1, l2, l3⟩ := one_after hK.fits hA.symm mu mt
    obtain ⟨_, _, hsw⟩ := box_swap (t.goto (t.frame.pc + 1)).last (u.goto (u.frame.pc + 1)).last hK.fits hA mt mu
    refine ⟨((s.1.set o (one mbX m t s.2).1).set p (one mbX m u s.2).1, stX mbX (u.ins m) (u.goto (u.frame.pc + 1)).last (stX mbX (t.ins m) (t.goto (t.frame.pc + 1)).last s.2)), ⟨p, u, ?_, (stat_may u0).2 k1, ?_⟩, ⟨o, t, ?_, (stat_may t0).2 l1, ?_⟩⟩
    · show (s.1.set o _)[p]? = some u
      rw [List.getElem?_set_ne e]; exact hu
    · show _ = (((s.1.set o (one mbX m t s.2).1).set p (one mbX m u (one mbX m t s.2).2).1), (one mbX m u (one mbX m t s.2).2).2)
      rw [k2, k3]
    · show (s.1.set p _)[o]? = some t
      rw [List.getElem?_set_ne (Ne.symm e)]; exact ht
    · show _ = (((s.1.set p (one mbX m u s.2).1).set o (one mbX m t (one mbX m u s.2).2).1), (one mbX m t (one mbX m u s.2).2).2)
      rw [l2, l3, hsw, List.set_comm _ _ e]
/-- KAHN, PLAINLY: where what is known is kept, all ways to rest are of one length, and end alike. -/
theorem kahn {m : Md} {P : Wx → Prop} (hP : ∀ s t, P s → Step1 m s t → P t) (hK : ∀ s, P s → Kah m s) {k n : Nat} {s y z : Wx} (hs : P s) (h1 : Runs (Step1 m) n s z) (hz : Rests (Step1 m) z) (h2 : Runs (Step1 m) k s y) (hy : Rests (Step1 m) y) : n = k ∧ y = z :=
  Runs.one hP (fun s _ _ h ha hb => diamond (hK s h) ha hb) hs h1 hz h2 hy
end Go.Proofs.YtekjhefmhhcboaaGreat.Vw

/- Picks are runs. -/
namespace Go.Proofs.YtekjhefmhhcboaaGreat.Vw
open Go.RowKit Vf Vm

abbrev Wd.wx (W : Wd) : Wx := (W.ts, W.x)
theorem go_runs (m : Md) : ∀ (n : Nat) (ts : List Tk) (x : List Bq) (o : Nat) (t : Tk), ts[o]? = some t → Runs (Step1 m) (go mbX m n t x).1 (ts, x) (ts.set o (go mbX m n t x).2.1, (go mbX m n t x).2.2)
  | 0, ts, x, o, t, h => by
    show (ts, x) = (ts.set o t, x)
    have hl := (List.getElem?_eq_some_iff.1 h).1
    have e : ts.set o t = ts := by
      apply List.ext_getElem?
      intro j
      by_cases e : o = j
      · subst e; rw [List.getElem?_set_self hl, h]
      · rw [List.getElem?_set_ne e]
    rw [e]
  | n + 1, ts, x, o, t, h => by
    have hl := (List.getElem?_eq_some_iff.1 h).1
    by_cases hs : (stat mbX m t x).1 = 1
    · rw [go_yes hs]
      refine ⟨(ts.set o (one mbX m t x).1, (one mbX m t x).2), ⟨o, t, h, hs, rfl⟩, ?_⟩
      have := go_runs m n (ts.set o (one mbX m t x).1) (one mbX m t x).2 o (one mbX m t x).1 (List.getElem?_set_self hl)
      rw [List.set_set] at this
      exact this
    · rw [go_no hs]
      exact go_runs m 0 ts x o t h
/-- A pick is a run of its steps. -/
theorem pick_runs (m : Md) (W : Wd) (p : Pk) : ∃ n, (pickW m W p).steps = W.steps + n ∧ Runs (Step1 m) n W.wx (pickW m W p).wx := by
  by_cases h : refE m W p = 0
  · obtain ⟨h1, h2, _⟩ := refE_zero h
    obtain ⟨t, ht⟩ : ∃ t, W.ts[p.task.toNat]? = some t := ⟨_, List.getElem?_eq_getElem (by omega)⟩
    have e : W.tk p.task = t := by simp [Wd.tk, ht]
    refine ⟨(ran m W p).1, by unfold pickW; rw [if_pos h], ?_⟩
    have hw : (pickW m W p).wx = (W.ts.set p.task.toNat (ran m W p).2.1, (ran m W p).2.2) := by unfold pickW; rw [if_pos h]
    rw [hw]
    unfold ran
    rw [e]
    exact go_runs m _ W.ts W.x _ t ht
  · have e : pickW m W p = W := by unfold pickW; rw [if_neg h]
    rw [e]
    exact ⟨0, rfl, rfl⟩
theorem follow_runs (m : Md) : ∀ (ps : List Pk) (W : Wd), ∃ n, (followW m W ps).steps = W.steps + n ∧ Runs (Step1 m) n W.wx (followW m W ps).wx
  | [], _ => ⟨0, rfl, rfl⟩
  | p :: ps, W => by
    obtain ⟨a, e1, h1⟩ := pick_runs m W p
    obtain ⟨b, e2, h2⟩ := follow_runs m ps (pickW m W p)
    exact ⟨a + b, by show (followW m (pickW m W p) ps).steps = _; rw [e2, e1]; omega, h1.app h2⟩
theorem nextFrom_some {m : Md} {w : Wd} {o : Nat} : ∀ (n i : Nat), nextFrom m w n i = some o → (stat mbX m (w.tk (o : Int)) w.x).1 = 1 ∧ ∃ j, o = behind w j
  | 0, _, h => by cases h
  | n + 1, i, h => by
    unfold nextFrom at h
    split at h
    · rename_i hs
      cases h
      exact ⟨hs, i, rfl⟩
    · exact nextFrom_some n (i + 1) h
/-- Who is next is Ready. -/
theorem following_some {m : Md} {w : Wd} {o : Nat} (h : following m w = some o) (hn : 0 < w.ts.length) : o < w.ts.length ∧ (stat mbX m (w.tk (o : Int)) w.x).1 = 1 := by
  obtain ⟨h1, j, e⟩ := nextFrom_some _ _ h
  refine ⟨?_, h1⟩
  rw [e]
  unfold behind
  have := Int.emod_lt_of_pos (w.last + 1 + (j : Int)) (show (0 : Int) < (w.ts.length : Int) by omega)
  omega
/-- Where nobody is next all rests. -/
theorem rests_of {m : Md} {W : Wd} (h : following m W = none) : Rests (Step1 m) W.wx := fun s ⟨o, t, ht, hst, _⟩ => by
  have ho := (List.getElem?_eq_some_iff.1 ht).1
  have := following_none h ho
  have e : W.tk (o : Int) = t := by simp [Wd.tk, show W.ts[o]? = some t from ht]
  rw [e] at this
  exact this hst
/-- What settle comes to: rest; or as many steps as there may be, and somebody Ready. -/
theorem settle_runs (m : Md) (q : Int) (hq : 1 ≤ q ∧ q ≤ 10000) : ∀ (f : Nat) (W : Wd), 0 < W.ts.length → W.steps ≤ 20000 → 20001 ≤ W.steps + f → ∃ n, (settleW m q f W).2.steps = W.steps + n ∧ Runs (Step1 m) n W.wx (settleW m q f W).2.wx ∧ (((settleW m q f W).1 = 0 ∧ Rests (Step1 m) (settleW m q f W).2.wx) ∨ ((settleW m q f W).1 = 10 ∧ (settleW m q f W).2.steps = 20000 ∧ ¬ Rests (Step1 m) (settleW m q f W).2.wx))
  | 0, W, _, hs, hf => by omega
  | f + 1, W, hn, hs, hf => by
    unfold settleW
    split
    · rename_i h
      exact ⟨0, rfl, rfl, .inl ⟨rfl, rests_of h⟩⟩
    · rename_i o h
      obtain ⟨ho, hst⟩ := following_some h hn
      split
      · rename_i h0
        obtain ⟨a, e1, h1⟩ := pick_runs m W ⟨o, q⟩
        have hk := pick_steps m W ⟨o, q⟩
        have hr := ran_few h0
        have e3 : (pickW m W ⟨o, q⟩).steps = W.steps + (ran m W ⟨o, q⟩).1 := by unfold pickW; rw [if_pos h0]
        obtain ⟨b, e2, h2, h3⟩ := settle_runs m q hq f (pickW m W ⟨o, q⟩) (by rw [hk.2.1]; exact hn) (hk.2.2.1 hs) (by omega)
        exact ⟨a + b, by omega, h1.app h2, h3⟩
      · rename_i h0
        have e10 : refE m W ⟨o, q⟩ = 10 ∧ W.steps = 20000 := by
          unfold refE at h0 ⊢
          rw [if_neg (by simp only; omega), if_pos hq, if_pos hst] at h0 ⊢
          by_cases h2 : 20000 ≤ W.steps
          · rw [if_pos h2]; exact ⟨rfl, by omega⟩
          · rw [if_neg h2] at h0; exact absurd rfl h0
        obtain ⟨t, ht⟩ : ∃ t, W.ts[o]? = some t := ⟨_, List.getElem?_eq_getElem ho⟩
        have e : W.tk (o : Int) = t := by simp [Wd.tk, ht]
        rw [e] at hst
        exact ⟨0, rfl, rfl, .inr ⟨e10.1, e10.2, fun hR => hR _ ⟨o, t, ht, hst, rfl⟩⟩⟩
end Go.Proofs.YtekjhefmhhcboaaGreat.Vw

