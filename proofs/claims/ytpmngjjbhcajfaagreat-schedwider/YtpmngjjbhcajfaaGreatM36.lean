/- Steps of a world: two of two tasks change places. -/
import Derived.Test.YtpmngjjbhcajfaaGreatM35
import Derived.Test.YtpmngjjbhcajfaaGreatM26
namespace Go.Proofs.YtpmngjjbhcajfaaGreat.Vw
open Go.RowKit Vf Vm

/-- What is not received is not asked for. -/
theorem act_rv (m : Md) (c : Ins) (t : Tk) (a b : Int) (h : c.op ≠ 27) : t.act m c a = t.act m c b := by
  unfold Tk.act
  rw [if_neg h, if_neg h]
/-- All tasks and all boxes. -/
abbrev Wx := List Tk × List Bq
/-- A step of some task. -/
def Step1 (m : Md) (s s' : Wx) : Prop := ∃ (o : Nat) (t : Tk), s.1[o]? = some t ∧ (stat mbX m t s.2).1 = 1 ∧ s' = (s.1.set o (one mbX m t s.2).1, (one mbX m t s.2).2)
/-- What is known of a world for its steps to change places. -/
structure Kah (m : Md) (s : Wx) : Prop where
  fits : Fits s.2
  over : ∀ (o : Nat) t, s.1[o]? = some t → t.over = 0 ∨ t.over = 4 ∨ t.over = 5
  apart : ∀ (o p : Nat) t u, o ≠ p → s.1[o]? = some t → s.1[p]? = some u → t.over = 0 → u.over = 0 → Apart (t.ins m) (u.ins m)
theorem ready_zero {m : Md} {t : Tk} {x : List Bq} (h : (stat mbX m t x).1 = 1) (ho : t.over = 0 ∨ t.over = 4 ∨ t.over = 5) : t.over = 0 := by
  rcases ho with e | e | e
  · exact e
  · unfold stat at h; rw [if_pos (by omega)] at h; simp at h; omega
  · unfold stat at h; rw [if_pos (by omega)] at h; simp at h; omega
/-- A task's step is the same behind another's. -/
theorem one_after {m : Md} {t u : Tk} {x : List Bq} (hF : Fits x) (hA : Apart (t.ins m) (u.ins m)) (ht : May (t.ins m) x) (hu : May (u.ins m) x) :
    May (u.ins m) (one mbX m t x).2 ∧ (one mbX m u (one mbX m t x).2).1 = (one mbX m u x).1 ∧ (one mbX m u (one mbX m t x).2).2 = stX mbX (u.ins m) (u.goto (u.frame.pc + 1)).last (stX mbX (t.ins m) (t.goto (t.frame.pc + 1)).last x) := by
  obtain ⟨h1, h2, _⟩ := box_swap (t.goto (t.frame.pc + 1)).last (u.goto (u.frame.pc + 1)).last hF hA ht hu
  refine ⟨h1, ?_, rfl⟩
  show u.step m (mbX.head (stX mbX (t.ins m) (t.goto (t.frame.pc + 1)).last x) (u.ins m).a.toNat) = u.step m (mbX.head x (u.ins m).a.toNat)
  by_cases e : (u.ins m).op = 27
  · rw [h2 e]
  · exact act_rv m _ _ _ _ e
theorem Apart.symm {c d : Ins} (h : Apart c d) : Apart d c := ⟨fun a b e => h.1 b a e.symm, fun a b e => h.2 b a e.symm⟩
/-- THE DIAMOND. -/
theorem diamond {m : Md} {s a b : Wx} (hK : Kah m s) (ha : Step1 m s a) (hb : Step1 m s b) : a = b ∨ ∃ c, Step1 m a c ∧ Step1 m b c := by
  obtain ⟨o, t, ht, hst, rfl⟩ := ha
  obtain ⟨p, u, hu, hsu, rfl⟩ := hb
  by_cases e : o = p
  · subst e
    rw [ht] at hu
    cases hu
    exact .inl rfl
  · right
    have t0 := ready_zero hst (hK.over o t ht)
    have u0 := ready_zero hsu (hK.over p u hu)
    have hA := hK.apart o p t u e ht hu t0 u0
    have mt := (stat_may t0).1 hst
    have mu := (stat_may u0).1 hsu
    obtain ⟨k1, k2, k3⟩ := one_after hK.fits hA mt mu
    obtain ⟨l1, l2, l3⟩ := one_after hK.fits hA.symm mu mt
    obtain ⟨_, _, hsw⟩ := box_swap (t.goto (t.frame.pc + 1)).last (u.goto (u.frame.pc + 1)).last hK.fits hA mt mu
    refine ⟨((s.1.set o (one mbX m t s.2).1).set p (one mbX m u s.2).1, stX mbX (u.ins m) (u.goto (u.frame.pc + 1)).last (stX mbX (t.ins m) (t.goto (t.frame.pc + 1)).last s.2)), ⟨p, u, ?_, (stat_may u0).2 k1, ?_⟩, ⟨o, t, ?_, (stat_may t0).2 l1, ?_⟩⟩
    · show (s.1.set o _)[p]? = some u
      rw [List.getElem?_set_ne e]; exact hu
    · show _ = (((s.1.set o (one mbX m t s.2).1).set p (one mbX m u (one mbX m t s.2).2).1), (one mbX m u (one mbX m t s.2).2).2)
      rw [k2, k3]
    · show (s.1.set p _)[o]? = some t
      rw [List.getElem?_set_ne (Ne.symm e)]; exact ht
    · show _ = (((s.1.set p (one mbX m u s.2).1).set o (one mbX m t (one mbX m u s.2).2).1), (one mbX m t (one mbX m u s.2).2).2)
      rw [l2, l3, hsw, List.set_comm _ _ e]
/-- KAHN, PLAINLY: where what is known is kept, all ways to rest are of one length, and end alike. -/
theorem kahn {m : Md} {P : Wx → Prop} (hP : ∀ s t, P s → Step1 m s t → P t) (hK : ∀ s, P s → Kah m s) {k n : Nat} {s y z : Wx} (hs : P s) (h1 : Runs (Step1 m) n s z) (hz : Rests (Step1 m) z) (h2 : Runs (Step1 m) k s y) (hy : Rests (Step1 m) y) : n = k ∧ y = z :=
  Runs.one hP (fun s _ _ h ha hb => diamond (hK s h) ha hb) hs h1 hz h2 hy
end Go.Proofs.YtpmngjjbhcajfaaGreat.Vw

/- Picks are runs. -/
namespace Go.Proofs.YtpmngjjbhcajfaaGreat.Vw
open Go.RowKit Vf Vm

abbrev Wd.wx (W : Wd) : Wx := (W.ts, W.x)
theorem go_runs (m : Md) : ∀ (n : Nat) (ts : List Tk) (x : List Bq) (o : Nat) (t : Tk), ts[o]? = some t → Runs (Step1 m) (go mbX m n t x).1 (ts, x) (ts.set o (go mbX m n t x).2.1, (go mbX m n t x).2.2)
  | 0, ts, x, o, t, h => by
    show (ts, x) = (ts.set o t, x)
    have hl := (List.getElem?_eq_some_iff.1 h).1
    have e : ts.set o t = ts := by
      apply List.ext_getElem?
      intro j
      by_cases e : o = j
      · subst e; rw [List.getElem?_set_self hl, h]
      · rw [List.getElem?_set_ne e]
    rw [e]
  | n + 1, ts, x, o, t, h => by
    have hl := (List.getElem?_eq_some_iff.1 h).1
    by_cases hs : (stat mbX m t x).1 = 1
    · rw [go_yes hs]
      refine ⟨(ts.set o (one mbX m t x).1, (one mbX m t x).2), ⟨o, t, h, hs, rfl⟩, ?_⟩
      have := go_runs m n (ts.set o (one mbX m t x).1) (one mbX m t x).2 o (one mbX m t x).1 (List.getElem?_set_self hl)
      rw [List.set_set] at this
      exact this
    · rw [go_no hs]
      exact go_runs m 0 ts x o t h
/-- A pick is a run of its steps. -/
theorem pick_runs (m : Md) (W : Wd) (p : Pk) : ∃ n, (pickW m W p).steps = W.steps + n ∧ Runs (Step1 m) n W.wx (pickW m W p).wx := by
  by_cases h : refE m W p = 0
  · obtain ⟨h1, h2, _⟩ := refE_zero h
    obtain ⟨t, ht⟩ : ∃ t, W.ts[p.task.toNat]? = some t := ⟨_, List.getElem?_eq_getElem (by omega)⟩
    have e : W.tk p.task = t := by simp [Wd.tk, ht]
    refine ⟨(ran m W p).1, by unfold pickW; rw [if_pos h], ?_⟩
    have hw : (pickW m W p).wx = (W.ts.set p.task.toNat (ran m W p).2.1, (ran m W p).2.2) := by unfold pickW; rw [if_pos h]
    rw [hw]
    unfold ran
    rw [e]
    exact go_runs m _ W.ts W.x _ t ht
  · have e : pickW m W p = W := by unfold pickW; rw [if_neg h]
    rw [e]
    exact ⟨0, rfl, rfl⟩
theorem follow_runs (m : Md) : ∀ (ps : List Pk) (W : Wd), ∃ n, (followW m W ps).steps = W.steps + n ∧ Runs (Step1 m) n W.wx (followW m W ps).wx
  | [], _ => ⟨0, rfl, rfl⟩
  | p :: ps, W => by
    obtain ⟨a, e1, h1⟩ := pick_runs m W p
    obtain ⟨b, e2, h2⟩ := follow_runs m ps (pickW m W p)
    exact ⟨a + b, by show (followW m (pickW m W p) ps).steps = _; rw [e2, e1]; omega, h1.app h2⟩
theorem nextFrom_some {m : Md} {w : Wd} {o : Nat} : ∀ (n i : Nat), nextFrom m w n i = some o → (stat mbX m (w.tk (o : Int)) w.x).1 = 1 ∧ ∃ j, o = behind w j
  | 0, _, h => by cases h
  | n + 1, i, h => by
    unfold nextFrom at h
    split at h
    · rename_i hs
      cases h
      exact ⟨hs, i, rfl⟩
    · exact nextFrom_some n (i + 1) h
/-- Who is next is Ready. -/
theorem following_some {m : Md} {w : Wd} {o : Nat} (h : following m w = some o) (hn : 0 < w.ts.length) : o < w.ts.length ∧ (stat mbX m (w.tk (o : Int)) w.x).1 = 1 := by
  obtain ⟨h1, j, e⟩ := nextFrom_some _ _ h
  refine ⟨?_, h1⟩
  rw [e]
  unfold behind
  have := Int.emod_lt_of_pos (w.last + 1 + (j : Int)) (show (0 : Int) < (w.ts.length : Int) by omega)
  omega
/-- Where nobody is next all rests. -/
theorem rests_of {m : Md} {W : Wd} (h : following m W = none) : Rests (Step1 m) W.wx := fun s ⟨o, t, ht, hst, _⟩ => by
  have ho := (List.getElem?_eq_some_iff.1 ht).1
  have := following_none h ho
  have e : W.tk (o : Int) = t := by simp [Wd.tk, show W.ts[o]? = some t from ht]
  rw [e] at this
  exact this hst
/-- What settle comes to: rest; or as many steps as there may be, and somebody Ready. -/
theorem settle_runs (m : Md) (q : Int) (hq : 1 ≤ q ∧ q ≤ 10000) : ∀ (f : Nat) (W : Wd), 0 < W.ts.length → W.steps ≤ 20000 → 20001 ≤ W.steps + f → ∃ n, (settleW m q f W).2.steps = W.steps + n ∧ Runs (Step1 m) n W.wx (settleW m q f W).2.wx ∧ (((settleW m q f W).1 = 0 ∧ Rests (Step1 m) (settleW m q f W).2.wx) ∨ ((settleW m q f W).1 = 10 ∧ (settleW m q f W).2.steps = 20000 ∧ ¬ Rests (Step1 m) (settleW m q f W).2.wx))
  | 0, W, _, hs, hf => by omega
  | f + 1, W, hn, hs, hf => by
    unfold settleW
    split
    · rename_i h
      exact ⟨0, rfl, rfl, .inl ⟨rfl, rests_of h⟩⟩
    · rename_i o h
      obtain ⟨ho, hst⟩ := following_some h hn
      split
      · rename_i h0
        obtain ⟨a, e1, h1⟩ := pick_runs m W ⟨o, q⟩
        have hk := pick_steps m W ⟨o, q⟩
        have hr := ran_few h0
        have e3 : (pickW m W ⟨o, q⟩).steps = W.steps + (ran m W ⟨o, q⟩).1 := by unfold pickW; rw [if_pos h0]
        obtain ⟨b, e2, h2, h3⟩ := settle_runs m q hq f (pickW m W ⟨o, q⟩) (by rw [hk.2.1]; exact hn) (hk.2.2.1 hs) (by omega)
        exact ⟨a + b, by omega, h1.app h2, h3⟩
      · rename_i h0
        have e10 : refE m W ⟨o, q⟩ = 10 ∧ W.steps = 20000 := by
          unfold refE at h0 ⊢
          rw [if_neg (by simp only; omega), if_pos hq, if_pos hst] at h0 ⊢
          by_cases h2 : 20000 ≤ W.steps
          · rw [if_pos h2]; exact ⟨rfl, by omega⟩
          · rw [if_neg h2] at h0; exact absurd rfl h0
        obtain ⟨t, ht⟩ : ∃ t, W.ts[o]? = some t := ⟨_, List.getElem?_eq_getElem ho⟩
        have e : W.tk (o : Int) = t := by simp [Wd.tk, ht]
        rw [e] at hst
        exact ⟨0, rfl, rfl, .inr ⟨e10.1, e10.2, fun hR => hR _ ⟨o, t, ht, hst, rfl⟩⟩⟩
end Go.Proofs.YtpmngjjbhcajfaaGreat.Vw

/- A right module without some of its tasks is right. -/
namespace Go.Proofs.YtpmngjjbhcajfaaGreat
namespace Vf

theorem gatC_like {rec1 rec2 : Int → LL → LL} : ∀ (cs : List Ins) (l : LL), (∀ c ∈ cs, ∀ l, gstep rec1 c l = gstep rec2 c l) → gatC rec1 cs l = gatC rec2 cs l
  | [], _, _ => rfl
  | c :: cs, l, h => by
    show gatC rec1 cs (gstep rec1 c l) = gatC rec2 cs (gstep rec2 c l)
    rw [h c List.mem_cons_self]
    exact gatC_like cs _ (fun c hc => h c (List.mem_cons_of_mem _ hc))
theorem call_is {m : Md} {u : Un} {c : Ins} (hf : formE m u c = 0) (h : c.op = 23 ∨ c.op = 29) : ∃ kd, kd ≠ 4 ∧ is m kd c.a = true := by
  obtain ⟨_, _, hrg⟩ := formE_zero hf
  rcases h with h | h
  · refine ⟨2, by decide, ?_⟩
    rw [← hrg]
    unfold ranged
    rw [if_neg (by omega), if_neg (by omega), if_neg (by omega), if_pos h]
  · refine ⟨3, by decide, ?_⟩
    rw [← hrg]
    unfold ranged
    rw [if_neg (by omega), if_neg (by omega), if_neg (by omega), if_neg (by omega), if_pos h]
theorem Like.gat {m n : Md} (h : Like m n) (hR : Rt m) : ∀ (f : Nat) (a : Int) (l : LL), Vf.unit n a = Vf.unit m a → Vf.gat n f a l = Vf.gat m f a l
  | 0, _, _, _ => rfl
  | f + 1, a, l, he => by
    show gatC (Vf.gat n f) (Vf.unit n a).code l = gatC (Vf.gat m f) (Vf.unit m a).code l
    rw [he]
    have hu := unit_in hR a
    refine gatC_like _ _ (fun c hc l => ?_)
    unfold gstep
    by_cases h1 : c.op = 26 ∨ c.op = 27
    · rw [if_pos h1, if_pos h1]
    · rw [if_neg h1, if_neg h1]
      by_cases h2 : c.op = 23 ∨ c.op = 29
      · rw [if_pos h2, if_pos h2]
        obtain ⟨kd, hk4, hi⟩ := call_is (hu.2 c hc) h2
        rw [h.gat hR f c.a _ (h.unit hk4 hi)]
      · rw [if_neg h2, if_neg h2]
theorem Like.tc {m n : Md} (h : Like m n) (hR : Rt m) (q : Lk) (k : Nat) : Vf.tc n q k ≤ Vf.tc m q k := by
  unfold Vf.tc
  refine List.countP_mono_left (fun i _ hi => ?_)
  simp only [Bool.and_eq_true] at hi ⊢
  rw [h.is] at hi
  refine ⟨hi.1, ?_⟩
  have hc := hi.2
  obtain ⟨u, hu, hk, _⟩ := is_some hi.1
  have hi' : Vf.is n 4 (i : Int) = true := by rw [h.is]; exact hi.1
  obtain ⟨v, hv, _, _⟩ := is_some hi'
  have huv : Vf.unit m (i : Int) = u := by unfold Vf.unit; rw [hu]; rfl
  have hvv : Vf.unit n (i : Int) = v := by unfold Vf.unit; rw [hv]; rfl
  rcases h.same _ u v hu hv with h1 | ⟨_, h1⟩
  · unfold comes at hc ⊢
    rw [h.gat hR 61 (i : Int) [] (by rw [hvv, huv, h1])] at hc
    exact hc
  · exfalso
    unfold comes at hc
    rw [small_gat n 61 (i : Int) (by rw [hvv, h1])] at hc
    simp [cnt, idx] at hc
end Vf
end Go.Proofs.YtpmngjjbhcajfaaGreat

