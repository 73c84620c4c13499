/- Picks are runs. -/
import Derived.Test.YtnahadibllkhlaaGreatM34
import Derived.Test.YtnahadibllkhlaaGreatM26
namespace Go.Proofs.YtnahadibllkhlaaGreat.Vw
open Go.RowKit Vf Vm

abbrev Wd.wx (W : Wd) : Wx := (W.ts, W.x)
theorem go_runs (m : Md) : ∀ (n : Nat) (ts : List Tk) (x : List Bq) (o : Nat) (t : Tk), ts[o]? = some t → Runs (Step1 m) (go mbX m n t x).1 (ts, x) (ts.set o (go mbX m n t x).2.1, (go mbX m n t x).2.2)
  | 0, ts, x, o, t, h => by
    show (ts, x) = (ts.set o t, x)
    have hl := (List.getElem?_eq_some_iff.1 h).1
    have e : ts.set o t = ts := by
      apply List.ext_getElem?
      intro j
      by_cases e : o = j
      · subst e; rw [List.getElem?_set_self hl, h]
      · rw [List.getElem?_set_ne e]
    rw [e]
  | n + 1, ts, x, o, t, h => by
    have hl := (List.getElem?_eq_some_iff.1 h).1
    by_cases hs : (stat mbX m t x).1 = 1
    · rw [go_yes hs]
      refine ⟨(ts.set o (one mbX m t x).1, (one mbX m t x).2), ⟨o, t, h, hs, rfl⟩, ?_⟩
      have := go_runs m n (ts.set o (one mbX m t x).1) (one mbX m t x).2 o (one mbX m t x).1 (List.getElem?_set_self hl)
      rw [List.set_set] at this
      exact this
    · rw [go_no hs]
      exact go_runs m 0 ts x o t h
/-- A pick is a run of its steps. -/
theorem pick_runs (m : Md) (W : Wd) (p : Pk) : ∃ n, (pickW m W p).steps = W.steps + n ∧ Runs (Step1 m) n W.wx (pickW m W p).wx := by
  by_cases h : refE m W p = 0
  · obtain ⟨h1, h2, _⟩ := refE_zero h
    obtain ⟨t, ht⟩ : ∃ t, W.ts[p.task.toNat]? = some t := ⟨_, List.getElem?_eq_getElem (by omega)⟩
    have e : W.tk p.task = t := by simp [Wd.tk, ht]
    refine ⟨(ran m W p).1, by unfold pickW; rw [if_pos h], ?_⟩
    have hw : (pickW m W p).wx = (W.ts.set p.task.toNat (ran m W p).2.1, (ran m W p).2.2) := by unfold pickW; rw [if_pos h]
    rw [hw]
    unfold ran
    rw [e]
    exact go_runs m _ W.ts W.x _ t ht
  · have e : pickW m W p = W := by unfold pickW; rw [if_neg h]
    rw [e]
    exact ⟨0, rfl, rfl⟩
theorem follow_runs (m : Md) : ∀ (ps : List Pk) (W : Wd), ∃ n, (followW m W ps).steps = W.steps + n ∧ Runs (Step1 m) n W.wx (followW m W ps).wx
  | [], _ => ⟨0, rfl, rfl⟩
  | p :: ps, W => by
    obtain ⟨a, e1, h1⟩ := pick_runs m W p
    obtain ⟨b, e2, h2⟩ := follow_runs m ps (pickW m W p)
    exact ⟨a + b, by show (followW m (pickW m W p) ps).steps = _; rw [e2, e1]; omega, h1.app h2⟩
theorem nextFrom_some {m : Md} {w : Wd} {o : Nat} : ∀ (n i : Nat), nextFrom m w n i = some o → (stat mbX m (w.tk (o : Int)) w.x).1 = 1 ∧ ∃ j, o = behind w j
  | 0, _, h => by cases h
  | n + 1, i, h => by
    unfold nextFrom at h
    split at h
    · rename_i hs
      cases h
      exact ⟨hs, i, rfl⟩
    · exact nextFrom_some n (i + 1) h
/-- Who is next is Ready. -/
theorem following_some {m : Md} {w : Wd} {o : Nat} (h : following m w = some o) (hn : 0 < w.ts.length) : o < w.ts.length ∧ (stat mbX m (w.tk (o : Int)) w.x).1 = 1 := by
  obtain ⟨h1, j, e⟩ := nextFrom_some _ _ h
  refine ⟨?_, h1⟩
  rw [e]
  unfold behind
  have := Int.emod_lt_of_pos (w.last + 1 + (j : Int)) (show (0 : Int) < (w.ts.length : Int) by omega)
  omega
/-- Where nobody is next all rests. -/
theorem rests_of {m : Md} {W : Wd} (h : following m W = none) : Rests (Step1 m) W.wx := fun s ⟨o, t, ht, hst, _⟩ => by
  have ho := (List.getElem?_eq_some_iff.1 ht).1
  have := following_none h ho
  have e : W.tk (o : Int) = t := by simp [Wd.tk, show W.ts[o]? = some t from ht]
  rw [e] at this
  exact this hst
/-- What settle comes to: rest; or as many steps as there may be, and somebody Ready. -/
theorem settle_runs (m : Md) (q : Int) (hq : 1 ≤ q ∧ q ≤ 10000) : ∀ (f : Nat) (W : Wd), 0 < W.ts.length → W.steps ≤ 20000 → 20001 ≤ W.steps + f → ∃ n, (settleW m q f W).2.steps = W.steps + n ∧ Runs (Step1 m) n W.wx (settleW m q f W).2.wx ∧ (((settleW m q f W).1 = 0 ∧ Rests (Step1 m) (settleW m q f W).2.wx) ∨ ((settleW m q f W).1 = 10 ∧ (settleW m q f W).2.steps = 20000 ∧ ¬ Rests (Step1 m) (settleW m q f W).2.wx))
  | 0, W, _, hs, hf => by omega
  | f + 1, W, hn, hs, hf => by
    unfold settleW
    split
    · rename_i h
      exact ⟨0, rfl, rfl, .inl ⟨rfl, rests_of h⟩⟩
    · rename_i o h
      obtain ⟨ho, hst⟩ := following_some h hn
      split
      · rename_i h0
        obtain ⟨a, e1, h1⟩ := pick_runs m W ⟨o, q⟩
        have hk := pick_steps m W ⟨o, q⟩
        have hr := ran_few h0
        have e3 : (pickW m W ⟨o, q⟩).steps = W.steps + (ran m W ⟨o, q⟩).1 := by unfold pickW; rw [if_pos h0]
        obtain ⟨b, e2, h2, h3⟩ := settle_runs m q hq f (pickW m W ⟨o, q⟩) (by rw [hk.2.1]; exact hn) (hk.2.2.1 hs) (by omega)
        exact ⟨a + b, by omega, h1.app h2, h3⟩
      · rename_i h0
        have e10 : refE m W ⟨o, q⟩ = 10 ∧ W.steps = 20000 := by
          unfold refE at h0 ⊢
          rw [if_neg (by simp only; omega), if_pos hq, if_pos hst] at h0 ⊢
          by_cases h2 : 20000 ≤ W.steps
          · rw [if_pos h2]; exact ⟨rfl, by omega⟩
          · rw [if_neg h2] at h0; exact absurd rfl h0
        obtain ⟨t, ht⟩ : ∃ t, W.ts[o]? = some t := ⟨_, List.getElem?_eq_getElem ho⟩
        have e : W.tk (o : Int) = t := by simp [Wd.tk, ht]
        rw [e] at hst
        exact ⟨0, rfl, rfl, .inr ⟨e10.1, e10.2, fun hR => hR _ ⟨o, t, ht, hst, rfl⟩⟩⟩
end Go.Proofs.YtnahadibllkhlaaGreat.Vw

/- A right module without some of its tasks is right. -/
namespace Go.Proofs.YtnahadibllkhlaaGreat
namespace Vf

theorem gatC_like {rec1 rec2 : Int → LL → LL} : ∀ (cs : List Ins) (l : LL), (∀ c ∈ cs, ∀ l, gstep rec1 c l = gstep rec2 c l) → gatC rec1 cs l = gatC rec2 cs l
  | [], _, _ => rfl
  | c :: cs, l, h => by
    show gatC rec1 cs (gstep rec1 c l) = gatC rec2 cs (gstep rec2 c l)
    rw [h c List.mem_cons_self]
    exact gatC_like cs _ (fun c hc => h c (List.mem_cons_of_mem _ hc))
theorem call_is {m : Md} {u : Un} {c : Ins} (hf : formE m u c = 0) (h : c.op = 23 ∨ c.op = 29) : ∃ kd, kd ≠ 4 ∧ is m kd c.a = true := by
  obtain ⟨_, _, hrg⟩ := formE_zero hf
  rcases h with h | h
  · refine ⟨2, by decide, ?_⟩
    rw [← hrg]
    unfold ranged
    rw [if_neg (by omega), if_neg (by omega), if_neg (by omega), if_pos h]
  · refine ⟨3, by decide, ?_⟩
    rw [← hrg]
    unfold ranged
    rw [if_neg (by omega), if_neg (by omega), if_neg (by omega), if_neg (by omega), if_pos h]
theorem Like.gat {m n : Md} (h : Like m n) (hR : Rt m) : ∀ (f : Nat) (a : Int) (l : LL), Vf.unit n a = Vf.unit m a → Vf.gat n f a l = Vf.gat m f a l
  | 0, _, _, _ => rfl
  | f + 1, a, l, he => by
    show gatC (Vf.gat n f) (Vf.unit n a).code l = gatC (Vf.gat m f) (Vf.unit m a).code l
    rw [he]
    have hu := unit_in hR a
    refine gatC_like _ _ (fun c hc l => ?_)
    unfold gstep
    by_cases h1 : c.op = 26 ∨ c.op = 27
    · rw [if_pos h1, if_pos h1]
    · rw [if_neg h1, if_neg h1]
      by_cases h2 : c.op = 23 ∨ c.op = 29
      · rw [if_pos h2, if_pos h2]
        obtain ⟨kd, hk4, hi⟩ := call_is (hu.2 c hc) h2
        rw [h.gat hR f c.a _ (h.unit hk4 hi)]
      · rw [if_neg h2, if_neg h2]
theorem Like.tc {m n : Md} (h : Like m n) (hR : Rt m) (q : Lk) (k : Nat) : Vf.tc n q k ≤ Vf.tc m q k := by
  unfold Vf.tc
  refine List.countP_mono_left (fun i _ hi => ?_)
  simp only [Bool.and_eq_true] at hi ⊢
  rw [h.is] at hi
  refine ⟨hi.1, ?_⟩
  have hc := hi.2
  obtain ⟨u, hu, hk, _⟩ := is_some hi.1
  have hi' : Vf.is n 4 (i : Int) = true := by rw [h.is]; exact hi.1
  obtain ⟨v, hv, _, _⟩ := is_some hi'
  have huv : Vf.unit m (i : Int) = u := by unfold Vf.unit; rw [hu]; rfl
  have hvv : Vf.unit n (i : Int) = v := by unfold Vf.unit; rw [hv]; rfl
  rcases h.same _ u v hu hv with h1 | ⟨_, h1⟩
  · unfold comes at hc ⊢
    rw [h.gat hR 61 (i : Int) [] (by rw [hvv, huv, h1])] at hc
    exact hc
  · exfalso
    unfold comes at hc
    rw [small_gat n 61 (i : Int) (by rw [hvv, h1])] at hc
    simp [cnt, idx] at hc
end Vf
end Go.Proofs.YtnahadibllkhlaaGreat

/- What is gathered from a unit on is what one comes to from there, plainly (for VerifyTells). -/
namespace Go.Proofs.YtnahadibllkhlaaGreat
namespace Vf

def Kops (c : Ins) : Prop := c.op = 23 ∨ c.op = 26 ∨ c.op = 27 ∨ c.op = 29
/-- All that was there is there still; whatever call is new has all of its unit's. -/
structure Cl (m : Md) (l l' : LL) : Prop where
  mono : ∀ q, 1 ≤ cnt q l → 1 ≤ cnt q l'
  done : ∀ op a, op = 23 ∨ op = 29 → ¬ 1 ≤ cnt (op, a) l → 1 ≤ cnt (op, a) l' → ∀ c ∈ (unit m a).code, Kops c → 1 ≤ cnt (c.op, c.a) l'
theorem Cl.refl (m : Md) (l : LL) : Cl m l l := ⟨fun _ h => h, fun _ _ _ hn hy => absurd hy hn⟩
theorem Cl.trans {m : Md} {l l1 l2 : LL} (h : Cl m l l1) (k : Cl m l1 l2) : Cl m l l2 := ⟨fun q hq => k.mono q (h.mono q hq), fun op a ho hn hy c hc hk => by
  by_cases h1 : 1 ≤ cnt (op, a) l1
  · exact k.mono _ (h.done op a ho hn h1 c hc hk)
  · exact k.done op a ho h1 hy c hc hk⟩
theorem bump_in {l : LL} (hl : Wl l) (k : Lk) : 1 ≤ cnt k (bump k l) := by
  rw [cnt_bump, if_pos rfl]
  have := cnt_nn hl k
  omega
theorem bump_mono {l : LL} (hl : Wl l) (k q : Lk) (h : 1 ≤ cnt q l) : 1 ≤ cnt q (bump k l) := by
  rw [cnt_bump]
  split
  · have := cnt_nn hl k; omega
  · exact h
theorem bump_old {l : LL} {k q : Lk} (h : 1 ≤ cnt q (bump k l)) (hn : ¬ 1 ≤ cnt q l) : q = k := by
  rw [cnt_bump] at h
  split at h
  · assumption
  · exact absurd h hn
theorem call_univ {m : Md} {u : Un} {c : Ins} (hR : Rt m) (hf : formE m u c = 0) (h : c.op = 23 ∨ c.op = 29) : (c.op, c.a) ∈ univ := by
  obtain ⟨kd, _, hi⟩ := call_is hf h
  obtain ⟨x, h3, _, h4⟩ := is_some hi
  have := (List.getElem?_eq_some_iff.1 h3).1
  have h5 := hR.units
  obtain ⟨k, hk⟩ : ∃ k : Nat, c.a = k := ⟨c.a.toNat, by omega⟩
  rw [hk]
  exact univ_mem h (by omega)

theorem gstep_cl {m : Md} {u : Un} {c : Ins} {f : Nat} {l : LL} (hR : Rt m) (hf : formE m u c = 0) (hl : Wl l) (hm : mus l ≤ f)
    (ih : ∀ n l, Wl l → mus l + 1 ≤ f → Cl m l (gat m f n l) ∧ ∀ c ∈ (unit m n).code, Kops c → 1 ≤ cnt (c.op, c.a) (gat m f n l)) : Cl m l (gstep (gat m f) c l) ∧ (Kops c → 1 ≤ cnt (c.op, c.a) (gstep (gat m f) c l)) := by
  unfold gstep
  by_cases h1 : c.op = 26 ∨ c.op = 27
  · rw [if_pos h1]
    refine ⟨⟨fun q hq => bump_mono hl _ q hq, fun op a ho hn hy => ?_⟩, fun _ => bump_in hl _⟩
    have e := bump_old hy hn
    simp only [Prod.mk.injEq] at e
    omega
  · rw [if_neg h1]
    by_cases h2 : c.op = 23 ∨ c.op = 29
    · rw [if_pos h2]
      by_cases h0 : cnt (c.op, c.a) l = 0
      · rw [if_pos h0]
        have hn := mus_new hl (call_univ hR hf h2) h0
        obtain ⟨hC, hB⟩ := ih c.a (bump (c.op, c.a) l) (hl.bump _) (by omega)
        refine ⟨⟨fun q hq => hC.mono q (bump_mono hl _ q hq), fun op a ho hno hy => ?_⟩, fun _ => hC.mono _ (bump_in hl _)⟩
        by_cases hb : 1 ≤ cnt (op, a) (bump (c.op, c.a) l)
        · have e := bump_old hb hno
          simp only [Prod.mk.injEq] at e
          rw [e.2]
          exact hB
        · exact hC.done op a ho hb hy
      · rw [if_neg h0]
        have hp : 1 ≤ cnt (c.op, c.a) l := by have := cnt_nn hl (c.op, c.a); omega
        refine ⟨⟨fun q hq => bump_mono hl _ q hq, fun op a ho hno hy => ?_⟩, fun _ => bump_in hl _⟩
        have e := bump_old hy hno
        rw [e] at hno
        exact absurd hp hno
    · rw [if_neg h2]
      refine ⟨Cl.refl m l, fun hk => ?_⟩
      unfold Kops at hk
      omega
theorem gatC_cl {m : Md} {u : Un} {f : Nat} (hR : Rt m) (ih : ∀ n l, Wl l → mus l + 1 ≤ f → Cl m l (gat m f n l) ∧ ∀ c ∈ (unit m n).code, Kops c → 1 ≤ cnt (c.op, c.a) (gat m f n l)) : ∀ (cs : List Ins) (l : LL), (∀ c ∈ cs, formE m u c = 0) → Wl l → mus l ≤ f → Cl m l (gatC (gat m f) cs l) ∧ ∀ c ∈ cs, Kops c → 1 ≤ cnt (c.op, c.a) (gatC (gat m f) cs l)
  | [], l, _, _, _ => ⟨Cl.refl m l, fun c hc => by cases hc⟩
  | c :: cs, l, hf, hl, hm => by
    have h1 := gstep_cl hR (hf c List.mem_cons_self) hl hm ih
    have hg := gstep_gd hR.units (hf c List.mem_cons_self) hl (gat_gd hR f)
    have h2 := gatC_cl hR ih cs (gstep (gat m f) c l) (fun c hc => hf c (List.mem_cons_of_mem _ hc)) hg.wl (Nat.le_trans hg.mus hm)
    have e : gatC (gat m f) (c :: cs) l = gatC (gat m f) cs (gstep (gat m f) c l) := rfl
    rw [e]
    refine ⟨h1.1.trans h2.1, fun c' hc' hk => ?_⟩
    rcases List.mem_cons.1 hc' with rfl | h3
    · exact h2.1.mono _ (h1.2 hk)
    · exact h2.2 c' h3 hk
theorem gat_cl {m : Md} (hR : Rt m) : ∀ (f : Nat) (n : Int) (l : LL), Wl l → mus l + 1 ≤ f → Cl m l (gat m f n l) ∧ ∀ c ∈ (unit m n).code, Kops c → 1 ≤ cnt (c.op, c.a) (gat m f n l)
  | 0, _, _, _, h => by omega
  | f + 1, n, l, hl, h => gatC_cl (u := unit m n) hR (gat_cl hR f) (unit m n).code l (unit_in hR n).2 hl (by omega)

/-- One comes from a unit to a unit. -/
inductive Reach (m : Md) : Int → Int → Prop
  | here (n : Int) : Reach m n n
  | step {n k : Int} {c : Ins} : Reach m n k → c ∈ (unit m k).code → c.op = 23 ∨ c.op = 29 → Reach m n c.a
theorem Reach.head {m : Md} {n k : Int} {c : Ins} (hc : c ∈ (unit m n).code) (ho : c.op = 23 ∨ c.op = 29) (h : Reach m c.a k) : Reach m n k := by
  induction h with
  | here => exact .step (.here n) hc ho
  | step _ h2 h3 ih => exact .step ih h2 h3

theorem gat_sound {m : Md} (q : Lk) : ∀ (f : Nat) (n : Int) (l : LL), 1 ≤ cnt q (gat m f n l) → 1 ≤ cnt q l ∨ ∃ k, Reach m n k ∧ ∃ c ∈ (unit m k).code, (c.op, c.a) = q
  | 0, _, _, h => .inl h
  | f + 1, n, l, h => by
    have key : ∀ (cs : List Ins) (l : LL), (∀ c ∈ cs, c ∈ (unit m n).code) → 1 ≤ cnt q (gatC (gat m f) cs l) → 1 ≤ cnt q l ∨ ∃ k, Reach m n k ∧ ∃ c ∈ (unit m k).code, (c.op, c.a) = q := by
      intro cs
      induction cs with
      | nil => intro l _ h; exact .inl h
      | cons c cs ih =>
        intro l hcs h
        have hc := hcs c List.mem_cons_self
        rcases ih (gstep (gat m f) c l) (fun c hc => hcs c (List.mem_cons_of_mem _ hc)) h with h1 | h1
        · have hb : 1 ≤ cnt q (bump (c.op, c.a) l) → 1 ≤ cnt q l ∨ ∃ k, Reach m n k ∧ ∃ c ∈ (unit m k).code, (c.op, c.a) = q := fun hb => by
            by_cases hq : 1 ≤ cnt q l
            · exact .inl hq
            · exact .inr ⟨n, .here n, c, hc, (bump_old hb hq).symm⟩
          unfold gstep at h1
          split at h1
          · exact hb h1
          · split at h1
            · rename_i h2
              split at h1
              · rcases gat_sound q f c.a _ h1 with h3 | ⟨k, h3, h4⟩
                · exact hb h3
                · exact .inr ⟨k, Reach.head hc h2 h3, h4⟩
              · exact hb h1
            · exact .inl h1
        · exact .inr h1
    exact key _ l (fun c hc => hc) h
/-- WHAT A UNIT COMES TO. -/
theorem comes_iff {m : Md} (hR : Rt m) (i : Nat) {q : Lk} (hq : q.1 = 26 ∨ q.1 = 27) : comes m i q = true ↔ ∃ k, Reach m (i : Int) k ∧ ∃ c ∈ (unit m k).code, (c.op, c.a) = q := by
  unfold comes
  rw [decide_eq_true_iff]
  constructor
  · intro h
    rcases gat_sound q 61 (i : Int) [] h with h1 | h1
    · exfalso
      simp [cnt, idx] at h1
    · exact h1
  · rintro ⟨k, hk, c, hc, rfl⟩
    obtain ⟨hC, hB⟩ := gat_cl hR 61 (i : Int) [] Wl.nil (by rw [mus_nil]; omega)
    have all : ∀ k, Reach m (i : Int) k → ∀ c ∈ (unit m k).code, Kops c → 1 ≤ cnt (c.op, c.a) (gat m 61 (i : Int) []) := by
      intro k hk
      induction hk with
      | here => exact hB
      | step _ h2 h3 ih =>
        refine hC.done _ _ h3 (by simp [cnt, idx]) (ih _ h2 ?_)
        unfold Kops
        omega
    exact all k hk c hc (by unfold Kops; simp at hq; omega)

end Vf
end Go.Proofs.YtnahadibllkhlaaGreat

