/- KAHN'S THEOREM, plainly, of a right module: what is kept. -/
import Derived.Test.YtomneemdbechgaaGreatM40
import Derived.Test.YtomneemdbechgaaGreatM37
import Derived.Test.YtomneemdbechgaaGreatM32
namespace Go.Proofs.YtomneemdbechgaaGreat.Vw
open Go.RowKit Vf Vm

theorem two_count {p : Nat → Bool} {k i j : Nat} (hi : i < k) (hj : j < k) (hne : i ≠ j) (pi : p i = true) (pj : p j = true) : 2 ≤ (List.range k).countP p := by
  rw [List.countP_eq_length_filter]
  have mi : i ∈ (List.range k).filter p := List.mem_filter.2 ⟨by simpa using hi, pi⟩
  have mj : j ∈ (List.range k).filter p := List.mem_filter.2 ⟨by simpa using hj, pj⟩
  generalize (List.range k).filter p = l at mi mj
  match l, mi, mj with
  | [a], mi, mj =>
    simp at mi mj
    exact absurd (mi.trans mj.symm) hne
  | _ :: _ :: _, _, _ => simp
theorem tasks_nodup (m : Md) : (tasksTo m.units m.units.length).Nodup := by
  unfold tasksTo
  exact List.Pairwise.filter _ List.nodup_range
/-- What holds of a world, step by step. -/
structure KI (m : Md) (K : KM) (s : Wx) : Prop where
  bx : BxOk m s.2
  tasks : ∀ (o : Nat) t, s.1[o]? = some t → Goes m K t ∧ (t.over = 0 ∨ t.over = 4 ∨ t.over = 5) ∧ ∃ k : Nat, (tasksTo m.units m.units.length)[o]? = some k ∧ Inn (Vf.Reach m (k : Int)) t
/-- Where a task stands. -/
theorem here_of {m : Md} {K : KM} (hK : Known m K) {t : Tk} (hG : Goes m K t) (h0 : t.over = 0) : t.top.fs ≠ [] ∧ (t.ins m) ∈ (unit m (t.frame.u : Int)).code ∧ ((t.ins m).op = 23 ∨ (t.ins m).op = 29 → ((t.ins m).a.toNat : Int) = (t.ins m).a) ∧ ((t.ins m).op = 26 ∨ (t.ins m).op = 27 → ((t.ins m).a.toNat : Int) = (t.ins m).a ∧ (t.ins m).a.toNat < m.boxes.length) := by
  rcases hG with hg | ⟨G, st, hM⟩
  · exact absurd h0 hg
  · obtain ⟨h, f, r, u, i, k, k', H⟩ := hM.here hK
    have ef : t.top.fs = f :: r := by rw [top_of H.hh]; exact H.fs
    have efr : t.frame = f := by simp [Tk.frame, ef]
    rw [H.ins, efr]
    obtain ⟨hp1, hp2, hrg⟩ := H.pos
    refine ⟨by rw [ef]; simp, ?_, fun ho => ?_, fun ho => ?_⟩
    · rw [unit_of H.un]; exact List.mem_of_getElem? H.code
    · unfold ranged at hrg
      rw [if_neg (by omega), if_neg (by omega), if_neg (by omega)] at hrg
      rcases ho with ho | ho
      · rw [if_pos ho] at hrg
        unfold is at hrg
        simp at hrg
        omega
      · rw [if_neg (by omega), if_pos ho] at hrg
        unfold is at hrg
        simp at hrg
        omega
    · unfold ranged at hrg
      rw [if_neg (by omega), if_neg (by omega), if_neg (by omega), if_neg (by omega), if_neg (by omega), if_pos ho] at hrg
      simp at hrg
      omega
theorem ki_step {m : Md} {K : KM} (hK : Known m K) {s s' : Wx} (h : KI m K s) (hs : Step1 m s s') : KI m K s' := by
  obtain ⟨o, t, ht, hst, rfl⟩ := hs
  obtain ⟨hG, hov, k, hk, hI⟩ := h.tasks o t ht
  have h0 := ready_zero hst hov
  obtain ⟨g1, g2, g3⟩ := mj_step hK hG h0 h.bx hst
  refine ⟨g3, fun p u hu => ?_⟩
  change (s.1.set o (one mbX m t s.2).1)[p]? = some u at hu
  rw [List.getElem?_set] at hu
  split at hu
  · rename_i e
    subst e
    split at hu
    · cases hu
      refine ⟨g1, g2, k, hk, ?_⟩
      obtain ⟨b1, b2, b3, _⟩ := here_of hK hG h0
      have hg0 : (t.goto (t.frame.pc + 1)).top.fs ≠ [] := by
        cases hi : t.ths[t.hand]? with
        | none =>
          exfalso
          apply b1
          show ((t.ths[t.hand]?).getD th0).fs = []
          rw [hi]
          rfl
        | some x =>
          have hl := (List.getElem?_eq_some_iff.1 hi).1
          show ((t.ths.set t.hand { t.top with fs := { t.frame with pc := t.frame.pc + 1 } :: t.top.fs.tail })[t.hand]?.getD th0).fs ≠ []
          rw [List.getElem?_set_self hl]
          simp
      refine (hI.goto b1 _).act m _ _ hg0 (fun ho => ?_)
      rw [b3 ho]
      exact .step (hI.frame b1) b2 ho
    · cases hu
  · exact h.tasks p u hu
/-- One writes, one reads. -/
theorem ki_kah {m : Md} {K : KM} (hK : Known m K) (hv : verify m = (0, 0, 0)) {s : Wx} (h : KI m K s) : Kah m s := by
  refine ⟨h.bx.fits, fun o t ht => (h.tasks o t ht).2.1, fun o p t u hne ht hu t0 u0 => ?_⟩
  obtain ⟨hG, _, k, hk, hI⟩ := h.tasks o t ht
  obtain ⟨hG', _, k', hk', hI'⟩ := h.tasks p u hu
  obtain ⟨b1, b2, _, b4⟩ := here_of hK hG t0
  obtain ⟨c1, c2, _, c4⟩ := here_of hK hG' u0
  have hkk : k ≠ k' := fun e => hne (by
    subst e
    exact (List.getElem?_inj (List.getElem?_eq_some_iff.1 hk).1 (tasks_nodup m)).1 (hk.trans hk'.symm))
  obtain ⟨ku, hku, k4, _⟩ := task_of hk
  obtain ⟨ku', hku', k4', _⟩ := task_of hk'
  have h5 := right_iff.1 hv 5 (by omega)
  have key : ∀ op : Int, op = 26 ∨ op = 27 → (t.ins m).op = op → (u.ins m).op = op → (t.ins m).a.toNat = (u.ins m).a.toNat → False := fun op ho e1 e2 e3 => by
    obtain ⟨d1, d2⟩ := b4 (by rw [e1]; exact ho)
    obtain ⟨d3, d4⟩ := c4 (by rw [e2]; exact ho)
    have w5 := first_all _ _ _ (show (firstE (ownersE m) (List.range m.boxes.length) 0).1 = 0 from h5) (t.ins m).a.toNat (by simpa using d2)
    have m1 : comes m k (op, (((t.ins m).a.toNat : Nat) : Int)) = true := (comes_iff hK.rt k ho).2 ⟨_, hI.frame b1, _, b2, by rw [e1, d1]⟩
    have m2 : comes m k' (op, (((t.ins m).a.toNat : Nat) : Int)) = true := (comes_iff hK.rt k' ho).2 ⟨_, hI'.frame c1, _, c2, by rw [e2, e3, d3]⟩
    have hc : 2 ≤ tc m (op, (((t.ins m).a.toNat : Nat) : Int)) m.units.length := by
      refine two_count (i := k) (j := k') (List.getElem?_eq_some_iff.1 hku).1 (List.getElem?_eq_some_iff.1 hku').1 hkk ?_ ?_
      · rw [m1]; simp [is, hku, k4]
      · rw [m2]; simp [is, hku', k4']
    unfold ownersE at w5
    split at w5
    · cases w5
    · rename_i hn
      rcases ho with ho | ho <;> (rw [ho] at hc; omega)
  exact ⟨fun e1 e2 e3 => key 26 (.inl rfl) e1 e2 e3, fun e1 e2 e3 => key 27 (.inr rfl) e1 e2 e3⟩
theorem ki_first {m : Md} {K : KM} (hK : Known m K) (hv : verify m = (0, 0, 0)) : KI m K (firstW m).wx := by
  have hI := wi_first hK hv
  refine ⟨⟨by simp [firstW], fun i q b hq hb => ?_⟩, fun o t ht => ?_⟩
  · obtain ⟨t0, ht0⟩ : ∃ t, (firstW m).ts[0]? = some t := ⟨_, List.getElem?_eq_getElem hI.few.1⟩
    exact (hI.tasks 0 t0 ht0).boxes i q b hq hb
  · obtain ⟨n, hn, e⟩ := firstW_at ht
    have hM := hI.tasks o t ht
    refine ⟨hM.goes, hM.over, n, hn, fun h hh f hf => ?_⟩
    rw [e] at hh
    unfold newTk at hh
    simp at hh
    subst hh
    simp [newTh] at hf
    subst hf
    exact .here _
end Go.Proofs.YtomneemdbechgaaGreat.Vw

/- Two ways meet; what tasks do only grows. -/
namespace Go.Proofs.YtomneemdbechgaaGreat.Vw
open Go.RowKit Vf Vm

section
variable {σ : Type} {R : σ → σ → Prop} {P : σ → Prop}
theorem Runs.strip (hP : ∀ s t, P s → R s t → P t) (hD : ∀ s a b, P s → R s a → R s b → a = b ∨ ∃ c, R a c ∧ R b c) : ∀ {n : Nat} {s y a : σ}, P s → Runs R n s y → R s a → ∃ z k, Runs R k a z ∧ (y = z ∨ R y z)
  | 0, s, y, a, _, h, ha => by cases h; exact ⟨a, 0, rfl, .inr ha⟩
  | n + 1, s, y, a, hs, ⟨b, hb, hr⟩, ha => by
    rcases hD s a b hs ha hb with e | ⟨c, hac, hbc⟩
    · subst e; exact ⟨y, n, hr, .inl rfl⟩
    · obtain ⟨z, k, h1, h2⟩ := Runs.strip hP hD (hP _ _ hs hb) hr hbc
      exact ⟨z, k + 1, ⟨c, hac, h1⟩, h2⟩
/-- Two ways meet. -/
theorem Runs.meet (hP : ∀ s t, P s → R s t → P t) (hD : ∀ s a b, P s → R s a → R s b → a = b ∨ ∃ c, R a c ∧ R b c) : ∀ {n k : Nat} {s x y : σ}, P s → Runs R n s x → Runs R k s y → ∃ z i j, Runs R i x z ∧ Runs R j y z
  | 0, k, s, x, y, _, h, h2 => by cases h; exact ⟨y, k, 0, h2, rfl⟩
  | n + 1, k, s, x, y, hs, ⟨a, ha, hr⟩, h2 => by
    obtain ⟨z1, k1, h3, h4⟩ := Runs.strip hP hD hs h2 ha
    obtain ⟨z, i, j, h5, h6⟩ := Runs.meet hP hD (hP _ _ hs ha) hr h3
    rcases h4 with e | e
    · subst e; exact ⟨z, i, j, h5, h6⟩
    · exact ⟨z, i, j + 1, h5, z1, e, h6⟩
end

/-- What a step does. -/
theorem one_did (m : Md) (t : Tk) (x : List Bq) : Acts (t.ins m) t (one mbX m t x).1 (t.goto (t.frame.pc + 1)).last (mbX.head x (t.ins m).a.toNat) :=
  act_did m (t.ins m) (t.goto (t.frame.pc + 1)) (mbX.head x (t.ins m).a.toNat)
/-- What all tasks did only grows. -/
def Grows (s s' : Wx) : Prop := ∀ (o : Nat) t, s.1[o]? = some t → ∃ t', s'.1[o]? = some t' ∧ t.log <+: t'.log ∧ t.out <+: t'.out
theorem step_grows {m : Md} {s s' : Wx} (h : Step1 m s s') : Grows s s' := fun o t ht => by
  obtain ⟨p, u, hu, _, rfl⟩ := h
  show ∃ t', (s.1.set p _)[o]? = some t' ∧ _
  by_cases e : p = o
  · subst e
    rw [ht] at hu
    cases hu
    exact ⟨_, List.getElem?_set_self (List.getElem?_eq_some_iff.1 ht).1, (one_did m t s.2).grows⟩
  · exact ⟨t, by rw [List.getElem?_set_ne e]; exact ht, List.prefix_refl _, List.prefix_refl _⟩
theorem runs_grows {m : Md} : ∀ {n : Nat} {s s' : Wx}, Runs (Step1 m) n s s' → Grows s s'
  | 0, s, s', h => by cases h; exact fun o t ht => ⟨t, ht, List.prefix_refl _, List.prefix_refl _⟩
  | n + 1, s, s', ⟨s1, h1, h2⟩ => fun o t ht => by
    obtain ⟨t1, k1, k2, k3⟩ := step_grows h1 o t ht
    obtain ⟨t2, l1, l2, l3⟩ := runs_grows h2 o t1 k1
    exact ⟨t2, l1, k2.trans l2, k3.trans l3⟩
/-- Two ways of picking: what a task did one way is the beginning of what it did the other way. -/
theorem two_ways {m : Md} (hv : verify m = (0, 0, 0)) (ps qs : List Pk) {o : Nat} {t u : Tk} (ht : (runW m ps).ts[o]? = some t) (hu : (runW m qs).ts[o]? = some u) : t.log <+: u.log ∨ u.log <+: t.log := by
  obtain ⟨⟨K, hK⟩, _⟩ := known_of hv
  obtain ⟨a, _, h1⟩ := follow_runs m ps (firstW m)
  obtain ⟨b, _, h2⟩ := follow_runs m qs (firstW m)
  obtain ⟨z, i, j, h3, h4⟩ := Runs.meet (P := KI m K) (fun s t h hs => ki_step hK h hs) (fun s _ _ h ha hb => diamond (ki_kah hK hv h) ha hb) (ki_first hK hv) h1 h2
  obtain ⟨t', e1, l1, _⟩ := runs_grows h3 o t ht
  obtain ⟨u', e2, l2, _⟩ := runs_grows h4 o u hu
  rw [e1] at e2
  cases e2
  rcases Nat.le_total t.log.length u.log.length with e | e
  · exact .inl (List.prefix_of_prefix_length_le l1 l2 e)
  · exact .inr (List.prefix_of_prefix_length_le l2 l1 e)
end Go.Proofs.YtomneemdbechgaaGreat.Vw

/- What tasks do, as they are picked, plainly. -/
namespace Go.Proofs.YtomneemdbechgaaGreat.Vw
open Go.RowKit Vf Vm

/-- What one task did. -/
def ofE (l : List (Nat × Ev)) (task : Int) : List (Nat × Ev) := l.filter fun p => decide ((p.1 : Int) = task)
theorem go_grows (m : Md) : ∀ (n : Nat) (t : Tk) (x : List Bq), t.log <+: (go mbX m n t x).2.1.log
  | 0, _, _ => List.prefix_refl _
  | n + 1, t, x => by
    by_cases h : (stat mbX m t x).1 = 1
    · rw [go_yes h]
      exact (one_did m t x).grows.1.trans (go_grows m n _ _)
    · rw [go_no h]
      exact List.prefix_refl _
/-- All events are those of the tasks. -/
structure EI (W : Wd) : Prop where
  lt : ∀ p ∈ W.evs, p.1 < W.ts.length
  log : ∀ (o : Nat) t, W.ts[o]? = some t → ofE W.evs (o : Int) = t.log.map fun e => (o, e)
theorem ofE_app (a b : List (Nat × Ev)) (t : Int) : ofE (a ++ b) t = ofE a t ++ ofE b t := List.filter_append _ _
theorem ofE_same (l : List Ev) (o : Nat) : ofE (l.map fun e => (o, e)) (o : Int) = l.map fun e => (o, e) := List.filter_eq_self.2 (fun p hp => by
  obtain ⟨e, _, rfl⟩ := List.mem_map.1 hp
  simp)
theorem ofE_other (l : List Ev) {o p : Nat} (h : o ≠ p) : ofE (l.map fun e => (o, e)) (p : Int) = [] := List.filter_eq_nil_iff.2 (fun q hq => by
  obtain ⟨e, _, rfl⟩ := List.mem_map.1 hq
  simp
  omega)
theorem ei_pick {m : Md} {W : Wd} (h : EI W) (p : Pk) : EI (pickW m W p) := by
  by_cases hr : refE m W p = 0
  · obtain ⟨h1, h2, _⟩ := refE_zero hr
    obtain ⟨t, ht⟩ : ∃ t, W.ts[p.task.toNat]? = some t := ⟨_, List.getElem?_eq_getElem (by omega)⟩
    have e : W.tk p.task = t := by simp [Wd.tk, ht]
    have hl := (List.getElem?_eq_some_iff.1 ht).1
    obtain ⟨d, hd⟩ : t.log <+: (ran m W p).2.1.log := by unfold ran; rw [e]; exact go_grows m _ _ _
    unfold pickW
    rw [if_pos hr]
    have ed : (ran m W p).2.1.log.drop (W.tk p.task).log.length = d := by rw [e, ← hd]; simp
    rw [ed]
    refine ⟨fun q hq => ?_, fun o u hu => ?_⟩
    · rw [List.length_set]
      rcases List.mem_append.1 hq with hq | hq
      · exact h.lt q hq
      · obtain ⟨x, _, rfl⟩ := List.mem_map.1 hq
        exact hl
    · rw [ofE_app]
      by_cases eo : p.task.toNat = o
      · subst eo
        change (W.ts.set _ _)[_]? = _ at hu
        rw [List.getElem?_set_self hl] at hu
        cases hu
        rw [h.log _ t ht, ofE_same, ← hd, List.map_append]
      · change (W.ts.set _ _)[_]? = _ at hu
        rw [List.getElem?_set_ne eo] at hu
        rw [h.log o u hu, ofE_other _ eo, List.append_nil]
  · have e : pickW m W p = W := by unfold pickW; rw [if_neg hr]
    rw [e]
    exact h
theorem ei_follow {m : Md} : ∀ (ps : List Pk) {W : Wd}, EI W → EI (followW m W ps)
  | [], _, h => h
  | p :: ps, _, h => ei_follow ps (ei_pick h p)
theorem ei_run (m : Md) (ps : List Pk) : EI (runW m ps) := ei_follow ps ⟨fun p hp => (by cases hp), fun o t ht => by
  obtain ⟨n, hn, rfl⟩ := firstW_at ht
  rfl⟩
theorem follow_len (m : Md) : ∀ (ps : List Pk) (W : Wd), (followW m W ps).ts.length = W.ts.length
  | [], _ => rfl
  | p :: ps, W => (follow_len m ps _).trans (pick_steps m W p).2.1
/-- KAHN, OF ALL THAT A TASK DOES. -/
theorem trace_two {m : Md} (hv : verify m = (0, 0, 0)) (ps qs : List Pk) (task : Int) : ofE (runW m ps).evs task <+: ofE (runW m qs).evs task ∨ ofE (runW m qs).evs task <+: ofE (runW m ps).evs task := by
  have la : (runW m ps).ts.length = (firstW m).ts.length := follow_len m ps _
  have lb : (runW m qs).ts.length = (firstW m).ts.length := follow_len m qs _
  by_cases h : 0 ≤ task ∧ task < (firstW m).ts.length
  · obtain ⟨o, rfl⟩ : ∃ o : Nat, task = o := ⟨task.toNat, by omega⟩
    obtain ⟨t, ht⟩ : ∃ t, (runW m ps).ts[o]? = some t := ⟨_, List.getElem?_eq_getElem (by omega)⟩
    obtain ⟨u, hu⟩ : ∃ t, (runW m qs).ts[o]? = some t := ⟨_, List.getElem?_eq_getElem (by omega)⟩
    rw [(ei_run m ps).log o t ht, (ei_run m qs).log o u hu]
    rcases two_ways hv ps qs ht hu with ⟨d, hd⟩ | ⟨d, hd⟩
    · exact .inl ⟨d.map fun e => (o, e), by rw [← List.map_append, hd]⟩
    · exact .inr ⟨d.map fun e => (o, e), by rw [← List.map_append, hd]⟩
  · have none : ofE (runW m ps).evs task = [] := List.filter_eq_nil_iff.2 (fun p hp => by
      have := (ei_run m ps).lt p hp
      simp
      omega)
    rw [none]
    exact .inl List.nil_prefix

/-- What a task did, and how it stands. -/
def plainK (l : List Ev) : Prop := ∀ e ∈ l, e.kind ≠ 4 ∧ e.kind ≠ 5
structure Jn (t : Tk) : Prop where
  out : t.out = (t.log.filter fun e => decide (e.kind = 1)).map (·.v)
  st : (t.over = 0 ∧ plainK t.log) ∨ (t.over = 4 ∧ ∃ l, t.log = l ++ [⟨4, 0, 0⟩] ∧ plainK l) ∨ (t.over = 5 ∧ ∃ l, t.log = l ++ [⟨5, 0, t.trap⟩] ∧ plainK l)
theorem Jn.did {t t' : Tk} {g : List Ev} (h : Jn t) (h0 : t.over = 0) (hd : Did t t' g) (hg : ∀ e ∈ g, e.kind ≠ 1 ∧ e.kind ≠ 4 ∧ e.kind ≠ 5) : Jn t' := by
  have hp : plainK t.log := by
    rcases h.st with ⟨_, k⟩ | ⟨k, _⟩ | ⟨k, _⟩
    · exact k
    · omega
    · omega
  have hpg : plainK (t.log ++ g) := fun e he => by
    rcases List.mem_append.1 he with k | k
    · exact hp e k
    · exact (hg e k).2
  have hf : (g.filter fun e => decide (e.kind = 1)) = [] := List.filter_eq_nil_iff.2 (fun e he => by simp; exact (hg e he).1)
  obtain ⟨ho, hd⟩ := hd
  rcases hd with ⟨e1, e2, e3⟩ | ⟨n, e1, e2, e3⟩
  · refine ⟨?_, .inl ⟨by rw [e2]; exact h0, by rw [e1]; exact hpg⟩⟩
    rw [ho, h.out, e1, List.filter_append, hf, List.append_nil]
  · refine ⟨?_, .inr (.inr ⟨e2, t.log ++ g, by rw [e1, e3], hpg⟩)⟩
    rw [ho, h.out, e1, List.filter_append, List.filter_append, hf]
    simp
theorem Jn.acts {c : Ins} {t t' : Tk} {v rv : Int} (h : Jn t) (h0 : t.over = 0) (ha : Acts c t t' v rv) : Jn t' := by
  have hp : plainK t.log := by
    rcases h.st with ⟨_, k⟩ | ⟨k, _⟩ | ⟨k, _⟩
    · exact k
    · omega
    · omega
  rcases ha with ⟨_, k⟩ | ⟨_, k⟩ | ⟨_, k1, k2, k3, k4⟩ | ⟨_, ⟨g, hg, k⟩ | ⟨k1, k2, k3, k4⟩⟩
  · exact h.did h0 k (fun e he => by simp at he; subst he; simp)
  · exact h.did h0 k (fun e he => by simp at he; subst he; simp)
  · refine ⟨?_, .inl ⟨by rw [k3]; exact h0, fun e he => ?_⟩⟩
    · rw [k1, k2, List.filter_append, List.map_append, ← h.out]
      simp
    · rw [k2] at he
      rcases List.mem_append.1 he with k | k
      · exact hp e k
      · simp at k; subst k; simp
  · refine h.did h0 k (fun e he => ?_)
    rcases hg with rfl | ⟨n, rfl⟩
    · cases he
    · simp at he; subst he; simp
  · refine ⟨?_, .inr (.inl ⟨k3, t.log, k2, hp⟩)⟩
    rw [k1, h.out, k2, List.filter_append]
    simp
theorem jn_over {t : Tk} (h : Jn t) : t.over = 0 ∨ t.over = 4 ∨ t.over = 5 := by
  rcases h.st with ⟨k, _⟩ | ⟨k, _⟩ | ⟨k, _⟩
  · exact .inl k
  · exact .inr (.inl k)
  · exact .inr (.inr k)
theorem jn_go (m : Md) : ∀ (n : Nat) (t : Tk) (x : List Bq), Jn t → Jn (go mbX m n t x).2.1
  | 0, _, _, h => h
  | n + 1, t, x, h => by
    by_cases hs : (stat mbX m t x).1 = 1
    · rw [go_yes hs]
      exact jn_go m n _ _ (h.acts (ready_zero hs (jn_over h)) (one_did m t x))
    · rw [go_no hs]
      exact h
theorem jn_follow (m : Md) : ∀ (ps : List Pk) (W : Wd), (∀ (o : Nat) t, W.ts[o]? = some t → Jn t) → ∀ (o : Nat) t, (followW m W ps).ts[o]? = some t → Jn t
  | [], _, h => h
  | p :: ps, W, h => jn_follow m ps (pickW m W p) (fun o t ht => by
    unfold pickW at ht
    split at ht
    · rename_i hr
      obtain ⟨h1, h2, _⟩ := refE_zero hr
      obtain ⟨u, hu⟩ : ∃ t, W.ts[p.task.toNat]? = some t := ⟨_, List.getElem?_eq_getElem (by omega)⟩
      have e : W.tk p.task = u := by simp [Wd.tk, hu]
      change (W.ts.set _ _)[_]? = _ at ht
      rw [List.getElem?_set] at ht
      split at ht
      · split at ht
        · cases ht
          unfold ran
          rw [e]
          exact jn_go m _ _ _ (h _ u hu)
        · cases ht
      · exact h o t ht
    · exact h o t ht)
theorem jn_run (m : Md) (ps : List Pk) : ∀ (o : Nat) t, (runW m ps).ts[o]? = some t → Jn t := jn_follow m ps _ (fun o t ht => by
  obtain ⟨n, hn, rfl⟩ := firstW_at ht
  exact ⟨rfl, .inl ⟨rfl, fun e he => (by cases he)⟩⟩)
end Go.Proofs.YtomneemdbechgaaGreat.Vw

