/- Two ways meet; what tasks do only grows. -/
import Derived.Test.YtnahadibllkhlaaGreatM36
import Derived.Test.YtnahadibllkhlaaGreatM27
import Derived.Test.YtnahadibllkhlaaGreatM33
namespace Go.Proofs.YtnahadibllkhlaaGreat.Vw
open Go.RowKit Vf Vm

section
variable {σ : Type} {R : σ → σ → Prop} {P : σ → Prop}
theorem Runs.strip (hP : ∀ s t, P s → R s t → P t) (hD : ∀ s a b, P s → R s a → R s b → a = b ∨ ∃ c, R a c ∧ R b c) : ∀ {n : Nat} {s y a : σ}, P s → Runs R n s y → R s a → ∃ z k, Runs R k a z ∧ (y = z ∨ R y z)
  | 0, s, y, a, _, h, ha => by cases h; exact ⟨a, 0, rfl, .inr ha⟩
  | n + 1, s, y, a, hs, ⟨b, hb, hr⟩, ha => by
    rcases hD s a b hs ha hb with e | ⟨c, hac, hbc⟩
    · subst e; exact ⟨y, n, hr, .inl rfl⟩
    · obtain ⟨z, k, h1, h2⟩ := Runs.strip hP hD (hP _ _ hs hb) hr hbc
      exact ⟨z, k + 1, ⟨c, hac, h1⟩, h2⟩
/-- Two ways meet. -/
theorem Runs.meet (hP : ∀ s t, P s → R s t → P t) (hD : ∀ s a b, P s → R s a → R s b → a = b ∨ ∃ c, R a c ∧ R b c) : ∀ {n k : Nat} {s x y : σ}, P s → Runs R n s x → Runs R k s y → ∃ z i j, Runs R i x z ∧ Runs R j y z
  | 0, k, s, x, y, _, h, h2 => by cases h; exact ⟨y, k, 0, h2, rfl⟩
  | n + 1, k, s, x, y, hs, ⟨a, ha, hr⟩, h2 => by
    obtain ⟨z1, k1, h3, h4⟩ := Runs.strip hP hD hs h2 ha
    obtain ⟨z, i, j, h5, h6⟩ := Runs.meet hP hD (hP _ _ hs ha) hr h3
    rcases h4 with e | e
    · subst e; exact ⟨z, i, j, h5, h6⟩
    · exact ⟨z, i, j + 1, h5, z1, e, h6⟩
end

/-- What a step does. -/
theorem one_did (m : Md) (t : Tk) (x : List Bq) : Acts (t.ins m) t (one mbX m t x).1 (t.goto (t.frame.pc + 1)).last (mbX.head x (t.ins m).a.toNat) :=
  act_did m (t.ins m) (t.goto (t.frame.pc + 1)) (mbX.head x (t.ins m).a.toNat)
/-- What all tasks did only grows. -/
def Grows (s s' : Wx) : Prop := ∀ (o : Nat) t, s.1[o]? = some t → ∃ t', s'.1[o]? = some t' ∧ t.log <+: t'.log ∧ t.out <+: t'.out
theorem step_grows {m : Md} {s s' : Wx} (h : Step1 m s s') : Grows s s' := fun o t ht => by
  obtain ⟨p, u, hu, _, rfl⟩ := h
  show ∃ t', (s.1.set p _)[o]? = some t' ∧ _
  by_cases e : p = o
  · subst e
    rw [ht] at hu
    cases hu
    exact ⟨_, List.getElem?_set_self (List.getElem?_eq_some_iff.1 ht).1, (one_did m t s.2).grows⟩
  · exact ⟨t, by rw [List.getElem?_set_ne e]; exact ht, List.prefix_refl _, List.prefix_refl _⟩
theorem runs_grows {m : Md} : ∀ {n : Nat} {s s' : Wx}, Runs (Step1 m) n s s' → Grows s s'
  | 0, s, s', h => by cases h; exact fun o t ht => ⟨t, ht, List.prefix_refl _, List.prefix_refl _⟩
  | n + 1, s, s', ⟨s1, h1, h2⟩ => fun o t ht => by
    obtain ⟨t1, k1, k2, k3⟩ := step_grows h1 o t ht
    obtain ⟨t2, l1, l2, l3⟩ := runs_grows h2 o t1 k1
    exact ⟨t2, l1, k2.trans l2, k3.trans l3⟩
/-- Two ways of picking: what a task did one way is the beginning of what it did the other way. -/
theorem two_ways {m : Md} (hv : verify m = (0, 0, 0)) (ps qs : List Pk) {o : Nat} {t u : Tk} (ht : (runW m ps).ts[o]? = some t) (hu : (runW m qs).ts[o]? = some u) : t.log <+: u.log ∨ u.log <+: t.log := by
  obtain ⟨⟨K, hK⟩, _⟩ := known_of hv
  obtain ⟨a, _, h1⟩ := follow_runs m ps (firstW m)
  obtain ⟨b, _, h2⟩ := follow_runs m qs (firstW m)
  obtain ⟨z, i, j, h3, h4⟩ := Runs.meet (P := KI m K) (fun s t h hs => ki_step hK h hs) (fun s _ _ h ha hb => diamond (ki_kah hK hv h) ha hb) (ki_first hK hv) h1 h2
  obtain ⟨t', e1, l1, _⟩ := runs_grows h3 o t ht
  obtain ⟨u', e2, l2, _⟩ := runs_grows h4 o u hu
  rw [e1] at e2
  cases e2
  rcases Nat.le_total t.log.length u.log.length with e | e
  · exact .inl (List.prefix_of_prefix_length_le l1 l2 e)
  · exact .inr (List.prefix_of_prefix_length_le l2 l1 e)
end Go.Proofs.YtnahadibllkhlaaGreat.Vw

/- What tasks do, as they are picked, plainly. -/
namespace Go.Proofs.YtnahadibllkhlaaGreat.Vw
open Go.RowKit Vf Vm

/-- What one task did. -/
def ofE (l : List (Nat × Ev)) (task : Int) : List (Nat × Ev) := l.filter fun p => decide ((p.1 : Int) = task)
theorem go_grows (m : Md) : ∀ (n : Nat) (t : Tk) (x : List Bq), t.log <+: (go mbX m n t x).2.1.log
  | 0, _, _ => List.prefix_refl _
  | n + 1, t, x => by
    by_cases h : (stat mbX m t x).1 = 1
    · rw [go_yes h]
      exact (one_did m t x).grows.1.trans (go_grows m n _ _)
    · rw [go_no h]
      exact List.prefix_refl _
/-- All events are those of the tasks. -/
structure EI (W : Wd) : Prop where
  lt : ∀ p ∈ W.evs, p.1 < W.ts.length
  log : ∀ (o : Nat) t, W.ts[o]? = some t → ofE W.evs (o : Int) = t.log.map fun e => (o, e)
theorem ofE_app (a b : List (Nat × Ev)) (t : Int) : ofE (a ++ b) t = ofE a t ++ ofE b t := List.filter_append _ _
theorem ofE_same (l : List Ev) (o : Nat) : ofE (l.map fun e => (o, e)) (o : Int) = l.map fun e => (o, e) := List.filter_eq_self.2 (fun p hp => by
  obtain ⟨e, _, rfl⟩ := List.mem_map.1 hp
  simp)
theorem ofE_other (l : List Ev) {o p : Nat} (h : o ≠ p) : ofE (l.map fun e => (o, e)) (p : Int) = [] := List.filter_eq_nil_iff.2 (fun q hq => by
  obtain ⟨e, _, rfl⟩ := List.mem_map.1 hq
  simp
  omega)
theorem ei_pick {m : Md} {W : Wd} (h : EI W) (p : Pk) : EI (pickW m W p) := by
  by_cases hr : refE m W p = 0
  · obtain ⟨h1, h2, _⟩ := refE_zero hr
    obtain ⟨t, ht⟩ : ∃ t, W.ts[p.task.toNat]? = some t := ⟨_, List.getElem?_eq_getElem (by omega)⟩
    have e : W.tk p.task = t := by simp [Wd.tk, ht]
    have hl := (List.getElem?_eq_some_iff.1 ht).1
    obtain ⟨d, hd⟩ : t.log <+: (ran m W p).2.1.log := by unfold ran; rw [e]; exact go_grows m _ _ _
    unfold pickW
    rw [if_pos hr]
    have ed : (ran m W p).2.1.log.drop (W.tk p.task).log.length = d := by rw [e, ← hd]; simp
    rw [ed]
    refine ⟨fun q hq => ?_, fun o u hu => ?_⟩
    · rw [List.length_set]
      rcases List.mem_append.1 hq with hq | hq
      · exact h.lt q hq
      · obtain ⟨x, _, rfl⟩ := List.mem_map.1 hq
        exact hl
    · rw [ofE_app]
      by_cases eo : p.task.toNat = o
      · subst eo
        change (W.ts.set _ _)[_]? = _ at hu
        rw [List.getElem?_set_self hl] at hu
        cases hu
        rw [h.log _ t ht, ofE_same, ← hd, List.map_append]
      · change (W.ts.set _ _)[_]? = _ at hu
        rw [List.getElem?_set_ne eo] at hu
        rw [h.log o u hu, ofE_other _ eo, List.append_nil]
  · have e : pickW m W p = W := by unfold pickW; rw [if_neg hr]
    rw [e]
    exact h
theorem ei_follow {m : Md} : ∀ (ps : List Pk) {W : Wd}, EI W → EI (followW m W ps)
  | [], _, h => h
  | p :: ps, _, h => ei_follow ps (ei_pick h p)
theorem ei_run (m : Md) (ps : List Pk) : EI (runW m ps) := ei_follow ps ⟨fun p hp => (by cases hp), fun o t ht => by
  obtain ⟨n, hn, rfl⟩ := firstW_at ht
  rfl⟩
theorem follow_len (m : Md) : ∀ (ps : List Pk) (W : Wd), (followW m W ps).ts.length = W.ts.length
  | [], _ => rfl
  | p :: ps, W => (follow_len m ps _).trans (pick_steps m W p).2.1
/-- KAHN, OF ALL THAT A TASK DOES. -/
theorem trace_two {m : Md} (hv : verify m = (0, 0, 0)) (ps qs : List Pk) (task : Int) : ofE (runW m ps).evs task <+: ofE (runW m qs).evs task ∨ ofE (runW m qs).evs task <+: ofE (runW m ps).evs task := by
  have la : (runW m ps).ts.length = (firstW m).ts.length := follow_len m ps _
  have lb : (runW m qs).ts.length = (firstW m).ts.length := follow_len m qs _
  by_cases h : 0 ≤ task ∧ task < (firstW m).ts.length
  · obtain ⟨o, rfl⟩ : ∃ o : Nat, task = o := ⟨task.toNat, by omega⟩
    obtain ⟨t, ht⟩ : ∃ t, (runW m ps).ts[o]? = some t := ⟨_, List.getElem?_eq_getElem (by omega)⟩
    obtain ⟨u, hu⟩ : ∃ t, (runW m qs).ts[o]? = some t := ⟨_, List.getElem?_eq_getElem (by omega)⟩
    rw [(ei_run m ps).log o t ht, (ei_run m qs).log o u hu]
    rcases two_ways hv ps qs ht hu with ⟨d, hd⟩ | ⟨d, hd⟩
    · exact .inl ⟨d.map fun e => (o, e), by rw [← List.map_append, hd]⟩
    · exact .inr ⟨d.map fun e => (o, e), by rw [← List.map_append, hd]⟩
  · have none : ofE (runW m ps).evs task = [] := List.filter_eq_nil_iff.2 (fun p hp => by
      have := (ei_run m ps).lt p hp
      simp
      omega)
    rw [none]
    exact .inl List.nil_prefix

/-- What a task did, and how it stands. -/
def plainK (l : List Ev) : Prop := ∀ e ∈ l, e.kind ≠ 4 ∧ e.kind ≠ 5
structure Jn (t : Tk) : Prop where
  out : t.out = (t.log.filter fun e => decide (e.kind = 1)).map (·.v)
  st : (t.over = 0 ∧ plainK t.log) ∨ (t.over = 4 ∧ ∃ l, t.log = l ++ [⟨4, 0, 0⟩] ∧ plainK l) ∨ (t.over = 5 ∧ ∃ l, t.log = l ++ [⟨5, 0, t.trap⟩] ∧ plainK l)
theorem Jn.did {t t' : Tk} {g : List Ev} (h : Jn t) (h0 : t.over = 0) (hd : Did t t' g) (hg : ∀ e ∈ g, e.kind ≠ 1 ∧ e.kind ≠ 4 ∧ e.kind ≠ 5) : Jn t' := by
  have hp : plainK t.log := by
    rcases h.st with ⟨_, k⟩ | ⟨k, _⟩ | ⟨k, _⟩
    · exact k
    · omega
    · omega
  have hpg : plainK (t.log ++ g) := fun e he => by
    rcases List.mem_append.1 he with k | k
    · exact hp e k
    · exact (hg e k).2
  have hf : (g.filter fun e => decide (e.kind = 1)) = [] := List.filter_eq_nil_iff.2 (fun e he => by simp; exact (hg e he).1)
  obtain ⟨ho, hd⟩ := hd
  rcases hd with ⟨e1, e2, e3⟩ | ⟨n, e1, e2, e3⟩
  · refine ⟨?_, .inl ⟨by rw [e2]; exact h0, by rw [e1]; exact hpg⟩⟩
    rw [ho, h.out, e1, List.filter_append, hf, List.append_nil]
  · refine ⟨?_, .inr (.inr ⟨e2, t.log ++ g, by rw [e1, e3], hpg⟩)⟩
    rw [ho, h.out, e1, List.filter_append, List.filter_append, hf]
    simp
theorem Jn.acts {c : Ins} {t t' : Tk} {v rv : Int} (h : Jn t) (h0 : t.over = 0) (ha : Acts c t t' v rv) : Jn t' := by
  have hp : plainK t.log := by
    rcases h.st with ⟨_, k⟩ | ⟨k, _⟩ | ⟨k, _⟩
    · exact k
    · omega
    · omega
  rcases ha with ⟨_, k⟩ | ⟨_, k⟩ | ⟨_, k1, k2, k3, k4⟩ | ⟨_, ⟨g, hg, k⟩ | ⟨k1, k2, k3, k4⟩⟩
  · exact h.did h0 k (fun e he => by simp at he; subst he; simp)
  · exact h.did h0 k (fun e he => by simp at he; subst he; simp)
  · refine ⟨?_, .inl ⟨by rw [k3]; exact h0, fun e he => ?_⟩⟩
    · rw [k1, k2, List.filter_append, List.map_append, ← h.out]
      simp
    · rw [k2] at he
      rcases List.mem_append.1 he with k | k
      · exact hp e k
      · simp at k; subst k; simp
  · refine h.did h0 k (fun e he => ?_)
    rcases hg with rfl | ⟨n, rfl⟩
    · cases he
    · simp at he; subst he; simp
  · refine ⟨?_, .inr (.inl ⟨k3, t.log, k2, hp⟩)⟩
    rw [k1, h.out, k2, List.filter_append]
    simp
theorem jn_over {t : Tk} (h : Jn t) : t.over = 0 ∨ t.over = 4 ∨ t.over = 5 := by
  rcases h.st with ⟨k, _⟩ | ⟨k, _⟩ | ⟨k, _⟩
  · exact .inl k
  · exact .inr (.inl k)
  · exact .inr (.inr k)
theorem jn_go (m : Md) : ∀ (n : Nat) (t : Tk) (x : List Bq), Jn t → Jn (go mbX m n t x).2.1
  | 0, _, _, h => h
  | n + 1, t, x, h => by
    by_cases hs : (stat mbX m t x).1 = 1
    · rw [go_yes hs]
      exact jn_go m n _ _ (h.acts (ready_zero hs (jn_over h)) (one_did m t x))
    · rw [go_no hs]
      exact h
theorem jn_follow (m : Md) : ∀ (ps : List Pk) (W : Wd), (∀ (o : Nat) t, W.ts[o]? = some t → Jn t) → ∀ (o : Nat) t, (followW m W ps).ts[o]? = some t → Jn t
  | [], _, h => h
  | p :: ps, W, h => jn_follow m ps (pickW m W p) (fun o t ht => by
    unfold pickW at ht
    split at ht
    · rename_i hr
      obtain ⟨h1, h2, _⟩ := refE_zero hr
      obtain ⟨u, hu⟩ : ∃ t, W.ts[p.task.toNat]? = some t := ⟨_, List.getElem?_eq_getElem (by omega)⟩
      have e : W.tk p.task = u := by simp [Wd.tk, hu]
      change (W.ts.set _ _)[_]? = _ at ht
      rw [List.getElem?_set] at ht
      split at ht
      · split at ht
        · cases ht
          unfold ran
          rw [e]
          exact jn_go m _ _ _ (h _ u hu)
        · cases ht
      · exact h o t ht
    · exact h o t ht)
theorem jn_run (m : Md) (ps : List Pk) : ∀ (o : Nat) t, (runW m ps).ts[o]? = some t → Jn t := jn_follow m ps _ (fun o t ht => by
  obtain ⟨n, hn, rfl⟩ := firstW_at ht
  exact ⟨rfl, .inl ⟨rfl, fun e he => (by cases he)⟩⟩)
end Go.Proofs.YtnahadibllkhlaaGreat.Vw

/- WHAT Trace ANSWERS. -/
namespace Go.Proofs.YtnahadibllkhlaaGreat.Vw
open Go.RowKit Vf Vm

set_option maxHeartbeats 400000 in
theorem taskHear_any (T : Nat) (ev : Value) (n : Nat) (caps : Array Value) (w : World) (h0 : w.cell? ⟨T, 2, none⟩ = some ev) (hf : w.frozen? ⟨T, 2, none⟩ = false) :
    Calls Tryz.prog 22 #[.pointer (some ⟨T, 0, none⟩), .func (.func n) #[] caps] w fun e w' => e = .returned (.tuple #[]) ∧ w' = w.setCell ⟨T, 2, none⟩ (.func (.func n) #[] caps) := by
  have hst : Sem.run Tryz.prog (store ⟨T, 2, none⟩ (.func (.func n) #[] caps)) w = .ok () (w.setCell ⟨T, 2, none⟩ (.func (.func n) #[] caps)) := by
    rw [run_store _ _ _ _ _ rfl, h0]
    simp [hf]
  go_enter Tryz.func22, Tryz.ntmps22
  go_wp2
  go_end0
  exact ⟨rfl, rfl⟩

set_option maxRecDepth 100000 in
set_option maxHeartbeats 1000000 in
/-- WHAT hear LEAVES. -/
theorem hear_any (s : Sx) (L : Lab) (w : World) (W : Wd) (vt vx : Value) (H : Hid (WdIn s deafW L w W vt vx)) (hn : W.ts.length ≤ 30) (Eb : Nat) (hE : Hid (w.heap[Eb]? = some (.cells #[.slice none 0 0] 28 (0, 0)) ∧ L Eb = ⟨3, 0, 0, 0⟩)) :
    Calls Tryz.prog 15 #[.pointer (some ⟨s.WB, 0, none⟩), .func (.func 16) #[] #[.pointer (some ⟨Eb, 0, none⟩)]] w fun e w' => e = .returned (.tuple #[]) ∧ ∃ NB L', HrAt s L w W vt vx Eb W.ts.length NB L' w' := by
  obtain ⟨ta, tc, hvt⟩ : ∃ a c, vt = .slice a W.ts.length c := own_slice H.out.trow
  subst hvt
  have hWz := lt_of_block H.out.blk
  have hEz := lt_of_block hE.out.1
  have hok := H.out.ok
  have hb : Below w.heap.size w (w.alloc (hearO Eb)) := (Below.refl _ w).alloc (Nat.le_refl _) _
  have hbk : (w.alloc (hearO Eb)).heap[w.heap.size]? = some (hearO Eb) := heap_alloc_new w _
  have hz1 : (w.alloc (hearO Eb)).heap.size = w.heap.size + 1 := by simp
  have hX : Ext L (fun b => if b = w.heap.size then ⟨3, 0, 0, 2⟩ else L b) w := fun b hb => by simp; intro e; omega
  have hLL : ∀ b, (if b = w.heap.size then (⟨3, 0, 0, 2⟩ : _) else L b) = L b ∨ ((if b = w.heap.size then (⟨3, 0, 0, 2⟩ : _) else L b) : _).cls = 3 := fun b => by
    by_cases e : b = w.heap.size
    · right; simp [e]
    · left; simp [e]
  have hBz : s.c.B ≤ w.heap.size := hok.size
  have HST : Hid (HrAt s L w W (.slice ta W.ts.length tc) vx Eb 0 (fun _ => 0) (fun b => if b = w.heap.size then ⟨3, 0, 0, 2⟩ else L b) (w.alloc (hearO Eb))) := by
    have H1 := H.out.label hb hX hLL ⟨fun b hb' => by (try simp only); rw [if_neg (by omega)]; exact hok.low b hb', fun b hb' => by (try simp only); rw [if_neg (by omega)]; exact hok.new b (by omega), by omega⟩
    refine ⟨Nat.zero_le _, ?_, ⟨⟨.slice none 0 0, (hb.block _ hEz).trans hE.out.1, ⟨rfl, .inl ⟨rfl, rfl⟩⟩, fun b hb => by cases hb⟩, hbk, fun o ho => by omega, ?_, by simp, fun o ho => by omega⟩, hX, ⟨hb.os, hb.tape, hb.output, hb.size, fun b hb' _ => hb.block b hb'⟩⟩
    · have e : s.heard 0 w.heap.size (fun _ => 0) = s := by
        obtain ⟨c, Q, rb, vb, WB, T, N, caps⟩ := s
        simp [Sx.heard]
      rw [e]
      exact H1
    · show (if Eb = w.heap.size then _ else _) = _
      rw [if_neg (by omega)]
      exact hE.out.2
  obtain ⟨N, hNN⟩ : ∃ N, N = W.ts.length := ⟨_, rfl⟩
  have HN := Sb.hide hNN
  have q0 : (w.alloc (hearO Eb)).cell? ⟨s.WB, 0, none⟩ = some (.slice ta N tc) := by rw [hNN]; exact (cell_eq (hb.block _ hWz) _).trans H.out.cells.1
  rw [← hNN] at hn
  clear hNN hX hLL hok hb hbk
  go_enter Tryz.func15, Tryz.ntmps15
  go_upto_region 1 with fail
  generalize w.alloc (hearO Eb) = W1 at *
  go_wp2
  go_loopw [11] (fun v wr => ∃ k : Nat, v = .int .i64 k ∧ ∃ NB L', HrAt s L w W (.slice ta W.ts.length tc) vx Eb k NB L' wr) (fun v _ => N - (intOf v).toNat)
  case atStart => exact ⟨0, rfl, _, _, HST.out⟩
  case round =>
    obtain ⟨k, rfl, NB, L1, hA⟩ := hrel
    have HA := Sb.hide hA
    have hk := hA.le
    rw [← HN.out] at hk
    clear hA HST q0
    by_cases hlt : k < N
    · obtain ⟨g, hta, htc⟩ := own_cell HA.out.wd.trow (ptrs_at (s.heard k w.heap.size NB).T (by have := HN.out; omega : k < W.ts.length))
      subst hta
      have htc2 : wr.cell? ⟨g, k, none⟩ = some (.pointer (some ⟨s.T k, 0, none⟩)) := htc
      obtain ⟨t, ht⟩ : ∃ t, W.ts[k]? = some t := ⟨_, List.getElem?_eq_getElem (by have := HN.out; omega)⟩
      obtain ⟨P0, vR0, vO0, h0⟩ := HA.out.wd.tasks k t ht
      obtain ⟨_, _, c2, _, _, _, _, _, fr⟩ := tk_cells h0.blk
      have hTz : s.T k < wr.heap.size := lt_of_block h0.blk
      have HB1 : Hid (Below wr.heap.size wr (wr.alloc (.cells #[.int .i64 (k : Int)] 3))) := (Below.refl _ wr).alloc (Nat.le_refl _) _
      have d2 : (wr.alloc (.cells #[.int .i64 (k : Int)] 3)).cell? ⟨s.T k, 2, none⟩ = some ((s.heard k w.heap.size NB).ev k) := (cell_eq (HB1.out.block _ hTz) _).trans c2
      have d3 : (wr.alloc (.cells #[.int .i64 (k : Int)] 3)).frozen? ⟨s.T k, 2, none⟩ = false := by
        have := (HB1.out.block _ hTz).trans h0.blk
        have e : (wr.alloc (.cells #[.int .i64 (k : Int)] 3)).heap[s.T k]? = _ := this
        generalize wr.alloc (.cells #[.int .i64 (k : Int)] 3) = W2 at e ⊢
        simp [World.frozen?, e]
      obtain ⟨NB', L2, hNB, hM⟩ := HA.out.more (by have := HN.out; omega)
      have HM := Sb.hide hM
      have b0 : (0 : Int) ≤ (k : Int) := by omega
      have b1 : (k : Int) < (N : Int) := by omega
      have D2 := Sb.hide d2
      have D3 := Sb.hide d3
      clear htc ht h0 c2 fr hM hNB d2 d3
      go_wp2_with fail
      refine (taskHear_any (s.T k) _ _ _ _ D2.out D3.out).mono ?_
      rintro e w2 ⟨rfl, hw2⟩
      have HM2 : Hid (HrAt s L w W (.slice (some ⟨g, 0, none⟩) W.ts.length tc) vx Eb (k + 1) NB' L2 w2) := by rw [hw2]; exact HM.out
      clear hw2
      go_wp2
      go_roundw
      case rel => exact ⟨k + 1, by go_num, NB', L2, HM2.out⟩
      case measure => simp [intOf]; omega
    · have ek : k = W.ts.length := by have := HN.out; omega
      have HE := Sb.hide ek
      clear ek
      go_wp2
      go_end0
      have h2 := HA.out
      have e2 := HE.out
      subst e2
      exact ⟨rfl, NB, L1, h2⟩
end Go.Proofs.YtnahadibllkhlaaGreat.Vw

