/- Picks are runs. -/
import Derived.Test.YtekjhefmhhcboaaGreatM40
import Derived.Test.YtekjhefmhhcboaaGreatM24
namespace Go.Proofs.YtekjhefmhhcboaaGreat.Vw
open Go.RowKit Vf Vm

abbrev Wd.wx (W : Wd) : Wx := (W.ts, W.x)
theorem go_runs (m : Md) : ∀ (n : Nat) (ts : List Tk) (x : List Bq) (o : Nat) (t : Tk), ts[o]? = some t → Runs (Step1 m) (go mbX m n t x).1 (ts, x) (ts.set o (go mbX m n t x).2.1, (go mbX m n t x).2.2)
  | 0, ts, x, o, t, h => by
    show (ts, x) = (ts.set o t, x)
    have hl := (List.getElem?_eq_some_iff.1 h).1
    have e : ts.set o t = ts := by
      apply List.ext_getElem?
      intro j
      by_cases e : o = j
      · subst e; rw [List.getElem?_set_self hl, h]
      · rw [List.getElem?_set_ne e]
    rw [e]
  | n + 1, ts, x, o, t, h => by
    have hl := (List.getElem?_eq_some_iff.1 h).1
    by_cases hs : (stat mbX m t x).1 = 1
    · rw [go_yes hs]
      refine ⟨(ts.set o (one mbX m t x).1, (one mbX m t x).2), ⟨o, t, h, hs, rfl⟩, ?_⟩
      have := go_runs m n (ts.set o (one mbX m t x).1) (one mbX m t x).2 o (one mbX m t x).1 (List.getElem?_set_self hl)
      rw [List.set_set] at this
      exact this
    · rw [go_no hs]
      exact go_runs m 0 ts x o t h
/-- A pick is a run of its steps. -/
theorem pick_runs (m : Md) (W : Wd) (p : Pk) : ∃ n, (pickW m W p).steps = W.steps + n ∧ Runs (Step1 m) n W.wx (pickW m W p).wx := by
  by_cases h : refE m W p = 0
  · obtain ⟨h1, h2, _⟩ := refE_zero h
    obtain ⟨t, ht⟩ : ∃ t, W.ts[p.task.toNat]? = some t := ⟨_, List.getElem?_eq_getElem (by omega)⟩
    have e : W.tk p.task = t := by simp [Wd.tk, ht]
    refine ⟨(ran m W p).1, by unfold pickW; rw [if_pos h], ?_⟩
    have hw : (pickW m W p).wx = (W.ts.set p.task.toNat (ran m W p).2.1, (ran m W p).2.2) := by unfold pickW; rw [if_pos h]
    rw [hw]
    unfold ran
    rw [e]
    exact go_runs m _ W.ts W.x _ t ht
  · have e : pickW m W p = W := by unfold pickW; rw [if_neg h]
    rw [e]
    exact ⟨0, rfl, rfl⟩
theorem follow_runs (m : Md) : ∀ (ps : List Pk) (W : Wd), ∃ n, (followW m W ps).steps = W.steps + n ∧ Runs (Step1 m) n W.wx (followW m W ps).wx
  | [], _ => ⟨0, rfl, rfl⟩
  | p :: ps, W => by
    obtain ⟨a, e1, h1⟩ := pick_runs m W p
    obtain ⟨b, e2, h2⟩ := follow_runs m ps (pickW m W p)
    exact ⟨a + b, by show (followW m (pickW m W p) ps).steps = _; rw [e2, e1]; omega, h1.app h2⟩
theorem nextFrom_some {m : Md} {w : Wd} {o : Nat} : ∀ (n i : Nat), nextFrom m w n i = some o → (stat mbX m (w.tk (o : Int)) w.x).1 = 1 ∧ ∃ j, o = behind w j
  | 0, _, h => by cases h
  | n + 1, i, h => by
    unfold nextFrom at h
    split at h
    · rename_i hs
      cases h
      exact ⟨hs, i, rfl⟩
    · exact nextFrom_some n (i + 1) h
/-- Who is next is Ready. -/
theorem following_some {m : Md} {w : Wd} {o : Nat} (h : following m w = some o) (hn : 0 < w.ts.length) : o < w.ts.length ∧ (stat mbX m (w.tk (o : Int)) w.x).1 = 1 := by
  obtain ⟨h1, j, e⟩ := nextFrom_some _ _ h
  refine ⟨?_, h1⟩
  rw [e]
  unfold behind
  have := Int.emod_lt_of_pos (w.last + 1 + (j : Int)) (show (0 : Int) < (w.ts.length : Int) by omega)
  omega
/-- Where nobody is next all rests. -/
theorem rests_of {m : Md} {W : Wd} (h : following m W = none) : Rests (Step1 m) W.wx := fun s ⟨o, t, ht, hst, _⟩ => by
  have ho := (List.getElem?_eq_some_iff.1 ht).1
  have := following_none h ho
  have e : W.tk (o : Int) = t := by simp [Wd.tk, show W.ts[o]? = some t from ht]
  rw [e] at this
  exact this hst
/-- What settle comes to: rest; or as many steps as there may be, and somebody Ready. -/
theorem settle_runs (m : Md) (q : Int) (hq : 1 ≤ q ∧ q ≤ 10000) : ∀ (f : Nat) (W : Wd), 0 < W.ts.length → W.steps ≤ 20000 → 20001 ≤ W.steps + f → ∃ n, (settleW m q f W).2.steps = W.steps + n ∧ Runs (Step1 m) n W.wx (settleW m q f W).2.wx ∧ (((settleW m q f W).1 = 0 ∧ Rests (Step1 m) (settleW m q f W).2.wx) ∨ ((settleW m q f W).1 = 10 ∧ (settleW m q f W).2.steps = 20000 ∧ ¬ Rests (Step1 m) (settleW m q f W).2.wx))
  | 0, W, _, hs, hf => by omega
  | f + 1, W, hn, hs, hf => by
    unfold settleW
    split
    · rename_i h
      exact ⟨0, rfl, rfl, .inl ⟨rfl, rests_of h⟩⟩
    · rename_i o h
      obtain ⟨ho, hst⟩ := following_some h hn
      split
      · rename_i h0
        obtain ⟨a, e1, h1⟩ := pick_runs m W ⟨o, q⟩
        have hk := pick_steps m W ⟨o, q⟩
        have hr := ran_few h0
        have e3 : (pickW m W ⟨o, q⟩).steps = W.steps + (ran m W ⟨o, q⟩).1 := by unfold pickW; rw [if_pos h0]
        obtain ⟨b, e2, h2, h3⟩ := settle_runs m q hq f (pickW m W ⟨o, q⟩) (by rw [hk.2.1]; exact hn) (hk.2.2.1 hs) (by omega)
        exact ⟨a + b, by omega, h1.app h2, h3⟩
      · rename_i h0
        have e10 : refE m W ⟨o, q⟩ = 10 ∧ W.steps = 20000 := by
          unfold refE at h0 ⊢
          rw [if_neg (by simp only; omega), if_pos hq, if_pos hst] at h0 ⊢
          by_cases h2 : 20000 ≤ W.steps
          · rw [if_pos h2]; exact ⟨rfl, by omega⟩
          · rw [if_neg h2] at h0; exact absurd rfl h0
        obtain ⟨t, ht⟩ : ∃ t, W.ts[o]? = some t := ⟨_, List.getElem?_eq_getElem ho⟩
        have e : W.tk (o : Int) = t := by simp [Wd.tk, ht]
        rw [e] at hst
        exact ⟨0, rfl, rfl, .inr ⟨e10.1, e10.2, fun hR => hR _ ⟨o, t, ht, hst, rfl⟩⟩⟩
end Go.Proofs.YtekjhefmhhcboaaGreat.Vw

/- Where a task's frames are: in units that its own unit comes to. -/
namespace Go.Proofs.YtekjhefmhhcboaaGreat.Vw
open Go.RowKit Vf Vm

/-- All frames of all threads are of units of Q. -/
def Inn (Q : Int → Prop) (t : Tk) : Prop := ∀ h ∈ t.ths, ∀ f ∈ h.fs, Q (f.u : Int)
section
variable {Q : Int → Prop} {t : Tk}
theorem Inn.th (h : Inn Q t) (i : Nat) : ∀ f ∈ (t.th i).fs, Q (f.u : Int) := fun f hf => by
  unfold Tk.th at hf
  cases hi : t.ths[i]? with
  | none => rw [hi] at hf; simp [th0] at hf
  | some x => rw [hi] at hf; exact h x (List.mem_of_getElem? hi) f hf
theorem Inn.set (h : Inn Q t) (i : Nat) {x : Th} (hx : ∀ f ∈ x.fs, Q (f.u : Int)) : Inn Q (t.set i x) := fun y hy f hf => by
  rcases List.mem_or_eq_of_mem_set hy with h1 | h1
  · exact h y h1 f hf
  · subst h1; exact hx f hf
theorem Inn.words (h : Inn Q t) (ws : List Int) : Inn Q (t.words ws) := h.set _ (fun f hf => h.th _ f hf)
theorem Inn.cut (h : Inn Q t) : Inn Q t.cut := h.words _
theorem Inn.put (h : Inn Q t) (v : Int) : Inn Q (t.put v) := by
  unfold Tk.put
  split
  · exact h
  · exact h.words _
theorem Inn.frame (h : Inn Q t) (h0 : t.top.fs ≠ []) : Q (t.frame.u : Int) := by
  unfold Tk.frame
  cases hf : t.top.fs with
  | nil => exact absurd hf h0
  | cons f r => exact h.th _ f (by show f ∈ t.top.fs; rw [hf]; exact List.mem_cons_self)
theorem Inn.goto (h : Inn Q t) (h0 : t.top.fs ≠ []) (n : Nat) : Inn Q (t.goto n) := h.set _ (fun f hf => by
  rcases List.mem_cons.1 hf with rfl | hf
  · exact h.frame h0
  · exact h.th _ f (List.mem_of_mem_tail hf))
theorem Inn.leave (h : Inn Q t) : Inn Q t.leave := h.set _ (fun f hf => h.th _ f (List.mem_of_mem_tail hf))
theorem Inn.give (h : Inn Q t) (s : Nat) (v : Int) : Inn Q (t.give s v) := by
  unfold Tk.give
  exact Inn.put (t := { t.set t.hand { t.top with stands := s } with hand := t.top.up.getD 0 }) (h.set _ (fun f hf => h.th _ f hf)) v
theorem Inn.act (h : Inn Q t) (m : Md) (c : Ins) (rv : Int) (h0 : t.top.fs ≠ []) (h1 : c.op = 23 ∨ c.op = 29 → Q (c.a.toNat : Int)) : Inn Q (t.act m c rv) := by
  have hc := h.cut
  have c0 : t.cut.top.fs ≠ [] ∨ t.ths[t.hand]? = none := by
    cases hi : t.ths[t.hand]? with
    | none => exact .inr rfl
    | some x =>
      left
      have hl := (List.getElem?_eq_some_iff.1 hi).1
      have e : t.cut.top.fs = t.top.fs := by
        show ((t.ths.set t.hand { t.top with ws := t.top.ws.dropLast })[t.hand]?.getD th0).fs = t.top.fs
        rw [List.getElem?_set_self hl]
        rfl
      rw [e]
      exact h0
  have c1 : t.cut.top.fs ≠ [] := by
    rcases c0 with e | e
    · exact e
    · exfalso
      apply h0
      show ((t.ths[t.hand]?).getD th0).fs = []
      rw [e]
      rfl
  unfold Tk.act
  by_cases h1' : c.op = 1
  · rw [if_pos h1']; exact h.put _
  rw [if_neg h1']
  by_cases h2 : c.op = 2
  · rw [if_pos h2]; exact h.put _
  rw [if_neg h2]
  by_cases h3 : c.op = 3
  · rw [if_pos h3]; exact h.put _
  rw [if_neg h3]
  by_cases h4 : c.op = 4
  · rw [if_pos h4]; exact h.words _
  rw [if_neg h4]
  by_cases h5 : c.op = 5
  · rw [if_pos h5]; exact hc
  rw [if_neg h5]
  by_cases h6 : c.op = 6
  · rw [if_pos h6]; exact hc.put _
  rw [if_neg h6]
  by_cases h7 : c.op = 7
  · rw [if_pos h7]; exact hc.put _
  rw [if_neg h7]
  by_cases h21 : c.op = 21
  · rw [if_pos h21]; exact h.goto h0 _
  rw [if_neg h21]
  by_cases h22 : c.op = 22
  · rw [if_pos h22]
    split
    · exact hc.goto c1 _
    · exact hc
  rw [if_neg h22]
  by_cases h26 : c.op = 26
  · rw [if_pos h26]; exact hc
  rw [if_neg h26]
  by_cases h27 : c.op = 27
  · rw [if_pos h27]; exact Inn.put (t := t.note _) h _
  rw [if_neg h27]
  by_cases h28 : c.op = 28
  · rw [if_pos h28]; exact hc
  rw [if_neg h28]
  by_cases h23 : c.op = 23
  · rw [if_pos h23]
    unfold Tk.call
    split
    · exact h
    · split
      · exact h.set _ (fun f hf => by
          rcases List.mem_cons.1 hf with rfl | hf
          · exact h1 (.inl h23)
          · exact h.th _ f hf)
      · exact h.words _
  rw [if_neg h23]
  by_cases h24 : c.op = 24
  · rw [if_pos h24]; exact hc.leave.put _
  rw [if_neg h24]
  by_cases h29 : c.op = 29
  · rw [if_pos h29]
    unfold Tk.start
    dsimp only
    split
    · exact h.words _
    · refine Inn.put (t := Tk.note _ _) ?_ _
      intro y hy f hf
      rcases List.mem_append.1 hy with hy | hy
      · exact (h.words _) y hy f hf
      · rw [List.mem_singleton] at hy
        subst hy
        simp [newTh] at hf
        subst hf
        exact h1 (.inr h29)
  rw [if_neg h29]
  by_cases h30 : c.op = 30
  · rw [if_pos h30]
    unfold Tk.resume
    dsimp only
    split
    · exact hc.cut
    · split
      · exact hc.cut
      · split
        · refine Inn.put ?_ _
          exact hc.cut.set _ (fun f hf => hc.cut.th _ f hf)
        · exact hc.cut.set _ (fun f hf => hc.cut.th _ f hf)
  rw [if_neg h30]
  by_cases h31 : c.op = 31
  · rw [if_pos h31]; exact hc.give _ _
  rw [if_neg h31]
  by_cases h25 : c.op = 25
  · rw [if_pos h25]
    unfold Tk.fin
    split
    · exact h
    · exact h.give _ _
  rw [if_neg h25]
  by_cases h32 : c.op = 32
  · rw [if_pos h32]; exact hc.put _
  rw [if_neg h32]
  unfold Tk.reckon
  split
  · exact hc.cut
  · exact hc.cut.put _
end
end Go.Proofs.YtekjhefmhhcboaaGreat.Vw

/- What is kept, step by step: KAHN's conditions hold of a right module. -/
namespace Go.Proofs.YtekjhefmhhcboaaGreat.Vw
open Go.RowKit Vf Vm

/-- What is known of boxes. -/
structure BxOk (m : Md) (x : List Bq) : Prop where
  len : x.length = m.boxes.length
  boxes : ∀ (i : Nat) q b, x[i]? = some q → m.boxes[i]? = some b → (q.cap : Int) = b.cap ∧ q.ws.length ≤ q.cap ∧ (b.ty = 2 → q.ws.all truthB = true)
theorem BxOk.fits {m : Md} {x : List Bq} (h : BxOk m x) : Fits x := fun n q hq => by
  obtain ⟨b, hb⟩ : ∃ b, m.boxes[n]? = some b := ⟨_, List.getElem?_eq_getElem (by have := (List.getElem?_eq_some_iff.1 hq).1; have := h.len; omega)⟩
  exact (h.boxes n q b hq hb).2.1
/-- A step keeps what is known of a task and of the boxes. -/
theorem mj_step {m : Md} {K : KM} (hK : Known m K) {t : Tk} {x : List Bq} (hG : Goes m K t) (hov : t.over = 0) (hI : BxOk m x) (hst : (stat mbX m t x).1 = 1) :
    Goes m K (one mbX m t x).1 ∧ ((one mbX m t x).1.over = 0 ∨ (one mbX m t x).1.over = 4 ∨ (one mbX m t x).1.over = 5) ∧ BxOk m (one mbX m t x).2 := by
  have bty : ∀ (n : Nat) b, m.boxes[n]? = some b → boxTy m n = b.ty ∧ ¬ 10 ≤ b.ty := fun n b hb => by
    have := hK.rt.boxes n b hb
    unfold plain at this
    simp at this
    refine ⟨by simp [boxTy, hb], by omega⟩
  have h0 := hov
  rcases hG with hg | ⟨G, st, hM⟩
  · exact absurd h0 hg
  · have hbx : (t.ins m).op = 26 ∨ (t.ins m).op = 27 → ∃ b : Nat, (t.ins m).a = b ∧ b < m.boxes.length := fun ho => by
      obtain ⟨h, f, r, u, i, k, k', H⟩ := hM.here hK
      rw [H.ins] at ho ⊢
      obtain ⟨hp1, hp2, hrg⟩ := H.pos
      unfold ranged at hrg
      rw [if_neg (by omega), if_neg (by omega), if_neg (by omega), if_neg (by omega), if_neg (by omega), if_pos ho] at hrg
      simp at hrg
      exact ⟨i.a.toNat, by omega, by omega⟩
    have hat : ∀ b : Nat, b < m.boxes.length → ∃ q bx, x[b]? = some q ∧ m.boxes[b]? = some bx ∧ (q.cap : Int) = bx.cap ∧ q.ws.length ≤ q.cap ∧ (bx.ty = 2 → q.ws.all truthB = true) := fun b hb => by
      obtain ⟨q, hq⟩ : ∃ q, x[b]? = some q := ⟨_, List.getElem?_eq_getElem (by rw [hI.len]; exact hb)⟩
      obtain ⟨bx, hbx⟩ : ∃ q, m.boxes[b]? = some q := ⟨_, List.getElem?_eq_getElem hb⟩
      exact ⟨q, bx, hq, hbx, hI.boxes b q bx hq hbx⟩
    unfold stat at hst
    rw [if_neg (by omega)] at hst
    have hfull : (t.ins m).op = 26 → mbX.full x (t.ins m).a.toNat = false := fun ho => by
      cases hf : mbX.full x (t.ins m).a.toNat
      · rfl
      · rw [if_pos ⟨ho, hf⟩] at hst; cases hst
    have hemp : (t.ins m).op = 27 → mbX.empty x (t.ins m).a.toNat = false := fun ho => by
      cases hf : mbX.empty x (t.ins m).a.toNat
      · rfl
      · rw [if_neg (by omega), if_pos ⟨ho, hf⟩] at hst; cases hst
    have hrv : (t.ins m).op = 27 → WT G (boxTy m (t.ins m).a) (mbX.head x (t.ins m).a.toNat) := fun ho => by
      obtain ⟨b, e, hb⟩ := hbx (.inr ho)
      obtain ⟨q, bx, hq, hbq, _, _, h3⟩ := hat b hb
      have he := hemp ho
      rw [e, Int.toNat_natCast] at he ⊢
      rw [(bty b bx hbq).1]
      simp only [mbX, hq] at he ⊢
      have hlt : 0 < q.ws.length := by simp at he; exact List.length_pos_iff.2 he
      obtain ⟨u, hu⟩ : ∃ u, q.ws[0]? = some u := ⟨_, List.getElem?_eq_getElem hlt⟩
      rw [hu]
      exact ⟨fun h2 => truth_iff.1 (List.all_eq_true.1 (h3 h2) u (List.mem_of_getElem? hu)), fun h10 => absurd h10 (bty b bx hbq).2⟩
    obtain ⟨_, hgo⟩ := step_goes hK hM _ hrv
    obtain ⟨_, a2⟩ := act_out m (t.ins m) (t.goto (t.frame.pc + 1)) (mbX.head x (t.ins m).a.toNat)
    refine ⟨hgo, ?_, ?_, fun j q bx hq hb => ?_⟩
    · have e : (t.goto (t.frame.pc + 1)).over = t.over := rfl
      rw [e, h0] at a2
      exact a2
    · show (stX mbX (t.ins m) _ x).length = _
      unfold stX
      split
      · rename_i ho
        obtain ⟨b, e, hb⟩ := hbx (.inl ho)
        obtain ⟨q, bx, hq, _⟩ := hat b hb
        rw [e, Int.toNat_natCast]
        simp [mbX, hq, hI.len]
      · split
        · rename_i _ ho
          obtain ⟨b, e, hb⟩ := hbx (.inr ho)
          obtain ⟨q, bx, hq, _⟩ := hat b hb
          rw [e, Int.toNat_natCast]
          simp [mbX, hq, hI.len]
        · exact hI.len
    · change (stX mbX (t.ins m) (t.goto (t.frame.pc + 1)).last x)[j]? = some q at hq
      unfold stX at hq
      split at hq
      · rename_i ho
        obtain ⟨b, e, hb'⟩ := hbx (.inl ho)
        obtain ⟨q0, bx0, hq0, hbx0, k1, k2, k3⟩ := hat b hb'
        have hs := sent_wt hK hM ho
        have hf := hfull ho
        rw [e, Int.toNat_natCast] at hq hf
        simp only [mbX, hq0] at hq hf
        rw [List.getElem?_set] at hq
        split at hq
        · rename_i ej
          subst ej
          split at hq
          · cases hq
            rw [hbx0] at hb
            cases hb
            rw [e, (bty b _ hbx0).1] at hs
            refine ⟨k1, by simp at hf ⊢; omega, fun h2 => ?_⟩
            rw [List.all_append, k3 h2]
            simp [truth_iff.2 (hs.1 h2)]
          · cases hq
        · exact hI.boxes j q bx hq hb
      · split at hq
        · rename_i _ ho
          obtain ⟨b, e, hb'⟩ := hbx (.inr ho)
          obtain ⟨q0, bx0, hq0, hbx0, k1, k2, k3⟩ := hat b hb'
          rw [e, Int.toNat_natCast] at hq
          simp only [mbX, hq0] at hq
          rw [List.getElem?_set] at hq
          split at hq
          · rename_i ej
            subst ej
            split at hq
            · cases hq
              rw [hbx0] at hb
              cases hb
              refine ⟨k1, by simp; omega, fun h2 => ?_⟩
              have := k3 h2
              rw [List.all_eq_true] at this ⊢
              exact fun v hv => this v (List.mem_of_mem_tail hv)
            · cases hq
          · exact hI.boxes j q bx hq hb
        · exact hI.boxes j q bx hq hb
end Go.Proofs.YtekjhefmhhcboaaGreat.Vw

