/- Where a task's frames are: in units that its own unit comes to. -/
import Derived.Test.YtekjhefmhhcboaaGreatM40
import Derived.Test.YtekjhefmhhcboaaGreatM24
import Derived.Test.YtekjhefmhhcboaaGreatM37
namespace Go.Proofs.YtekjhefmhhcboaaGreat.Vw
open Go.RowKit Vf Vm

/-- All frames of all threads are of units of Q. -/
def Inn (Q : Int → Prop) (t : Tk) : Prop := ∀ h ∈ t.ths, ∀ f ∈ h.fs, Q (f.u : Int)
section
variable {Q : Int → Prop} {t : Tk}
theorem Inn.th (h : Inn Q t) (i : Nat) : ∀ f ∈ (t.th i).fs, Q (f.u : Int) := fun f hf => by
  unfold Tk.th at hf
  cases hi : t.ths[i]? with
  | none => rw [hi] at hf; simp [th0] at hf
  | some x => rw [hi] at hf; exact h x (List.mem_of_getElem? hi) f hf
theorem Inn.set (h : Inn Q t) (i : Nat) {x : Th} (hx : ∀ f ∈ x.fs, Q (f.u : Int)) : Inn Q (t.set i x) := fun y hy f hf => by
  rcases List.mem_or_eq_of_mem_set hy with h1 | h1
  · exact h y h1 f hf
  · subst h1; exact hx f hf
theorem Inn.words (h : Inn Q t) (ws : List Int) : Inn Q (t.words ws) := h.set _ (fun f hf => h.th _ f hf)
theorem Inn.cut (h : Inn Q t) : Inn Q t.cut := h.words _
theorem Inn.put (h : Inn Q t) (v : Int) : Inn Q (t.put v) := by
  unfold Tk.put
  split
  · exact h
  · exact h.words _
theorem Inn.frame (h : Inn Q t) (h0 : t.top.fs ≠ []) : Q (t.frame.u : Int) := by
  unfold Tk.frame
  cases hf : t.top.fs with
  | nil => exact absurd hf h0
  | cons f r => exact h.th _ f (by show f ∈ t.top.fs; rw [hf]; exact List.mem_cons_self)
theorem Inn.goto (h : Inn Q t) (h0 : t.top.fs ≠ []) (n : Nat) : Inn Q (t.goto n) := h.set _ (fun f hf => by
  rcases List.mem_cons.1 hf with rfl | hf
  · exact h.frame h0
  · exact h.th _ f (List.mem_of_mem_tail hf))
theorem Inn.leave (h : Inn Q t) : Inn Q t.leave := h.set _ (fun f hf => h.th _ f (List.mem_of_mem_tail hf))
theorem Inn.give (h : Inn Q t) (s : Nat) (v : Int) : Inn Q (t.give s v) := by
  unfold Tk.give
  exact Inn.put (t := { t.set t.hand { t.top with stands := s } with hand := t.top.up.getD 0 }) (h.set _ (fun f hf => h.th _ f hf)) v
theorem Inn.act (h : Inn Q t) (m : Md) (c : Ins) (rv : Int) (h0 : t.top.fs ≠ []) (h1 : c.op = 23 ∨ c.op = 29 → Q (c.a.toNat : Int)) : Inn Q (t.act m c rv) := by
  have hc := h.cut
  have c0 : t.cut.top.fs ≠ [] ∨ t.ths[t.hand]? = none := by
    cases hi : t.ths[t.hand]? with
    | none => exact .inr rfl
    | some x =>
      left
      have hl := (List.getElem?_eq_some_iff.1 hi).1
      have e : t.cut.top.fs = t.top.fs := by
        show ((t.ths.set t.hand { t.top with ws := t.top.ws.dropLast })[t.hand]?.getD th0).fs = t.top.fs
        rw [List.getElem?_set_self hl]
        rfl
      rw [e]
      exact h0
  have c1 : t.cut.top.fs ≠ [] := by
    rcases c0 with e | e
    · exact e
    · exfalso
      apply h0
      show ((t.ths[t.hand]?).getD th0).fs = []
      rw [e]
      rfl
  unfold Tk.act
  by_cases h1' : c.op = 1
  · rw [if_pos h1']; exact h.put _
  rw [if_neg h1']
  by_cases h2 : c.op = 2
  · rw [if_pos h2]; exact h.put _
  rw [if_neg h2]
  by_cases h3 : c.op = 3
  · rw [if_pos h3]; exact h.put _
  rw [if_neg h3]
  by_cases h4 : c.op = 4
  · rw [if_pos h4]; exact h.words _
  rw [if_neg h4]
  by_cases h5 : c.op = 5
  · rw [if_pos h5]; exact hc
  rw [if_neg h5]
  by_cases h6 : c.op = 6
  · rw [if_pos h6]; exact hc.put _
  rw [if_neg h6]
  by_cases h7 : c.op = 7
  · rw [if_pos h7]; exact hc.put _
  rw [if_neg h7]
  by_cases h21 : c.op = 21
  · rw [if_pos h21]; exact h.goto h0 _
  rw [if_neg h21]
  by_cases h22 : c.op = 22
  · rw [if_pos h22]
    split
    · exact hc.goto c1 _
    · exact hc
  rw [if_neg h22]
  by_cases h26 : c.op = 26
  · rw [if_pos h26]; exact hc
  rw [if_neg h26]
  by_cases h27 : c.op = 27
  · rw [if_pos h27]; exact Inn.put (t := t.note _) h _
  rw [if_neg h27]
  by_cases h28 : c.op = 28
  · rw [if_pos h28]; exact hc
  rw [if_neg h28]
  by_cases h23 : c.op = 23
  · rw [if_pos h23]
    unfold Tk.call
    split
    · exact h
    · split
      · exact h.set _ (fun f hf => by
          rcases List.mem_cons.1 hf with rfl | hf
          · exact h1 (.inl h23)
          · exact h.th _ f hf)
      · exact h.words _
  rw [if_neg h23]
  by_cases h24 : c.op = 24
  · rw [if_pos h24]; exact hc.leave.put _
  rw [if_neg h24]
  by_cases h29 : c.op = 29
  · rw [if_pos h29]
    unfold Tk.start
    dsimp only
    split
    · exact h.words _
    · refine Inn.put (t := Tk.note _ _) ?_ _
      intro y hy f hf
      rcases List.mem_append.1 hy with hy | hy
      · exact (h.words _) y hy f hf
      · rw [List.mem_singleton] at hy
        subst hy
        simp [newTh] at hf
        subst hf
        exact h1 (.inr h29)
  rw [if_neg h29]
  by_cases h30 : c.op = 30
  · rw [if_pos h30]
    unfold Tk.resume
    dsimp only
    split
    · exact hc.cut
    · split
      · exact hc.cut
      · split
        · refine Inn.put ?_ _
          exact hc.cut.set _ (fun f hf => hc.cut.th _ f hf)
        · exact hc.cut.set _ (fun f hf => hc.cut.th _ f hf)
  rw [if_neg h30]
  by_cases h31 : c.op = 31
  · rw [if_pos h31]; exact hc.give _ _
  rw [if_neg h31]
  by_cases h25 : c.op = 25
  · rw [if_pos h25]
    unfold Tk.fin
    split
    · exact h
    · exact h.give _ _
  rw [if_neg h25]
  by_cases h32 : c.op = 32
  · rw [if_pos h32]; exact hc.put _
  rw [if_neg h32]
  unfold Tk.reckon
  split
  · exact hc.cut
  · exact hc.cut.put _
end
end Go.Proofs.YtekjhefmhhcboaaGreat.Vw

/- What is kept, step by step: KAHN's conditions hold of a right module. -/
namespace Go.Proofs.YtekjhefmhhcboaaGreat.Vw
open Go.RowKit Vf Vm

/-- What is known of boxes. -/
structure BxOk (m : Md) (x : List Bq) : Prop where
  len : x.length = m.boxes.length
  boxes : ∀ (i : Nat) q b, x[i]? = some q → m.boxes[i]? = some b → (q.cap : Int) = b.cap ∧ q.ws.length ≤ q.cap ∧ (b.ty = 2 → q.ws.all truthB = true)
theorem BxOk.fits {m : Md} {x : List Bq} (h : BxOk m x) : Fits x := fun n q hq => by
  obtain ⟨b, hb⟩ : ∃ b, m.boxes[n]? = some b := ⟨_, List.getElem?_eq_getElem (by have := (List.getElem?_eq_some_iff.1 hq).1; have := h.len; omega)⟩
  exact (h.boxes n q b hq hb).2.1
/-- A step keeps what is known of a task and of the boxes. -/
theorem mj_step {m : Md} {K : KM} (hK : Known m K) {t : Tk} {x : List Bq} (hG : Goes m K t) (hov : t.over = 0) (hI : BxOk m x) (hst : (stat mbX m t x).1 = 1) :
    Goes m K (one mbX m t x).1 ∧ ((one mbX m t x).1.over = 0 ∨ (one mbX m t x).1.over = 4 ∨ (one mbX m t x).1.over = 5) ∧ BxOk m (one mbX m t x).2 := by
  have bty : ∀ (n : Nat) b, m.boxes[n]? = some b → boxTy m n = b.ty ∧ ¬ 10 ≤ b.ty := fun n b hb => by
    have := hK.rt.boxes n b hb
    unfold plain at this
    simp at this
    refine ⟨by simp [boxTy, hb], by omega⟩
  have h0 := hov
  rcases hG with hg | ⟨G, st, hM⟩
  · exact absurd h0 hg
  · have hbx : (t.ins m).op = 26 ∨ (t.ins m).op = 27 → ∃ b : Nat, (t.ins m).a = b ∧ b < m.boxes.length := fun ho => by
      obtain ⟨h, f, r, u, i, k, k', H⟩ := hM.here hK
      rw [H.ins] at ho ⊢
      obtain ⟨hp1, hp2, hrg⟩ := H.pos
      unfold ranged at hrg
      rw [if_neg (by omega), if_neg (by omega), if_neg (by omega), if_neg (by omega), if_neg (by omega), if_pos ho] at hrg
      simp at hrg
      exact ⟨i.a.toNat, by omega, by omega⟩
    have hat : ∀ b : Nat, b < m.boxes.length → ∃ q bx, x[b]? = some q ∧ m.boxes[b]? = some bx ∧ (q.cap : Int) = bx.cap ∧ q.ws.length ≤ q.cap ∧ (bx.ty = 2 → q.ws.all truthB = true) := fun b hb => by
      obtain ⟨q, hq⟩ : ∃ q, x[b]? = some q := ⟨_, List.getElem?_eq_getElem (by rw [hI.len]; exact hb)⟩
      obtain ⟨bx, hbx⟩ : ∃ q, m.boxes[b]? = some q := ⟨_, List.getElem?_eq_getElem hb⟩
      exact ⟨q, bx, hq, hbx, hI.boxes b q bx hq hbx⟩
    unfold stat at hst
    rw [if_neg (by omega)] at hst
    have hfull : (t.ins m).op = 26 → mbX.full x (t.ins m).a.toNat = false := fun ho => by
      cases hf : mbX.full x (t.ins m).a.toNat
      · rfl
      · rw [if_pos ⟨ho, hf⟩] at hst; cases hst
    have hemp : (t.ins m).op = 27 → mbX.empty x (t.ins m).a.toNat = false := fun ho => by
      cases hf : mbX.empty x (t.ins m).a.toNat
      · rfl
      · rw [if_neg (by omega), if_pos ⟨ho, hf⟩] at hst; cases hst
    have hrv : (t.ins m).op = 27 → WT G (boxTy m (t.ins m).a) (mbX.head x (t.ins m).a.toNat) := fun ho => by
      obtain ⟨b, e, hb⟩ := hbx (.inr ho)
      obtain ⟨q, bx, hq, hbq, _, _, h3⟩ := hat b hb
      have he := hemp ho
      rw [e, Int.toNat_natCast] at he ⊢
      rw [(bty b bx hbq).1]
      simp only [mbX, hq] at he ⊢
      have hlt : 0 < q.ws.length := by simp at he; exact List.length_pos_iff.2 he
      obtain ⟨u, hu⟩ : ∃ u, q.ws[0]? = some u := ⟨_, List.getElem?_eq_getElem hlt⟩
      rw [hu]
      exact ⟨fun h2 => truth_iff.1 (List.all_eq_true.1 (h3 h2) u (List.mem_of_getElem? hu)), fun h10 => absurd h10 (bty b bx hbq).2⟩
    obtain ⟨_, hgo⟩ := step_goes hK hM _ hrv
    obtain ⟨_, a2⟩ := act_out m (t.ins m) (t.goto (t.frame.pc + 1)) (mbX.head x (t.ins m).a.toNat)
    refine ⟨hgo, ?_, ?_, fun j q bx hq hb => ?_⟩
    · have e : (t.goto (t.frame.pc + 1)).over = t.over := rfl
      rw [e, h0] at a2
      exact a2
    · show (stX mbX (t.ins m) _ x).length = _
      unfold stX
      split
      · rename_i ho
        obtain ⟨b, e, hb⟩ := hbx (.inl ho)
        obtain ⟨q, bx, hq, _⟩ := hat b hb
        rw [e, Int.toNat_natCast]
        simp [mbX, hq, hI.len]
      · split
        · rename_i _ ho
          obtain ⟨b, e, hb⟩ := hbx (.inr ho)
          obtain ⟨q, bx, hq, _⟩ := hat b hb
          rw [e, Int.toNat_natCast]
          simp [mbX, hq, hI.len]
        · exact hI.len
    · change (stX mbX (t.ins m) (t.goto (t.frame.pc + 1)).last x)[j]? = some q at hq
      unfold stX at hq
      split at hq
      · rename_i ho
        obtain ⟨b, e, hb'⟩ := hbx (.inl ho)
        obtain ⟨q0, bx0, hq0, hbx0, k1, k2, k3⟩ := hat b hb'
        have hs := sent_wt hK hM ho
        have hf := hfull ho
        rw [e, Int.toNat_natCast] at hq hf
        simp only [mbX, hq0] at hq hf
        rw [List.getElem?_set] at hq
        split at hq
        · rename_i ej
          subst ej
          split at hq
          · cases hq
            rw [hbx0] at hb
            cases hb
            rw [e, (bty b _ hbx0).1] at hs
            refine ⟨k1, by simp at hf ⊢; omega, fun h2 => ?_⟩
            rw [List.all_append, k3 h2]
            simp [truth_iff.2 (hs.1 h2)]
          · cases hq
        · exact hI.boxes j q bx hq hb
      · split at hq
        · rename_i _ ho
          obtain ⟨b, e, hb'⟩ := hbx (.inr ho)
          obtain ⟨q0, bx0, hq0, hbx0, k1, k2, k3⟩ := hat b hb'
          rw [e, Int.toNat_natCast] at hq
          simp only [mbX, hq0] at hq
          rw [List.getElem?_set] at hq
          split at hq
          · rename_i ej
            subst ej
            split at hq
            · cases hq
              rw [hbx0] at hb
              cases hb
              refine ⟨k1, by simp; omega, fun h2 => ?_⟩
              have := k3 h2
              rw [List.all_eq_true] at this ⊢
              exact fun v hv => this v (List.mem_of_mem_tail hv)
            · cases hq
          · exact hI.boxes j q bx hq hb
        · exact hI.boxes j q bx hq hb
end Go.Proofs.YtekjhefmhhcboaaGreat.Vw

/- KAHN'S THEOREM, plainly, of a right module: what is kept. -/
namespace Go.Proofs.YtekjhefmhhcboaaGreat.Vw
open Go.RowKit Vf Vm

theorem two_count {p : Nat → Bool} {k i j : Nat} (hi : i < k) (hj : j < k) (hne : i ≠ j) (pi : p i = true) (pj : p j = true) : 2 ≤ (List.range k).countP p := by
  rw [List.countP_eq_length_filter]
  have mi : i ∈ (List.range k).filter p := List.mem_filter.2 ⟨by simpa using hi, pi⟩
  have mj : j ∈ (List.range k).filter p := List.mem_filter.2 ⟨by simpa using hj, pj⟩
  generalize (List.range k).filter p = l at mi mj
  match l, mi, mj with
  | [a], mi, mj =>
    simp at mi mj
    exact absurd (mi.trans mj.symm) hne
  | _ :: _ :: _, _, _ => simp
theorem tasks_nodup (m : Md) : (tasksTo m.units m.units.length).Nodup := by
  unfold tasksTo
  exact List.Pairwise.filter _ List.nodup_range
/-- What holds of a world, step by step. -/
structure KI (m : Md) (K : KM) (s : Wx) : Prop where
  bx : BxOk m s.2
  tasks : ∀ (o : Nat) t, s.1[o]? = some t → Goes m K t ∧ (t.over = 0 ∨ t.over = 4 ∨ t.over = 5) ∧ ∃ k : Nat, (tasksTo m.units m.units.length)[o]? = some k ∧ Inn (Vf.Reach m (k : Int)) t
/-- Where a task stands. -/
theorem here_of {m : Md} {K : KM} (hK : Known m K) {t : Tk} (hG : Goes m K t) (h0 : t.over = 0) : t.top.fs ≠ [] ∧ (t.ins m) ∈ (unit m (t.frame.u : Int)).code ∧ ((t.ins m).op = 23 ∨ (t.ins m).op = 29 → ((t.ins m).a.toNat : Int) = (t.ins m).a) ∧ ((t.ins m).op = 26 ∨ (t.ins m).op = 27 → ((t.ins m).a.toNat : Int) = (t.ins m).a ∧ (t.ins m).a.toNat < m.boxes.length) := by
  rcases hG with hg | ⟨G, st, hM⟩
  · exact absurd h0 hg
  · obtain ⟨h, f, r, u, i, k, k', H⟩ := hM.here hK
    have ef : t.top.fs = f :: r := by rw [top_of H.hh]; exact H.fs
    have efr : t.frame = f := by simp [Tk.frame, ef]
    rw [H.ins, efr]
    obtain ⟨hp1, hp2, hrg⟩ := H.pos
    refine ⟨by rw [ef]; simp, ?_, fun ho => ?_, fun ho => ?_⟩
    · rw [unit_of H.un]; exact List.mem_of_getElem? H.code
    · unfold ranged at hrg
      rw [if_neg (by omega), if_neg (by omega), if_neg (by omega)] at hrg
      rcases ho with ho | ho
      · rw [if_pos ho] at hrg
        unfold is at hrg
        simp at hrg
        omega
      · rw [if_neg (by omega), if_pos ho] at hrg
        unfold is at hrg
        simp at hrg
        omega
    · unfold ranged at hrg
      rw [if_neg (by omega), if_neg (by omega), if_neg (by omega), if_neg (by omega), if_neg (by omega), if_pos ho] at hrg
      simp at hrg
      omega
theorem ki_step {m : Md} {K : KM} (hK : Known m K) {s s' : Wx} (h : KI m K s) (hs : Step1 m s s') : KI m K s' := by
  obtain ⟨o, t, ht, hst, rfl⟩ := hs
  obtain ⟨hG, hov, k, hk, hI⟩ := h.tasks o t ht
  have h0 := ready_zero hst hov
  obtain ⟨g1, g2, g3⟩ := mj_step hK hG h0 h.bx hst
  refine ⟨g3, fun p u hu => ?_⟩
  change (s.1.set o (one mbX m t s.2).1)[p]? = some u at hu
  rw [List.getElem?_set] at hu
  split at hu
  · rename_i e
    subst e
    split at hu
    · cases hu
      refine ⟨g1, g2, k, hk, ?_⟩
      obtain ⟨b1, b2, b3, _⟩ := here_of hK hG h0
      have hg0 : (t.goto (t.frame.pc + 1)).top.fs ≠ [] := by
        cases hi : t.ths[t.hand]? with
        | none =>
          exfalso
          apply b1
          show ((t.ths[t.hand]?).getD th0).fs = []
          rw [hi]
          rfl
        | some x =>
          have hl := (List.getElem?_eq_some_iff.1 hi).1
          show ((t.ths.set t.hand { t.top with fs := { t.frame with pc := t.frame.pc + 1 } :: t.top.fs.tail })[t.hand]?.getD th0).fs ≠ []
          rw [List.getElem?_set_self hl]
          simp
      refine (hI.goto b1 _).act m _ _ hg0 (fun ho => ?_)
      rw [b3 ho]
      exact .step (hI.frame b1) b2 ho
    · cases hu
  · exact h.tasks p u hu
/-- One writes, one reads. -/
theorem ki_kah {m : Md} {K : KM} (hK : Known m K) (hv : verify m = (0, 0, 0)) {s : Wx} (h : KI m K s) : Kah m s := by
  refine ⟨h.bx.fits, fun o t ht => (h.tasks o t ht).2.1, fun o p t u hne ht hu t0 u0 => ?_⟩
  obtain ⟨hG, _, k, hk, hI⟩ := h.tasks o t ht
  obtain ⟨hG', _, k', hk', hI'⟩ := h.tasks p u hu
  obtain ⟨b1, b2, _, b4⟩ := here_of hK hG t0
  obtain ⟨c1, c2, _, c4⟩ := here_of hK hG' u0
  have hkk : k ≠ k' := fun e => hne (by
    subst e
    exact (List.getElem?_inj (List.getElem?_eq_some_iff.1 hk).1 (tasks_nodup m)).1 (hk.trans hk'.symm))
  obtain ⟨ku, hku, k4, _⟩ := task_of hk
  obtain ⟨ku', hku', k4', _⟩ := task_of hk'
  have h5 := right_iff.1 hv 5 (by omega)
  have key : ∀ op : Int, op = 26 ∨ op = 27 → (t.ins m).op = op → (u.ins m).op = op → (t.ins m).a.toNat = (u.ins m).a.toNat → False := fun op ho e1 e2 e3 => by
    obtain ⟨d1, d2⟩ := b4 (by rw [e1]; exact ho)
    obtain ⟨d3, d4⟩ := c4 (by rw [e2]; exact ho)
    have w5 := first_all _ _ _ (show (firstE (ownersE m) (List.range m.boxes.length) 0).1 = 0 from h5) (t.ins m).a.toNat (by simpa using d2)
    have m1 : comes m k (op, (((t.ins m).a.toNat : Nat) : Int)) = true := (comes_iff hK.rt k ho).2 ⟨_, hI.frame b1, _, b2, by rw [e1, d1]⟩
    have m2 : comes m k' (op, (((t.ins m).a.toNat : Nat) : Int)) = true := (comes_iff hK.rt k' ho).2 ⟨_, hI'.frame c1, _, c2, by rw [e2, e3, d3]⟩
    have hc : 2 ≤ tc m (op, (((t.ins m).a.toNat : Nat) : Int)) m.units.length := by
      refine two_count (i := k) (j := k') (List.getElem?_eq_some_iff.1 hku).1 (List.getElem?_eq_some_iff.1 hku').1 hkk ?_ ?_
      · rw [m1]; simp [is, hku, k4]
      · rw [m2]; simp [is, hku', k4']
    unfold ownersE at w5
    split at w5
    · cases w5
    · rename_i hn
      rcases ho with ho | ho <;> (rw [ho] at hc; omega)
  exact ⟨fun e1 e2 e3 => key 26 (.inl rfl) e1 e2 e3, fun e1 e2 e3 => key 27 (.inr rfl) e1 e2 e3⟩
theorem ki_first {m : Md} {K : KM} (hK : Known m K) (hv : verify m = (0, 0, 0)) : KI m K (firstW m).wx := by
  have hI := wi_first hK hv
  refine ⟨⟨by simp [firstW], fun i q b hq hb => ?_⟩, fun o t ht => ?_⟩
  · obtain ⟨t0, ht0⟩ : ∃ t, (firstW m).ts[0]? = some t := ⟨_, List.getElem?_eq_getElem hI.few.1⟩
    exact (hI.tasks 0 t0 ht0).boxes i q b hq hb
  · obtain ⟨n, hn, e⟩ := firstW_at ht
    have hM := hI.tasks o t ht
    refine ⟨hM.goes, hM.over, n, hn, fun h hh f hf => ?_⟩
    rw [e] at hh
    unfold newTk at hh
    simp at hh
    subst hh
    simp [newTh] at hf
    subst hf
    exact .here _
end Go.Proofs.YtekjhefmhhcboaaGreat.Vw

