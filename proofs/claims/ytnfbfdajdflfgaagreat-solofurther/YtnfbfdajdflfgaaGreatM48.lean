/- A task that runs by itself: what stays, step by step. -/
import Derived.Test.YtnfbfdajdflfgaaGreatM43
import Derived.Test.YtnfbfdajdflfgaaGreatM47
namespace Go.Proofs.YtnfbfdajdflfgaaGreat.Vw
open Go.RowKit Vf Vm

structure LI (m : Md) (K : KM) (fs : List (List Int)) (n : Nat) (t : Tk) (x : List Lst) : Prop where
  goes : Goes m K t
  over : t.over = 0 ∨ t.over = 4 ∨ t.over = 5
  out : t.out.length ≤ n
  log : t.log.length ≤ 2 * n
  len : x.length = m.boxes.length
  lists : ∀ (i : Nat) q, x[i]? = some q → fs[i]? = some q.feed ∧ q.took ≤ q.feed.length ∧ q.sent.length ≤ n ∧ (boxTy m i = 2 → q.feed.all truthB = true ∧ q.sent.all truthB = true)


/-- What stays of lists. -/
theorem keeps_ls {c : Cx} {K : KM} (hK : Known c.m K) (fs : List (List Int)) : Keeps lsX c (LI c.m K fs) := by
  have plainB : ∀ n : Nat, n < c.m.boxes.length → ¬ 10 ≤ boxTy c.m n := fun n hn => by
    obtain ⟨b, hb⟩ : ∃ b, c.m.boxes[n]? = some b := ⟨_, List.getElem?_eq_getElem hn⟩
    have := hK.rt.boxes n b hb
    unfold plain at this
    simp at this
    simp only [boxTy, Int.toNat_natCast, hb, Option.map_some, Option.getD_some]
    omega
  have hwt : ∀ (n : Nat) (t : Tk) (x : List Lst), LI c.m K fs n t x → (t.ins c.m).op = 27 → ∀ b : Nat, (t.ins c.m).a = b → b < c.m.boxes.length → lsX.empty x b = false → ∀ G, WT G (boxTy c.m (t.ins c.m).a) (lsX.head x (t.ins c.m).a.toNat) := fun n t x hI ho b hb hbl he G => by
    obtain ⟨q, hq⟩ : ∃ q, x[b]? = some q := ⟨_, List.getElem?_eq_getElem (by rw [hI.len]; exact hbl)⟩
    rw [hb, Int.toNat_natCast]
    obtain ⟨l1, l2, l3, l4⟩ := hI.lists b q hq
    simp [lsX, hq] at he ⊢
    obtain ⟨v, hv⟩ : ∃ v, q.feed[q.took]? = some v := ⟨_, List.getElem?_eq_getElem (by omega)⟩
    rw [hv]
    refine ⟨fun h2 => ?_, fun h10 => absurd h10 (plainB b hbl)⟩
    exact truth_iff.1 (List.all_eq_true.1 (l4 h2).1 v (List.mem_of_getElem? hv))
  refine ⟨fun n t x hI h0 => ?_, fun n t x hn hws hI hst => ?_⟩
  · rcases hI.goes with hg | ⟨G, st, hM⟩
    · exact absurd h0 hg
    · obtain ⟨h, f, r, u, i, k, k', H⟩ := hM.here hK
      obtain ⟨hp1, hp2, hrg⟩ := H.pos
      refine ⟨f, r, u, i, by rw [top_of H.hh]; exact H.fs, H.un, H.code, fun ho => ?_⟩
      unfold ranged at hrg
      rw [if_neg (by omega), if_neg (by omega), if_neg (by omega), if_neg (by omega), if_neg (by omega), if_pos ho] at hrg
      simp at hrg
      exact ⟨i.a.toNat, by omega, by omega⟩
  · have h0 : t.over = 0 := by
      rcases hI.over with e | e | e
      · exact e
      · unfold stat at hst; rw [if_pos (by omega)] at hst; simp at hst; omega
      · unfold stat at hst; rw [if_pos (by omega)] at hst; simp at hst; omega
    rcases hI.goes with hg | ⟨G, st, hM⟩
    · exact absurd h0 hg
    · have hemp : (t.ins c.m).op = 27 → lsX.empty x (t.ins c.m).a.toNat = false := fun ho => by
        unfold stat at hst
        rw [if_neg (by omega), if_neg (by omega)] at hst
        split at hst
        · cases hst
        · rename_i hn2
          cases he : lsX.empty x (t.ins c.m).a.toNat
          · rfl
          · exact absurd ⟨ho, he⟩ hn2
      have hbx : (t.ins c.m).op = 26 ∨ (t.ins c.m).op = 27 → ∃ b : Nat, (t.ins c.m).a = b ∧ b < c.m.boxes.length := fun ho => by
        obtain ⟨h, f, r, u, i, k, k', H⟩ := hM.here hK
        rw [H.ins] at ho ⊢
        obtain ⟨hp1, hp2, hrg⟩ := H.pos
        unfold ranged at hrg
        rw [if_neg (by omega), if_neg (by omega), if_neg (by omega), if_neg (by omega), if_neg (by omega), if_pos ho] at hrg
        simp at hrg
        exact ⟨i.a.toNat, by omega, by omega⟩
      have hrv : (t.ins c.m).op = 27 → WT G (boxTy c.m (t.ins c.m).a) (lsX.head x (t.ins c.m).a.toNat) := fun ho => by
        obtain ⟨b, e, hb⟩ := hbx (.inr ho)
        have he := hemp ho
        rw [e, Int.toNat_natCast] at he
        exact hwt n t x hI ho b e hb he G
      have hout := hI.out
      obtain ⟨f, rs, u, i, hA, hOk⟩ := stepOk_of (X := lsX) hK hM hrv hws (fun b ho e q hq => by
        have := (hI.lists b q hq).2.2.1
        omega) hemp (by omega) (by have := hI.log; omega)
      refine ⟨f, rs, u, i, hOk, ?_⟩
      obtain ⟨_, hgo⟩ := step_goes hK hM _ hrv
      obtain ⟨a1, a2⟩ := act_out c.m (t.ins c.m) (t.goto (t.frame.pc + 1)) (lsX.head x (t.ins c.m).a.toNat)
      have hlg := act_log c.m (t.ins c.m) (t.goto (t.frame.pc + 1)) (lsX.head x (t.ins c.m).a.toNat)
      have hlI := hI.log
      have hlg : (Tk.act c.m (t.ins c.m) (t.goto (t.frame.pc + 1)) (lsX.head x (t.ins c.m).a.toNat)).log.length ≤ t.log.length + 2 := hlg
      refine ⟨hgo, ?_, ?_, by show (Tk.act c.m (t.ins c.m) (t.goto (t.frame.pc + 1)) (lsX.head x (t.ins c.m).a.toNat)).log.length ≤ 2 * (n + 1); omega, ?_, fun j q hq => ?_⟩
      · have e : (t.goto (t.frame.pc + 1)).over = t.over := rfl
        rw [e, h0] at a2
        exact a2
      · show (Tk.act c.m (t.ins c.m) (t.goto (t.frame.pc + 1)) (lsX.head x (t.ins c.m).a.toNat)).out.length ≤ n + 1
        rw [a1]
        have e : (t.goto (t.frame.pc + 1)).out = t.out := rfl
        split <;> simp [e] <;> omega
      · show (stX lsX (t.ins c.m) _ x).length = _
        unfold stX
        split
        · rename_i ho
          obtain ⟨b, e, hb⟩ := hbx (.inl ho)
          obtain ⟨q, hq⟩ : ∃ q, x[b]? = some q := ⟨_, List.getElem?_eq_getElem (by rw [hI.len]; exact hb)⟩
          rw [e, Int.toNat_natCast]
          simp [lsX, hq, hI.len]
        · split
          · rename_i _ ho
            obtain ⟨b, e, hb⟩ := hbx (.inr ho)
            obtain ⟨q, hq⟩ : ∃ q, x[b]? = some q := ⟨_, List.getElem?_eq_getElem (by rw [hI.len]; exact hb)⟩
            rw [e, Int.toNat_natCast]
            simp [lsX, hq, hI.len]
          · exact hI.len
      · have old : ∀ q, x[j]? = some q → fs[j]? = some q.feed ∧ q.took ≤ q.feed.length ∧ q.sent.length ≤ n + 1 ∧ (boxTy c.m j = 2 → q.feed.all truthB = true ∧ q.sent.all truthB = true) := fun q hq => by
          obtain ⟨l1, l2, l3, l4⟩ := hI.lists j q hq
          exact ⟨l1, l2, by omega, l4⟩
        change (stX lsX (t.ins c.m) (t.goto (t.frame.pc + 1)).last x)[j]? = some q at hq
        unfold stX at hq
        split at hq
        · rename_i ho
          obtain ⟨b, e, hb⟩ := hbx (.inl ho)
          obtain ⟨q0, hq0⟩ : ∃ q, x[b]? = some q := ⟨_, List.getElem?_eq_getElem (by rw [hI.len]; exact hb)⟩
          have hs := sent_wt hK hM ho
          rw [e, Int.toNat_natCast] at hq
          simp only [lsX, hq0] at hq
          rw [List.getElem?_set] at hq
          split at hq
          · rename_i ej
            subst ej
            split at hq
            · cases hq
              obtain ⟨l1, l2, l3, l4⟩ := hI.lists b q0 hq0
              refine ⟨l1, l2, by simp; omega, fun h2 => ⟨(l4 h2).1, ?_⟩⟩
              rw [e] at hs
              rw [List.all_append, (l4 h2).2]
              simp [truth_iff.2 (hs.1 h2)]
            · cases hq
          · exact old q hq
        · split at hq
          · rename_i _ ho
            obtain ⟨b, e, hb⟩ := hbx (.inr ho)
            obtain ⟨q0, hq0⟩ : ∃ q, x[b]? = some q := ⟨_, List.getElem?_eq_getElem (by rw [hI.len]; exact hb)⟩
            have he := hemp ho
            rw [e, Int.toNat_natCast] at hq he
            simp only [lsX, hq0] at hq
            simp [lsX, hq0] at he
            rw [List.getElem?_set] at hq
            split at hq
            · rename_i ej
              subst ej
              split at hq
              · cases hq
                obtain ⟨l1, l2, l3, l4⟩ := hI.lists b q0 hq0
                exact ⟨l1, by show q0.took + 1 ≤ q0.feed.length; omega, by show q0.sent.length ≤ n + 1; omega, l4⟩
              · cases hq
            · exact old q hq
          · exact old q hq
end Go.Proofs.YtnfbfdajdflfgaaGreat.Vw

/- A task that runs by itself, plainly: who is fed more says no less; step by step. -/
namespace Go.Proofs.YtnfbfdajdflfgaaGreat.Vw
open Go.RowKit Vf Vm

section
variable {β : Type} {X : Bxs β} {m : Md}
theorem go_yes {n : Nat} {t : Tk} {x : β} (h : (stat X m t x).1 = 1) : go X m (n + 1) t x = ((go X m n (one X m t x).1 (one X m t x).2).1 + 1, (go X m n (one X m t x).1 (one X m t x).2).2) := by
  show (if (stat X m t x).1 = 1 then _ else _ : Nat × Tk × β) = _
  rw [if_pos h]
theorem go_no {n : Nat} {t : Tk} {x : β} (h : ¬ (stat X m t x).1 = 1) : go X m n t x = (0, t, x) := by
  cases n with
  | zero => rfl
  | succ n =>
    show (if (stat X m t x).1 = 1 then _ else _ : Nat × Tk × β) = _
    rw [if_neg h]
theorem go_le : ∀ (n : Nat) (t : Tk) (x : β), (go X m n t x).1 ≤ n
  | 0, _, _ => Nat.le_refl _
  | n + 1, t, x => by
    by_cases h : (stat X m t x).1 = 1
    · rw [go_yes h]; have := go_le n (one X m t x).1 (one X m t x).2; simp; omega
    · rw [go_no h]; simp
end

/-- Perhaps more was said. -/
structure Later (t : Tk) (x : List Lst) (t' : Tk) (x' : List Lst) : Prop where
  out : t.out <+: t'.out
  len : x.length = x'.length
  sent : ∀ (i : Nat) q q', x[i]? = some q → x'[i]? = some q' → q.sent <+: q'.sent
theorem Later.refl (t : Tk) (x : List Lst) : Later t x t x := ⟨List.prefix_rfl, rfl, fun i q q' h h' => by rw [h] at h'; cases h'; exact List.prefix_rfl⟩
theorem Later.trans {t t1 t2 : Tk} {x x1 x2 : List Lst} (h : Later t x t1 x1) (k : Later t1 x1 t2 x2) : Later t x t2 x2 :=
  ⟨h.out.trans k.out, h.len.trans k.len, fun i q q' hq hq' => by
    obtain ⟨q1, h1⟩ : ∃ q, x1[i]? = some q := ⟨_, List.getElem?_eq_getElem (by rw [← h.len]; exact (List.getElem?_eq_some_iff.1 hq).1)⟩
    exact (h.sent i q q1 hq h1).trans (k.sent i q1 q' h1 hq')⟩

theorem put_later (x : List Lst) (b : Nat) (v : Int) : x.length = (lsX.put x b v).length ∧ ∀ (i : Nat) q q', x[i]? = some q → (lsX.put x b v)[i]? = some q' → q.sent <+: q'.sent := by
  cases hb : x[b]? with
  | none => simp only [lsX, hb]; exact ⟨trivial, fun i q q' h h' => by rw [h] at h'; cases h'; exact List.prefix_rfl⟩
  | some q0 =>
    simp only [lsX, hb]
    refine ⟨by simp, fun i q q' h h' => ?_⟩
    rw [List.getElem?_set] at h'
    split at h'
    · rename_i e
      subst e
      split at h'
      · cases h'; rw [hb] at h; cases h; exact List.prefix_append _ _
      · cases h'
    · rw [h] at h'; cases h'; exact List.prefix_rfl
theorem take_later (x : List Lst) (b : Nat) : x.length = (lsX.take x b).length ∧ ∀ (i : Nat) q q', x[i]? = some q → (lsX.take x b)[i]? = some q' → q.sent <+: q'.sent := by
  cases hb : x[b]? with
  | none => simp only [lsX, hb]; exact ⟨trivial, fun i q q' h h' => by rw [h] at h'; cases h'; exact List.prefix_rfl⟩
  | some q0 =>
    simp only [lsX, hb]
    refine ⟨by simp, fun i q q' h h' => ?_⟩
    rw [List.getElem?_set] at h'
    split at h'
    · rename_i e
      subst e
      split at h'
      · cases h'; rw [hb] at h; cases h; exact List.prefix_rfl
      · cases h'
    · rw [h] at h'; cases h'; exact List.prefix_rfl
theorem one_later (m : Md) (t : Tk) (x : List Lst) : Later t x (one lsX m t x).1 (one lsX m t x).2 := by
  have ho : t.out <+: (one lsX m t x).1.out := by
    show _ <+: (Tk.act m (t.ins m) (t.goto (t.frame.pc + 1)) _).out
    rw [(act_out _ _ _ _).1]
    have e : (t.goto (t.frame.pc + 1)).out = t.out := rfl
    split
    · rw [e]; exact List.prefix_append _ _
    · rw [e]; exact List.prefix_rfl
  have hx : x.length = (one lsX m t x).2.length ∧ ∀ (i : Nat) q q', x[i]? = some q → (one lsX m t x).2[i]? = some q' → q.sent <+: q'.sent := by
    show x.length = (stX lsX (t.ins m) _ x).length ∧ ∀ (i : Nat) q q', x[i]? = some q → (stX lsX (t.ins m) _ x)[i]? = some q' → q.sent <+: q'.sent
    unfold stX
    split
    · exact put_later _ _ _
    · split
      · exact take_later _ _
      · exact ⟨rfl, fun i q q' h h' => by rw [h] at h'; cases h'; exact List.prefix_rfl⟩
  exact ⟨ho, hx.1, hx.2⟩
theorem go_later (m : Md) : ∀ (n : Nat) (t : Tk) (x : List Lst), Later t x (go lsX m n t x).2.1 (go lsX m n t x).2.2
  | 0, t, x => .refl t x
  | n + 1, t, x => by
    by_cases h : (stat lsX m t x).1 = 1
    · rw [go_yes h]; exact (one_later m t x).trans (go_later m n _ _)
    · rw [go_no h]; exact .refl t x

/-- Fed more. -/
structure Fed (x x' : List Lst) : Prop where
  len : x.length = x'.length
  at' : ∀ (i : Nat) q q', x[i]? = some q → x'[i]? = some q' → q.took = q'.took ∧ q.sent = q'.sent ∧ q.feed <+: q'.feed ∧ q.took ≤ q.feed.length
theorem Fed.some {x x' : List Lst} (h : Fed x x') {i : Nat} {q : Lst} (hq : x[i]? = some q) : ∃ q', x'[i]? = some q' := ⟨_, List.getElem?_eq_getElem (by rw [← h.len]; exact (List.getElem?_eq_some_iff.1 hq).1)⟩
theorem Fed.none {x x' : List Lst} (h : Fed x x') {i : Nat} (hq : x[i]? = none) : x'[i]? = none := by
  rw [List.getElem?_eq_none_iff] at hq ⊢
  rw [← h.len]; exact hq
theorem Fed.empty {x x' : List Lst} (h : Fed x x') (b : Nat) (he : lsX.empty x b = false) : lsX.empty x' b = false ∧ lsX.head x b = lsX.head x' b := by
  cases hb : x[b]? with
  | none => simp [lsX, hb] at he
  | some q =>
    obtain ⟨q', hb'⟩ := h.some hb
    obtain ⟨e1, e2, e3, e4⟩ := h.at' b q q' hb hb'
    simp [lsX, hb] at he
    obtain ⟨r, hr⟩ := e3
    simp only [lsX, hb, hb', ← hr, ← e1]
    refine ⟨by simp; omega, ?_⟩
    rw [List.getElem?_append_left (by omega)]
theorem Fed.put {x x' : List Lst} (h : Fed x x') (b : Nat) (v : Int) : Fed (lsX.put x b v) (lsX.put x' b v) := by
  refine ⟨by rw [← (put_later x b v).1, ← (put_later x' b v).1]; exact h.len, fun i q q' hq hq' => ?_⟩
  cases hb : x[b]? with
  | none =>
    have hb' := h.none hb
    simp only [lsX, hb] at hq
    simp only [lsX, hb'] at hq'
    exact h.at' i q q' hq hq'
  | some p =>
    obtain ⟨p', hb'⟩ := h.some hb
    simp only [lsX, hb] at hq
    simp only [lsX, hb'] at hq'
    rw [List.getElem?_set] at hq hq'
    by_cases e : b = i
    · subst e
      rw [if_pos rfl] at hq hq'
      split at hq
      · split at hq'
        · cases hq; cases hq'
          obtain ⟨e1, e2, e3, e4⟩ := h.at' b p p' hb hb'
          exact ⟨e1, by show p.sent ++ [v] = p'.sent ++ [v]; rw [e2], e3, e4⟩
        · cases hq'
      · cases hq
    · rw [if_neg e] at hq hq'
      exact h.at' i q q' hq hq'
theorem Fed.take {x x' : List Lst} (h : Fed x x') (b : Nat) (he : lsX.empty x b = false) : Fed (lsX.take x b) (lsX.take x' b) := by
  refine ⟨by rw [← (take_later x b).1, ← (take_later x' b).1]; exact h.len, fun i q q' hq hq' => ?_⟩
  cases hb : x[b]? with
  | none =>
    have hb' := h.none hb
    simp only [lsX, hb] at hq
    simp only [lsX, hb'] at hq'
    exact h.at' i q q' hq hq'
  | some p =>
    obtain ⟨p', hb'⟩ := h.some hb
    simp [lsX, hb] at he
    simp only [lsX, hb] at hq
    simp only [lsX, hb'] at hq'
    rw [List.getElem?_set] at hq hq'
    by_cases e : b = i
    · subst e
      rw [if_pos rfl] at hq hq'
      split at hq
      · split at hq'
        · cases hq; cases hq'
          obtain ⟨e1, e2, e3, e4⟩ := h.at' b p p' hb hb'
          exact ⟨by show p.took + 1 = p'.took + 1; rw [e1], e2, e3, by show p.took + 1 ≤ p.feed.length; omega⟩
        · cases hq'
      · cases hq
    · rw [if_neg e] at hq hq'
      exact h.at' i q q' hq hq'

/-- STEP BY STEP. -/
theorem go_further (m : Md) : ∀ (n d : Nat) (t : Tk) (x : List Lst), ((go lsX m n t x).1 < n → go lsX m (n + d) t x = go lsX m n t x) ∧ (go lsX m n t x).1 ≤ (go lsX m (n + d) t x).1 ∧ Later (go lsX m n t x).2.1 (go lsX m n t x).2.2 (go lsX m (n + d) t x).2.1 (go lsX m (n + d) t x).2.2
  | 0, d, t, x => ⟨fun h => by omega, Nat.zero_le _, by rw [Nat.zero_add]; exact go_later m d t x⟩
  | n + 1, d, t, x => by
    have e : n + 1 + d = (n + d) + 1 := by omega
    rw [e]
    by_cases hs : (stat lsX m t x).1 = 1
    · obtain ⟨i1, i2, i3⟩ := go_further m n d (one lsX m t x).1 (one lsX m t x).2
      rw [go_yes hs, go_yes hs]
      exact ⟨fun h => by rw [i1 (by simp at h; omega)], by simp; omega, i3⟩
    · rw [go_no hs, go_no hs]
      exact ⟨fun _ => rfl, Nat.le_refl _, .refl t x⟩
end Go.Proofs.YtnfbfdajdflfgaaGreat.Vw

