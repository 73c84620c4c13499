/- What comes of picks, plainly: no pick overdoes; what is refused changes nothing; long turns are short ones; at rest nobody can go on. -/
import Derived.Test.YtekjhefmhhcboaaGreatM45
import Derived.Test.YtekjhefmhhcboaaGreatM46
namespace Go.Proofs.YtekjhefmhhcboaaGreat.Vw
open Go.RowKit Vf Vm

section
variable {β : Type} {X : Bxs β} {m : Md}
theorem go_yes {n : Nat} {t : Tk} {x : β} (h : (stat X m t x).1 = 1) : go X m (n + 1) t x = ((go X m n (one X m t x).1 (one X m t x).2).1 + 1, (go X m n (one X m t x).1 (one X m t x).2).2) := by
  show (if (stat X m t x).1 = 1 then _ else _ : Nat × Tk × β) = _
  rw [if_pos h]
theorem go_no {n : Nat} {t : Tk} {x : β} (h : ¬ (stat X m t x).1 = 1) : go X m n t x = (0, t, x) := by
  cases n with
  | zero => rfl
  | succ n =>
    show (if (stat X m t x).1 = 1 then _ else _ : Nat × Tk × β) = _
    rw [if_neg h]
theorem go_le : ∀ (n : Nat) (t : Tk) (x : β), (go X m n t x).1 ≤ n
  | 0, _, _ => Nat.le_refl _
  | n + 1, t, x => by
    by_cases h : (stat X m t x).1 = 1
    · rw [go_yes h]; have := go_le n (one X m t x).1 (one X m t x).2; simp; omega
    · rw [go_no h]; simp
theorem go_pos {n : Nat} {t : Tk} {x : β} (h : (stat X m t x).1 = 1) (hn : 0 < n) : 1 ≤ (go X m n t x).1 := by
  obtain ⟨k, rfl⟩ : ∃ k, n = k + 1 := ⟨n - 1, by omega⟩
  rw [go_yes h]
  simp
/-- It stops early where it can't go on. -/
theorem go_stop : ∀ (n : Nat) (t : Tk) (x : β), (go X m n t x).1 < n → ¬ (stat X m (go X m n t x).2.1 (go X m n t x).2.2).1 = 1
  | 0, _, _, h => by simp [go] at h
  | n + 1, t, x, h => by
    by_cases hs : (stat X m t x).1 = 1
    · rw [go_yes hs] at h ⊢
      exact go_stop n _ _ (by simp at h; omega)
    · rw [go_no hs]; exact hs
theorem go_add : ∀ (a b : Nat) (t : Tk) (x : β), go X m (a + b) t x = if (go X m a t x).1 = a then ((go X m b (go X m a t x).2.1 (go X m a t x).2.2).1 + a, (go X m b (go X m a t x).2.1 (go X m a t x).2.2).2) else go X m a t x
  | 0, b, t, x => by simp [go]
  | a + 1, b, t, x => by
    rw [show a + 1 + b = (a + b) + 1 by omega]
    by_cases hs : (stat X m t x).1 = 1
    · rw [go_yes hs, go_yes hs, go_add a b]
      by_cases h : (go X m a (one X m t x).1 (one X m t x).2).1 = a
      · rw [if_pos h, if_pos (by simp [h])]
        simp; omega
      · rw [if_neg h, if_neg (by simp; omega)]
    · rw [go_no hs, go_no hs, if_neg (by simp)]
end

theorem refE_zero {m : Md} {w : Wd} {p : Pk} (h : refE m w p = 0) : 0 ≤ p.task ∧ p.task < w.ts.length ∧ 1 ≤ p.q ∧ p.q ≤ 10000 ∧ (stat mbX m (w.tk p.task) w.x).1 = 1 ∧ w.steps < 20000 := by
  unfold refE at h
  split at h
  · cases h
  · split at h
    · split at h
      · split at h
        · cases h
        · exact ⟨by omega, by omega, by omega, by omega, by assumption, by omega⟩
      · cases h
    · cases h
theorem ran_few {m : Md} {w : Wd} {p : Pk} (h : refE m w p = 0) : 1 ≤ (ran m w p).1 ∧ ((ran m w p).1 : Int) ≤ p.q ∧ (ran m w p).1 ≤ 20000 - w.steps := by
  obtain ⟨h1, h2, h3, h4, h5, h6⟩ := refE_zero h
  have a := go_pos (X := mbX) (m := m) (n := min p.q.toNat (20000 - w.steps)) h5 (by omega)
  have b := go_le (X := mbX) (m := m) (min p.q.toNat (20000 - w.steps)) (w.tk p.task) w.x
  unfold ran
  omega
theorem pick_steps (m : Md) (w : Wd) (p : Pk) : (pickW m w p).steps = w.steps + (pickD m w p).steps ∧ (pickW m w p).ts.length = w.ts.length ∧ (w.steps ≤ 20000 → (pickW m w p).steps ≤ 20000) ∧ ((pickD m w p).err = 0 → 1 ≤ (pickD m w p).steps ∧ ((pickD m w p).steps : Int) ≤ p.q) ∧ ((pickD m w p).err ≠ 0 → (pickD m w p).steps = 0) := by
  unfold pickW pickD
  by_cases h : refE m w p = 0
  · have := ran_few h
    rw [if_pos h, if_pos h]
    exact ⟨rfl, by simp, fun _ => by show w.steps + _ ≤ 20000; omega, fun _ => ⟨this.1, this.2.1⟩, fun e => absurd rfl e⟩
  · rw [if_neg h, if_neg h]
    exact ⟨rfl, rfl, id, fun e => absurd e h, fun _ => rfl⟩
theorem followD_len (m : Md) : ∀ (w : Wd) (ps : List Pk), (followD m w ps).length = ps.length
  | _, [] => rfl
  | w, p :: ps => by simp [followD, followD_len m _ ps]
theorem followD_at (m : Md) : ∀ (w : Wd) (ps : List Pk) (i : Nat) p d, ps[i]? = some p → (followD m w ps)[i]? = some d → (d.err = 0 → 1 ≤ d.steps ∧ (d.steps : Int) ≤ p.q) ∧ (d.err ≠ 0 → d.steps = 0)
  | w, p :: ps, 0, p', d, hp, hd => by
    cases hp
    simp [followD] at hd
    subst hd
    exact (pick_steps m w p).2.2.2
  | w, p :: ps, i + 1, p', d, hp, hd => followD_at m (pickW m w p) ps i p' d (by simpa using hp) (by simpa [followD] using hd)
def sumD : List Dd → Nat
  | [] => 0
  | d :: l => d.steps + sumD l
theorem follow_sum (m : Md) : ∀ (w : Wd) (ps : List Pk), (followW m w ps).steps = w.steps + sumD (followD m w ps) ∧ (w.steps ≤ 20000 → (followW m w ps).steps ≤ 20000)
  | w, [] => ⟨rfl, id⟩
  | w, p :: ps => by
    obtain ⟨h1, h2⟩ := follow_sum m (pickW m w p) ps
    obtain ⟨k1, _, k2, _⟩ := pick_steps m w p
    exact ⟨by simp only [followW, followD, sumD]; rw [h1, k1]; omega, fun h => h2 (k2 h)⟩
/-- The picks that are not refused. -/
def good (m : Md) (w : Wd) : List Pk → List Pk
  | [] => []
  | p :: ps => if (pickD m w p).err = 0 then p :: good m (pickW m w p) ps else good m w ps
theorem pickW_no {m : Md} {w : Wd} {p : Pk} (h : ¬ (pickD m w p).err = 0) : pickW m w p = w := by
  unfold pickD at h
  unfold pickW
  by_cases e : refE m w p = 0
  · rw [if_pos e] at h; exact absurd rfl h
  · rw [if_neg e]
/-- WHAT IS REFUSED CHANGES NOTHING. -/
theorem follow_good (m : Md) : ∀ (w : Wd) (ps : List Pk), followW m w (good m w ps) = followW m w ps
  | _, [] => rfl
  | w, p :: ps => by
    unfold good
    by_cases h : (pickD m w p).err = 0
    · rw [if_pos h]; exact follow_good m (pickW m w p) ps
    · rw [if_neg h, follow_good m w ps]
      show _ = followW m (pickW m w p) ps
      rw [pickW_no h]
/-- The same tasks, boxes and steps. -/
def SameW (a b : Wd) : Prop := a.ts = b.ts ∧ a.x = b.x ∧ a.steps = b.steps
theorem tk_set {w : Wd} {o : Nat} {t : Tk} (h : o < w.ts.length) (x : List Bq) (s : Nat) (l : Int) (e : List (Nat × Ev)) : (Wd.mk (w.ts.set o t) x s l e).tk (o : Int) = t := by
  simp [Wd.tk, h]
/-- LONG TURNS ARE SHORT ONES. -/
theorem quantum (m : Md) (w : Wd) (task a b : Int) (ha : 1 ≤ a ∧ a ≤ 1000) (hb : 1 ≤ b ∧ b ≤ 1000) : SameW (pickW m (pickW m w ⟨task, a⟩) ⟨task, b⟩) (pickW m w ⟨task, a + b⟩) := by
  by_cases h : refE m w ⟨task, a⟩ = 0
  · have h2 : refE m w ⟨task, a + b⟩ = 0 := by
      obtain ⟨h1, h2, _, _, h5, h6⟩ := refE_zero h
      simp only at h1 h2 h5
      unfold refE
      rw [if_neg (by simp only; omega), if_pos (by simp only; omega), if_pos h5, if_neg (by omega)]
    obtain ⟨h1, h2', _, _, h5, h6⟩ := refE_zero h
    simp only at h1 h2' h5
    obtain ⟨o, rfl⟩ := Int.eq_ofNat_of_zero_le h1
    have hol : o < w.ts.length := by omega
    have hfew := ran_few h
    -- one turn
    obtain ⟨R1, hR1⟩ : ∃ R, R = ran m w ⟨(o : Int), a⟩ := ⟨_, rfl⟩
    have e1 : pickW m w ⟨(o : Int), a⟩ = ⟨w.ts.set o R1.2.1, R1.2.2, w.steps + R1.1, o, w.evs ++ (R1.2.1.log.drop (w.tk (o : Int)).log.length).map fun e => (((o : Int)).toNat, e)⟩ := by
      unfold pickW
      rw [if_pos h, ← hR1]
      rfl
    have e2 : pickW m w ⟨(o : Int), a + b⟩ = ⟨w.ts.set o (ran m w ⟨(o : Int), a + b⟩).2.1, (ran m w ⟨(o : Int), a + b⟩).2.2, w.steps + (ran m w ⟨(o : Int), a + b⟩).1, o, w.evs ++ ((ran m w ⟨(o : Int), a + b⟩).2.1.log.drop (w.tk (o : Int)).log.length).map fun e => (((o : Int)).toNat, e)⟩ := by
      unfold pickW
      rw [if_pos h2]
      rfl
    rw [e1, e2]
    rw [← hR1] at hfew
    have hran : ran m w ⟨(o : Int), a⟩ = go mbX m (min a.toNat (20000 - w.steps)) (w.tk (o : Int)) w.x := rfl
    have hran2 : ran m w ⟨(o : Int), a + b⟩ = go mbX m (min (a + b).toNat (20000 - w.steps)) (w.tk (o : Int)) w.x := rfl
    rw [hran] at hR1
    have hsplit : min (a + b).toNat (20000 - w.steps) = min a.toNat (20000 - w.steps) + min b.toNat (20000 - (w.steps + min a.toNat (20000 - w.steps))) := by omega
    rw [hran2, hsplit, go_add, ← hR1]
    by_cases hall : R1.1 = min a.toNat (20000 - w.steps)
    · rw [if_pos hall]
      by_cases h3 : (stat mbX m R1.2.1 R1.2.2).1 = 1
      · by_cases h4 : w.steps + R1.1 < 20000
        · have hp : refE m ⟨w.ts.set o R1.2.1, R1.2.2, w.steps + R1.1, o, w.evs ++ (R1.2.1.log.drop (w.tk (o : Int)).log.length).map fun e => (((o : Int)).toNat, e)⟩ ⟨(o : Int), b⟩ = 0 := by
            unfold refE
            rw [if_neg (by simp; omega), if_pos (by simp only; omega)]
            simp only [tk_set hol]
            rw [if_pos h3, if_neg (by omega)]
          unfold pickW
          rw [if_pos hp]
          have hr3 : ran m ⟨w.ts.set o R1.2.1, R1.2.2, w.steps + R1.1, o, w.evs ++ (R1.2.1.log.drop (w.tk (o : Int)).log.length).map fun e => (((o : Int)).toNat, e)⟩ ⟨(o : Int), b⟩ = go mbX m (min b.toNat (20000 - (w.steps + R1.1))) R1.2.1 R1.2.2 := by
            unfold ran
            simp only [tk_set hol]
          rw [hr3, ← hall]
          refine ⟨?_, rfl, ?_⟩
          · simp
          · show w.steps + R1.1 + _ = w.steps + (_ + R1.1); omega
        · have hz : min b.toNat (20000 - (w.steps + min a.toNat (20000 - w.steps))) = 0 := by omega
          have hp : refE m ⟨w.ts.set o R1.2.1, R1.2.2, w.steps + R1.1, o, w.evs ++ (R1.2.1.log.drop (w.tk (o : Int)).log.length).map fun e => (((o : Int)).toNat, e)⟩ ⟨(o : Int), b⟩ ≠ 0 := fun e => by
            have := (refE_zero e).2.2.2.2.2
            simp only at this
            omega
          unfold pickW
          rw [if_neg hp, hz]
          exact ⟨rfl, rfl, by simp [go]; omega⟩
      · have hp : refE m ⟨w.ts.set o R1.2.1, R1.2.2, w.steps + R1.1, o, w.evs ++ (R1.2.1.log.drop (w.tk (o : Int)).log.length).map fun e => (((o : Int)).toNat, e)⟩ ⟨(o : Int), b⟩ ≠ 0 := fun e => by
          have := (refE_zero e).2.2.2.2.1
          simp only [tk_set hol] at this
          exact h3 this
        unfold pickW
        rw [if_neg hp, go_no h3]
        exact ⟨rfl, rfl, by show w.steps + R1.1 = w.steps + (0 + _); omega⟩
    · rw [if_neg hall]
      have hle : R1.1 ≤ min a.toNat (20000 - w.steps) := by rw [hR1]; exact go_le _ _ _
      have h3 : ¬ (stat mbX m R1.2.1 R1.2.2).1 = 1 := by rw [hR1]; exact go_stop _ _ _ (by rw [← hR1]; omega)
      have hp : refE m ⟨w.ts.set o R1.2.1, R1.2.2, w.steps + R1.1, o, w.evs ++ (R1.2.1.log.drop (w.tk (o : Int)).log.length).map fun e => (((o : Int)).toNat, e)⟩ ⟨(o : Int), b⟩ ≠ 0 := fun e => by
        have := (refE_zero e).2.2.2.2.1
        simp only [tk_set hol] at this
        exact h3 this
      unfold pickW
      rw [if_neg hp]
      exact ⟨rfl, rfl, rfl⟩
  · have e : pickW m w ⟨task, a⟩ = w := by unfold pickW; rw [if_neg h]
    have key : ∀ c : Int, 1 ≤ c ∧ c ≤ 10000 → refE m w ⟨task, c⟩ = refE m w ⟨task, a⟩ := fun c hc => by
      unfold refE
      simp only
      split
      · rfl
      · rw [if_pos (show 1 ≤ a ∧ a ≤ 10000 by omega)]
    have hb' : ¬ refE m w ⟨task, b⟩ = 0 := by rw [key b (by omega)]; exact h
    have hab : ¬ refE m w ⟨task, a + b⟩ = 0 := by rw [key (a + b) (by omega)]; exact h
    rw [e]
    unfold pickW
    rw [if_neg hb', if_neg hab]
    exact ⟨rfl, rfl, rfl⟩

/-- AT REST NOBODY CAN GO ON. -/
theorem nextFrom_none {m : Md} {w : Wd} : ∀ (n i : Nat), nextFrom m w n i = none → ∀ j, i ≤ j → j < i + n → ¬ (stat mbX m (w.tk (behind w j)) w.x).1 = 1
  | 0, _, _, j, h1, h2 => by omega
  | n + 1, i, h, j, h1, h2 => by
    unfold nextFrom at h
    split at h
    · cases h
    · rename_i hs
      by_cases e : j = i
      · subst e; exact hs
      · exact nextFrom_none n (i + 1) h j (by omega) (by omega)
theorem following_none {m : Md} {w : Wd} (h : following m w = none) {o : Nat} (ho : o < w.ts.length) : ¬ (stat mbX m (w.tk (o : Int)) w.x).1 = 1 := by
  have hn : (0 : Int) < w.ts.length := by omega
  have hj : ∃ j, j < w.ts.length ∧ behind w j = o := by
    refine ⟨(((o : Int) - w.last - 1) % (w.ts.length : Int)).toNat, ?_, ?_⟩
    · have := Int.emod_lt_of_pos ((o : Int) - w.last - 1) hn
      have := Int.emod_nonneg ((o : Int) - w.last - 1) (by omega : (w.ts.length : Int) ≠ 0)
      omega
    · unfold behind
      have h0 := Int.emod_nonneg ((o : Int) - w.last - 1) (by omega : (w.ts.length : Int) ≠ 0)
      rw [Int.toNat_of_nonneg h0]
      have : (w.last + 1 + ((o : Int) - w.last - 1) % (w.ts.length : Int)) % (w.ts.length : Int) = (o : Int) := by
        rw [Int.add_emod, Int.emod_emod_of_dvd _ (Int.dvd_refl _), ← Int.add_emod, show w.last + 1 + ((o : Int) - w.last - 1) = o by omega]
        exact Int.emod_eq_of_lt (by omega) (by omega)
      omega
  obtain ⟨j, hj1, hj2⟩ := hj
  rw [← hj2]
  exact nextFrom_none _ _ h j (Nat.zero_le _) (by omega)
end Go.Proofs.YtekjhefmhhcboaaGreat.Vw

/- The walks of pick and follow. -/
namespace Go.Proofs.YtekjhefmhhcboaaGreat.Vw
open Go.RowKit Vf Vm

theorem go_log {β : Type} (X : Bxs β) (m : Md) : ∀ (n : Nat) (t : Tk) (x : β), (go X m n t x).2.1.log.length ≤ t.log.length + 2 * (go X m n t x).1
  | 0, t, x => Nat.le_refl _
  | n + 1, t, x => by
    by_cases h : (stat X m t x).1 = 1
    · rw [go_yes h]
      have ih := go_log X m n (one X m t x).1 (one X m t x).2
      have h1 : (one X m t x).1.log.length ≤ t.log.length + 2 := act_log m (t.ins m) (t.goto (t.frame.pc + 1)) (X.head x (t.ins m).a.toNat)
      dsimp only
      omega
    · rw [go_no h]
      exact Nat.le_refl _
/-- What stays of what is known of all. -/
theorem WI.pick {m : Md} {K : KM} {W : Wd} (h : WI m K W) {o : Nat} {t : Tk} (ht : W.ts[o]? = some t) {p : Pk} (ho : p.task = o) (hr : refE m W p = 0) (h2 : MI m K (W.steps + (ran m W p).1) (ran m W p).2.1 (ran m W p).2.2) (hle : (ran m W p).1 ≤ 20000 - W.steps) : WI m K (pickW m W p) := by
  unfold pickW
  rw [if_pos hr]
  have hol := (List.getElem?_eq_some_iff.1 ht).1
  have hst := h.steps
  have hev := h.evs
  have hgl : (ran m W p).2.1.log.length ≤ (W.tk p.task).log.length + 2 * (ran m W p).1 := go_log mbX m _ _ _
  refine ⟨fun j u hu => ?_, by show W.steps + _ ≤ 20000; omega, ?_, by simpa using h.few, by
    show (W.evs ++ ((ran m W p).2.1.log.drop (W.tk p.task).log.length).map fun e => (p.task.toNat, e)).length ≤ 2 * (W.steps + _)
    rw [List.length_append, List.length_map, List.length_drop]
    omega⟩
  · simp only [ho, Int.toNat_natCast] at hu
    rw [List.getElem?_set] at hu
    split at hu
    · cases hu; exact h2
    · obtain ⟨a, b, c, d, e, _⟩ := h.tasks j u hu
      exact ⟨a, b, by show u.out.length ≤ W.steps + _; omega, by show u.log.length ≤ 2 * (W.steps + _); omega, h2.len, h2.boxes⟩
  · show -1 ≤ p.task ∧ p.task < ((W.ts.set p.task.toNat _).length : Int)
    rw [ho]
    simp
    omega

section
variable {s : Sx} {B : EarW} {L L1 : Lab} {w w1 : World} {W : Wd} {vt vx : Value}
/-- A task has run. -/
theorem WdIn.ran (H : WdIn s B L w W vt vx) {o : Nat} {t t' : Tk} {x' : List Bq} (ht : W.ts[o]? = some t) {P : Nat → Nat} {vR vO : Value} (hS : St (s.E (earOf B o W.evs t.log.length)) s.c s.vb (s.ev o) o (s.T o) L1 P w1 t' x' vR vO) (hE : ExW o L L1 w) (hC : Chg (WB L o) w w1) (steps : Nat) (last : Int) :
    w1.heap[s.WB]? = some (wdO vt vx W.steps W.last) ∧ WdIn s B L1 ((w1.setCell ⟨s.WB, 2, none⟩ (.int .i64 steps)).setCell ⟨s.WB, 3, none⟩ (.int .i64 last)) ⟨W.ts.set o t', x', steps, last, W.evs ++ (t'.log.drop t.log.length).map fun e => (o, e)⟩ vt vx ∧ Kp L w ((w1.setCell ⟨s.WB, 2, none⟩ (.int .i64 steps)).setCell ⟨s.WB, 3, none⟩ (.int .i64 last)) := by
  have hz := hC.size
  have hWz := lt_of_block H.blk
  have c0 : ∀ b, b < w.heap.size → (L b).cls = 0 ∨ (L b).cls = 4 → w1.heap[b]? = w.heap[b]? := fun b hb h0 => hC.block b hb (fun hx => by unfold Vw.WB EB at hx; omega)
  have hblk := (c0 _ hWz (.inr H.lW)).trans H.blk
  have hset : ∀ b, b ≠ s.WB → ((w1.setCell ⟨s.WB, 2, none⟩ (.int .i64 steps)).setCell ⟨s.WB, 3, none⟩ (.int .i64 last)).heap[b]? = w1.heap[b]? := fun b hb => (Below.heap_setCell _ ⟨s.WB, 3, none⟩ _ _ hb).trans (Below.heap_setCell _ ⟨s.WB, 2, none⟩ _ _ hb)
  have hsz : ((w1.setCell ⟨s.WB, 2, none⟩ (.int .i64 steps)).setCell ⟨s.WB, 3, none⟩ (.int .i64 last)).heap.size = w1.heap.size := by simp [World.setCell]
  have lab : ∀ b, b < w.heap.size → L1 b = L b := hE.1
  have hneW : ∀ b, b < w1.heap.size → (L1 b).cls ≠ 4 → b ≠ s.WB := fun b _ h0 e => h0 (by rw [e, lab _ hWz]; exact H.lW)
  generalize hW2 : (w1.setCell ⟨s.WB, 2, none⟩ (.int .i64 steps)).setCell ⟨s.WB, 3, none⟩ (.int .i64 last) = w2 at *
  have hol := (List.getElem?_eq_some_iff.1 ht).1
  have rowk : ∀ {e n : Nat} {v : Value} {xs : List Value}, w.ownsRow 0 e 1 v n xs → e ≠ 75 → (∀ b, v.ownBlock = some b → (L b).cls = 0) → w2.ownsRow 0 e 1 v n xs := fun ho he hl => own_keep ho (fun b hb => by
    have hbz := (ho.lt b hb).2
    refine (hset b (fun e2 => ?_)).trans (c0 b hbz (.inl (hl b hb)))
    obtain ⟨cur, hc⟩ := own_ty ho hb
    rw [e2, H.blk] at hc
    simp at hc
    exact he hc.2.symm)
  refine ⟨hblk, ⟨?_, ?_, ?_, ?_, fun b hb => ?_, fun b hb => ?_, H.low, fun j u hu => ?_, ?_, ?_, hS.ok.on (by omega), hS.cx.low (fun b hb => hset b (fun e => by have := H.low s.WB (.inr (.inr rfl)); omega))⟩, ⟨?_, ?_, ?_, by omega, fun b hb h0 => (hset b (fun e => by rw [e, H.lW] at h0; cases h0)).trans (c0 b hb (.inl h0))⟩⟩
  · rw [← hW2]
    simp only [World.setCell, Array.getElem?_modify, if_true, hblk, Option.map_some]
    rfl
  · rw [lab _ hWz]; exact H.lW
  · have e : (W.ts.set o t').length = W.ts.length := by simp
    show w2.ownsRow 0 _ 1 vt (W.ts.set o t').length (ptrs s.T (W.ts.set o t').length)
    rw [e]
    exact rowk H.trow (by decide) H.lt
  · exact rowk H.brow (by decide) H.lx
  · rw [lab _ (H.trow.lt b hb).2]; exact H.lt b hb
  · rw [lab _ (H.brow.lt b hb).2]; exact H.lx b hb
  · simp only at hu
    rw [List.getElem?_set] at hu
    split at hu
    · rename_i e
      subst e
      cases hu
      exact ⟨P, vR, vO, tk_below hS.tk (fun b hb h1 _ => hset b (hneW b hb (by omega))) (.refl _ _) hS.tk.labs⟩
    · rename_i e
      obtain ⟨P', vR', vO', hT⟩ := H.tasks j u hu
      refine ⟨P', vR', vO', tk_below hT (fun b hb h1 h2 => ?_) (fun b hb => lab b hb) (fun b h1 h2 => ?_)⟩
      · exact (hset b (fun e2 => by rw [e2, H.lW] at h1; cases h1)).trans (hC.block b hb (fun hx => by unfold Vw.WB EB at hx; omega))
      · rcases hE.2 b with e2 | e2
        · rw [e2] at h1 h2 ⊢; exact hT.labs b h1 h2
        · unfold Vw.WB EB at e2; omega
  · by_cases h0 : 0 < s.c.m.boxes.length
    · have hr := hS.en.1.row 0 h0
      exact hS.en.1.keep (.refl _ _) (by omega) (fun b hb hx => hset b (hneW b hb (by rcases hx with rfl | hx <;> omega)))
    · have hx0 : x' = [] := List.eq_nil_of_length_eq_zero (by have := hS.en.1.len; omega)
      exact ⟨hS.en.1.len, fun n hn => by omega, fun n q hq => by rw [hx0] at hq; cases hq⟩
  · exact B.keep hS.en.2.2 (.refl _ _) (by omega) (fun b hb hx => hset b (hneW b hb (by omega)))
  · rw [← hW2]; exact hC.os
  · rw [← hW2]; exact hC.tape
  · rw [← hW2]; exact hC.output
/-- Blocks of somebody else's have turned. -/
theorem WdIn.more {L0 : Lab} {w0 : World} {W0 : Wd} (H0 : WdIn s B L0 w0 W0 vt vx) (H : WdIn s B L w W vt vx) (F : Nat → Prop) (hF : ∀ k, F k → w0.heap.size ≤ k ∧ (L k).cls = 0) (hw : ∀ k, k < w.heap.size → ¬ F k → w1.heap[k]? = w.heap[k]?) (hz : w.heap.size ≤ w1.heap.size) : WdIn s B L w1 W vt vx := by
  have nb : ∀ k, (L k).cls ≠ 0 → ¬ F k := fun k hk e => hk (hF k e).2
  have lo : ∀ k, k < w0.heap.size → ¬ F k := fun k hk e => by have := (hF k e).1; omega
  have hrb : MbEn s.Q s.c.m.boxes.length s.rb 0 L w1 W.x := by
    by_cases h0 : 0 < s.c.m.boxes.length
    · have hr := H0.boxes.row 0 h0
      exact H.boxes.keep (.refl _ _) hz (fun k hk hx => hw k hk (hx.elim (fun e => by rw [e]; exact lo _ hr.1) (fun e => nb k (by omega))))
    · have hx0 : W.x = [] := List.eq_nil_of_length_eq_zero (by have := H.boxes.len; omega)
      exact ⟨H.boxes.len, fun n hn => by omega, fun n q hq => by rw [hx0] at hq; cases hq⟩
  refine ⟨(hw _ (lt_of_block H.blk) (nb _ (by rw [H.lW]; decide))).trans H.blk, H.lW, own_keep H.trow (fun k hk => hw k (H.trow.lt k hk).2 (lo k (H0.trow.lt k hk).2)), own_keep H.brow (fun k hk => hw k (H.brow.lt k hk).2 (lo k (H0.brow.lt k hk).2)), H.lt, H.lx, H.low, fun o t ht => ?_, hrb, B.keep H.ear (.refl _ _) hz (fun k hk hx => hw k hk (nb k (by omega))), H.ok.on hz, H.cx.low (fun k hk => hw k (by have := H.ok.size; omega) (lo k (by have := H0.ok.size; omega)))⟩
  obtain ⟨P, vR, vO, h⟩ := H.tasks o t ht
  exact ⟨P, vR, vO, tk_below h (fun k hk h1 _ => hw k hk (nb k (by omega))) (.refl _ _) h.labs⟩
/-- A cell of a block of somebody else's has turned. -/
theorem WdIn.far {L0 : Lab} {w0 : World} {W0 : Wd} (H0 : WdIn s B L0 w0 W0 vt vx) (H : WdIn s B L w W vt vx) {b : Nat} (hb0 : w0.heap.size ≤ b) (hl : (L b).cls = 0) (hw : ∀ k, k ≠ b → w1.heap[k]? = w.heap[k]?) (hz : w1.heap.size = w.heap.size) : WdIn s B L w1 W vt vx :=
  H0.more H (fun k => k = b) (fun k e => by rw [e]; exact ⟨hb0, hl⟩) (fun k _ hk => hw k hk) (by omega)
end
end Go.Proofs.YtekjhefmhhcboaaGreat.Vw

