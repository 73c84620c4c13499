/- Kahn's theorem, plainly: steps of two tasks change places; all runs to rest are of one length and end alike. -/
import Derived.Test.YtekjhefmhhcboaaGreatM33
namespace Go.Proofs.YtekjhefmhhcboaaGreat.Vw
open Go.RowKit Vf Vm

/-- So many steps, one after the other. -/
def Runs {σ : Type} (R : σ → σ → Prop) : Nat → σ → σ → Prop
  | 0, s, z => s = z
  | n + 1, s, z => ∃ s1, R s s1 ∧ Runs R n s1 z
def Rests {σ : Type} (R : σ → σ → Prop) (z : σ) : Prop := ∀ s, ¬ R z s
section
variable {σ : Type} {R : σ → σ → Prop} {P : σ → Prop}
theorem Runs.app : ∀ {a b : Nat} {s t z : σ}, Runs R a s t → Runs R b t z → Runs R (a + b) s z
  | 0, b, s, t, z, h, k => by cases h; rw [Nat.zero_add]; exact k
  | a + 1, b, s, t, z, ⟨s1, h1, h2⟩, k => by rw [show a + 1 + b = (a + b) + 1 by omega]; exact ⟨s1, h1, h2.app k⟩
theorem Runs.keeps (hP : ∀ s t, P s → R s t → P t) : ∀ {n : Nat} {s z : σ}, Runs R n s z → P s → P z
  | 0, _, _, h, hs => by cases h; exact hs
  | _ + 1, _, _, ⟨_, h1, h2⟩, hs => h2.keeps hP (hP _ _ hs h1)
/-- A first step more or less. -/
theorem Runs.after (hP : ∀ s t, P s → R s t → P t) (hD : ∀ s a b, P s → R s a → R s b → a = b ∨ ∃ c, R a c ∧ R b c) : ∀ {n : Nat} {s z a : σ}, P s → Runs R n s z → Rests R z → R s a → ∃ k, n = k + 1 ∧ Runs R k a z
  | 0, s, z, a, _, h, hz, ha => by cases h; exact absurd ha (hz a)
  | n + 1, s, z, a, hs, ⟨b, hb, hr⟩, hz, ha => by
    rcases hD s a b hs ha hb with e | ⟨c, hac, hbc⟩
    · subst e; exact ⟨n, rfl, hr⟩
    · obtain ⟨k, e, hk⟩ := Runs.after hP hD (hP _ _ hs hb) hr hz hbc
      exact ⟨n, rfl, by rw [e]; exact ⟨c, hac, hk⟩⟩
/-- Whatever way one goes, one is on the way to the same rest. -/
theorem Runs.rest (hP : ∀ s t, P s → R s t → P t) (hD : ∀ s a b, P s → R s a → R s b → a = b ∨ ∃ c, R a c ∧ R b c) : ∀ {k n : Nat} {s z t : σ}, P s → Runs R n s z → Rests R z → Runs R k s t → ∃ j, n = k + j ∧ Runs R j t z
  | 0, n, s, z, t, _, h, _, ht => by cases ht; exact ⟨n, by omega, h⟩
  | k + 1, n, s, z, t, hs, h, hz, ⟨a, ha, hr⟩ => by
    obtain ⟨n', e, h'⟩ := Runs.after hP hD hs h hz ha
    obtain ⟨j, e2, hj⟩ := Runs.rest hP hD (hP _ _ hs ha) h' hz hr
    exact ⟨j, by omega, hj⟩
/-- ONE REST: two ways to rest are of one length, and end alike. -/
theorem Runs.one (hP : ∀ s t, P s → R s t → P t) (hD : ∀ s a b, P s → R s a → R s b → a = b ∨ ∃ c, R a c ∧ R b c) {k n : Nat} {s y z : σ} (hs : P s) (h1 : Runs R n s z) (hz : Rests R z) (h2 : Runs R k s y) (hy : Rests R y) : n = k ∧ y = z := by
  obtain ⟨j, e, hj⟩ := Runs.rest hP hD hs h1 hz h2
  cases j with
  | zero => exact ⟨by omega, hj⟩
  | succ j =>
    obtain ⟨a, ha, _⟩ := hj
    exact absurd ha (hy a)
end

/-- What an instruction does with the boxes. -/
theorem stX_none {c : Ins} {v : Int} {x : List Bq} (h1 : c.op ≠ 26) (h2 : c.op ≠ 27) : stX mbX c v x = x := by unfold stX; rw [if_neg h1, if_neg h2]
/-- Whom an instruction speaks with. -/
def Apart (c d : Ins) : Prop := (c.op = 26 → d.op = 26 → c.a.toNat ≠ d.a.toNat) ∧ (c.op = 27 → d.op = 27 → c.a.toNat ≠ d.a.toNat)
/-- What an instruction asks of the boxes. -/
def May (c : Ins) (x : List Bq) : Prop := (c.op = 26 → mbX.full x c.a.toNat = false) ∧ (c.op = 27 → mbX.empty x c.a.toNat = false)
theorem stat_may {m : Md} {t : Tk} {x : List Bq} (h0 : t.over = 0) : (stat mbX m t x).1 = 1 ↔ May (t.ins m) x := by
  unfold stat May
  rw [if_neg (by omega)]
  by_cases h1 : (t.ins m).op = 26 ∧ mbX.full x (t.ins m).a.toNat = true
  · rw [if_pos h1]
    simp [h1.1, h1.2]
  · rw [if_neg h1]
    by_cases h2 : (t.ins m).op = 27 ∧ mbX.empty x (t.ins m).a.toNat = true
    · rw [if_pos h2]
      simp [h2.1, h2.2]
    · rw [if_neg h2]
      simp only [true_iff]
      refine ⟨fun e => ?_, fun e => ?_⟩
      · cases hf : mbX.full x (t.ins m).a.toNat
        · rfl
        · exact absurd ⟨e, hf⟩ h1
      · cases hf : mbX.empty x (t.ins m).a.toNat
        · rfl
        · exact absurd ⟨e, hf⟩ h2
end Go.Proofs.YtekjhefmhhcboaaGreat.Vw

/- Two instructions of two tasks change places, as far as boxes go. -/
namespace Go.Proofs.YtekjhefmhhcboaaGreat.Vw
open Go.RowKit Vf Vm

theorem put_at (x : List Bq) (i j : Nat) (v : Int) : (mbX.put x i v)[j]? = if i = j then (x[j]?).map (fun q => { q with ws := q.ws ++ [v] }) else x[j]? := by
  simp only [mbX]
  cases hx : x[i]? with
  | none =>
    by_cases e : i = j
    · subst e; simp [hx]
    · simp [e]
  | some q =>
    have hi := (List.getElem?_eq_some_iff.1 hx).1
    by_cases e : i = j
    · subst e; rw [if_pos rfl, hx, List.getElem?_set_self hi]; rfl
    · simp [e]
theorem take_at (x : List Bq) (i j : Nat) : (mbX.take x i)[j]? = if i = j then (x[j]?).map (fun q => { q with ws := q.ws.tail }) else x[j]? := by
  simp only [mbX]
  cases hx : x[i]? with
  | none =>
    by_cases e : i = j
    · subst e; simp [hx]
    · simp [e]
  | some q =>
    have hi := (List.getElem?_eq_some_iff.1 hx).1
    by_cases e : i = j
    · subst e; rw [if_pos rfl, hx, List.getElem?_set_self hi]; rfl
    · simp [e]
theorem full_of {x y : List Bq} {n : Nat} (h : x[n]? = y[n]?) : mbX.full x n = mbX.full y n := by simp only [mbX, h]
theorem empty_of {x y : List Bq} {n : Nat} (h : x[n]? = y[n]?) : mbX.empty x n = mbX.empty y n := by simp only [mbX, h]
theorem head_of {x y : List Bq} {n : Nat} (h : x[n]? = y[n]?) : mbX.head x n = mbX.head y n := by simp only [mbX, h]
theorem not_empty {x : List Bq} {n : Nat} (h : mbX.empty x n = false) : ∃ q u ws, x[n]? = some q ∧ q.ws = u :: ws := by
  simp only [mbX] at h
  cases hx : x[n]? with
  | none => rw [hx] at h; simp at h
  | some q =>
    rw [hx] at h
    cases hw : q.ws with
    | nil => simp [hw] at h
    | cons u ws => exact ⟨q, u, ws, rfl, hw⟩
/-- No box has more than its places. -/
def Fits (x : List Bq) : Prop := ∀ (n : Nat) q, x[n]? = some q → q.ws.length ≤ q.cap

theorem box_swap {c d : Ins} {x : List Bq} (v u : Int) (hF : Fits x) (hA : Apart c d) (hc : May c x) (hd : May d x) :
    May d (stX mbX c v x) ∧ (d.op = 27 → mbX.head (stX mbX c v x) d.a.toNat = mbX.head x d.a.toNat) ∧ stX mbX d u (stX mbX c v x) = stX mbX c v (stX mbX d u x) := by
  obtain ⟨a, ha⟩ : ∃ a, a = c.a.toNat := ⟨_, rfl⟩
  obtain ⟨b, hb⟩ : ∃ b, b = d.a.toNat := ⟨_, rfl⟩
  by_cases c26 : c.op = 26
  · have eC : ∀ y, stX mbX c v y = mbX.put y a v := fun y => by unfold stX; rw [if_pos c26, ha]
    rw [eC]
    by_cases d26 : d.op = 26
    · have hne : a ≠ b := by rw [ha, hb]; exact hA.1 c26 d26
      have eD : ∀ y, stX mbX d u y = mbX.put y b u := fun y => by unfold stX; rw [if_pos d26, hb]
      refine ⟨⟨fun _ => ?_, fun e => by omega⟩, fun e => by omega, ?_⟩
      · rw [← hb, full_of (y := x) (by rw [put_at, if_neg hne]), hb]; exact hd.1 d26
      · rw [eD, eD, eC]
        apply List.ext_getElem?
        intro j
        simp only [put_at]
        by_cases e1 : b = j <;> by_cases e2 : a = j <;> simp [e1, e2] <;> omega
    · by_cases d27 : d.op = 27
      · have eD : ∀ y, stX mbX d u y = mbX.take y b := fun y => by unfold stX; rw [if_neg d26, if_pos d27, hb]
        obtain ⟨q, h, ws, hq, hw⟩ := not_empty (hd.2 d27)
        rw [← hb] at hq
        by_cases e : a = b
        · have hput : (mbX.put x a v)[b]? = some { q with ws := q.ws ++ [v] } := by rw [put_at, if_pos e, hq]; rfl
          refine ⟨⟨fun e => by omega, fun _ => ?_⟩, fun _ => ?_, ?_⟩
          · rw [← hb]; simp [mbX] at hput ⊢; simp [hput]
          · rw [← hb]; simp only [mbX] at hput ⊢; simp [hput, hq, hw]
          · rw [eD, eD, eC]
            apply List.ext_getElem?
            intro j
            simp only [put_at, take_at]
            by_cases e1 : b = j
            · subst e1
              simp [e, hq, hw]
            · simp [e1, e]
        · refine ⟨⟨fun e => by omega, fun _ => ?_⟩, fun _ => ?_, ?_⟩
          · rw [← hb, empty_of (y := x) (by rw [put_at, if_neg e]), hb]; exact hd.2 d27
          · rw [← hb]; exact head_of (by rw [put_at, if_neg e])
          · rw [eD, eD, eC]
            apply List.ext_getElem?
            intro j
            simp only [put_at, take_at]
            by_cases e1 : b = j <;> by_cases e2 : a = j <;> simp [e1, e2] <;> omega
      · have eD : ∀ y, stX mbX d u y = y := fun y => stX_none d26 d27
        refine ⟨⟨fun e => absurd e d26, fun e => absurd e d27⟩, fun e => absurd e d27, by rw [eD, eD, eC]⟩
  · by_cases c27 : c.op = 27
    · have eC : ∀ y, stX mbX c v y = mbX.take y a := fun y => by unfold stX; rw [if_neg c26, if_pos c27, ha]
      rw [eC]
      obtain ⟨q, h, ws, hq, hw⟩ := not_empty (hc.2 c27)
      rw [← ha] at hq
      by_cases d26 : d.op = 26
      · have eD : ∀ y, stX mbX d u y = mbX.put y b u := fun y => by unfold stX; rw [if_pos d26, hb]
        by_cases e : a = b
        · have htk : (mbX.take x a)[b]? = some { q with ws := q.ws.tail } := by rw [take_at, if_pos e, ← e, hq]; rfl
          have hfit := hF a q hq
          refine ⟨⟨fun _ => ?_, fun e => by omega⟩, fun e => by omega, ?_⟩
          · rw [← hb]
            simp only [mbX] at htk ⊢
            simp [htk, hw] at hfit ⊢
            omega
          · rw [eD, eD, eC]
            apply List.ext_getElem?
            intro j
            simp only [put_at, take_at]
            by_cases e1 : b = j
            · subst e1
              rw [e] at hq
              simp [e, hq, hw]
            · simp [e1, e]
        · refine ⟨⟨fun _ => ?_, fun e => by omega⟩, fun e => by omega, ?_⟩
          · rw [← hb, full_of (y := x) (by rw [take_at, if_neg e]), hb]; exact hd.1 d26
          · rw [eD, eD, eC]
            apply List.ext_getElem?
            intro j
            simp only [put_at, take_at]
            by_cases e1 : b = j <;> by_cases e2 : a = j <;> simp [e1, e2] <;> omega
      · by_cases d27 : d.op = 27
        · have hne : a ≠ b := by rw [ha, hb]; exact hA.2 c27 d27
          have eD : ∀ y, stX mbX d u y = mbX.take y b := fun y => by unfold stX; rw [if_neg d26, if_pos d27, hb]
          refine ⟨⟨fun e => by omega, fun _ => ?_⟩, fun _ => ?_, ?_⟩
          · rw [← hb, empty_of (y := x) (by rw [take_at, if_neg hne]), hb]; exact hd.2 d27
          · rw [← hb]; exact head_of (by rw [take_at, if_neg hne])
          · rw [eD, eD, eC]
            apply List.ext_getElem?
            intro j
            simp only [take_at]
            by_cases e1 : b = j <;> by_cases e2 : a = j <;> simp [e1, e2] <;> omega
        · have eD : ∀ y, stX mbX d u y = y := fun y => stX_none d26 d27
          refine ⟨⟨fun e => absurd e d26, fun e => absurd e d27⟩, fun e => absurd e d27, by rw [eD, eD, eC]⟩
    · have eC : ∀ y, stX mbX c v y = y := fun y => stX_none c26 c27
      rw [eC, eC]
      exact ⟨hd, fun _ => rfl, rfl⟩
end Go.Proofs.YtekjhefmhhcboaaGreat.Vw

/- Steps of a world: two of two tasks change places. -/
namespace Go.Proofs.YtekjhefmhhcboaaGreat.Vw
open Go.RowKit Vf Vm

/-- What is not received is not asked for. -/
theorem act_rv (m : Md) (c : Ins) (t : Tk) (a b : Int) (h : c.op ≠ 27) : t.act m c a = t.act m c b := by
  unfold Tk.act
  rw [if_neg h, if_neg h]
/-- All tasks and all boxes. -/
abbrev Wx := List Tk × List Bq
/-- A step of some task. -/
def Step1 (m : Md) (s s' : Wx) : Prop := ∃ (o : Nat) (t : Tk), s.1[o]? = some t ∧ (stat mbX m t s.2).1 = 1 ∧ s' = (s.1.set o (one mbX m t s.2).1, (one mbX m t s.2).2)
/-- What is known of a world for its steps to change places. -/
structure Kah (m : Md) (s : Wx) : Prop where
  fits : Fits s.2
  over : ∀ (o : Nat) t, s.1[o]? = some t → t.over = 0 ∨ t.over = 4 ∨ t.over = 5
  apart : ∀ (o p : Nat) t u, o ≠ p → s.1[o]? = some t → s.1[p]? = some u → t.over = 0 → u.over = 0 → Apart (t.ins m) (u.ins m)
theorem ready_zero {m : Md} {t : Tk} {x : List Bq} (h : (stat mbX m t x).1 = 1) (ho : t.over = 0 ∨ t.over = 4 ∨ t.over = 5) : t.over = 0 := by
  rcases ho with e | e | e
  · exact e
  · unfold stat at h; rw [if_pos (by omega)] at h; simp at h; omega
  · unfold stat at h; rw [if_pos (by omega)] at h; simp at h; omega
/-- A task's step is the same behind another's. -/
theorem one_after {m : Md} {t u : Tk} {x : List Bq} (hF : Fits x) (hA : Apart (t.ins m) (u.ins m)) (ht : May (t.ins m) x) (hu : May (u.ins m) x) :
    May (u.ins m) (one mbX m t x).2 ∧ (one mbX m u (one mbX m t x).2).1 = (one mbX m u x).1 ∧ (one mbX m u (one mbX m t x).2).2 = stX mbX (u.ins m) (u.goto (u.frame.pc + 1)).last (stX mbX (t.ins m) (t.goto (t.frame.pc + 1)).last x) := by
  obtain ⟨h1, h2, _⟩ := box_swap (t.goto (t.frame.pc + 1)).last (u.goto (u.frame.pc + 1)).last hF hA ht hu
  refine ⟨h1, ?_, rfl⟩
  show u.step m (mbX.head (stX mbX (t.ins m) (t.goto (t.frame.pc + 1)).last x) (u.ins m).a.toNat) = u.step m (mbX.head x (u.ins m).a.toNat)
  by_cases e : (u.ins m).op = 27
  · rw [h2 e]
  · exact act_rv m _ _ _ _ e
theorem Apart.symm {c d : Ins} (h : Apart c d) : Apart d c := ⟨fun a b e => h.1 b a e.symm, fun a b e => h.2 b a e.symm⟩
/-- THE DIAMOND. -/
theorem diamond {m : Md} {s a b : Wx} (hK : Kah m s) (ha : Step1 m s a) (hb : Step1 m s b) : a = b ∨ ∃ c, Step1 m a c ∧ Step1 m b c := by
  obtain ⟨o, t, ht, hst, rfl⟩ := ha
  obtain ⟨p, u, hu, hsu, rfl⟩ := hb
  by_cases e : o = p
  · subst e
    rw [ht] at hu
    cases hu
    exact .inl rfl
  · right
    have t0 := ready_zero hst (hK.over o t ht)
    have u0 := ready_zero hsu (hK.over p u hu)
    have hA := hK.apart o p t u e ht hu t0 u0
    have mt := (stat_may t0).1 hst
    have mu := (stat_may u0).1 hsu
    obtain ⟨k1, k2, k3⟩ := one_after hK.fits hA mt mu
    obtain ⟨l1, l2, l3⟩ := one_after hK.fits hA.symm mu mt
    obtain ⟨_, _, hsw⟩ := box_swap (t.goto (t.frame.pc + 1)).last (u.goto (u.frame.pc + 1)).last hK.fits hA mt mu
    refine ⟨((s.1.set o (one mbX m t s.2).1).set p (one mbX m u s.2).1, stX mbX (u.ins m) (u.goto (u.frame.pc + 1)).last (stX mbX (t.ins m) (t.goto (t.frame.pc + 1)).last s.2)), ⟨p, u, ?_, (stat_may u0).2 k1, ?_⟩, ⟨o, t, ?_, (stat_may t0).2 l1, ?_⟩⟩
    · show (s.1.set o _)[p]? = some u
      rw [List.getElem?_set_ne e]; exact hu
    · show _ = (((s.1.set o (one mbX m t s.2).1).set p (one mbX m u (one mbX m t s.2).2).1), (one mbX m u (one mbX m t s.2).2).2)
      rw [k2, k3]
    · show (s.1.set p _)[o]? = some t
      rw [List.getElem?_set_ne (Ne.symm e)]; exact ht
    · show _ = (((s.1.set p (one mbX m u s.2).1).set o (one mbX m t (one mbX m u s.2).2).1), (one mbX m t (one mbX m u s.2).2).2)
      rw [l2, l3, hsw, List.set_comm _ _ e]
/-- KAHN, PLAINLY: where what is known is kept, all ways to rest are of one length, and end alike. -/
theorem kahn {m : Md} {P : Wx → Prop} (hP : ∀ s t, P s → Step1 m s t → P t) (hK : ∀ s, P s → Kah m s) {k n : Nat} {s y z : Wx} (hs : P s) (h1 : Runs (Step1 m) n s z) (hz : Rests (Step1 m) z) (h2 : Runs (Step1 m) k s y) (hy : Rests (Step1 m) y) : n = k ∧ y = z :=
  Runs.one hP (fun s _ _ h ha hb => diamond (hK s h) ha hb) hs h1 hz h2 hy
end Go.Proofs.YtekjhefmhhcboaaGreat.Vw

