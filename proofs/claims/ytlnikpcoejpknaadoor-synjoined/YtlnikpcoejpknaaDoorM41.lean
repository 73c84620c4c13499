/- Two lists of tokens that agree are read alike: statements and definitions. -/
import Derived.Test.YtlnikpcoejpknaaDoorM40
import Derived.Test.YtlnikpcoejpknaaDoorM36
import Derived.Test.YtlnikpcoejpknaaDoorM6
namespace Go.Proofs.YtlnikpcoejpknaaDoor
open Go.RowKit
namespace Rp
section
variable {l1 l2 : List Lx.Tk} {e1 e2 k n : Nat}

theorem setting_simE (A : Ag l1 e1 l2 e2 k n) (d : Nat) (kind : Int) : SimE l1 k n (setting l1 e1 d kind) (setting l2 e2 d kind) := by
  intro p q x hp h hq
  obtain ⟨q1, y1, h1, a1, b1, h⟩ := then_adv (name_adv l1 e1) hp h
  obtain ⟨q2, y2, h2, a2, b2, h⟩ := then_adv (want_adv l1 e1 _) b1 h
  obtain ⟨q3, y3, h3, a3, b3, h⟩ := then_adv (ex_adv l1 e1 d) b2 h
  obtain ⟨q4, y4, h4, a4, b4, h⟩ := then_adv (want_adv l1 e1 _) b3 h
  simp only [Except.ok.injEq, Prod.mk.injEq] at h
  obtain ⟨rfl, rfl⟩ := h
  refine (andThen_ok _ (name_simE A p q1 y1 hp h1 (by omega))).trans ?_
  refine (andThen_ok _ (want_simE A _ q1 q2 y2 b1 h2 (by omega))).trans ?_
  refine (andThen_ok _ (ex_sim A d q2 q3 y3 b2 h3 (by omega))).trans ?_
  exact (andThen_ok _ (want_simE A _ q3 q4 y4 b3 h4 (by omega))).trans rfl
theorem saying_simE (A : Ag l1 e1 l2 e2 k n) (d : Nat) (kind : Int) : SimE l1 k n (saying l1 e1 d kind) (saying l2 e2 d kind) := by
  intro p q x hp h hq
  obtain ⟨q1, y1, h1, a1, b1, h⟩ := then_adv (ex_adv l1 e1 d) hp h
  obtain ⟨q2, y2, h2, a2, b2, h⟩ := then_adv (want_adv l1 e1 _) b1 h
  simp only [Except.ok.injEq, Prod.mk.injEq] at h
  obtain ⟨rfl, rfl⟩ := h
  refine (andThen_ok _ (ex_sim A d p q1 y1 hp h1 (by omega))).trans ?_
  exact (andThen_ok _ (want_simE A _ q1 q2 y2 b1 h2 (by omega))).trans rfl
theorem sending_simE (A : Ag l1 e1 l2 e2 k n) (d : Nat) : SimE l1 k n (sending l1 e1 d) (sending l2 e2 d) := by
  intro p q x hp h hq
  obtain ⟨q1, y1, h1, a1, b1, h⟩ := then_adv (name_adv l1 e1) hp h
  obtain ⟨q2, y2, h2, a2, b2, h⟩ := then_adv (ex_adv l1 e1 d) b1 h
  obtain ⟨q3, y3, h3, a3, b3, h⟩ := then_adv (want_adv l1 e1 _) b2 h
  simp only [Except.ok.injEq, Prod.mk.injEq] at h
  obtain ⟨rfl, rfl⟩ := h
  refine (andThen_ok _ (name_simE A p q1 y1 hp h1 (by omega))).trans ?_
  refine (andThen_ok _ (ex_sim A d q1 q2 y2 b1 h2 (by omega))).trans ?_
  exact (andThen_ok _ (want_simE A _ q2 q3 y3 b2 h3 (by omega))).trans rfl
theorem stopping_simE (A : Ag l1 e1 l2 e2 k n) : SimE l1 k n (stopping l1 e1) (stopping l2 e2) := by
  intro p q x hp h hq
  obtain ⟨q1, y1, h1, a1, b1, h⟩ := then_adv (want_adv l1 e1 _) hp h
  simp only [Except.ok.injEq, Prod.mk.injEq] at h
  obtain ⟨rfl, rfl⟩ := h
  exact (andThen_ok _ (want_simE A _ p q1 y1 hp h1 (by omega))).trans rfl
theorem looping_simE (A : Ag l1 e1 l2 e2 k n) (d : Nat) {f1 f2 : Nat → Res (List Sy.St)} (hn : Adv l1 f1) (hs : SimE l1 k n f1 f2) : SimE l1 k n (looping l1 e1 d f1) (looping l2 e2 d f2) := by
  intro p q x hp h hq
  obtain ⟨q1, y1, h1, a1, b1, h⟩ := then_adv (ex_adv l1 e1 d) hp h
  obtain ⟨q2, y2, h2, a2, b2, h⟩ := then_adv hn b1 h
  simp only [Except.ok.injEq, Prod.mk.injEq] at h
  obtain ⟨rfl, rfl⟩ := h
  refine (andThen_ok _ (ex_sim A d p q1 y1 hp h1 (by omega))).trans ?_
  exact (andThen_ok _ (hs q1 q2 y2 b1 h2 (by omega))).trans rfl
/-- (Behind an if a word is looked for: 'else'.) -/
theorem choice_sim (A : Ag l1 e1 l2 e2 k n) (d : Nat) {f1 f2 : Nat → Res (List Sy.St)} (hn : Adv l1 f1) (hs : SimE l1 k n f1 f2) : Sim l1 k n (choice l1 e1 d f1) (choice l2 e2 d f2) := by
  intro p q x hp h hq
  obtain ⟨q1, y1, h1, a1, b1, h⟩ := then_adv (ex_adv l1 e1 d) hp h
  obtain ⟨q2, y2, h2, a2, b2, h⟩ := then_adv hn b1 h
  have hq2 : q2 ≤ q := by
    split at h
    · rename_i ht
      obtain ⟨q3, y3, h3, a3, b3, h⟩ := then_adv hn (tk_step ht) h
      simp only [Except.ok.injEq, Prod.mk.injEq] at h; omega
    · simp only [Except.ok.injEq, Prod.mk.injEq] at h; omega
  refine (andThen_ok _ (ex_sim A d p q1 y1 hp h1 (by omega))).trans ?_
  refine (andThen_ok _ (hs q1 q2 y2 b1 h2 (by omega))).trans ?_
  refine ite_sim A (by omega) h (fun ht h => ?_) fun h => ?_
  · obtain ⟨q3, y3, h3, a3, b3, h⟩ := then_adv hn (tk_step ht) h
    simp only [Except.ok.injEq, Prod.mk.injEq] at h
    obtain ⟨rfl, rfl⟩ := h
    exact (andThen_ok _ (hs (q2 + 1) q3 y3 (tk_step ht) h3 (by omega))).trans rfl
  · simp only [Except.ok.injEq, Prod.mk.injEq] at h ⊢
    exact ⟨by omega, h.2⟩
theorem stat_sim (A : Ag l1 e1 l2 e2 k n) (d : Nat) {f1 f2 : Nat → Res (List Sy.St)} (hn : Adv l1 f1) (hs : SimE l1 k n f1 f2) : Sim l1 k n (stat l1 e1 d f1) (stat l2 e2 d f2) := by
  intro p q x hp h hq
  have hpq := (stat_adv hn p q x hp h).1
  have hpn : p < n := by omega
  unfold stat at h ⊢
  exact ite_sim A hpn h (fun ht h => (setting_simE A d 1).sim (p + 1) q x (tk_step ht) h hq) fun h =>
    ite_sim A hpn h (fun ht h => choice_sim A d hn hs (p + 1) q x (tk_step ht) h hq) fun h =>
    ite_sim A hpn h (fun ht h => (looping_simE A d hn hs).sim (p + 1) q x (tk_step ht) h hq) fun h =>
    ite_sim A hpn h (fun ht h => (stopping_simE A).sim (p + 1) q x (tk_step ht) h hq) fun h =>
    ite_sim A hpn h (fun ht h => (sending_simE A d).sim (p + 1) q x (tk_step ht) h hq) fun h =>
    ite_sim A hpn h (fun ht h => (saying_simE A d 5).sim (p + 1) q x (tk_step ht) h hq) fun h =>
    ite_sim A hpn h (fun ht h => (saying_simE A d 8).sim (p + 1) q x (tk_step ht) h hq) fun h =>
    ite_sim A hpn h (fun ht h => (saying_simE A d 9).sim (p + 1) q x (tk_step ht) h hq) fun h =>
    (setting_simE A d 2).sim p q x hp h hq

theorem stats_adv1 {l : List Lx.Tk} {en : Nat} {st : Nat → Res Sy.St} (hs : Adv l st) : ∀ (f : Nat) (out : List Sy.St) (p q : Nat) (y : List Sy.St), p ≤ l.length → l.length < p + f → stats l en st f out p = .ok (q, y) → p < q ∧ q ≤ l.length
  | 0, out, p, q, y, hp, hf, h => by omega
  | f + 1, out, p, q, y, hp, hf, h => by
    rw [stats] at h
    split at h
    · rename_i ht
      have := tk_step ht
      simp at h
      obtain ⟨rfl, rfl⟩ := h
      omega
    · split at h
      · simp at h
      · obtain ⟨q1, x1, _, a1, b1, h⟩ := then_adv hs hp h
        have := stats_adv1 hs f _ q1 q y b1 (by omega) h
        omega
theorem stats_simE (A : Ag l1 e1 l2 e2 k n) {s1 s2 : Nat → Res Sy.St} (hn : Adv l1 s1) (hs : Sim l1 k n s1 s2) : ∀ (f1 f2 : Nat) (out : List Sy.St) (p q : Nat) (y : List Sy.St), p ≤ l1.length → l1.length < p + f1 → f1 ≤ f2 → stats l1 e1 s1 f1 out p = .ok (q, y) → q ≤ n → stats l2 e2 s2 f2 out (k + p) = .ok (k + q, y)
  | 0, _, out, p, q, y, hp, hf, _, h, hq => by omega
  | f1 + 1, 0, out, p, q, y, hp, hf, hff, h, hq => by omega
  | f1 + 1, f2 + 1, out, p, q, y, hp, hf, hff, h, hq => by
    have hpq := (stats_adv1 hn _ _ _ _ _ hp hf h).1
    rw [stats] at h ⊢
    refine ite_sim A (by omega) h (fun ht h => ?_) fun h => ?_
    · simp only [Except.ok.injEq, Prod.mk.injEq] at h ⊢
      exact ⟨by omega, h.2⟩
    · split at h
      · simp at h
      · rename_i z hz
        rw [limit_ok bgSt_lk (A.pks p (by omega)) hz]
        obtain ⟨q1, x1, h1, a1, b1, h⟩ := then_adv hn hp h
        have := stats_adv1 hn _ _ _ _ _ b1 (by omega) h
        refine (andThen_ok _ (hs p q1 x1 hp h1 (by omega))).trans ?_
        exact stats_simE A hn hs f1 f2 _ q1 q y b1 (by omega) (by omega) h hq
theorem body_simE (A : Ag l1 e1 l2 e2 k n) : ∀ d, SimE l1 k n (body l1 e1 d) (body l2 e2 d)
  | 0 => by
    intro p q x hp h hq
    obtain ⟨q1, x1, _, a1, b1, h⟩ := then_adv (want_adv l1 e1 _) hp h
    simp at h
  | d + 1 => by
    intro p q x hp h hq
    obtain ⟨q1, x1, h1, a1, b1, h⟩ := then_adv (want_adv l1 e1 _) hp h
    have := stats_adv1 (stat_adv (body_adv l1 e1 d)) _ _ _ _ _ b1 (by omega) h
    have hl := A.len
    refine (andThen_ok _ (want_simE A _ p q1 x1 hp h1 (by omega))).trans ?_
    exact stats_simE A (stat_adv (body_adv l1 e1 d)) (stat_sim A d (body_adv l1 e1 d) (body_simE A d)) _ _ _ q1 q x b1 (by omega) (by omega) h hq

theorem param_simE (A : Ag l1 e1 l2 e2 k n) : SimE l1 k n (param l1 e1) (param l2 e2) := by
  intro p q x hp h hq
  obtain ⟨q1, y1, h1, a1, b1, h⟩ := then_adv (name_adv l1 e1) hp h
  obtain ⟨q2, y2, h2, a2, b2, h⟩ := then_adv (typ_adv l1 e1) b1 h
  simp only [Except.ok.injEq, Prod.mk.injEq] at h
  obtain ⟨rfl, rfl⟩ := h
  refine (andThen_ok _ (name_simE A p q1 y1 hp h1 (by omega))).trans ?_
  exact (andThen_ok _ (typ_simE A q1 q2 y2 b1 h2 (by omega))).trans rfl
theorem params_simE (A : Ag l1 e1 l2 e2 k n) : SimE l1 k n (params l1 e1) (params l2 e2) := list_simE A bgPm_lk (param_adv l1 e1) (param_simE A).sim

theorem box_simE (A : Ag l1 e1 l2 e2 k n) : SimE l1 k n (box l1 e1) (box l2 e2) := by
  intro p q x hp h hq
  obtain ⟨q1, y1, h1, a1, b1, h⟩ := then_adv (want_adv l1 e1 _) hp h
  obtain ⟨q2, y2, h2, a2, b2, h⟩ := then_adv (name_adv l1 e1) b1 h
  obtain ⟨q3, y3, h3, a3, b3, h⟩ := then_adv (typ_adv l1 e1) b2 h
  obtain ⟨q4, y4, h4, a4, b4, h⟩ := then_adv (places_adv l1 e1) b3 h
  obtain ⟨q5, y5, h5, a5, b5, h⟩ := then_adv (want_adv l1 e1 _) b4 h
  simp only [Except.ok.injEq, Prod.mk.injEq] at h
  obtain ⟨rfl, rfl⟩ := h
  refine (andThen_ok _ (want_simE A _ p q1 y1 hp h1 (by omega))).trans ?_
  refine (andThen_ok _ (name_simE A q1 q2 y2 b1 h2 (by omega))).trans ?_
  refine (andThen_ok _ (typ_simE A q2 q3 y3 b2 h3 (by omega))).trans ?_
  refine (andThen_ok _ (places_simE A q3 q4 y4 b3 h4 (by omega))).trans ?_
  exact (andThen_ok _ (want_simE A _ q4 q5 y5 b4 h5 (by omega))).trans rfl
theorem function_simE (A : Ag l1 e1 l2 e2 k n) : SimE l1 k n (function l1 e1) (function l2 e2) := by
  intro p q x hp h hq
  obtain ⟨q1, y1, h1, a1, b1, h⟩ := then_adv (want_adv l1 e1 _) hp h
  obtain ⟨q2, y2, h2, a2, b2, h⟩ := then_adv (name_adv l1 e1) b1 h
  obtain ⟨q3, y3, h3, a3, b3, h⟩ := then_adv (params_adv l1 e1) b2 h
  obtain ⟨q4, y4, h4, a4, b4, h⟩ := then_adv (typ_adv l1 e1) b3 h
  obtain ⟨q5, y5, h5, a5, b5, h⟩ := then_adv (body_adv l1 e1 200) b4 h
  simp only [Except.ok.injEq, Prod.mk.injEq] at h
  obtain ⟨rfl, rfl⟩ := h
  refine (andThen_ok _ (want_simE A _ p q1 y1 hp h1 (by omega))).trans ?_
  refine (andThen_ok _ (name_simE A q1 q2 y2 b1 h2 (by omega))).trans ?_
  refine (andThen_ok _ (params_simE A q2 q3 y3 b2 h3 (by omega))).trans ?_
  refine (andThen_ok _ (typ_simE A q3 q4 y4 b3 h4 (by omega))).trans ?_
  exact (andThen_ok _ (body_simE A 200 q4 q5 y5 b4 h5 (by omega))).trans rfl
theorem generator_simE (A : Ag l1 e1 l2 e2 k n) : SimE l1 k n (generator l1 e1) (generator l2 e2) := by
  intro p q x hp h hq
  obtain ⟨q1, y1, h1, a1, b1, h⟩ := then_adv (want_adv l1 e1 _) hp h
  obtain ⟨q2, y2, h2, a2, b2, h⟩ := then_adv (name_adv l1 e1) b1 h
  obtain ⟨q3, y3, h3, a3, b3, h⟩ := then_adv (params_adv l1 e1) b2 h
  obtain ⟨q4, y4, h4, a4, b4, h⟩ := then_adv (want_adv l1 e1 _) b3 h
  obtain ⟨q5, y5, h5, a5, b5, h⟩ := then_adv (typ_adv l1 e1) b4 h
  obtain ⟨q6, y6, h6, a6, b6, h⟩ := then_adv (want_adv l1 e1 _) b5 h
  obtain ⟨q7, y7, h7, a7, b7, h⟩ := then_adv (typ_adv l1 e1) b6 h
  obtain ⟨q8, y8, h8, a8, b8, h⟩ := then_adv (body_adv l1 e1 200) b7 h
  simp only [Except.ok.injEq, Prod.mk.injEq] at h
  obtain ⟨rfl, rfl⟩ := h
  refine (andThen_ok _ (want_simE A _ p q1 y1 hp h1 (by omega))).trans ?_
  refine (andThen_ok _ (name_simE A q1 q2 y2 b1 h2 (by omega))).trans ?_
  refine (andThen_ok _ (params_simE A q2 q3 y3 b2 h3 (by omega))).trans ?_
  refine (andThen_ok _ (want_simE A _ q3 q4 y4 b3 h4 (by omega))).trans ?_
  refine (andThen_ok _ (typ_simE A q4 q5 y5 b4 h5 (by omega))).trans ?_
  refine (andThen_ok _ (want_simE A _ q5 q6 y6 b5 h6 (by omega))).trans ?_
  refine (andThen_ok _ (typ_simE A q6 q7 y7 b6 h7 (by omega))).trans ?_
  exact (andThen_ok _ (body_simE A 200 q7 q8 y8 b7 h8 (by omega))).trans rfl
theorem task_simE (A : Ag l1 e1 l2 e2 k n) : SimE l1 k n (task l1 e1) (task l2 e2) := by
  intro p q x hp h hq
  obtain ⟨q1, y1, h1, a1, b1, h⟩ := then_adv (want_adv l1 e1 _) hp h
  obtain ⟨q2, y2, h2, a2, b2, h⟩ := then_adv (name_adv l1 e1) b1 h
  obtain ⟨q3, y3, h3, a3, b3, h⟩ := then_adv (body_adv l1 e1 200) b2 h
  simp only [Except.ok.injEq, Prod.mk.injEq] at h
  obtain ⟨rfl, rfl⟩ := h
  refine (andThen_ok _ (want_simE A _ p q1 y1 hp h1 (by omega))).trans ?_
  refine (andThen_ok _ (name_simE A q1 q2 y2 b1 h2 (by omega))).trans ?_
  exact (andThen_ok _ (body_simE A 200 q2 q3 y3 b2 h3 (by omega))).trans rfl

theorem df_adv' (l : List Lx.Tk) (en : Nat) : Adv l (df l en) := by
  intro p q x hp h
  unfold df at h
  split at h
  · obtain ⟨q1, y1, h1, a1, b1, h⟩ := then_adv (want_adv l en _) hp h
    obtain ⟨q2, y2, h2, a2, b2, h⟩ := then_adv (name_adv l en) b1 h
    obtain ⟨q3, y3, h3, a3, b3, h⟩ := then_adv (typ_adv l en) b2 h
    obtain ⟨q4, y4, h4, a4, b4, h⟩ := then_adv (places_adv l en) b3 h
    obtain ⟨q5, y5, h5, a5, b5, h⟩ := then_adv (want_adv l en _) b4 h
    simp only [Except.ok.injEq, Prod.mk.injEq] at h
    omega
  split at h
  · obtain ⟨q1, y1, h1, a1, b1, h⟩ := then_adv (want_adv l en _) hp h
    obtain ⟨q2, y2, h2, a2, b2, h⟩ := then_adv (name_adv l en) b1 h
    obtain ⟨q3, y3, h3, a3, b3, h⟩ := then_adv (params_adv l en) b2 h
    obtain ⟨q4, y4, h4, a4, b4, h⟩ := then_adv (typ_adv l en) b3 h
    obtain ⟨q5, y5, h5, a5, b5, h⟩ := then_adv (body_adv l en 200) b4 h
    simp only [Except.ok.injEq, Prod.mk.injEq] at h
    omega
  split at h
  · obtain ⟨q1, y1, h1, a1, b1, h⟩ := then_adv (want_adv l en _) hp h
    obtain ⟨q2, y2, h2, a2, b2, h⟩ := then_adv (name_adv l en) b1 h
    obtain ⟨q3, y3, h3, a3, b3, h⟩ := then_adv (params_adv l en) b2 h
    obtain ⟨q4, y4, h4, a4, b4, h⟩ := then_adv (want_adv l en _) b3 h
    obtain ⟨q5, y5, h5, a5, b5, h⟩ := then_adv (typ_adv l en) b4 h
    obtain ⟨q6, y6, h6, a6, b6, h⟩ := then_adv (want_adv l en _) b5 h
    obtain ⟨q7, y7, h7, a7, b7, h⟩ := then_adv (typ_adv l en) b6 h
    obtain ⟨q8, y8, h8, a8, b8, h⟩ := then_adv (body_adv l en 200) b7 h
    simp only [Except.ok.injEq, Prod.mk.injEq] at h
    omega
  · obtain ⟨q1, y1, h1, a1, b1, h⟩ := then_adv (want_adv l en _) hp h
    obtain ⟨q2, y2, h2, a2, b2, h⟩ := then_adv (name_adv l en) b1 h
    obtain ⟨q3, y3, h3, a3, b3, h⟩ := then_adv (body_adv l en 200) b2 h
    simp only [Except.ok.injEq, Prod.mk.injEq] at h
    omega

theorem df_simE (A : Ag l1 e1 l2 e2 k n) : SimE l1 k n (df l1 e1) (df l2 e2) := by
  intro p q x hp h hq
  have hpq := (df_adv' l1 e1 p q x hp h).1
  unfold df at h ⊢
  rw [← (A.pks p (by omega)).2.1]
  split at h
  · rename_i h1
    rw [if_pos h1]
    exact box_simE A p q x hp h hq
  rename_i h1
  rw [if_neg h1]
  split at h
  · rename_i h2
    rw [if_pos h2]
    exact function_simE A p q x hp h hq
  rename_i h2
  rw [if_neg h2]
  split at h
  · rename_i h3
    rw [if_pos h3]
    exact generator_simE A p q x hp h hq
  rename_i h3
  rw [if_neg h3]
  exact task_simE A p q x hp h hq

/-- The first list's definitions are read; the reader stands behind them. -/
theorem dfs_first (A : Ag l1 e1 l2 e2 0 l1.length) : ∀ (f1 f2 : Nat) (out : List Sy.Df) (p q : Nat) (y : List Sy.Df), p ≤ l1.length → l1.length < p + f1 → l2.length < p + f2 → dfs l1 e1 f1 out p = .ok (q, y) → ∃ g, l2.length < l1.length + g ∧ dfs l2 e2 f2 out p = dfs l2 e2 g y l1.length
  | 0, _, out, p, q, y, hp, hf, _, h => by omega
  | f1 + 1, 0, out, p, q, y, hp, hf, hff, h => by have := A.len; omega
  | f1 + 1, f2 + 1, out, p, q, y, hp, hf, hff, h => by
    have hl := A.len
    rw [dfs] at h
    split at h
    · rename_i he
      simp only [Except.ok.injEq, Prod.mk.injEq] at h
      obtain rfl : p = l1.length := by omega
      exact ⟨f2 + 1, by omega, by rw [h.2]⟩
    · rename_i he
      split at h
      · simp at h
      · rename_i z hz
        obtain ⟨q1, x1, h1, a1, b1, h⟩ := then_adv (df_adv' l1 e1) hp h
        have hd := df_simE A p q1 x1 hp h1 b1
        have hlim := limit_ok (p2 := p) bgDf_lk (A.pks p (by omega)) hz
        rw [Nat.zero_add] at hd hlim
        rw [Nat.zero_add] at hd
        obtain ⟨g, hg, ih⟩ := dfs_first A f1 f2 _ q1 q y b1 (by omega) (by omega) h
        refine ⟨g, hg, ?_⟩
        rw [dfs, if_neg (by omega), hlim]
        exact (andThen_ok _ hd).trans ih

/-- The second list's, behind others: both's, or there are too many. -/
theorem dfs_second (A : Ag l1 e1 l2 e2 k (l1.length + 1)) (hk : l2.length = k + l1.length) (pre : List Sy.Df) : ∀ (f1 g : Nat) (out : List Sy.Df) (p q : Nat) (y : List Sy.Df), p ≤ l1.length → l1.length < p + f1 → l2.length < k + p + g → dfs l1 e1 f1 out p = .ok (q, y) → dfs l2 e2 g (pre ++ out) (k + p) = .ok (k + q, pre ++ y) ∨ ∃ at', dfs l2 e2 g (pre ++ out) (k + p) = .error (5, at')
  | 0, _, out, p, q, y, hp, hf, _, h => by omega
  | f1 + 1, 0, out, p, q, y, hp, hf, hff, h => by omega
  | f1 + 1, g + 1, out, p, q, y, hp, hf, hff, h => by
    rw [dfs] at h
    rw [dfs]
    split at h
    · rename_i he
      rw [if_pos (by omega)]
      simp only [Except.ok.injEq, Prod.mk.injEq] at h
      obtain ⟨rfl, rfl⟩ := h
      exact .inl rfl
    · rename_i he
      rw [if_neg (by omega)]
      split at h
      · simp at h
      · obtain ⟨q1, x1, h1, a1, b1, h⟩ := then_adv (df_adv' l1 e1) hp h
        cases hlim : limitL bgDf ((pre ++ out).length : Nat) 30 (pk l2 (k + p) e2) (k + p) with
        | error e =>
          refine .inr ⟨e.2, ?_⟩
          unfold limitL at hlim
          split at hlim
          · simp only [Except.error.injEq] at hlim; rw [← hlim]
          · simp at hlim
        | ok z =>
          have hd := df_simE A p q1 x1 hp h1 (by omega)
          have ih := dfs_second A hk pre f1 g (out ++ [x1]) q1 q y b1 (by omega) (by omega) h
          rw [← List.append_assoc] at ih
          show andThen (df l2 e2 (k + p)) _ = _ ∨ ∃ at', andThen (df l2 e2 (k + p)) _ = _
          rw [hd]
          exact ih

end

theorem ag_first (l1 l : List Lx.Tk) (e1 e2 : Nat) : Ag l1 e1 (l1 ++ l) e2 0 l1.length where
  len := by simp
  pks := fun i hi => by
    unfold pk
    rw [Nat.zero_add, List.getElem?_append_left hi, List.getElem?_eq_getElem hi]
    exact ⟨rfl, rfl, rfl⟩
  tks := fun i s hi => by
    unfold tk
    rw [Nat.zero_add, List.getElem?_append_left hi]
theorem ag_second (l0 l1 : List Lx.Tk) (f : Lx.Tk → Lx.Tk) (hf : ∀ t, Lk t (f t)) (e1 e2 n : Nat) : Ag l1 e1 (l0 ++ l1.map f) e2 l0.length n where
  len := by simp
  pks := fun i _ => by
    unfold pk
    rw [List.getElem?_append_right (by omega), Nat.add_sub_cancel_left, List.getElem?_map]
    cases l1[i]? with
    | none => exact ⟨rfl, rfl, rfl⟩
    | some t => exact hf t
  tks := fun i s _ => by
    unfold tk
    rw [List.getElem?_append_right (by omega), Nat.add_sub_cancel_left, List.getElem?_map]
    cases l1[i]? with
    | none => rfl
    | some t => simp only [Option.map_some]; rw [← (hf t).2.1]

/-- TWO PROGRAMS ARE ONE, of tokens. -/
theorem program_join {l1 l2 : List Lx.Tk} {f : Lx.Tk → Lx.Tk} (hf : ∀ t, Lk t (f t)) {e1 e2 e q1 q2 : Nat} {a b : List Sy.Df} (h1 : program l1 e1 = .ok (q1, a)) (h2 : program l2 e2 = .ok (q2, b)) :
    (∃ q, program (l1 ++ l2.map f) e = .ok (q, a ++ b)) ∨ ∃ at', program (l1 ++ l2.map f) e = .error (5, at') := by
  unfold program at h1 h2 ⊢
  obtain ⟨g, hg, hd⟩ := dfs_first (ag_first l1 (l2.map f) e1 e) _ ((l1 ++ l2.map f).length + 1) [] 0 q1 a (by omega) (by omega) (by omega) h1
  rw [hd]
  have := dfs_second (ag_second l1 l2 f hf e2 e (l2.length + 1)) (by simp) a _ g [] 0 q2 b (by omega) (by omega) (by omega) h2
  simp only [List.append_nil, Nat.add_zero] at this
  rcases this with h | h
  · exact .inl ⟨_, h⟩
  · exact .inr h

end Rp
end Go.Proofs.YtlnikpcoejpknaaDoor

/- What the tokens cover of their text. -/
namespace Go.Proofs.YtlnikpcoejpknaaDoor
namespace Lx

/-- From place a on the tokens l stand in order, with nothing but gaps between. -/
def Covered (s : ByteArray) : Nat → List Tk → Prop
  | a, [] => s.size ≤ place s a
  | a, t :: l => ∃ N, t.pos = place s a ∧ 0 < N ∧ t.pos + N ≤ s.size ∧ t.text = s.extract t.pos (t.pos + N) ∧ Covered s (t.pos + N) l

theorem covered_from : ∀ (f : Nat) (s : ByteArray) (a : Nat), a ≤ s.size → s.size - a < f → (lexFrom f s a).2.1 = 0 → Covered s a (lexFrom f s a).1
  | 0, s, a, _, h, _ => by omega
  | f + 1, s, a, ha, h, h0 => by
    by_cases he : s.size ≤ place s a
    · rw [lexFrom_end rfl he]; exact he
    · obtain ⟨E, K, N, M, hF⟩ : ∃ E K N M, firstL (s.data.toList.drop (place s a)) = (E, K, N, M) := ⟨_, _, _, _, rfl⟩
      by_cases hE : E = 0
      · subst hE
        have hl := firstL_len hF
        have hN := (firstL_pos hF).1
        have hsz : s.data.size = s.size := rfl
        simp only [List.length_drop, Array.length_toList] at hl
        have hpl : a ≤ place s a := by unfold place; omega
        rw [lexFrom_tok rfl he hF] at h0 ⊢
        exact ⟨N, rfl, hN, by show place s a + N ≤ s.size; omega, rfl, covered_from f s (place s a + N) (by omega) (by omega) h0⟩
      · rw [lexFrom_err rfl he hF hE] at h0
        exact absurd h0 hE

theorem lexB_covered (s : ByteArray) (h0 : (lexB s).2.1 = 0) : Covered s 0 (lexB s).1 := by
  unfold lexB at h0 ⊢
  split
  · rename_i h; rw [if_pos h] at h0; simp at h0
  · rename_i h
    rw [if_neg h] at h0
    split
    · rename_i h1; exact covered_from _ s 0 (Nat.zero_le _) (by omega) h1
    · rename_i h1; rw [if_neg h1] at h0; exact absurd h0 h1

theorem lexB_bad_nil (s : ByteArray) (h0 : ¬ (lexB s).2.1 = 0) : (lexB s).1 = [] := by
  unfold lexB at h0 ⊢
  split
  · rfl
  · rename_i h
    rw [if_neg h] at h0
    split
    · rename_i h1; rw [if_pos h1] at h0; exact absurd h1 h0
    · rfl

theorem lexFrom_len : ∀ (f : Nat) (s : ByteArray) (a : Nat), (lexFrom f s a).1.length ≤ f
  | 0, s, a => by simp [lexFrom]
  | f + 1, s, a => by
    rw [lexFrom]
    split
    · simp
    · split
      · have := lexFrom_len f s (place s a + (firstL (s.data.toList.drop (place s a))).2.2.1)
        simp; omega
      · simp

theorem lexB_len (s : ByteArray) : (lexB s).1.length ≤ 6001 := by
  unfold lexB
  split
  · simp
  · have := lexFrom_len (s.size + 1) s 0
    split
    · omega
    · simp

end Lx
end Go.Proofs.YtlnikpcoejpknaaDoor

