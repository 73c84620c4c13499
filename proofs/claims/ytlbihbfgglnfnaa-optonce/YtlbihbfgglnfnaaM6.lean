/- Shorter code, plainly: rules, a pass, passes. -/
import Derived.Test.YtlbihbfgglnfnaaM5
import Derived.Test.YtlbihbfgglnfnaaM1
namespace Go.Proofs.Ytlbihbfgglnfnaa
namespace Ot
open Vf Vm

def jmp (c : Ins) : Bool := c.op == 21 || c.op == 22
def aimed (l : List Ins) (n : Nat) : Bool := l.any fun c => jmp c && c.a == (n : Int)
def reckons (k op : Int) : Bool := if k = 1 then decide (8 ≤ op) && decide (op ≤ 18) else if k = 2 then op == 13 || op == 14 || op == 19 || op == 20 else false
def word (c : Ins) : Int := if c.op = 1 then c.n else c.a
def comes (a b c : Ins) : Ins := if c.op ≤ 12 then ⟨1, 0, two c.op (word a) (word b)⟩ else ⟨2, two c.op (word a) (word b), 0⟩
/-- What is done: so many are gone, these are put there. -/
abbrev Ch := Nat × List Ins
def rule1 : List Ins → Ch
  | a :: b :: c :: _ => if a.op = b.op ∧ reckons a.op c.op = true ∧ ¬ (word b = 0 ∧ (c.op = 11 ∨ c.op = 12)) then (3, [comes a b c]) else (0, [])
  | _ => (0, [])
def pair (second : Int) (put : Ins → Ins → List Ins) (first : List Int) : List Ins → Ch
  | a :: b :: _ => if b.op = second ∧ a.op ∈ first then (2, put a b) else (0, [])
  | _ => (0, [])
def next (k : Nat) : List Ins → Ch
  | a :: _ => if a.op = 21 ∧ a.a = k + 1 then (1, []) else (0, [])
  | [] => (0, [])
def put2 (_ _ : Ins) : List Ins := []
def put3 (a _ : Ins) : List Ins := [⟨1, 0, wrap (-a.n)⟩]
def put4 (a _ : Ins) : List Ins := [⟨2, wrap (1 - a.a), 0⟩]
def put5 (a b : Ins) : List Ins := if a.a = 0 then [⟨21, b.a, 0⟩] else []
def answers (k : Nat) (r : List Ins) : List Ch := [rule1 r, pair 5 put2 [1, 2, 3] r, pair 6 put3 [1] r, pair 7 put4 [2] r, pair 22 put5 [2] r, next k r]
def may (l : List Ins) (k n : Nat) : Bool := decide (k + n < l.length) && (List.range (n - 1)).all fun i => !aimed l (k + 1 + i)
def pick (ok : Nat → Bool) (d : Ch) : List Ch → Ch
  | [] => d
  | c :: l => if 0 < c.1 ∧ ok c.1 = true then c else pick ok d l
def i0 : Ins := ⟨0, 0, 0⟩
def change (l : List Ins) (k : Nat) : Ch := pick (may l k) (1, [(l[k]?).getD i0]) (answers k (l.drop k))
/-- A pass: where each begins, and what is done there. -/
def pieces (l : List Ins) : Nat → Nat → List (Nat × Ch)
  | 0, _ => []
  | f + 1, k => if k < l.length then (k, change l k) :: pieces l f (k + (change l k).1) else []
def out (ps : List (Nat × Ch)) : List Ins := ps.flatMap (·.2.2)
/-- How many stand ahead of what stands for x. -/
def now : List (Nat × Ch) → Nat → Nat
  | [], _ => 0
  | p :: ps, x => if p.1 < x then p.2.2.length + now ps x else 0
def moved (ps : List (Nat × Ch)) (c : Ins) : Ins := if jmp c = true then { c with a := (now ps c.a.toNat : Nat) } else c
def all (l : List Ins) : List (Nat × Ch) := pieces l l.length 0
def over (l : List Ins) : List Ins := (out (all l)).map (moved (all l))
def shorter : Nat → List Ins → List Ins
  | 0, l => l
  | f + 1, l => if (over l).length < l.length then shorter f (over l) else over l
def short (l : List Ins) : List Ins := shorter l.length l

theorem may_of {l : List Ins} {k n : Nat} (h : may l k n = true) : k + n < l.length ∧ ∀ x, k < x → x < k + n → aimed l x = false := by
  unfold may at h
  simp only [Bool.and_eq_true, decide_eq_true_eq, List.all_eq_true, List.mem_range, Bool.not_eq_true'] at h
  refine ⟨h.1, fun x h1 h2 => ?_⟩
  have := h.2 (x - k - 1) (by omega)
  rwa [show k + 1 + (x - k - 1) = x by omega] at this
theorem pick_cases (ok : Nat → Bool) (d : Ch) : ∀ l : List Ch, pick ok d l = d ∨ ∃ c ∈ l, pick ok d l = c ∧ 0 < c.1 ∧ ok c.1 = true
  | [] => .inl rfl
  | c :: l => by
    unfold pick
    split
    · rename_i h; exact .inr ⟨c, List.mem_cons_self, rfl, h.1, h.2⟩
    · rcases pick_cases ok d l with h | ⟨x, hx, h⟩
      · exact .inl h
      · exact .inr ⟨x, List.mem_cons_of_mem _ hx, h⟩
theorem drop_two {l : List Ins} {k : Nat} {a b : Ins} {r : List Ins} (h : l.drop k = a :: b :: r) : l[k]? = some a ∧ l[k + 1]? = some b := by
  have h0 : (l.drop k)[0]? = some a := by rw [h]; rfl
  have h1 : (l.drop k)[1]? = some b := by rw [h]; rfl
  rw [List.getElem?_drop] at h0 h1
  exact ⟨h0, h1⟩
theorem drop_three {l : List Ins} {k : Nat} {a b c : Ins} {r : List Ins} (h : l.drop k = a :: b :: c :: r) : l[k]? = some a ∧ l[k + 1]? = some b ∧ l[k + 2]? = some c := by
  have h2 : (l.drop k)[2]? = some c := by rw [h]; rfl
  rw [List.getElem?_drop] at h2
  exact ⟨(drop_two h).1, (drop_two h).2, h2⟩
theorem rule1_eq (a b c : Ins) (r : List Ins) : rule1 (a :: b :: c :: r) = if a.op = b.op ∧ reckons a.op c.op = true ∧ ¬ (word b = 0 ∧ (c.op = 11 ∨ c.op = 12)) then (3, [comes a b c]) else (0, []) := rfl
theorem pair_eq (second : Int) (put : Ins → Ins → List Ins) (first : List Int) (a b : Ins) (r : List Ins) : pair second put first (a :: b :: r) = if b.op = second ∧ a.op ∈ first then (2, put a b) else (0, []) := rfl
theorem next_eq (k : Nat) (a : Ins) (r : List Ins) : next k (a :: r) = if a.op = 21 ∧ a.a = k + 1 then (1, []) else (0, []) := rfl
theorem rule1_some {l : List Ins} {k : Nat} (h : 0 < (rule1 (l.drop k)).1) : ∃ a b c, l[k]? = some a ∧ l[k + 1]? = some b ∧ l[k + 2]? = some c ∧ a.op = b.op ∧ reckons a.op c.op = true ∧ ¬ (word b = 0 ∧ (c.op = 11 ∨ c.op = 12)) ∧ rule1 (l.drop k) = (3, [comes a b c]) := by
  match hl : l.drop k with
  | a :: b :: c :: r =>
    obtain ⟨h0, h1, h2⟩ := drop_three hl
    rw [hl] at h
    rw [rule1_eq] at h ⊢
    by_cases hc : a.op = b.op ∧ reckons a.op c.op = true ∧ ¬ (word b = 0 ∧ (c.op = 11 ∨ c.op = 12))
    · exact ⟨a, b, c, h0, h1, h2, hc.1, hc.2.1, hc.2.2, by rw [if_pos hc]⟩
    · rw [if_neg hc] at h; simp at h
  | [] => rw [hl] at h; simp [rule1] at h
  | [a] => rw [hl] at h; simp [rule1] at h
  | [a, b] => rw [hl] at h; simp [rule1] at h
theorem pair_some {l : List Ins} {k : Nat} {second : Int} {put : Ins → Ins → List Ins} {first : List Int} (h : 0 < (pair second put first (l.drop k)).1) : ∃ a b, l[k]? = some a ∧ l[k + 1]? = some b ∧ b.op = second ∧ a.op ∈ first ∧ pair second put first (l.drop k) = (2, put a b) := by
  match hl : l.drop k with
  | a :: b :: r =>
    obtain ⟨h0, h1⟩ := drop_two hl
    rw [hl] at h
    rw [pair_eq] at h ⊢
    by_cases hc : b.op = second ∧ a.op ∈ first
    · exact ⟨a, b, h0, h1, hc.1, hc.2, by rw [if_pos hc]⟩
    · rw [if_neg hc] at h; simp at h
  | [] => rw [hl] at h; simp [pair] at h
  | [a] => rw [hl] at h; simp [pair] at h
theorem next_some {l : List Ins} {k : Nat} (h : 0 < (next k (l.drop k)).1) : ∃ a, l[k]? = some a ∧ a.op = 21 ∧ a.a = k + 1 ∧ next k (l.drop k) = (1, []) := by
  match hl : l.drop k with
  | a :: r =>
    have h0 : (l.drop k)[0]? = some a := by rw [hl]; rfl
    rw [List.getElem?_drop] at h0
    rw [hl] at h
    rw [next_eq] at h ⊢
    by_cases hc : a.op = 21 ∧ a.a = k + 1
    · exact ⟨a, h0, hc.1, hc.2, by rw [if_pos hc]⟩
    · rw [if_neg hc] at h; simp at h
  | [] => rw [hl] at h; simp [next] at h
/-- What is done at k. -/
structure R1 (l : List Ins) (k : Nat) (a b c : Ins) : Prop where
  h0 : l[k]? = some a
  h1 : l[k + 1]? = some b
  h2 : l[k + 2]? = some c
  same : a.op = b.op
  rk : reckons a.op c.op = true
  nz : ¬ (word b = 0 ∧ (c.op = 11 ∨ c.op = 12))
structure R2 (l : List Ins) (k : Nat) (a b : Ins) (second : Int) (first : List Int) : Prop where
  h0 : l[k]? = some a
  h1 : l[k + 1]? = some b
  op1 : b.op = second
  op0 : a.op ∈ first
theorem change_form (l : List Ins) (k : Nat) : change l k = (1, [(l[k]?).getD i0]) ∨ (may l k (change l k).1 = true ∧
    ((∃ a b c, R1 l k a b c ∧ change l k = (3, [comes a b c])) ∨ (∃ a b, R2 l k a b 5 [1, 2, 3] ∧ change l k = (2, [])) ∨ (∃ a b, R2 l k a b 6 [1] ∧ change l k = (2, put3 a b)) ∨
     (∃ a b, R2 l k a b 7 [2] ∧ change l k = (2, put4 a b)) ∨ (∃ a b, R2 l k a b 22 [2] ∧ change l k = (2, put5 a b)) ∨ (∃ a : Ins, l[k]? = some a ∧ a.op = 21 ∧ a.a = k + 1 ∧ change l k = (1, [])))) := by
  rcases pick_cases (may l k) (1, [(l[k]?).getD i0]) (answers k (l.drop k)) with h | ⟨c, hc, h, h0, h1⟩
  · exact .inl h
  · have e : change l k = c := h
    refine .inr ⟨by rw [e]; exact h1, ?_⟩
    simp only [answers, List.mem_cons, List.not_mem_nil, or_false] at hc
    rw [e]
    rcases hc with rfl | rfl | rfl | rfl | rfl | rfl
    · obtain ⟨a, b, c, x0, x1, x2, x3, x4, x5, x6⟩ := rule1_some h0
      exact .inl ⟨a, b, c, ⟨x0, x1, x2, x3, x4, x5⟩, x6⟩
    · obtain ⟨a, b, x0, x1, x2, x3, x4⟩ := pair_some h0
      exact .inr (.inl ⟨a, b, ⟨x0, x1, x2, x3⟩, x4⟩)
    · obtain ⟨a, b, x0, x1, x2, x3, x4⟩ := pair_some h0
      exact .inr (.inr (.inl ⟨a, b, ⟨x0, x1, x2, x3⟩, x4⟩))
    · obtain ⟨a, b, x0, x1, x2, x3, x4⟩ := pair_some h0
      exact .inr (.inr (.inr (.inl ⟨a, b, ⟨x0, x1, x2, x3⟩, x4⟩)))
    · obtain ⟨a, b, x0, x1, x2, x3, x4⟩ := pair_some h0
      exact .inr (.inr (.inr (.inr (.inl ⟨a, b, ⟨x0, x1, x2, x3⟩, x4⟩))))
    · obtain ⟨a, x0, x1, x2, x3⟩ := next_some h0
      exact .inr (.inr (.inr (.inr (.inr ⟨a, x0, x1, x2, x3⟩))))
theorem put5_len (a b : Ins) : (put5 a b).length ≤ 1 := by unfold put5; split <;> simp
/-- Less is put there than is gone, or it stays. -/
theorem change_len (l : List Ins) (k : Nat) : 0 < (change l k).1 ∧ (change l k).2.length ≤ 1 ∧ (change l k = (1, [(l[k]?).getD i0]) ∨ ((change l k).2.length < (change l k).1 ∧ k + (change l k).1 < l.length ∧ ∀ x, k < x → x < k + (change l k).1 → aimed l x = false)) := by
  rcases change_form l k with h | ⟨hm, h⟩
  · rw [h]; exact ⟨by simp, by simp, .inl rfl⟩
  · have h1 := may_of hm
    have key : 0 < (change l k).1 ∧ (change l k).2.length ≤ 1 ∧ (change l k).2.length < (change l k).1 := by
      rcases h with ⟨a, b, c, _, e⟩ | ⟨a, b, _, e⟩ | ⟨a, b, _, e⟩ | ⟨a, b, _, e⟩ | ⟨a, b, _, e⟩ | ⟨a, _, _, _, e⟩
      · rw [e]; simp
      · rw [e]; simp
      · rw [e]; simp [put3]
      · rw [e]; simp [put4]
      · rw [e]; have := put5_len a b; refine ⟨by simp, this, ?_⟩; simp; omega
      · rw [e]; simp
    exact ⟨key.1, key.2.1, .inr ⟨key.2.2, h1⟩⟩

/-- Where pieces begin. -/
def Begins (ps : List (Nat × Ch)) (x : Nat) : Prop := ∃ c, (x, c) ∈ ps
theorem pieces_mem (l : List Ins) : ∀ (f k : Nat) (p : Nat × Ch), p ∈ pieces l f k → k ≤ p.1 ∧ p.1 < l.length ∧ p.2 = change l p.1
  | 0, _, _, h => by cases h
  | f + 1, k, p, h => by
    unfold pieces at h
    split at h
    · rename_i hk
      rcases List.mem_cons.1 h with rfl | h
      · exact ⟨Nat.le_refl _, hk, rfl⟩
      · obtain ⟨h1, h2, h3⟩ := pieces_mem l f _ p h
        exact ⟨by omega, h2, h3⟩
    · cases h
theorem now_low (l : List Ins) (f k x : Nat) (h : x ≤ k) : now (pieces l f k) x = 0 := by
  cases f with
  | zero => rfl
  | succ f =>
    unfold pieces
    split
    · unfold now
      rw [if_neg (by simp; omega)]
    · rfl
theorem pieces_at {α : Type} (g : Nat × Ch → List α) (hg : ∀ p, (g p).length = p.2.2.length) (l : List Ins) : ∀ (f k : Nat), l.length ≤ k + f → ∀ x, Begins (pieces l f k) x →
    ((pieces l f k).flatMap g).drop (now (pieces l f k) x) = g (x, change l x) ++ ((pieces l f k).flatMap g).drop (now (pieces l f k) (x + (change l x).1)) ∧
    now (pieces l f k) (x + (change l x).1) = now (pieces l f k) x + (change l x).2.length ∧
    (x + (change l x).1 < l.length → Begins (pieces l f k) (x + (change l x).1))
  | 0, k, _, x, ⟨c, h⟩ => by cases h
  | f + 1, k, hf, x, ⟨c, h⟩ => by
    have hp := change_len l k
    by_cases hk : k < l.length
    · have e : pieces l (f + 1) k = (k, change l k) :: pieces l f (k + (change l k).1) := by rw [pieces, if_pos hk]
      rw [e] at h ⊢
      have eo : ((k, change l k) :: pieces l f (k + (change l k).1)).flatMap g = g (k, change l k) ++ (pieces l f (k + (change l k).1)).flatMap g := rfl
      have gl : (g (k, change l k)).length = (change l k).2.length := hg _
      rcases List.mem_cons.1 h with h | h
      · cases h
        have n0 : now ((k, change l k) :: pieces l f (k + (change l k).1)) k = 0 := by rw [now, if_neg (by simp)]
        have n1 : now ((k, change l k) :: pieces l f (k + (change l k).1)) (k + (change l k).1) = (change l k).2.length := by
          rw [now, if_pos (by simp; omega), now_low l f _ _ (Nat.le_refl _)]
          rfl
        rw [n0, n1, eo, List.drop_zero, ← gl, List.drop_left]
        refine ⟨rfl, by omega, fun h2 => ?_⟩
        cases f with
        | zero => omega
        | succ f => exact ⟨change l (k + (change l k).1), List.mem_cons_of_mem _ (by rw [pieces, if_pos h2]; exact List.mem_cons_self)⟩
      · obtain ⟨g1, g2, _⟩ := pieces_mem l _ _ _ h
        have hx : k < x := by have : k + (change l k).1 ≤ x := g1; omega
        have n0 : ∀ y, k < y → now ((k, change l k) :: pieces l f (k + (change l k).1)) y = (change l k).2.length + now (pieces l f (k + (change l k).1)) y := fun y hy => by rw [now, if_pos (by simpa using hy)]
        obtain ⟨i1, i2, i3⟩ := pieces_at g hg l f (k + (change l k).1) (by omega) x ⟨c, h⟩
        rw [n0 x hx, n0 (x + (change l x).1) (by omega), eo]
        have d0 : ∀ n, (g (k, change l k) ++ (pieces l f (k + (change l k).1)).flatMap g).drop ((change l k).2.length + n) = ((pieces l f (k + (change l k).1)).flatMap g).drop n := fun n => by rw [← gl, List.drop_append]; simp
        rw [d0, d0]
        exact ⟨i1, by omega, fun h => (by obtain ⟨c, hc⟩ := i3 h; exact ⟨c, List.mem_cons_of_mem _ hc⟩)⟩
    · rw [pieces, if_neg hk] at h
      cases h
theorem begins_zero {l : List Ins} (h : 0 < l.length) : Begins (all l) 0 := by
  unfold all
  cases hl : l.length with
  | zero => omega
  | succ n => exact ⟨change l 0, by rw [pieces, if_pos (by omega)]; exact List.mem_cons_self⟩
/-- Every place to which a jump goes is where a piece begins. -/
theorem pieces_aimed (l : List Ins) : ∀ (f k : Nat), l.length ≤ k + f → ∀ x, k ≤ x → x < l.length → aimed l x = true → Begins (pieces l f k) x
  | 0, k, hf, x, h1, h2, _ => by omega
  | f + 1, k, hf, x, h1, h2, ha => by
    have hk : k < l.length := by omega
    have hp := change_len l k
    rw [pieces, if_pos hk]
    by_cases e : k = x
    · subst e; exact ⟨_, List.mem_cons_self⟩
    · have hx : k + (change l k).1 ≤ x := by
        rcases hp.2.2 with h | ⟨_, _, h⟩
        · rw [h]; simp; omega
        · refine Classical.byContradiction fun hn => ?_
          have := h x (by omega) (by omega)
          rw [this] at ha
          cases ha
      obtain ⟨c, hc⟩ := pieces_aimed l f _ (by omega) x hx h2 ha
      exact ⟨c, List.mem_cons_of_mem _ hc⟩
theorem begins_aimed {l : List Ins} {x : Nat} (h : x < l.length) (ha : aimed l x = true) : Begins (all l) x := pieces_aimed l _ _ (by omega) x (Nat.zero_le _) h ha
theorem begins_lt {l : List Ins} {x : Nat} (h : Begins (all l) x) : x < l.length := by
  obtain ⟨c, hc⟩ := h
  exact (pieces_mem l _ _ _ hc).2.1
/-- Of each that is put there, where its piece begins. -/
def begs (p : Nat × Ch) : List Nat := p.2.2.map fun _ => p.1
def olds (ps : List (Nat × Ch)) : List Nat := ps.flatMap begs
theorem begs_len (p : Nat × Ch) : (begs p).length = p.2.2.length := by simp [begs]
theorem olds_len (ps : List (Nat × Ch)) : (olds ps).length = (out ps).length := by
  induction ps with
  | nil => rfl
  | cons p ps ih =>
    show (begs p ++ olds ps).length = (p.2.2 ++ out ps).length
    rw [List.length_append, List.length_append, ih, begs_len]
/-- How a piece lies in what comes of a pass. -/
theorem begins_out {l : List Ins} {x : Nat} (h : Begins (all l) x) : (out (all l)).drop (now (all l) x) = (change l x).2 ++ (out (all l)).drop (now (all l) (x + (change l x).1)) := (pieces_at (fun p => p.2.2) (fun _ => rfl) l _ _ (by omega) x h).1
theorem begins_olds {l : List Ins} {x : Nat} (h : Begins (all l) x) : (olds (all l)).drop (now (all l) x) = begs (x, change l x) ++ (olds (all l)).drop (now (all l) (x + (change l x).1)) := (pieces_at begs begs_len l _ _ (by omega) x h).1
theorem begins_now {l : List Ins} {x : Nat} (h : Begins (all l) x) : now (all l) (x + (change l x).1) = now (all l) x + (change l x).2.length := (pieces_at begs begs_len l _ _ (by omega) x h).2.1
theorem begins_next {l : List Ins} {x : Nat} (h : Begins (all l) x) (hl : x + (change l x).1 < l.length) : Begins (all l) (x + (change l x).1) := (pieces_at begs begs_len l _ _ (by omega) x h).2.2 hl
theorem now_zero (l : List Ins) : now (all l) 0 = 0 := now_low l _ _ _ (Nat.le_refl _)
/-- What is put there, where its piece begins. -/
theorem put_at {l : List Ins} {x : Nat} (h : Begins (all l) x) {c : Ins} (hc : (change l x).2 = [c]) : (out (all l))[now (all l) x]? = some c ∧ (olds (all l))[now (all l) x]? = some x := by
  have h1 := begins_out h
  have h2 := begins_olds h
  have e1 : ((out (all l)).drop (now (all l) x))[0]? = some c := by rw [h1, hc]; rfl
  have e2 : ((olds (all l)).drop (now (all l) x))[0]? = some x := by rw [h2]; unfold begs; rw [show ((x, change l x) : Nat × Ch).2.2 = [c] from hc]; rfl
  rw [List.getElem?_drop] at e1 e2
  exact ⟨e1, e2⟩
theorem olds_at (l : List Ins) : ∀ (f k : Nat), l.length ≤ k + f → ∀ n x, (olds (pieces l f k))[n]? = some x → Begins (pieces l f k) x ∧ now (pieces l f k) x = n ∧ ∃ c, (change l x).2 = [c]
  | 0, k, _, n, x, h => by cases h
  | f + 1, k, hf, n, x, h => by
    have hp := change_len l k
    by_cases hk : k < l.length
    · have e : pieces l (f + 1) k = (k, change l k) :: pieces l f (k + (change l k).1) := by rw [pieces, if_pos hk]
      rw [e] at h ⊢
      have eo : olds ((k, change l k) :: pieces l f (k + (change l k).1)) = begs (k, change l k) ++ olds (pieces l f (k + (change l k).1)) := rfl
      rw [eo] at h
      have gl : (begs (k, change l k)).length = (change l k).2.length := begs_len _
      by_cases hn : n < (change l k).2.length
      · rw [List.getElem?_append_left (by omega)] at h
        have hn0 : n = 0 := by omega
        have h1 : (change l k).2.length = 1 := by omega
        obtain ⟨c, hc⟩ := List.length_eq_one_iff.1 h1
        have hx : x = k := by
          unfold begs at h
          rw [show ((k, change l k) : Nat × Ch).2.2 = [c] from hc, hn0] at h
          simpa using h.symm
        subst hx
        exact ⟨⟨_, List.mem_cons_self⟩, by rw [hn0, now, if_neg (by simp)], c, hc⟩
      · rw [List.getElem?_append_right (by omega), gl] at h
        obtain ⟨⟨c, i1⟩, i2, i3⟩ := olds_at l f _ (by omega) _ x h
        obtain ⟨g1, _, _⟩ := pieces_mem l _ _ _ i1
        have hx : k < x := by have : k + (change l k).1 ≤ x := g1; omega
        exact ⟨⟨c, List.mem_cons_of_mem _ i1⟩, by rw [now, if_pos (by simpa using hx), i2]; simp; omega, i3⟩
    · rw [pieces, if_neg hk] at h
      cases h
theorem old_at {l : List Ins} {n x : Nat} (h : (olds (all l))[n]? = some x) : Begins (all l) x ∧ now (all l) x = n ∧ ∃ c, (change l x).2 = [c] := olds_at l _ _ (by omega) n x h
theorem not_stay {l : List Ins} {x : Nat} (h : (change l x).2 = []) : x + (change l x).1 < l.length := by
  rcases (change_len l x).2.2 with e | ⟨_, h2, _⟩
  · rw [e] at h; cases h
  · exact h2
/-- On, over what is gone, to the next one that is there. -/
theorem on_to {l : List Ins} {P : Nat → Prop} (hP : ∀ x, Begins (all l) x → P x → (change l x).2 = [] → P (x + (change l x).1)) : ∀ (d x : Nat), l.length ≤ x + d → Begins (all l) x → P x → ∃ y c, Begins (all l) y ∧ P y ∧ now (all l) y = now (all l) x ∧ (change l y).2 = [c] ∧ x ≤ y
  | 0, x, hd, hb, _ => by have := begins_lt hb; omega
  | d + 1, x, hd, hb, hx => by
    have hp := change_len l x
    match hc : (change l x).2 with
    | [c] => exact ⟨x, c, hb, hx, rfl, hc, Nat.le_refl _⟩
    | [] =>
      have hl := not_stay hc
      obtain ⟨y, c, h1, h2, h3, h4, h5⟩ := on_to hP d (x + (change l x).1) (by omega) (begins_next hb hl) (hP x hb hx hc)
      exact ⟨y, c, h1, h2, by rw [h3, begins_now hb, hc]; rfl, h4, by omega⟩
    | _ :: _ :: _ => rw [hc] at hp; simp at hp
theorem now_lt {l : List Ins} {x : Nat} (h : Begins (all l) x) : now (all l) x < (out (all l)).length := by
  obtain ⟨y, c, h1, _, h3, h4, _⟩ := on_to (P := fun _ => True) (fun _ _ _ _ => trivial) l.length x (by omega) h trivial
  rw [← h3]
  exact (List.getElem?_eq_some_iff.1 (put_at h1 h4).1).1
theorem over_len (l : List Ins) : (over l).length = (out (all l)).length := by simp [over]
theorem over_pos {l : List Ins} (h : 0 < l.length) : 0 < (over l).length := by
  rw [over_len]
  have := now_lt (begins_zero h)
  omega

/-- Jumps go to instructions. -/
def Jumps (l : List Ins) : Prop := ∀ c ∈ l, jmp c = true → 0 ≤ c.a ∧ c.a < l.length
theorem out_le (l : List Ins) : ∀ (f k : Nat), (out (pieces l f k)).length ≤ l.length - k ∧ (l.length ≤ k + f → (out (pieces l f k)).length = l.length - k → out (pieces l f k) = l.drop k ∧ ∀ x, k ≤ x → x ≤ l.length → now (pieces l f k) x = x - k)
  | 0, k => ⟨by simp [pieces, out], fun h _ => ⟨by rw [List.drop_eq_nil_of_le (by omega)]; rfl, fun x h1 h2 => (by show 0 = _; omega)⟩⟩
  | f + 1, k => by
    have hp := change_len l k
    by_cases hk : k < l.length
    · have e : pieces l (f + 1) k = (k, change l k) :: pieces l f (k + (change l k).1) := by rw [pieces, if_pos hk]
      have eo : out ((k, change l k) :: pieces l f (k + (change l k).1)) = (change l k).2 ++ out (pieces l f (k + (change l k).1)) := rfl
      obtain ⟨i1, i2⟩ := out_le l f (k + (change l k).1)
      rw [e, eo, List.length_append]
      have hlt : (change l k).2.length ≤ (change l k).1 ∧ k + (change l k).1 ≤ l.length ∧ ((change l k).2.length = (change l k).1 → change l k = (1, [(l[k]?).getD i0])) := by
        rcases hp.2.2 with h | ⟨h, h2, _⟩
        · rw [h]; exact ⟨by simp, by simp; omega, fun _ => rfl⟩
        · exact ⟨by omega, by omega, fun _ => by omega⟩
      refine ⟨by omega, fun hf he => ?_⟩
      have hst := hlt.2.2 (by omega)
      rw [hst] at i1 i2 he ⊢
      simp only [List.length_cons, List.length_nil] at he
      have hl : l[k]? = some l[k] := List.getElem?_eq_getElem hk
      obtain ⟨j1, j2⟩ := i2 (by simp; omega) (by simp at he ⊢; omega)
      refine ⟨?_, fun x h1 h2 => ?_⟩
      · rw [j1, hl, List.drop_eq_getElem_cons hk]
        rfl
      · by_cases hx : x = k
        · rw [hx, now, if_neg (by simp)]; omega
        · rw [now, if_pos (by simp; omega), j2 x (by simp; omega) h2]
          simp
          omega
    · have e : pieces l (f + 1) k = [] := by rw [pieces, if_neg hk]
      rw [e]
      refine ⟨by simp [out], fun _ _ => ⟨by rw [List.drop_eq_nil_of_le (by omega)]; rfl, fun x h1 h2 => (by show 0 = _; omega)⟩⟩
theorem over_le (l : List Ins) : (over l).length ≤ l.length := by
  rw [over_len]
  have := (out_le l l.length 0).1
  exact this
/-- A pass that makes nothing shorter does nothing. -/
theorem over_same {l : List Ins} (hj : Jumps l) (h : ¬ (over l).length < l.length) : over l = l := by
  have h1 := over_le l
  rw [over_len] at h h1
  obtain ⟨h2, h3⟩ := (out_le l l.length 0).2 (by omega) (by unfold all at h h1; omega)
  unfold over
  have e : out (all l) = l := by have := h2; rw [List.drop_zero] at this; exact this
  rw [e]
  conv => rhs; rw [← List.map_id l]
  refine List.map_congr_left (fun c hc => ?_)
  unfold moved
  split
  · rename_i hjc
    obtain ⟨a, b⟩ := hj c hc hjc
    have : now (all l) c.a.toNat = c.a.toNat := h3 c.a.toNat (Nat.zero_le _) (by omega)
    rw [this]
    obtain ⟨op, a', n⟩ := c
    simp only [id]
    congr 1
    simp only at a
    omega
  · rfl
def times (n : Nat) (l : List Ins) : List Ins := n.repeat over l
theorem times_succ (n : Nat) (l : List Ins) : times (n + 1) l = over (times n l) := rfl
theorem times_one : ∀ (n : Nat) (l : List Ins), times n (over l) = over (times n l)
  | 0, _ => rfl
  | n + 1, l => by rw [times_succ, times_one n l]; rfl
theorem times_same {l : List Ins} (h : over l = l) : ∀ n, times n l = l
  | 0 => rfl
  | n + 1 => by rw [times_succ, times_same h n, h]
end Ot
end Go.Proofs.Ytlbihbfgglnfnaa

/- The walks of truthWord, holds, Reckon. -/
namespace Go.Proofs.Ytlbihbfgglnfnaa.Vw
open Go.RowKit Vf Vm

set_option maxHeartbeats 400000 in
theorem truth_any (b : Bool) (w : World) :
    Calls Try.prog 83 #[.bool b] w fun e w' => e = .returned (.int .i64 (yes b)) ∧ w' = w := by
  cases b
  · go_enter Try.func83, Try.ntmps83
    go_wp2
    go_ret
    exact ⟨rfl, rfl⟩
  · go_enter Try.func83, Try.ntmps83
    go_wp2
    go_ret
    exact ⟨rfl, rfl⟩


set_option maxHeartbeats 1000000 in
theorem holds_any (op a b : Int) (w : World) (r : Bool) (hr : Hid (r = holds op a b)) :
    Calls Try.prog 84 #[.int .i64 op, .int .i64 a, .int .i64 b] w fun e w' => e = .returned (.bool r) ∧ w' = w := by
  rw [hr.out]
  clear hr
  by_cases h13 : op = 13
  · skip
    have e0 : op = 13 := h13
    subst e0
    go_enter Try.func84, Try.ntmps84
    go_wp2
    go_ret
    exact ⟨rfl, rfl⟩
  by_cases h14 : op = 14
  · skip
    have e0 : op = 14 := h14
    subst e0
    go_enter Try.func84, Try.ntmps84
    go_wp2
    go_ret
    exact ⟨rfl, rfl⟩
  by_cases h15 : op = 15
  · skip
    have e0 : op = 15 := h15
    subst e0
    go_enter Try.func84, Try.ntmps84
    go_wp2
    go_ret
    exact ⟨rfl, rfl⟩
  by_cases h16 : op = 16
  · skip
    have e0 : op = 16 := h16
    subst e0
    go_enter Try.func84, Try.ntmps84
    go_wp2
    go_ret
    exact ⟨rfl, rfl⟩
  by_cases h17 : op = 17
  · skip
    have e0 : op = 17 := h17
    subst e0
    go_enter Try.func84, Try.ntmps84
    go_wp2
    go_ret
    exact ⟨rfl, rfl⟩
  by_cases h18 : op = 18
  · skip
    have e0 : op = 18 := h18
    subst e0
    go_enter Try.func84, Try.ntmps84
    go_wp2
    go_ret
    exact ⟨rfl, rfl⟩
  by_cases h19 : op = 19
  · have e0 : op = 19 := h19
    subst e0
    clear h13 h14 h15 h16 h17 h18 h19
    by_cases ha : a = 0
    · have e1 : (a != 0) = false := by simpa using ha
      clear ha
      go_enter Try.func84, Try.ntmps84
      go_wp2
      go_ret
      exact ⟨by simp [holds, e1], rfl⟩
    · have e1 : (a != 0) = true := by simpa using ha
      clear ha
      go_enter Try.func84, Try.ntmps84
      go_wp2
      go_ret
      exact ⟨by simp [holds, e1], rfl⟩
  · have e13 : (op == 13) = false := by simpa using h13
    have e14 : (op == 14) = false := by simpa using h14
    have e15 : (op == 15) = false := by simpa using h15
    have e16 : (op == 16) = false := by simpa using h16
    have e17 : (op == 17) = false := by simpa using h17
    have e18 : (op == 18) = false := by simpa using h18
    have e19 : (op == 19) = false := by simpa using h19
    have HE : Hid (holds op a b = (a != 0 || b != 0)) := by unfold Hid holds; rw [if_neg h13, if_neg h14, if_neg h15, if_neg h16, if_neg h17, if_neg h18, if_neg h19]
    clear h13 h14 h15 h16 h17 h18 h19
    by_cases ha : a = 0
    · have e1 : (a != 0) = false := by simpa using ha
      clear ha
      go_enter Try.func84, Try.ntmps84
      go_wp2
      go_ret
      exact ⟨by rw [HE.out, e1]; rfl, rfl⟩
    · have e1 : (a != 0) = true := by simpa using ha
      clear ha
      go_enter Try.func84, Try.ntmps84
      go_wp2
      go_ret
      exact ⟨by rw [HE.out, e1]; rfl, rfl⟩


set_option maxHeartbeats 1000000 in
theorem reckoned_any (op a b : Int) (w : World) (hz : ¬ (b = 0 ∧ (op = 11 ∨ op = 12))) (r : Int) (hr : Hid (r = two op a b)) :
    Calls Try.prog 72 #[.int .i64 op, .int .i64 a, .int .i64 b] w fun e w' => e = .returned (.tuple #[.int .i64 r, .int .i64 0]) ∧ w' = w := by
  rw [hr.out]
  clear hr
  by_cases h8 : op = 8
  · skip
    have e0 : op = 8 := h8
    subst e0
    clear hz
    by_cases hb : b = 0
    · have fb : (b == 0) = true := by simpa using hb
      clear hb
      go_enter Try.func72, Try.ntmps72
      go_wp2
      exact bodyPost_ret (v := .tuple #[_, _]) (by simp [results, Try.results72, go_sem] <;> first | exact ⟨rfl, rfl⟩ | rfl) rfl ⟨rfl, rfl⟩
    · have fb : (b == 0) = false := by simpa using hb
      clear hb
      go_enter Try.func72, Try.ntmps72
      go_wp2
      exact bodyPost_ret (v := .tuple #[_, _]) (by simp [results, Try.results72, go_sem] <;> first | exact ⟨rfl, rfl⟩ | rfl) rfl ⟨rfl, rfl⟩
  by_cases h9 : op = 9
  · skip
    have e0 : op = 9 := h9
    subst e0
    clear hz
    by_cases hb : b = 0
    · have fb : (b == 0) = true := by simpa using hb
      clear hb
      go_enter Try.func72, Try.ntmps72
      go_wp2
      exact bodyPost_ret (v := .tuple #[_, _]) (by simp [results, Try.results72, go_sem] <;> first | exact ⟨rfl, rfl⟩ | rfl) rfl ⟨rfl, rfl⟩
    · have fb : (b == 0) = false := by simpa using hb
      clear hb
      go_enter Try.func72, Try.ntmps72
      go_wp2
      exact bodyPost_ret (v := .tuple #[_, _]) (by simp [results, Try.results72, go_sem] <;> first | exact ⟨rfl, rfl⟩ | rfl) rfl ⟨rfl, rfl⟩
  by_cases h10 : op = 10
  · skip
    have e0 : op = 10 := h10
    subst e0
    clear hz
    by_cases hb : b = 0
    · have fb : (b == 0) = true := by simpa using hb
      clear hb
      go_enter Try.func72, Try.ntmps72
      go_wp2
      exact bodyPost_ret (v := .tuple #[_, _]) (by simp [results, Try.results72, go_sem] <;> first | exact ⟨rfl, rfl⟩ | rfl) rfl ⟨rfl, rfl⟩
    · have fb : (b == 0) = false := by simpa using hb
      clear hb
      go_enter Try.func72, Try.ntmps72
      go_wp2
      exact bodyPost_ret (v := .tuple #[_, _]) (by simp [results, Try.results72, go_sem] <;> first | exact ⟨rfl, rfl⟩ | rfl) rfl ⟨rfl, rfl⟩
  by_cases h11 : op = 11
  · skip
    have hb : b ≠ 0 := fun e => hz ⟨e, .inl h11⟩
    have e0 : op = 11 := h11
    subst e0
    have fb : (b == 0) = false := by simpa using hb
    clear hz
    go_enter Try.func72, Try.ntmps72
    go_wp2
    exact bodyPost_ret (v := .tuple #[_, _]) (by simp [results, Try.results72, go_sem] <;> first | exact ⟨rfl, rfl⟩ | rfl) rfl ⟨rfl, rfl⟩
  by_cases h12 : op = 12
  · skip
    have hb : b ≠ 0 := fun e => hz ⟨e, .inr h12⟩
    have e0 : op = 12 := h12
    subst e0
    have fb : (b == 0) = false := by simpa using hb
    clear hz
    go_enter Try.func72, Try.ntmps72
    go_wp2
    exact bodyPost_ret (v := .tuple #[_, _]) (by simp [results, Try.results72, go_sem] <;> first | exact ⟨rfl, rfl⟩ | rfl) rfl ⟨rfl, rfl⟩
  have e8 : (op == 8) = false := by simpa using h8
  have e9 : (op == 9) = false := by simpa using h9
  have e10 : (op == 10) = false := by simpa using h10
  have e11 : (op == 11) = false := by simpa using h11
  have e12 : (op == 12) = false := by simpa using h12
  have HE : Hid (two op a b = yes (holds op a b)) := by unfold Hid two; rw [if_neg h8, if_neg h9, if_neg h10, if_neg h11, if_neg h12]
  clear h8 h9 h10 h11 h12 hz
  by_cases hb : b = 0
  · have fb : (b == 0) = true := by simpa using hb
    clear hb
    go_enter Try.func72, Try.ntmps72
    go_wp2_with fail
    refine (holds_any op a b _ _ (hide rfl)).mono ?_
    rintro e w' ⟨rfl, rfl⟩
    go_wp2_with fail
    refine (truth_any (holds op a b) _).mono ?_
    rintro e w' ⟨rfl, rfl⟩
    go_wp2
    exact bodyPost_ret (v := .tuple #[_, _]) (by simp [results, Try.results72, go_sem] <;> first | exact ⟨rfl, rfl⟩ | rfl) rfl ⟨by rw [HE.out], rfl⟩
  · have fb : (b == 0) = false := by simpa using hb
    clear hb
    go_enter Try.func72, Try.ntmps72
    go_wp2_with fail
    refine (holds_any op a b _ _ (hide rfl)).mono ?_
    rintro e w' ⟨rfl, rfl⟩
    go_wp2_with fail
    refine (truth_any (holds op a b) _).mono ?_
    rintro e w' ⟨rfl, rfl⟩
    go_wp2
    exact bodyPost_ret (v := .tuple #[_, _]) (by simp [results, Try.results72, go_sem] <;> first | exact ⟨rfl, rfl⟩ | rfl) rfl ⟨by rw [HE.out], rfl⟩

set_option maxHeartbeats 1000000 in
theorem reckoned_zero (op a b : Int) (w : World) (hz : b = 0 ∧ (op = 11 ∨ op = 12)) :
    Calls Try.prog 72 #[.int .i64 op, .int .i64 a, .int .i64 b] w fun e w' => e = .returned (.tuple #[.int .i64 0, .int .i64 1]) ∧ w' = w := by
  obtain ⟨rfl, hz⟩ := hz
  rcases hz with rfl | rfl
  · skip
    go_enter Try.func72, Try.ntmps72
    go_wp2
    exact bodyPost_ret (v := .tuple #[_, _]) (by simp [results, Try.results72, go_sem] <;> first | exact ⟨rfl, rfl⟩ | rfl) rfl ⟨rfl, rfl⟩
  · skip
    go_enter Try.func72, Try.ntmps72
    go_wp2
    exact bodyPost_ret (v := .tuple #[_, _]) (by simp [results, Try.results72, go_sem] <;> first | exact ⟨rfl, rfl⟩ | rfl) rfl ⟨rfl, rfl⟩

end Go.Proofs.Ytlbihbfgglnfnaa.Vw

