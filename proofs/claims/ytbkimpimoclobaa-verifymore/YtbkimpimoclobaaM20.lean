/- What a row of units to be gone through has told, plainly. -/
import Derived.Test.YtbkimpimoclobaaM19
namespace Go.Proofs.Ytbkimpimoclobaa
namespace Vf

def Tks (c : Ins) : Prop := c.op = 26 ∨ c.op = 27
def Cls (c : Ins) : Prop := c.op = 23 ∨ c.op = 29
/-- Units gone through up to the i-th, and j instructions of that: R the row, ts what was told, f how often a unit was met. -/
structure Wkr (m : Md) (n i j : Nat) (R : List Nat) (ts : List Lk) (f : Int → Int) : Prop where
  nodup : R.Nodup
  lt : ∀ a ∈ R, a < m.units.length
  reach : ∀ a ∈ R, Reach m (n : Int) (a : Int)
  head : n ∈ R
  met : ∀ a : Nat, 0 ≤ f a ∧ f a ≤ 1 + 4000 * i + j ∧ (1 ≤ f a ↔ a ∈ R)
  done : ∀ (p k x : Nat) (c : Ins), R[p]? = some k → (unit m (k : Int)).code[x]? = some c → (p < i ∨ p = i ∧ x < j) → (Cls c → ∃ a ∈ R, c.a = (a : Int)) ∧ (Tks c → (c.op, c.a) ∈ ts)
  told : ∀ q ∈ ts, (q.1 = 26 ∨ q.1 = 27) ∧ ∃ k ∈ R, ∃ c ∈ (unit m (k : Int)).code, (c.op, c.a) = q
  few : ts.length ≤ 4000 * i + j
theorem Wkr.start {m : Md} {n : Nat} (hn : n < m.units.length) : Wkr m n 0 0 [n] [] (fun a => if a = (n : Int) then 1 else 0) where
  nodup := by simp
  lt := fun a ha => by simp at ha; omega
  reach := fun a ha => by simp at ha; subst ha; exact .here _
  head := by simp
  met := fun a => by
    by_cases h : a = n
    · subst h; simp
    · have e : ¬ (a : Int) = (n : Int) := by omega
      simp [h, e]
  done := fun p k x c _ _ h => by omega
  told := fun q hq => by cases hq
  few := by simp
theorem Wkr.len {m : Md} {n i j : Nat} {R : List Nat} {ts : List Lk} {f : Int → Int} (h : Wkr m n i j R ts f) : R.length ≤ m.units.length := by
  have := List.Nodup.length_le_of_subset (l₂ := List.range m.units.length) h.nodup (fun a ha => List.mem_range.2 (h.lt a ha))
  simpa using this
theorem Wkr.talk {m : Md} {n i j k : Nat} {R : List Nat} {ts : List Lk} {f : Int → Int} {c : Ins} (h : Wkr m n i j R ts f) (hk : R[i]? = some k) (hc : (unit m (k : Int)).code[j]? = some c) (ho : Tks c) : Wkr m n i (j + 1) R (ts ++ [(c.op, c.a)]) f where
  nodup := h.nodup
  lt := h.lt
  reach := h.reach
  head := h.head
  met := fun a => by obtain ⟨h1, h2, h3⟩ := h.met a; exact ⟨h1, by omega, h3⟩
  done := fun p k' x c' hp hx ho' => by
    by_cases e : p = i ∧ x = j
    · obtain ⟨rfl, rfl⟩ := e
      rw [hk] at hp
      cases hp
      rw [hc] at hx
      cases hx
      refine ⟨fun h1 => ?_, fun _ => by simp⟩
      unfold Cls at h1
      unfold Tks at ho
      omega
    · obtain ⟨d1, d2⟩ := h.done p k' x c' hp hx (by omega)
      exact ⟨d1, fun t => List.mem_append_left _ (d2 t)⟩
  told := fun q hq => by
    rcases List.mem_append.1 hq with h1 | h1
    · exact h.told q h1
    · simp at h1
      subst h1
      exact ⟨ho, k, List.mem_of_getElem? hk, c, List.mem_of_getElem? hc, rfl⟩
  few := by have := h.few; simp; omega
theorem Wkr.quiet {m : Md} {n i j k : Nat} {R : List Nat} {ts : List Lk} {f : Int → Int} {c : Ins} (h : Wkr m n i j R ts f) (hk : R[i]? = some k) (hc : (unit m (k : Int)).code[j]? = some c) (ho : ¬ Tks c) (ho2 : ¬ Cls c) : Wkr m n i (j + 1) R ts f where
  nodup := h.nodup
  lt := h.lt
  reach := h.reach
  head := h.head
  met := fun a => by obtain ⟨h1, h2, h3⟩ := h.met a; exact ⟨h1, by omega, h3⟩
  done := fun p k' x c' hp hx ho' => by
    by_cases e : p = i ∧ x = j
    · obtain ⟨rfl, rfl⟩ := e
      rw [hk] at hp
      cases hp
      rw [hc] at hx
      cases hx
      exact ⟨fun h1 => absurd h1 ho2, fun h1 => absurd h1 ho⟩
    · exact h.done p k' x c' hp hx (by omega)
  told := h.told
  few := by have := h.few; omega
theorem Wkr.old {m : Md} {n i j k a : Nat} {R : List Nat} {ts : List Lk} {f : Int → Int} {c : Ins} (h : Wkr m n i j R ts f) (hk : R[i]? = some k) (hc : (unit m (k : Int)).code[j]? = some c) (ho : Cls c) (ha : c.a = (a : Int)) (hR : a ∈ R) : Wkr m n i (j + 1) R ts (fun q => if q = (a : Int) then f a + 1 else f q) where
  nodup := h.nodup
  lt := h.lt
  reach := h.reach
  head := h.head
  met := fun b => by
    obtain ⟨h1, h2, h3⟩ := h.met a
    obtain ⟨g1, g2, g3⟩ := h.met b
    by_cases e : b = a
    · subst e
      simp only [if_pos]
      exact ⟨by omega, by omega, fun _ => hR, fun _ => by omega⟩
    · have e' : ¬ (b : Int) = (a : Int) := by omega
      simp only [if_neg e']
      exact ⟨g1, by omega, g3⟩
  done := fun p k' x c' hp hx ho' => by
    by_cases e : p = i ∧ x = j
    · obtain ⟨rfl, rfl⟩ := e
      rw [hk] at hp
      cases hp
      rw [hc] at hx
      cases hx
      refine ⟨fun _ => ⟨a, hR, ha⟩, fun h1 => ?_⟩
      unfold Cls at ho
      unfold Tks at h1
      omega
    · exact h.done p k' x c' hp hx (by omega)
  told := h.told
  few := by have := h.few; omega
theorem Wkr.new {m : Md} {n i j k a : Nat} {R : List Nat} {ts : List Lk} {f : Int → Int} {c : Ins} (h : Wkr m n i j R ts f) (hk : R[i]? = some k) (hc : (unit m (k : Int)).code[j]? = some c) (ho : Cls c) (ha : c.a = (a : Int)) (hm : a < m.units.length) (hR : a ∉ R) : Wkr m n i (j + 1) (R ++ [a]) ts (fun q => if q = (a : Int) then f a + 1 else f q) where
  nodup := by
    rw [List.nodup_append]
    exact ⟨h.nodup, by simp, fun x hx y hy => by simp at hy; subst hy; exact fun e => hR (e ▸ hx)⟩
  lt := fun b hb => by
    rcases List.mem_append.1 hb with h1 | h1
    · exact h.lt b h1
    · simp at h1; omega
  reach := fun b hb => by
    rcases List.mem_append.1 hb with h1 | h1
    · exact h.reach b h1
    · simp at h1
      subst h1
      rw [← ha]
      exact .step (h.reach k (List.mem_of_getElem? hk)) (List.mem_of_getElem? hc) ho
  head := List.mem_append_left _ h.head
  met := fun b => by
    obtain ⟨h1, h2, h3⟩ := h.met a
    obtain ⟨g1, g2, g3⟩ := h.met b
    by_cases e : b = a
    · subst e
      simp only [if_pos]
      exact ⟨by omega, by omega, fun _ => by simp, fun _ => by omega⟩
    · have e' : ¬ (b : Int) = (a : Int) := by omega
      simp only [if_neg e']
      exact ⟨g1, by omega, by rw [g3]; simp [e]⟩
  done := fun p k' x c' hp hx ho' => by
    have hi : i < R.length := (List.getElem?_eq_some_iff.1 hk).1
    rw [List.getElem?_append_left (by omega)] at hp
    by_cases e : p = i ∧ x = j
    · obtain ⟨rfl, rfl⟩ := e
      rw [hk] at hp
      cases hp
      rw [hc] at hx
      cases hx
      refine ⟨fun _ => ⟨a, by simp, ha⟩, fun h1 => ?_⟩
      unfold Cls at ho
      unfold Tks at h1
      omega
    · obtain ⟨d1, d2⟩ := h.done p k' x c' hp hx (by omega)
      exact ⟨fun t => by obtain ⟨b, hb, he⟩ := d1 t; exact ⟨b, List.mem_append_left _ hb, he⟩, d2⟩
  told := fun q hq => by
    obtain ⟨t1, k', t2, t3⟩ := h.told q hq
    exact ⟨t1, k', List.mem_append_left _ t2, t3⟩
  few := by have := h.few; omega
theorem Wkr.next {m : Md} {n i j k : Nat} {R : List Nat} {ts : List Lk} {f : Int → Int} (h : Wkr m n i j R ts f) (hk : R[i]? = some k) (hj : j = (unit m (k : Int)).code.length) (h4 : j ≤ 4000) : Wkr m n (i + 1) 0 R ts f where
  nodup := h.nodup
  lt := h.lt
  reach := h.reach
  head := h.head
  met := fun a => by obtain ⟨h1, h2, h3⟩ := h.met a; exact ⟨h1, by omega, h3⟩
  done := fun p k' x c' hp hx ho' => by
    refine h.done p k' x c' hp hx ?_
    by_cases e : p = i
    · subst e
      rw [hk] at hp
      cases hp
      have := (List.getElem?_eq_some_iff.1 hx).1
      omega
    · omega
  told := h.told
  few := by have := h.few; omega
/-- WHAT HAS BEEN TOLD AT THE END is what a unit comes to. -/
theorem Wkr.all {m : Md} (hR : Rt m) {n i : Nat} {R : List Nat} {ts : List Lk} {f : Int → Int} (h : Wkr m n i 0 R ts f) (hi : R.length ≤ i) (q : Lk) : q ∈ ts ↔ (q.1 = 26 ∨ q.1 = 27) ∧ comes m n q = true := by
  have hc : ∀ k, Reach m (n : Int) k → ∃ a ∈ R, k = (a : Int) := by
    intro k hk
    induction hk with
    | here => exact ⟨n, h.head, rfl⟩
    | step _ h2 h3 ih =>
      obtain ⟨a, ha, rfl⟩ := ih
      obtain ⟨p, hp⟩ := List.getElem?_of_mem ha
      obtain ⟨x, hx⟩ := List.getElem?_of_mem h2
      exact (h.done p a x _ hp hx (.inl (by have := (List.getElem?_eq_some_iff.1 hp).1; omega))).1 h3
  constructor
  · intro hq
    obtain ⟨t1, k, t2, t3⟩ := h.told q hq
    exact ⟨t1, (comes_iff hR n t1).2 ⟨k, h.reach k t2, t3⟩⟩
  · rintro ⟨h1, h2⟩
    obtain ⟨k, hk, c, hc', rfl⟩ := (comes_iff hR n h1).1 h2
    obtain ⟨a, ha, rfl⟩ := hc k hk
    obtain ⟨p, hp⟩ := List.getElem?_of_mem ha
    obtain ⟨x, hx⟩ := List.getElem?_of_mem hc'
    exact (h.done p a x _ hp hx (.inl (by have := (List.getElem?_eq_some_iff.1 hp).1; omega))).2 h1

end Vf
end Go.Proofs.Ytbkimpimoclobaa

