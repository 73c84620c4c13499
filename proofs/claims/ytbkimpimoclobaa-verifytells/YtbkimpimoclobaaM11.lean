/- The document's own way to tell what a task comes to, plainly (for VerifyTells). -/
import Derived.Test.YtbkimpimoclobaaM10
namespace Go.Proofs.Ytbkimpimoclobaa
namespace Vf

def isCall (c : Ins) : Bool := c.op == 23 || c.op == 29
def mark (k : Nat) (s : List Bool) (c : Ins) : List Bool := if s[k]? = some true ∧ isCall c = true then s.set c.a.toNat true else s
def roundF : List Un → Nat → List Bool → List Bool
  | [], _, s => s
  | u :: us, k, s => roundF us (k + 1) (u.code.foldl (mark k) s)
def rounds (us : List Un) : Nat → List Bool → List Bool
  | 0, s => s
  | f + 1, s => rounds us f (roundF us 0 s)
/-- Which units a task comes to. -/
def inR (m : Md) (i : Nat) : List Bool := rounds m.units m.units.length ((List.replicate m.units.length false).set i true)
def comesR (m : Md) (i : Nat) (q : Lk) : Bool := (List.range m.units.length).any (fun k => (inR m i)[k]? == some true && (unit m (k : Int)).code.any (fun c => c.op == q.1 && c.a == q.2))

/-- What is true in one is so in the other. -/
structure Le (s s' : List Bool) : Prop where
  len : s'.length = s.length
  le : ∀ j : Nat, s[j]? = some true → s'[j]? = some true
theorem Le.refl (s : List Bool) : Le s s := ⟨rfl, fun _ h => h⟩
theorem Le.trans {a b c : List Bool} (h : Le a b) (k : Le b c) : Le a c := ⟨k.len.trans h.len, fun j hj => k.le j (h.le j hj)⟩
theorem mark_le (k : Nat) (s : List Bool) (c : Ins) : Le s (mark k s c) := by
  unfold mark
  split
  · refine ⟨by simp, fun j hj => ?_⟩
    have hjl := (List.getElem?_eq_some_iff.1 hj).1
    rw [List.getElem?_set]
    split
    · rename_i e
      rw [if_pos (by omega)]
    · exact hj
  · exact .refl s
theorem marks_le (k : Nat) : ∀ (cs : List Ins) (s : List Bool), Le s (cs.foldl (mark k) s)
  | [], s => .refl s
  | c :: cs, s => (mark_le k s c).trans (marks_le k cs (mark k s c))
theorem roundF_le : ∀ (us : List Un) (k : Nat) (s : List Bool), Le s (roundF us k s)
  | [], _, s => .refl s
  | u :: us, k, s => (marks_le k u.code s).trans (roundF_le us (k + 1) _)
theorem rounds_le (us : List Un) : ∀ (f : Nat) (s : List Bool), Le s (rounds us f s)
  | 0, s => .refl s
  | f + 1, s => (roundF_le us 0 s).trans (rounds_le us f _)

/-- Where all calls from what is in are in. -/
def Shut (us : List Un) (s : List Bool) : Prop := ∀ (k : Nat) (u : Un), us[k]? = some u → s[k]? = some true → ∀ c ∈ u.code, isCall c = true → c.a.toNat < s.length → s[c.a.toNat]? = some true
theorem set_same {s : List Bool} {j : Nat} (h : j < s.length → s[j]? = some true) : s.set j true = s := by
  refine List.ext_getElem? (fun i => ?_)
  rw [List.getElem?_set]
  split
  · rename_i e
    subst e
    by_cases hj : j < s.length
    · rw [if_pos hj, h hj]
    · rw [if_neg hj, List.getElem?_eq_none (by omega)]
  · rfl
theorem marks_same {k : Nat} : ∀ (cs : List Ins) (s : List Bool), (s[k]? = some true → ∀ c ∈ cs, isCall c = true → c.a.toNat < s.length → s[c.a.toNat]? = some true) → cs.foldl (mark k) s = s
  | [], _, _ => rfl
  | c :: cs, s, h => by
    have e : mark k s c = s := by
      unfold mark
      split
      · rename_i hc
        exact set_same (h hc.1 c List.mem_cons_self hc.2)
      · rfl
    show cs.foldl (mark k) (mark k s c) = s
    rw [e]
    exact marks_same cs s (fun hk c hc => h hk c (List.mem_cons_of_mem _ hc))
theorem roundF_same : ∀ (us : List Un) (k : Nat) (s : List Bool), (∀ (j : Nat) (u : Un), us[j]? = some u → s[k + j]? = some true → ∀ c ∈ u.code, isCall c = true → c.a.toNat < s.length → s[c.a.toNat]? = some true) → roundF us k s = s
  | [], _, _, _ => rfl
  | u :: us, k, s, h => by
    show roundF us (k + 1) (u.code.foldl (mark k) s) = s
    rw [marks_same (k := k) u.code s (fun hk => h 0 u rfl hk)]
    exact roundF_same us (k + 1) s (fun j v hj hk => h (j + 1) v (by simpa using hj) (by rw [show k + (j + 1) = k + 1 + j by omega]; exact hk))
theorem shut_round {us : List Un} {s : List Bool} (h : Shut us s) : roundF us 0 s = s := roundF_same us 0 s (fun j u hj hk => h j u hj (by simpa using hk))
theorem marks_hit {k : Nat} : ∀ (cs : List Ins) (s : List Bool) (c : Ins), s[k]? = some true → c ∈ cs → isCall c = true → c.a.toNat < s.length → (cs.foldl (mark k) s)[c.a.toNat]? = some true
  | x :: cs, s, c, hk, hc, hi, hl => by
    have hle := mark_le k s x
    show (cs.foldl (mark k) (mark k s x))[c.a.toNat]? = some true
    rcases List.mem_cons.1 hc with rfl | hc
    · refine (marks_le k cs _).le _ ?_
      unfold mark
      rw [if_pos ⟨hk, hi⟩, List.getElem?_set_self hl]
    · exact marks_hit cs _ c (hle.le k hk) hc hi (by rw [hle.len]; exact hl)
theorem roundF_hit : ∀ (us : List Un) (k : Nat) (s : List Bool) (j : Nat) (u : Un) (c : Ins), us[j]? = some u → s[k + j]? = some true → c ∈ u.code → isCall c = true → c.a.toNat < s.length → (roundF us k s)[c.a.toNat]? = some true
  | v :: us, k, s, 0, u, c, hu, hk, hc, hi, hl => by
    simp at hu
    subst hu
    exact (roundF_le us (k + 1) _).le _ (marks_hit v.code s c hk hc hi hl)
  | v :: us, k, s, j + 1, u, c, hu, hk, hc, hi, hl => by
    have hle := marks_le k v.code s
    exact roundF_hit us (k + 1) _ j u c (by simpa using hu) (hle.le _ (by rw [show k + 1 + j = k + (j + 1) by omega]; exact hk)) hc hi (by rw [hle.len]; exact hl)

def cntT (s : List Bool) : Nat := s.countP id
theorem cntT_le (s : List Bool) : cntT s ≤ s.length := List.countP_le_length
theorem cntT_mono : ∀ {s s' : List Bool}, Le s s' → cntT s ≤ cntT s'
  | [], s', h => by simp [cntT]
  | b :: s, [], h => by have := h.len; simp at this
  | b :: s, b' :: s', h => by
    have ht : Le s s' := ⟨by have := h.len; simpa using this, fun j hj => by have := h.le (j + 1) (by simpa using hj); simpa using this⟩
    have ih := cntT_mono ht
    have h0 := h.le 0
    unfold cntT at ih ⊢
    cases b <;> cases b' <;> simp at h0 ⊢ <;> omega
theorem cntT_lt : ∀ {s s' : List Bool} {j : Nat}, Le s s' → s[j]? = some false → s'[j]? = some true → cntT s + 1 ≤ cntT s'
  | [], s', j, _, h1, _ => by simp at h1
  | b :: s, [], j, h, _, _ => by have := h.len; simp at this
  | b :: s, b' :: s', 0, h, h1, h2 => by
    have ht : Le s s' := ⟨by have := h.len; simpa using this, fun j hj => by have := h.le (j + 1) (by simpa using hj); simpa using this⟩
    have ih := cntT_mono ht
    simp at h1 h2
    subst h1 h2
    unfold cntT at ih ⊢
    simp
    omega
  | b :: s, b' :: s', j + 1, h, h1, h2 => by
    have ht : Le s s' := ⟨by have := h.len; simpa using this, fun j hj => by have := h.le (j + 1) (by simpa using hj); simpa using this⟩
    have ih := cntT_lt ht (j := j) (by simpa using h1) (by simpa using h2)
    have h0 := h.le 0
    unfold cntT at ih ⊢
    cases b <;> cases b' <;> simp at h0 ⊢ <;> omega
theorem round_or (us : List Un) (s : List Bool) : Shut us s ∨ cntT s + 1 ≤ cntT (roundF us 0 s) := by
  by_cases h : Shut us s
  · exact .inl h
  · right
    unfold Shut at h
    simp only [Classical.not_forall] at h
    obtain ⟨k, u, hu, hk, c, hc, hi, hl, hn⟩ := h
    have hf : s[c.a.toNat]? = some false := by
      rw [List.getElem?_eq_getElem hl] at hn ⊢
      cases hv : s[c.a.toNat]
      · rfl
      · rw [hv] at hn; exact absurd rfl hn
    exact cntT_lt (roundF_le us 0 s) hf (roundF_hit us 0 s k u c hu (by simpa using hk) hc hi hl)
theorem rounds_or (us : List Un) : ∀ (f : Nat) (s : List Bool), Shut us (rounds us f s) ∨ cntT s + f ≤ cntT (rounds us f s)
  | 0, s => .inr (Nat.le_refl _)
  | f + 1, s => by
    rcases round_or us s with h | h
    · left
      show Shut us (rounds us f (roundF us 0 s))
      rw [shut_round h]
      have : ∀ g, rounds us g s = s := by
        intro g
        induction g with
        | zero => rfl
        | succ g ih => show rounds us g (roundF us 0 s) = s; rw [shut_round h]; exact ih
      rw [this]
      exact h
    · rcases rounds_or us f (roundF us 0 s) with h1 | h1
      · exact .inl h1
      · right
        show cntT s + (f + 1) ≤ cntT (rounds us f (roundF us 0 s))
        omega

theorem set_get {s : List Bool} {i j : Nat} (h : (s.set i true)[j]? = some true) : (j = i ∧ i < s.length) ∨ s[j]? = some true := by
  rw [List.getElem?_set] at h
  split at h
  · rename_i e
    split at h
    · exact .inl ⟨e.symm, by assumption⟩
    · cases h
  · exact .inr h
/-- All that is in is come to. -/
def Snd (m : Md) (i : Int) (s : List Bool) : Prop := ∀ j : Nat, s[j]? = some true → Reach m i (j : Int)
theorem marks_snd {m : Md} {i : Int} {k : Nat} : ∀ (cs : List Ins) (s : List Bool), (∀ c ∈ cs, c ∈ (unit m (k : Int)).code ∧ (isCall c = true → 0 ≤ c.a)) → Snd m i s → Snd m i (cs.foldl (mark k) s)
  | [], _, _, h => h
  | c :: cs, s, hcs, h => by
    refine marks_snd cs (mark k s c) (fun c hc => hcs c (List.mem_cons_of_mem _ hc)) ?_
    intro j hj
    unfold mark at hj
    split at hj
    · rename_i hc
      rcases set_get hj with ⟨e, _⟩ | h1
      · have hcc := hcs c List.mem_cons_self
        have h0 := hcc.2 hc.2
        have ho : c.op = 23 ∨ c.op = 29 := by have := hc.2; unfold isCall at this; simpa using this
        rw [e, show ((c.a.toNat : Nat) : Int) = c.a by omega]
        exact .step (h k hc.1) hcc.1 ho
      · exact h j h1
    · exact h j hj
theorem roundF_snd {m : Md} {i : Int} : ∀ (us : List Un) (k : Nat) (s : List Bool), (∀ (j : Nat) u, us[j]? = some u → unit m ((k + j : Nat) : Int) = u ∧ ∀ c ∈ u.code, isCall c = true → 0 ≤ c.a) → Snd m i s → Snd m i (roundF us k s)
  | [], _, _, _, h => h
  | u :: us, k, s, hu, h => by
    have h0 := hu 0 u rfl
    refine roundF_snd us (k + 1) _ (fun j v hj => by rw [show k + 1 + j = k + (j + 1) by omega]; exact hu (j + 1) v (by simpa using hj)) (marks_snd u.code s (fun c hc => ⟨?_, h0.2 c hc⟩) h)
    have e : unit m (k : Int) = u := by simpa using h0.1
    rw [e]
    exact hc
theorem rounds_snd {m : Md} {i : Int} (us : List Un) (hu : ∀ (j : Nat) u, us[j]? = some u → unit m (j : Int) = u ∧ ∀ c ∈ u.code, isCall c = true → 0 ≤ c.a) : ∀ (f : Nat) (s : List Bool), Snd m i s → Snd m i (rounds us f s)
  | 0, _, h => h
  | f + 1, s, h => rounds_snd us hu f _ (roundF_snd us 0 s (fun j u hj => by simpa using hu j u hj) h)

theorem calls_in {m : Md} (hR : Rt m) {k : Nat} {u : Un} (hu : m.units[k]? = some u) {c : Ins} (hc : c ∈ u.code) (ho : isCall c = true) : 0 ≤ c.a ∧ c.a.toNat < m.units.length := by
  have h1 : c.op = 23 ∨ c.op = 29 := by unfold isCall at ho; simpa using ho
  obtain ⟨kd, _, hi⟩ := call_is ((hR.heads k u hu).2 c hc) h1
  obtain ⟨x, h3, _, h4⟩ := is_some hi
  exact ⟨h4, (List.getElem?_eq_some_iff.1 h3).1⟩
theorem unit_at {m : Md} {k : Nat} {u : Un} (hu : m.units[k]? = some u) : unit m (k : Int) = u := by
  unfold unit
  rw [show ((k : Nat) : Int).toNat = k by omega, hu]
  rfl
/-- Which units one comes to. -/
theorem inR_iff {m : Md} (hR : Rt m) {i : Nat} (hi : i < m.units.length) (k : Nat) : (inR m i)[k]? = some true ↔ k < m.units.length ∧ Reach m (i : Int) (k : Int) := by
  have hlen : (inR m i).length = m.units.length := by
    have := (rounds_le m.units m.units.length ((List.replicate m.units.length false).set i true)).len
    unfold inR
    rw [this]
    simp
  constructor
  · intro h
    refine ⟨by rw [← hlen]; exact (List.getElem?_eq_some_iff.1 h).1, ?_⟩
    refine rounds_snd m.units (fun j u hj => ⟨unit_at hj, fun c hc ho => (calls_in hR hj hc ho).1⟩) _ _ ?_ k h
    intro j hj
    rcases set_get hj with ⟨e, _⟩ | h1
    · rw [e]; exact .here _
    · rw [List.getElem?_replicate] at h1
      split at h1 <;> simp at h1
  · rintro ⟨hk, hr⟩
    have h0 : (inR m i)[i]? = some true := (rounds_le m.units _ _).le i (by rw [List.getElem?_set_self (by simpa using hi)])
    have hsh : Shut m.units (inR m i) := by
      rcases rounds_or m.units m.units.length ((List.replicate m.units.length false).set i true) with h | h
      · exact h
      · exfalso
        have h1 := cntT_le (inR m i)
        have h2 : 1 ≤ cntT ((List.replicate m.units.length false).set i true) := by
          have := cntT_lt (s := List.replicate m.units.length false) (s' := (List.replicate m.units.length false).set i true) (j := i) ⟨by simp, fun j hj => by rw [List.getElem?_replicate] at hj; split at hj <;> simp at hj⟩ (by rw [List.getElem?_replicate, if_pos hi]) (by rw [List.getElem?_set_self (by simpa using hi)])
          omega
        rw [hlen] at h1
        unfold inR at h1
        omega
    have all : ∀ k', Reach m (i : Int) k' → ∃ k : Nat, k' = k ∧ (inR m i)[k]? = some true := by
      intro k' hr
      induction hr with
      | here => exact ⟨i, rfl, h0⟩
      | @step k0 c _ h2 h3 ih =>
        obtain ⟨k, rfl, hin⟩ := ih
        have hkl : k < m.units.length := by rw [← hlen]; exact (List.getElem?_eq_some_iff.1 hin).1
        have hu := List.getElem?_eq_getElem hkl
        rw [unit_at hu] at h2
        have ho : isCall c = true := by unfold isCall; simpa using h3
        obtain ⟨h5, h6⟩ := calls_in hR hu h2 ho
        exact ⟨_, (Int.toNat_of_nonneg h5).symm, hsh k _ hu hin _ h2 ho (by rw [hlen]; exact h6)⟩
    obtain ⟨k2, e, h⟩ := all _ hr
    have : k2 = k := by omega
    rw [← this]
    exact h
/-- BOTH TELL THE SAME. -/
theorem comesR_eq {m : Md} (hR : Rt m) {i : Nat} (hi : i < m.units.length) {q : Lk} (hq : q.1 = 26 ∨ q.1 = 27) : comesR m i q = comes m i q := by
  rw [Bool.eq_iff_iff, comes_iff hR i hq]
  unfold comesR
  simp only [List.any_eq_true, List.mem_range, Bool.and_eq_true, beq_iff_eq]
  constructor
  · rintro ⟨k, _, h1, c, hc, h2, h3⟩
    exact ⟨(k : Int), ((inR_iff hR hi k).1 h1).2, c, hc, by rw [h2, h3]⟩
  · rintro ⟨k', hr, c, hc, e⟩
    have hk : ∃ k : Nat, k' = k ∧ k < m.units.length := by
      cases hr with
      | here => exact ⟨i, rfl, hi⟩
      | @step k c' h1 h2 h3 =>
        have hu := unit_in hR k
        obtain ⟨kd, _, his⟩ := call_is (hu.2 _ h2) h3
        obtain ⟨x, h4, _, h5⟩ := is_some his
        exact ⟨c'.a.toNat, (Int.toNat_of_nonneg h5).symm, (List.getElem?_eq_some_iff.1 h4).1⟩
    obtain ⟨k, rfl, hkl⟩ := hk
    exact ⟨k, hkl, (inR_iff hR hi k).2 ⟨hkl, hr⟩, c, hc, by rw [← e], by rw [← e]⟩
end Vf
end Go.Proofs.Ytbkimpimoclobaa

/- What a row of units to be gone through has told, plainly. -/
namespace Go.Proofs.Ytbkimpimoclobaa
namespace Vf

def Tks (c : Ins) : Prop := c.op = 26 ∨ c.op = 27
def Cls (c : Ins) : Prop := c.op = 23 ∨ c.op = 29
/-- Units gone through up to the i-th, and j instructions of that: R the row, ts what was told, f how often a unit was met. -/
structure Wkr (m : Md) (n i j : Nat) (R : List Nat) (ts : List Lk) (f : Int → Int) : Prop where
  nodup : R.Nodup
  lt : ∀ a ∈ R, a < m.units.length
  reach : ∀ a ∈ R, Reach m (n : Int) (a : Int)
  head : n ∈ R
  met : ∀ a : Nat, 0 ≤ f a ∧ f a ≤ 1 + 4000 * i + j ∧ (1 ≤ f a ↔ a ∈ R)
  done : ∀ (p k x : Nat) (c : Ins), R[p]? = some k → (unit m (k : Int)).code[x]? = some c → (p < i ∨ p = i ∧ x < j) → (Cls c → ∃ a ∈ R, c.a = (a : Int)) ∧ (Tks c → (c.op, c.a) ∈ ts)
  told : ∀ q ∈ ts, (q.1 = 26 ∨ q.1 = 27) ∧ ∃ k ∈ R, ∃ c ∈ (unit m (k : Int)).code, (c.op, c.a) = q
  few : ts.length ≤ 4000 * i + j
theorem Wkr.start {m : Md} {n : Nat} (hn : n < m.units.length) : Wkr m n 0 0 [n] [] (fun a => if a = (n : Int) then 1 else 0) where
  nodup := by simp
  lt := fun a ha => by simp at ha; omega
  reach := fun a ha => by simp at ha; subst ha; exact .here _
  head := by simp
  met := fun a => by
    by_cases h : a = n
    · subst h; simp
    · have e : ¬ (a : Int) = (n : Int) := by omega
      simp [h, e]
  done := fun p k x c _ _ h => by omega
  told := fun q hq => by cases hq
  few := by simp
theorem Wkr.len {m : Md} {n i j : Nat} {R : List Nat} {ts : List Lk} {f : Int → Int} (h : Wkr m n i j R ts f) : R.length ≤ m.units.length := by
  have := List.Nodup.length_le_of_subset (l₂ := List.range m.units.length) h.nodup (fun a ha => List.mem_range.2 (h.lt a ha))
  simpa using this
theorem Wkr.talk {m : Md} {n i j k : Nat} {R : List Nat} {ts : List Lk} {f : Int → Int} {c : Ins} (h : Wkr m n i j R ts f) (hk : R[i]? = some k) (hc : (unit m (k : Int)).code[j]? = some c) (ho : Tks c) : Wkr m n i (j + 1) R (ts ++ [(c.op, c.a)]) f where
  nodup := h.nodup
  lt := h.lt
  reach := h.reach
  head := h.head
  met := fun a => by obtain ⟨h1, h2, h3⟩ := h.met a; exact ⟨h1, by omega, h3⟩
  done := fun p k' x c' hp hx ho' => by
    by_cases e : p = i ∧ x = j
    · obtain ⟨rfl, rfl⟩ := e
      rw [hk] at hp
      cases hp
      rw [hc] at hx
      cases hx
      refine ⟨fun h1 => ?_, fun _ => by simp⟩
      unfold Cls at h1
      unfold Tks at ho
      omega
    · obtain ⟨d1, d2⟩ := h.done p k' x c' hp hx (by omega)
      exact ⟨d1, fun t => List.mem_append_left _ (d2 t)⟩
  told := fun q hq => by
    rcases List.mem_append.1 hq with h1 | h1
    · exact h.told q h1
    · simp at h1
      subst h1
      exact ⟨ho, k, List.mem_of_getElem? hk, c, List.mem_of_getElem? hc, rfl⟩
  few := by have := h.few; simp; omega
theorem Wkr.quiet {m : Md} {n i j k : Nat} {R : List Nat} {ts : List Lk} {f : Int → Int} {c : Ins} (h : Wkr m n i j R ts f) (hk : R[i]? = some k) (hc : (unit m (k : Int)).code[j]? = some c) (ho : ¬ Tks c) (ho2 : ¬ Cls c) : Wkr m n i (j + 1) R ts f where
  nodup := h.nodup
  lt := h.lt
  reach := h.reach
  head := h.head
  met := fun a => by obtain ⟨h1, h2, h3⟩ := h.met a; exact ⟨h1, by omega, h3⟩
  done := fun p k' x c' hp hx ho' => by
    by_cases e : p = i ∧ x = j
    · obtain ⟨rfl, rfl⟩ := e
      rw [hk] at hp
      cases hp
      rw [hc] at hx
      cases hx
      exact ⟨fun h1 => absurd h1 ho2, fun h1 => absurd h1 ho⟩
    · exact h.done p k' x c' hp hx (by omega)
  told := h.told
  few := by have := h.few; omega
theorem Wkr.old {m : Md} {n i j k a : Nat} {R : List Nat} {ts : List Lk} {f : Int → Int} {c : Ins} (h : Wkr m n i j R ts f) (hk : R[i]? = some k) (hc : (unit m (k : Int)).code[j]? = some c) (ho : Cls c) (ha : c.a = (a : Int)) (hR : a ∈ R) : Wkr m n i (j + 1) R ts (fun q => if q = (a : Int) then f a + 1 else f q) where
  nodup := h.nodup
  lt := h.lt
  reach := h.reach
  head := h.head
  met := fun b => by
    obtain ⟨h1, h2, h3⟩ := h.met a
    obtain ⟨g1, g2, g3⟩ := h.met b
    by_cases e : b = a
    · subst e
      simp only [if_pos]
      exact ⟨by omega, by omega, fun _ => hR, fun _ => by omega⟩
    · have e' : ¬ (b : Int) = (a : Int) := by omega
      simp only [if_neg e']
      exact ⟨g1, by omega, g3⟩
  done := fun p k' x c' hp hx ho' => by
    by_cases e : p = i ∧ x = j
    · obtain ⟨rfl, rfl⟩ := e
      rw [hk] at hp
      cases hp
      rw [hc] at hx
      cases hx
      refine ⟨fun _ => ⟨a, hR, ha⟩, fun h1 => ?_⟩
      unfold Cls at ho
      unfold Tks at h1
      omega
    · exact h.done p k' x c' hp hx (by omega)
  told := h.told
  few := by have := h.few; omega
theorem Wkr.new {m : Md} {n i j k a : Nat} {R : List Nat} {ts : List Lk} {f : Int → Int} {c : Ins} (h : Wkr m n i j R ts f) (hk : R[i]? = some k) (hc : (unit m (k : Int)).code[j]? = some c) (ho : Cls c) (ha : c.a = (a : Int)) (hm : a < m.units.length) (hR : a ∉ R) : Wkr m n i (j + 1) (R ++ [a]) ts (fun q => if q = (a : Int) then f a + 1 else f q) where
  nodup := by
    rw [List.nodup_append]
    exact ⟨h.nodup, by simp, fun x hx y hy => by simp at hy; subst hy; exact fun e => hR (e ▸ hx)⟩
  lt := fun b hb => by
    rcases List.mem_append.1 hb with h1 | h1
    · exact h.lt b h1
    · simp at h1; omega
  reach := fun b hb => by
    rcases List.mem_append.1 hb with h1 | h1
    · exact h.reach b h1
    · simp at h1
      subst h1
      rw [← ha]
      exact .step (h.reach k (List.mem_of_getElem? hk)) (List.mem_of_getElem? hc) ho
  head := List.mem_append_left _ h.head
  met := fun b => by
    obtain ⟨h1, h2, h3⟩ := h.met a
    obtain ⟨g1, g2, g3⟩ := h.met b
    by_cases e : b = a
    · subst e
      simp only [if_pos]
      exact ⟨by omega, by omega, fun _ => by simp, fun _ => by omega⟩
    · have e' : ¬ (b : Int) = (a : Int) := by omega
      simp only [if_neg e']
      exact ⟨g1, by omega, by rw [g3]; simp [e]⟩
  done := fun p k' x c' hp hx ho' => by
    have hi : i < R.length := (List.getElem?_eq_some_iff.1 hk).1
    rw [List.getElem?_append_left (by omega)] at hp
    by_cases e : p = i ∧ x = j
    · obtain ⟨rfl, rfl⟩ := e
      rw [hk] at hp
      cases hp
      rw [hc] at hx
      cases hx
      refine ⟨fun _ => ⟨a, by simp, ha⟩, fun h1 => ?_⟩
      unfold Cls at ho
      unfold Tks at h1
      omega
    · obtain ⟨d1, d2⟩ := h.done p k' x c' hp hx (by omega)
      exact ⟨fun t => by obtain ⟨b, hb, he⟩ := d1 t; exact ⟨b, List.mem_append_left _ hb, he⟩, d2⟩
  told := fun q hq => by
    obtain ⟨t1, k', t2, t3⟩ := h.told q hq
    exact ⟨t1, k', List.mem_append_left _ t2, t3⟩
  few := by have := h.few; omega
theorem Wkr.next {m : Md} {n i j k : Nat} {R : List Nat} {ts : List Lk} {f : Int → Int} (h : Wkr m n i j R ts f) (hk : R[i]? = some k) (hj : j = (unit m (k : Int)).code.length) (h4 : j ≤ 4000) : Wkr m n (i + 1) 0 R ts f where
  nodup := h.nodup
  lt := h.lt
  reach := h.reach
  head := h.head
  met := fun a => by obtain ⟨h1, h2, h3⟩ := h.met a; exact ⟨h1, by omega, h3⟩
  done := fun p k' x c' hp hx ho' => by
    refine h.done p k' x c' hp hx ?_
    by_cases e : p = i
    · subst e
      rw [hk] at hp
      cases hp
      have := (List.getElem?_eq_some_iff.1 hx).1
      omega
    · omega
  told := h.told
  few := by have := h.few; omega
/-- WHAT HAS BEEN TOLD AT THE END is what a unit comes to. -/
theorem Wkr.all {m : Md} (hR : Rt m) {n i : Nat} {R : List Nat} {ts : List Lk} {f : Int → Int} (h : Wkr m n i 0 R ts f) (hi : R.length ≤ i) (q : Lk) : q ∈ ts ↔ (q.1 = 26 ∨ q.1 = 27) ∧ comes m n q = true := by
  have hc : ∀ k, Reach m (n : Int) k → ∃ a ∈ R, k = (a : Int) := by
    intro k hk
    induction hk with
    | here => exact ⟨n, h.head, rfl⟩
    | step _ h2 h3 ih =>
      obtain ⟨a, ha, rfl⟩ := ih
      obtain ⟨p, hp⟩ := List.getElem?_of_mem ha
      obtain ⟨x, hx⟩ := List.getElem?_of_mem h2
      exact (h.done p a x _ hp hx (.inl (by have := (List.getElem?_eq_some_iff.1 hp).1; omega))).1 h3
  constructor
  · intro hq
    obtain ⟨t1, k, t2, t3⟩ := h.told q hq
    exact ⟨t1, (comes_iff hR n t1).2 ⟨k, h.reach k t2, t3⟩⟩
  · rintro ⟨h1, h2⟩
    obtain ⟨k, hk, c, hc', rfl⟩ := (comes_iff hR n h1).1 h2
    obtain ⟨a, ha, rfl⟩ := hc k hk
    obtain ⟨p, hp⟩ := List.getElem?_of_mem ha
    obtain ⟨x, hx⟩ := List.getElem?_of_mem hc'
    exact (h.done p a x _ hp hx (.inl (by have := (List.getElem?_eq_some_iff.1 hp).1; omega))).2 h1

end Vf
end Go.Proofs.Ytbkimpimoclobaa

