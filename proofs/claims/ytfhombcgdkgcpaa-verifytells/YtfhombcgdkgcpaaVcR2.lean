/- What is gathered from a unit on is what one comes to from there, plainly (for VerifyTells). -/
import Derived.Test.YtfhombcgdkgcpaaVcT2
namespace Go.Proofs.Ytfhombcgdkgcpaa
namespace Vf

def Kops (c : Ins) : Prop := c.op = 23 ∨ c.op = 26 ∨ c.op = 27 ∨ c.op = 29
/-- All that was there is there still; whatever call is new has all of its unit's. -/
structure Cl (m : Md) (l l' : LL) : Prop where
  mono : ∀ q, 1 ≤ cnt q l → 1 ≤ cnt q l'
  done : ∀ op a, op = 23 ∨ op = 29 → ¬ 1 ≤ cnt (op, a) l → 1 ≤ cnt (op, a) l' → ∀ c ∈ (unit m a).code, Kops c → 1 ≤ cnt (c.op, c.a) l'
theorem Cl.refl (m : Md) (l : LL) : Cl m l l := ⟨fun _ h => h, fun _ _ _ hn hy => absurd hy hn⟩
theorem Cl.trans {m : Md} {l l1 l2 : LL} (h : Cl m l l1) (k : Cl m l1 l2) : Cl m l l2 := ⟨fun q hq => k.mono q (h.mono q hq), fun op a ho hn hy c hc hk => by
  by_cases h1 : 1 ≤ cnt (op, a) l1
  · exact k.mono _ (h.done op a ho hn h1 c hc hk)
  · exact k.done op a ho h1 hy c hc hk⟩
theorem bump_in {l : LL} (hl : Wl l) (k : Lk) : 1 ≤ cnt k (bump k l) := by
  rw [cnt_bump, if_pos rfl]
  have := cnt_nn hl k
  omega
theorem bump_mono {l : LL} (hl : Wl l) (k q : Lk) (h : 1 ≤ cnt q l) : 1 ≤ cnt q (bump k l) := by
  rw [cnt_bump]
  split
  · have := cnt_nn hl k; omega
  · exact h
theorem bump_old {l : LL} {k q : Lk} (h : 1 ≤ cnt q (bump k l)) (hn : ¬ 1 ≤ cnt q l) : q = k := by
  rw [cnt_bump] at h
  split at h
  · assumption
  · exact absurd h hn
theorem call_univ {m : Md} {u : Un} {c : Ins} (hR : Rt m) (hf : formE m u c = 0) (h : c.op = 23 ∨ c.op = 29) : (c.op, c.a) ∈ univ := by
  obtain ⟨kd, _, hi⟩ := call_is hf h
  obtain ⟨x, h3, _, h4⟩ := is_some hi
  have := (List.getElem?_eq_some_iff.1 h3).1
  have h5 := hR.units
  obtain ⟨k, hk⟩ : ∃ k : Nat, c.a = k := ⟨c.a.toNat, by omega⟩
  rw [hk]
  exact univ_mem h (by omega)

theorem gstep_cl {m : Md} {u : Un} {c : Ins} {f : Nat} {l : LL} (hR : Rt m) (hf : formE m u c = 0) (hl : Wl l) (hm : mus l ≤ f)
    (ih : ∀ n l, Wl l → mus l + 1 ≤ f → Cl m l (gat m f n l) ∧ ∀ c ∈ (unit m n).code, Kops c → 1 ≤ cnt (c.op, c.a) (gat m f n l)) : Cl m l (gstep (gat m f) c l) ∧ (Kops c → 1 ≤ cnt (c.op, c.a) (gstep (gat m f) c l)) := by
  unfold gstep
  by_cases h1 : c.op = 26 ∨ c.op = 27
  · rw [if_pos h1]
    refine ⟨⟨fun q hq => bump_mono hl _ q hq, fun op a ho hn hy => ?_⟩, fun _ => bump_in hl _⟩
    have e := bump_old hy hn
    simp only [Prod.mk.injEq] at e
    omega
  · rw [if_neg h1]
    by_cases h2 : c.op = 23 ∨ c.op = 29
    · rw [if_pos h2]
      by_cases h0 : cnt (c.op, c.a) l = 0
      · rw [if_pos h0]
        have hn := mus_new hl (call_univ hR hf h2) h0
        obtain ⟨hC, hB⟩ := ih c.a (bump (c.op, c.a) l) (hl.bump _) (by omega)
        refine ⟨⟨fun q hq => hC.mono q (bump_mono hl _ q hq), fun op a ho hno hy => ?_⟩, fun _ => hC.mono _ (bump_in hl _)⟩
        by_cases hb : 1 ≤ cnt (op, a) (bump (c.op, c.a) l)
        · have e := bump_old hb hno
          simp only [Prod.mk.injEq] at e
          rw [e.2]
          exact hB
        · exact hC.done op a ho hb hy
      · rw [if_neg h0]
        have hp : 1 ≤ cnt (c.op, c.a) l := by have := cnt_nn hl (c.op, c.a); omega
        refine ⟨⟨fun q hq => bump_mono hl _ q hq, fun op a ho hno hy => ?_⟩, fun _ => bump_in hl _⟩
        have e := bump_old hy hno
        rw [e] at hno
        exact absurd hp hno
    · rw [if_neg h2]
      refine ⟨Cl.refl m l, fun hk => ?_⟩
      unfold Kops at hk
      omega
theorem gatC_cl {m : Md} {u : Un} {f : Nat} (hR : Rt m) (ih : ∀ n l, Wl l → mus l + 1 ≤ f → Cl m l (gat m f n l) ∧ ∀ c ∈ (unit m n).code, Kops c → 1 ≤ cnt (c.op, c.a) (gat m f n l)) : ∀ (cs : List Ins) (l : LL), (∀ c ∈ cs, formE m u c = 0) → Wl l → mus l ≤ f → Cl m l (gatC (gat m f) cs l) ∧ ∀ c ∈ cs, Kops c → 1 ≤ cnt (c.op, c.a) (gatC (gat m f) cs l)
  | [], l, _, _, _ => ⟨Cl.refl m l, fun c hc => by cases hc⟩
  | c :: cs, l, hf, hl, hm => by
    have h1 := gstep_cl hR (hf c List.mem_cons_self) hl hm ih
    have hg := gstep_gd hR.units (hf c List.mem_cons_self) hl (gat_gd hR f)
    have h2 := gatC_cl hR ih cs (gstep (gat m f) c l) (fun c hc => hf c (List.mem_cons_of_mem _ hc)) hg.wl (Nat.le_trans hg.mus hm)
    have e : gatC (gat m f) (c :: cs) l = gatC (gat m f) cs (gstep (gat m f) c l) := rfl
    rw [e]
    refine ⟨h1.1.trans h2.1, fun c' hc' hk => ?_⟩
    rcases List.mem_cons.1 hc' with rfl | h3
    · exact h2.1.mono _ (h1.2 hk)
    · exact h2.2 c' h3 hk
theorem gat_cl {m : Md} (hR : Rt m) : ∀ (f : Nat) (n : Int) (l : LL), Wl l → mus l + 1 ≤ f → Cl m l (gat m f n l) ∧ ∀ c ∈ (unit m n).code, Kops c → 1 ≤ cnt (c.op, c.a) (gat m f n l)
  | 0, _, _, _, h => by omega
  | f + 1, n, l, hl, h => gatC_cl (u := unit m n) hR (gat_cl hR f) (unit m n).code l (unit_in hR n).2 hl (by omega)

/-- One comes from a unit to a unit. -/
inductive Reach (m : Md) : Int → Int → Prop
  | here (n : Int) : Reach m n n
  | step {n k : Int} {c : Ins} : Reach m n k → c ∈ (unit m k).code → c.op = 23 ∨ c.op = 29 → Reach m n c.a
theorem Reach.head {m : Md} {n k : Int} {c : Ins} (hc : c ∈ (unit m n).code) (ho : c.op = 23 ∨ c.op = 29) (h : Reach m c.a k) : Reach m n k := by
  induction h with
  | here => exact .step (.here n) hc ho
  | step _ h2 h3 ih => exact .step ih h2 h3

theorem gat_sound {m : Md} (q : Lk) : ∀ (f : Nat) (n : Int) (l : LL), 1 ≤ cnt q (gat m f n l) → 1 ≤ cnt q l ∨ ∃ k, Reach m n k ∧ ∃ c ∈ (unit m k).code, (c.op, c.a) = q
  | 0, _, _, h => .inl h
  | f + 1, n, l, h => by
    have key : ∀ (cs : List Ins) (l : LL), (∀ c ∈ cs, c ∈ (unit m n).code) → 1 ≤ cnt q (gatC (gat m f) cs l) → 1 ≤ cnt q l ∨ ∃ k, Reach m n k ∧ ∃ c ∈ (unit m k).code, (c.op, c.a) = q := by
      intro cs
      induction cs with
      | nil => intro l _ h; exact .inl h
      | cons c cs ih =>
        intro l hcs h
        have hc := hcs c List.mem_cons_self
        rcases ih (gstep (gat m f) c l) (fun c hc => hcs c (List.mem_cons_of_mem _ hc)) h with h1 | h1
        · have hb : 1 ≤ cnt q (bump (c.op, c.a) l) → 1 ≤ cnt q l ∨ ∃ k, Reach m n k ∧ ∃ c ∈ (unit m k).code, (c.op, c.a) = q := fun hb => by
            by_cases hq : 1 ≤ cnt q l
            · exact .inl hq
            · exact .inr ⟨n, .here n, c, hc, (bump_old hb hq).symm⟩
          unfold gstep at h1
          split at h1
          · exact hb h1
          · split at h1
            · rename_i h2
              split at h1
              · rcases gat_sound q f c.a _ h1 with h3 | ⟨k, h3, h4⟩
                · exact hb h3
                · exact .inr ⟨k, Reach.head hc h2 h3, h4⟩
              · exact hb h1
            · exact .inl h1
        · exact .inr h1
    exact key _ l (fun c hc => hc) h
/-- WHAT A UNIT COMES TO. -/
theorem comes_iff {m : Md} (hR : Rt m) (i : Nat) {q : Lk} (hq : q.1 = 26 ∨ q.1 = 27) : comes m i q = true ↔ ∃ k, Reach m (i : Int) k ∧ ∃ c ∈ (unit m k).code, (c.op, c.a) = q := by
  unfold comes
  rw [decide_eq_true_iff]
  constructor
  · intro h
    rcases gat_sound q 61 (i : Int) [] h with h1 | h1
    · exfalso
      simp [cnt, idx] at h1
    · exact h1
  · rintro ⟨k, hk, c, hc, rfl⟩
    obtain ⟨hC, hB⟩ := gat_cl hR 61 (i : Int) [] Wl.nil (by rw [mus_nil]; omega)
    have all : ∀ k, Reach m (i : Int) k → ∀ c ∈ (unit m k).code, Kops c → 1 ≤ cnt (c.op, c.a) (gat m 61 (i : Int) []) := by
      intro k hk
      induction hk with
      | here => exact hB
      | step _ h2 h3 ih =>
        refine hC.done _ _ h3 (by simp [cnt, idx]) (ih _ h2 ?_)
        unfold Kops
        omega
    exact all k hk c hc (by unfold Kops; simp at hq; omega)

end Vf
end Go.Proofs.Ytfhombcgdkgcpaa
/- The document's own way to tell what a task comes to, plainly (for VerifyTells). -/
namespace Go.Proofs.Ytfhombcgdkgcpaa
namespace Vf

def isCall (c : Ins) : Bool := c.op == 23 || c.op == 29
def mark (k : Nat) (s : List Bool) (c : Ins) : List Bool := if s[k]? = some true ∧ isCall c = true then s.set c.a.toNat true else s
def roundF : List Un → Nat → List Bool → List Bool
  | [], _, s => s
  | u :: us, k, s => roundF us (k + 1) (u.code.foldl (mark k) s)
def rounds (us : List Un) : Nat → List Bool → List Bool
  | 0, s => s
  | f + 1, s => rounds us f (roundF us 0 s)
/-- Which units a task comes to. -/
def inR (m : Md) (i : Nat) : List Bool := rounds m.units m.units.length ((List.replicate m.units.length false).set i true)
def comesR (m : Md) (i : Nat) (q : Lk) : Bool := (List.range m.units.length).any (fun k => (inR m i)[k]? == some true && (unit m (k : Int)).code.any (fun c => c.op == q.1 && c.a == q.2))

/-- What is true in one is so in the other. -/
structure Le (s s' : List Bool) : Prop where
  len : s'.length = s.length
  le : ∀ j : Nat, s[j]? = some true → s'[j]? = some true
theorem Le.refl (s : List Bool) : Le s s := ⟨rfl, fun _ h => h⟩
theorem Le.trans {a b c : List Bool} (h : Le a b) (k : Le b c) : Le a c := ⟨k.len.trans h.len, fun j hj => k.le j (h.le j hj)⟩
theorem mark_le (k : Nat) (s : List Bool) (c : Ins) : Le s (mark k s c) := by
  unfold mark
  split
  · refine ⟨by simp, fun j hj => ?_⟩
    have hjl := (List.getElem?_eq_some_iff.1 hj).1
    rw [List.getElem?_set]
    split
    · rename_i e
      rw [if_pos (by omega)]
    · exact hj
  · exact .refl s
theorem marks_le (k : Nat) : ∀ (cs : List Ins) (s : List Bool), Le s (cs.foldl (mark k) s)
  | [], s => .refl s
  | c :: cs, s => (mark_le k s c).trans (marks_le k cs (mark k s c))
theorem roundF_le : ∀ (us : List Un) (k : Nat) (s : List Bool), Le s (roundF us k s)
  | [], _, s => .refl s
  | u :: us, k, s => (marks_le k u.code s).trans (roundF_le us (k + 1) _)
theorem rounds_le (us : List Un) : ∀ (f : Nat) (s : List Bool), Le s (rounds us f s)
  | 0, s => .refl s
  | f + 1, s => (roundF_le us 0 s).trans (rounds_le us f _)

/-- Where all calls from what is in are in. -/
def Shut (us : List Un) (s : List Bool) : Prop := ∀ (k : Nat) (u : Un), us[k]? = some u → s[k]? = some true → ∀ c ∈ u.code, isCall c = true → c.a.toNat < s.length → s[c.a.toNat]? = some true
theorem set_same {s : List Bool} {j : Nat} (h : j < s.length → s[j]? = some true) : s.set j true = s := by
  refine List.ext_getElem? (fun i => ?_)
  rw [List.getElem?_set]
  split
  · rename_i e
    subst e
    by_cases hj : j < s.length
    · rw [if_pos hj, h hj]
    · rw [if_neg hj, List.getElem?_eq_none (by omega)]
  · rfl
theorem marks_same {k : Nat} : ∀ (cs : List Ins) (s : List Bool), (s[k]? = some true → ∀ c ∈ cs, isCall c = true → c.a.toNat < s.length → s[c.a.toNat]? = some true) → cs.foldl (mark k) s = s
  | [], _, _ => rfl
  | c :: cs, s, h => by
    have e : mark k s c = s := by
      unfold mark
      split
      · rename_i hc
        exact set_same (h hc.1 c List.mem_cons_self hc.2)
      · rfl
    show cs.foldl (mark k) (mark k s c) = s
    rw [e]
    exact marks_same cs s (fun hk c hc => h hk c (List.mem_cons_of_mem _ hc))
theorem roundF_same : ∀ (us : List Un) (k : Nat) (s : List Bool), (∀ (j : Nat) (u : Un), us[j]? = some u → s[k + j]? = some true → ∀ c ∈ u.code, isCall c = true → c.a.toNat < s.length → s[c.a.toNat]? = some true) → roundF us k s = s
  | [], _, _, _ => rfl
  | u :: us, k, s, h => by
    show roundF us (k + 1) (u.code.foldl (mark k) s) = s
    rw [marks_same (k := k) u.code s (fun hk => h 0 u rfl hk)]
    exact roundF_same us (k + 1) s (fun j v hj hk => h (j + 1) v (by simpa using hj) (by rw [show k + (j + 1) = k + 1 + j by omega]; exact hk))
theorem shut_round {us : List Un} {s : List Bool} (h : Shut us s) : roundF us 0 s = s := roundF_same us 0 s (fun j u hj hk => h j u hj (by simpa using hk))
theorem marks_hit {k : Nat} : ∀ (cs : List Ins) (s : List Bool) (c : Ins), s[k]? = some true → c ∈ cs → isCall c = true → c.a.toNat < s.length → (cs.foldl (mark k) s)[c.a.toNat]? = some true
  | x :: cs, s, c, hk, hc, hi, hl => by
    have hle := mark_le k s x
    show (cs.foldl (mark k) (mark k s x))[c.a.toNat]? = some true
    rcases List.mem_cons.1 hc with rfl | hc
    · refine (marks_le k cs _).le _ ?_
      unfold mark
      rw [if_pos ⟨hk, hi⟩, List.getElem?_set_self hl]
    · exact marks_hit cs _ c (hle.le k hk) hc hi (by rw [hle.len]; exact hl)
theorem roundF_hit : ∀ (us : List Un) (k : Nat) (s : List Bool) (j : Nat) (u : Un) (c : Ins), us[j]? = some u → s[k + j]? = some true → c ∈ u.code → isCall c = true → c.a.toNat < s.length → (roundF us k s)[c.a.toNat]? = some true
  | v :: us, k, s, 0, u, c, hu, hk, hc, hi, hl => by
    simp at hu
    subst hu
    exact (roundF_le us (k + 1) _).le _ (marks_hit v.code s c hk hc hi hl)
  | v :: us, k, s, j + 1, u, c, hu, hk, hc, hi, hl => by
    have hle := marks_le k v.code s
    exact roundF_hit us (k + 1) _ j u c (by simpa using hu) (hle.le _ (by rw [show k + 1 + j = k + (j + 1) by omega]; exact hk)) hc hi (by rw [hle.len]; exact hl)

def cntT (s : List Bool) : Nat := s.countP id
theorem cntT_le (s : List Bool) : cntT s ≤ s.length := List.countP_le_length
theorem cntT_mono : ∀ {s s' : List Bool}, Le s s' → cntT s ≤ cntT s'
  | [], s', h => by simp [cntT]
  | b :: s, [], h => by have := h.len; simp at this
  | b :: s, b' :: s', h => by
    have ht : Le s s' := ⟨by have := h.len; simpa using this, fun j hj => by have := h.le (j + 1) (by simpa using hj); simpa using this⟩
    have ih := cntT_mono ht
    have h0 := h.le 0
    unfold cntT at ih ⊢
    cases b <;> cases b' <;> simp at h0 ⊢ <;> omega
theorem cntT_lt : ∀ {s s' : List Bool} {j : Nat}, Le s s' → s[j]? = some false → s'[j]? = some true → cntT s + 1 ≤ cntT s'
  | [], s', j, _, h1, _ => by simp at h1
  | b :: s, [], j, h, _, _ => by have := h.len; simp at this
  | b :: s, b' :: s', 0, h, h1, h2 => by
    have ht : Le s s' := ⟨by have := h.len; simpa using this, fun j hj => by have := h.le (j + 1) (by simpa using hj); simpa using this⟩
    have ih := cntT_mono ht
    simp at h1 h2
    subst h1 h2
    unfold cntT at ih ⊢
    simp
    omega
  | b :: s, b' :: s', j + 1, h, h1, h2 => by
    have ht : Le s s' := ⟨by have := h.len; simpa using this, fun j hj => by have := h.le (j + 1) (by simpa using hj); simpa using this⟩
    have ih := cntT_lt ht (j := j) (by simpa using h1) (by simpa using h2)
    have h0 := h.le 0
    unfold cntT at ih ⊢
    cases b <;> cases b' <;> simp at h0 ⊢ <;> omega
theorem round_or (us : List Un) (s : List Bool) : Shut us s ∨ cntT s + 1 ≤ cntT (roundF us 0 s) := by
  by_cases h : Shut us s
  · exact .inl h
  · right
    unfold Shut at h
    simp only [Classical.not_forall] at h
    obtain ⟨k, u, hu, hk, c, hc, hi, hl, hn⟩ := h
    have hf : s[c.a.toNat]? = some false := by
      rw [List.getElem?_eq_getElem hl] at hn ⊢
      cases hv : s[c.a.toNat]
      · rfl
      · rw [hv] at hn; exact absurd rfl hn
    exact cntT_lt (roundF_le us 0 s) hf (roundF_hit us 0 s k u c hu (by simpa using hk) hc hi hl)
theorem rounds_or (us : List Un) : ∀ (f : Nat) (s : List Bool), Shut us (rounds us f s) ∨ cntT s + f ≤ cntT (rounds us f s)
  | 0, s => .inr (Nat.le_refl _)
  | f + 1, s => by
    rcases round_or us s with h | h
    · left
      show Shut us (rounds us f (roundF us 0 s))
      rw [shut_round h]
      have : ∀ g, rounds us g s = s := by
        intro g
        induction g with
        | zero => rfl
        | succ g ih => show rounds us g (roundF us 0 s) = s; rw [shut_round h]; exact ih
      rw [this]
      exact h
    · rcases rounds_or us f (roundF us 0 s) with h1 | h1
      · exact .inl h1
      · right
        show cntT s + (f + 1) ≤ cntT (rounds us f (roundF us 0 s))
        omega

theorem set_get {s : List Bool} {i j : Nat} (h : (s.set i true)[j]? = some true) : (j = i ∧ i < s.length) ∨ s[j]? = some true := by
  rw [List.getElem?_set] at h
  split at h
  · rename_i e
    split at h
    · exact .inl ⟨e.symm, by assumption⟩
    · cases h
  · exact .inr h
/-- All that is in is come to. -/
def Snd (m : Md) (i : Int) (s : List Bool) : Prop := ∀ j : Nat, s[j]? = some true → Reach m i (j : Int)
theorem marks_snd {m : Md} {i : Int} {k : Nat} : ∀ (cs : List Ins) (s : List Bool), (∀ c ∈ cs, c ∈ (unit m (k : Int)).code ∧ (isCall c = true → 0 ≤ c.a)) → Snd m i s → Snd m i (cs.foldl (mark k) s)
  | [], _, _, h => h
  | c :: cs, s, hcs, h => by
    refine marks_snd cs (mark k s c) (fun c hc => hcs c (List.mem_cons_of_mem _ hc)) ?_
    intro j hj
    unfold mark at hj
    split at hj
    · rename_i hc
      rcases set_get hj with ⟨e, _⟩ | h1
      · have hcc := hcs c List.mem_cons_self
        have h0 := hcc.2 hc.2
        have ho : c.op = 23 ∨ c.op = 29 := by have := hc.2; unfold isCall at this; simpa using this
        rw [e, show ((c.a.toNat : Nat) : Int) = c.a by omega]
        exact .step (h k hc.1) hcc.1 ho
      · exact h j h1
    · exact h j hj
theorem roundF_snd {m : Md} {i : Int} : ∀ (us : List Un) (k : Nat) (s : List Bool), (∀ (j : Nat) u, us[j]? = some u → unit m ((k + j : Nat) : Int) = u ∧ ∀ c ∈ u.code, isCall c = true → 0 ≤ c.a) → Snd m i s → Snd m i (roundF us k s)
  | [], _, _, _, h => h
  | u :: us, k, s, hu, h => by
    have h0 := hu 0 u rfl
    refine roundF_snd us (k + 1) _ (fun j v hj => by rw [show k + 1 + j = k + (j + 1) by omega]; exact hu (j + 1) v (by simpa using hj)) (marks_snd u.code s (fun c hc => ⟨?_, h0.2 c hc⟩) h)
    have e : unit m (k : Int) = u := by simpa using h0.1
    rw [e]
    exact hc
theorem rounds_snd {m : Md} {i : Int} (us : List Un) (hu : ∀ (j : Nat) u, us[j]? = some u → unit m (j : Int) = u ∧ ∀ c ∈ u.code, isCall c = true → 0 ≤ c.a) : ∀ (f : Nat) (s : List Bool), Snd m i s → Snd m i (rounds us f s)
  | 0, _, h => h
  | f + 1, s, h => rounds_snd us hu f _ (roundF_snd us 0 s (fun j u hj => by simpa using hu j u hj) h)

theorem calls_in {m : Md} (hR : Rt m) {k : Nat} {u : Un} (hu : m.units[k]? = some u) {c : Ins} (hc : c ∈ u.code) (ho : isCall c = true) : 0 ≤ c.a ∧ c.a.toNat < m.units.length := by
  have h1 : c.op = 23 ∨ c.op = 29 := by unfold isCall at ho; simpa using ho
  obtain ⟨kd, _, hi⟩ := call_is ((hR.heads k u hu).2 c hc) h1
  obtain ⟨x, h3, _, h4⟩ := is_some hi
  exact ⟨h4, (List.getElem?_eq_some_iff.1 h3).1⟩
theorem unit_at {m : Md} {k : Nat} {u : Un} (hu : m.units[k]? = some u) : unit m (k : Int) = u := by
  unfold unit
  rw [show ((k : Nat) : Int).toNat = k by omega, hu]
  rfl
/-- Which units one comes to. -/
theorem inR_iff {m : Md} (hR : Rt m) {i : Nat} (hi : i < m.units.length) (k : Nat) : (inR m i)[k]? = some true ↔ k < m.units.length ∧ Reach m (i : Int) (k : Int) := by
  have hlen : (inR m i).length = m.units.length := by
    have := (rounds_le m.units m.units.length ((List.replicate m.units.length false).set i true)).len
    unfold inR
    rw [this]
    simp
  constructor
  · intro h
    refine ⟨by rw [← hlen]; exact (List.getElem?_eq_some_iff.1 h).1, ?_⟩
    refine rounds_snd m.units (fun j u hj => ⟨unit_at hj, fun c hc ho => (calls_in hR hj hc ho).1⟩) _ _ ?_ k h
    intro j hj
    rcases set_get hj with ⟨e, _⟩ | h1
    · rw [e]; exact .here _
    · rw [List.getElem?_replicate] at h1
      split at h1 <;> simp at h1
  · rintro ⟨hk, hr⟩
    have h0 : (inR m i)[i]? = some true := (rounds_le m.units _ _).le i (by rw [List.getElem?_set_self (by simpa using hi)])
    have hsh : Shut m.units (inR m i) := by
      rcases rounds_or m.units m.units.length ((List.replicate m.units.length false).set i true) with h | h
      · exact h
      · exfalso
        have h1 := cntT_le (inR m i)
        have h2 : 1 ≤ cntT ((List.replicate m.units.length false).set i true) := by
          have := cntT_lt (s := List.replicate m.units.length false) (s' := (List.replicate m.units.length false).set i true) (j := i) ⟨by simp, fun j hj => by rw [List.getElem?_replicate] at hj; split at hj <;> simp at hj⟩ (by rw [List.getElem?_replicate, if_pos hi]) (by rw [List.getElem?_set_self (by simpa using hi)])
          omega
        rw [hlen] at h1
        unfold inR at h1
        omega
    have all : ∀ k', Reach m (i : Int) k' → ∃ k : Nat, k' = k ∧ (inR m i)[k]? = some true := by
      intro k' hr
      induction hr with
      | here => exact ⟨i, rfl, h0⟩
      | @step k0 c _ h2 h3 ih =>
        obtain ⟨k, rfl, hin⟩ := ih
        have hkl : k < m.units.length := by rw [← hlen]; exact (List.getElem?_eq_some_iff.1 hin).1
        have hu := List.getElem?_eq_getElem hkl
        rw [unit_at hu] at h2
        have ho : isCall c = true := by unfold isCall; simpa using h3
        obtain ⟨h5, h6⟩ := calls_in hR hu h2 ho
        exact ⟨_, (Int.toNat_of_nonneg h5).symm, hsh k _ hu hin _ h2 ho (by rw [hlen]; exact h6)⟩
    obtain ⟨k2, e, h⟩ := all _ hr
    have : k2 = k := by omega
    rw [← this]
    exact h
/-- BOTH TELL THE SAME. -/
theorem comesR_eq {m : Md} (hR : Rt m) {i : Nat} (hi : i < m.units.length) {q : Lk} (hq : q.1 = 26 ∨ q.1 = 27) : comesR m i q = comes m i q := by
  rw [Bool.eq_iff_iff, comes_iff hR i hq]
  unfold comesR
  simp only [List.any_eq_true, List.mem_range, Bool.and_eq_true, beq_iff_eq]
  constructor
  · rintro ⟨k, _, h1, c, hc, h2, h3⟩
    exact ⟨(k : Int), ((inR_iff hR hi k).1 h1).2, c, hc, by rw [h2, h3]⟩
  · rintro ⟨k', hr, c, hc, e⟩
    have hk : ∃ k : Nat, k' = k ∧ k < m.units.length := by
      cases hr with
      | here => exact ⟨i, rfl, hi⟩
      | @step k c' h1 h2 h3 =>
        have hu := unit_in hR k
        obtain ⟨kd, _, his⟩ := call_is (hu.2 _ h2) h3
        obtain ⟨x, h4, _, h5⟩ := is_some his
        exact ⟨c'.a.toNat, (Int.toNat_of_nonneg h5).symm, (List.getElem?_eq_some_iff.1 h4).1⟩
    obtain ⟨k, rfl, hkl⟩ := hk
    exact ⟨k, hkl, (inR_iff hR hi k).2 ⟨hkl, hr⟩, c, hc, by rw [← e], by rw [← e]⟩
end Vf
end Go.Proofs.Ytfhombcgdkgcpaa
