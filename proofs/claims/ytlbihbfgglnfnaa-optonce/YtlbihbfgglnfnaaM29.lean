/- A right module without some of its tasks is right. -/
import Derived.Test.YtlbihbfgglnfnaaM28
import Derived.Test.YtlbihbfgglnfnaaM6
import Derived.Test.YtlbihbfgglnfnaaM12
namespace Go.Proofs.Ytlbihbfgglnfnaa
namespace Vf

theorem gatC_like {rec1 rec2 : Int → LL → LL} : ∀ (cs : List Ins) (l : LL), (∀ c ∈ cs, ∀ l, gstep rec1 c l = gstep rec2 c l) → gatC rec1 cs l = gatC rec2 cs l
  | [], _, _ => rfl
  | c :: cs, l, h => by
    show gatC rec1 cs (gstep rec1 c l) = gatC rec2 cs (gstep rec2 c l)
    rw [h c List.mem_cons_self]
    exact gatC_like cs _ (fun c hc => h c (List.mem_cons_of_mem _ hc))
theorem Like.gat {m n : Md} (h : Like m n) (hR : Rt m) : ∀ (f : Nat) (a : Int) (l : LL), Vf.unit n a = Vf.unit m a → Vf.gat n f a l = Vf.gat m f a l
  | 0, _, _, _ => rfl
  | f + 1, a, l, he => by
    show gatC (Vf.gat n f) (Vf.unit n a).code l = gatC (Vf.gat m f) (Vf.unit m a).code l
    rw [he]
    have hu := unit_in hR a
    refine gatC_like _ _ (fun c hc l => ?_)
    unfold gstep
    by_cases h1 : c.op = 26 ∨ c.op = 27
    · rw [if_pos h1, if_pos h1]
    · rw [if_neg h1, if_neg h1]
      by_cases h2 : c.op = 23 ∨ c.op = 29
      · rw [if_pos h2, if_pos h2]
        obtain ⟨kd, hk4, hi⟩ := call_is (hu.2 c hc) h2
        rw [h.gat hR f c.a _ (h.unit hk4 hi)]
      · rw [if_neg h2, if_neg h2]
theorem Like.tc {m n : Md} (h : Like m n) (hR : Rt m) (q : Lk) (k : Nat) : Vf.tc n q k ≤ Vf.tc m q k := by
  unfold Vf.tc
  refine List.countP_mono_left (fun i _ hi => ?_)
  simp only [Bool.and_eq_true] at hi ⊢
  rw [h.is] at hi
  refine ⟨hi.1, ?_⟩
  have hc := hi.2
  obtain ⟨u, hu, hk, _⟩ := is_some hi.1
  have hi' : Vf.is n 4 (i : Int) = true := by rw [h.is]; exact hi.1
  obtain ⟨v, hv, _, _⟩ := is_some hi'
  have huv : Vf.unit m (i : Int) = u := by unfold Vf.unit; rw [hu]; rfl
  have hvv : Vf.unit n (i : Int) = v := by unfold Vf.unit; rw [hv]; rfl
  rcases h.same _ u v hu hv with h1 | ⟨_, h1⟩
  · unfold comes at hc ⊢
    rw [h.gat hR 61 (i : Int) [] (by rw [hvv, huv, h1])] at hc
    exact hc
  · exfalso
    unfold comes at hc
    rw [small_gat n 61 (i : Int) (by rw [hvv, h1])] at hc
    simp [cnt, idx] at hc
end Vf
end Go.Proofs.Ytlbihbfgglnfnaa

/- Shorter code: what is right stays right, plainly. -/
namespace Go.Proofs.Ytlbihbfgglnfnaa
namespace Ot
open Vf Vm

/-- Modules of which one has other code. -/
structure Al (m n : Md) : Prop where
  boxes : n.boxes = m.boxes
  len : n.units.length = m.units.length
  same : ∀ (k : Nat) (u : Un), m.units[k]? = some u → ∃ l, n.units[k]? = some { u with code := l }
theorem Al.unit {m n : Md} (h : Al m n) (a : Int) : ∃ l, Vf.unit n a = { Vf.unit m a with code := l } := by
  unfold Vf.unit
  cases hm : m.units[a.toNat]? with
  | none =>
    have : n.units[a.toNat]? = none := by
      rw [List.getElem?_eq_none_iff] at hm ⊢
      rw [h.len]
      exact hm
    rw [this]
    exact ⟨[], rfl⟩
  | some u =>
    obtain ⟨l, hl⟩ := h.same _ _ hm
    rw [hl]
    exact ⟨l, rfl⟩
theorem Al.is {m n : Md} (h : Al m n) (kd a : Int) : Vf.is n kd a = Vf.is m kd a := by
  unfold Vf.is
  cases hm : m.units[a.toNat]? with
  | none =>
    have : n.units[a.toNat]? = none := by
      rw [List.getElem?_eq_none_iff] at hm ⊢
      rw [h.len]
      exact hm
    rw [this]
  | some u =>
    obtain ⟨l, hl⟩ := h.same _ _ hm
    rw [hl]
    rfl
theorem Al.params {m n : Md} (h : Al m n) (a : Int) : Vf.params n a = Vf.params m a := by
  obtain ⟨l, hl⟩ := h.unit a
  unfold Vf.params
  rw [hl]
theorem Al.result {m n : Md} (h : Al m n) (a : Int) : (Vf.unit n a).result = (Vf.unit m a).result := by
  obtain ⟨l, hl⟩ := h.unit a
  rw [hl]
theorem Al.takes {m n : Md} (h : Al m n) (a : Int) : (Vf.unit n a).takes = (Vf.unit m a).takes := by
  obtain ⟨l, hl⟩ := h.unit a
  rw [hl]
theorem Al.resume {m n : Md} (h : Al m n) (st : List Int) : Vf.resume n st = Vf.resume m st := by
  unfold Vf.resume
  simp only [h.takes, h.result]
theorem Al.reckS {m n : Md} (h : Al m n) (u : Un) (l : List Ins) (c : Ins) (k : Kn) : Vf.reckS n { u with code := l } c k = Vf.reckS m u c k := by
  unfold Vf.reckS Vf.speak
  simp only [h.params, h.result, h.resume, Vf.boxTy, h.boxes, Vf.localTy]
theorem Al.reck {m n : Md} (h : Al m n) (u : Un) (l : List Ins) (c : Ins) (k : Kn) : Vf.reck n { u with code := l } c k = Vf.reck m u c k := by
  unfold Vf.reck
  rw [h.reckS]
theorem reck_moved (m : Md) (u : Un) (ps : List (Nat × Ch)) (c : Ins) (k : Kn) : reck m u (moved ps c) k = reck m u c k := by
  unfold moved
  split
  · rename_i hj
    simp only [jmp, Bool.or_eq_true, beq_iff_eq] at hj
    obtain ⟨op, a, n⟩ := c
    rcases hj with h | h
    · simp only at h
      subst h
      simp [reck, reckS, speak, reckF]
    · simp only at h
      subst h
      simp [reck, reckS, reckF]
  · rfl
theorem form_al {m n : Md} (h : Al m n) (u : Un) (l : List Ins) {c : Ins} (hj : jmp c = false) : formE n { u with code := l } c = formE m u c := by
  simp only [jmp, Bool.or_eq_false_iff, beq_eq_false_iff_ne] at hj
  have hn : ¬ (c.op = 21 ∨ c.op = 22) := fun e => by rcases e with e | e; exact hj.1 e; exact hj.2 e
  unfold formE ranged
  simp only [h.is, h.boxes, if_neg hn]
theorem form_jump {m : Md} {u : Un} {c : Ins} (hf : formE m u c = 0) (hj : jmp c = true) : 0 ≤ c.a ∧ c.a < u.code.length := by
  obtain ⟨_, _, hr⟩ := formE_zero hf
  simp only [jmp, Bool.or_eq_true, beq_iff_eq] at hj
  unfold ranged at hr
  rw [if_neg (by omega), if_neg (by omega), if_pos hj] at hr
  simpa using hr
theorem form_truth {m : Md} {u : Un} {c : Ins} (hf : formE m u c = 0) (h : c.op = 2) : c.a = 0 ∨ c.a = 1 := by
  obtain ⟨_, _, hr⟩ := formE_zero hf
  unfold ranged at hr
  rw [if_pos h] at hr
  simpa using hr
theorem forms_jumps {m : Md} {u : Un} (hf : Forms m u) : Jumps u.code := fun c hc hj => form_jump (hf c hc) hj
theorem jump_form {m : Md} {u : Un} {c : Ins} (hj : jmp c = true) (h : 0 ≤ c.a ∧ c.a < u.code.length) : formE m u c = 0 := by
  simp only [jmp, Bool.or_eq_true, beq_iff_eq] at hj
  unfold formE
  rw [if_neg (by omega), if_neg]
  unfold ranged
  rw [if_neg (by omega), if_neg (by omega), if_pos hj]
  simpa using h
theorem two_yes {op : Int} (a b : Int) (h : 12 < op) : two op a b = 0 ∨ two op a b = 1 := by
  have : two op a b = yes (holds op a b) := by
    unfold two
    rw [if_neg (by omega), if_neg (by omega), if_neg (by omega), if_neg (by omega), if_neg (by omega)]
  rw [this]
  unfold yes
  split
  · exact .inr rfl
  · exact .inl rfl
theorem push_form (m : Md) (u : Un) (n : Int) : formE m u ⟨1, 0, n⟩ = 0 := by simp [formE, ranged]
theorem truth_form (m : Md) (u : Un) {a : Int} (h : a = 0 ∨ a = 1) : formE m u ⟨2, a, 0⟩ = 0 := by rcases h with rfl | rfl <;> simp [formE, ranged]
theorem mem_at {l : List Ins} {k : Nat} {c : Ins} (h : l[k]? = some c) : c ∈ l := List.mem_of_getElem? h
/-- Of what is put there, in the old code's places. -/
theorem put_form {m : Md} {u : Un} (hf : Forms m u) {x : Nat} (hx : x < u.code.length) {d : Ins} (hd : d ∈ (change u.code x).2) : formE m u d = 0 ∧ (jmp d = true → ∃ e ∈ u.code, jmp e = true ∧ e.a = d.a) := by
  have stay : ∀ d, d ∈ u.code → formE m u d = 0 ∧ (jmp d = true → ∃ e ∈ u.code, jmp e = true ∧ e.a = d.a) := fun d hd => ⟨hf d hd, fun hj => ⟨d, hd, hj, rfl⟩⟩
  rcases change_form u.code x with h | ⟨_, h⟩
  · rw [h] at hd
    simp only [List.mem_singleton] at hd
    rw [hd, List.getElem?_eq_getElem hx]
    exact stay _ (List.getElem_mem hx)
  · rcases h with ⟨a, b, c, hr, e⟩ | ⟨a, b, hr, e⟩ | ⟨a, b, hr, e⟩ | ⟨a, b, hr, e⟩ | ⟨a, b, hr, e⟩ | ⟨a, _, _, _, e⟩
    · rw [e] at hd
      simp only [List.mem_singleton] at hd
      subst hd
      unfold comes
      split
      · exact ⟨push_form m u _, fun hj => by simp [jmp] at hj⟩
      · exact ⟨truth_form m u (two_yes _ _ (by omega)), fun hj => by simp [jmp] at hj⟩
    · rw [e] at hd; cases hd
    · rw [e] at hd
      simp only [put3, List.mem_singleton] at hd
      subst hd
      exact ⟨push_form m u _, fun hj => by simp [jmp] at hj⟩
    · rw [e] at hd
      simp only [put4, List.mem_singleton] at hd
      subst hd
      have h2 : a.op = 2 := by simpa using hr.op0
      have := form_truth (hf a (mem_at hr.h0)) h2
      refine ⟨truth_form m u ?_, fun hj => by simp [jmp] at hj⟩
      rcases this with h | h <;> rw [h]
      · exact .inr (by kernel_rfl)
      · exact .inl (by kernel_rfl)
    · rw [e] at hd
      simp only [put5] at hd
      split at hd
      · simp only [List.mem_singleton] at hd
        subst hd
        have hj : jmp b = true := by simp [jmp, hr.op1]
        have hjb := form_jump (hf b (mem_at hr.h1)) hj
        exact ⟨jump_form (by simp [jmp]) hjb, fun _ => ⟨b, mem_at hr.h1, hj, rfl⟩⟩
      · cases hd
    · rw [e] at hd; cases hd
theorem out_form {m : Md} {u : Un} (hf : Forms m u) {d : Ins} (hd : d ∈ out (all u.code)) : formE m u d = 0 ∧ (jmp d = true → 0 ≤ d.a ∧ Begins (all u.code) d.a.toNat) := by
  obtain ⟨p, hp, hd⟩ := List.mem_flatMap.1 hd
  obtain ⟨_, h1, h2⟩ := pieces_mem _ _ _ _ hp
  rw [h2] at hd
  obtain ⟨h3, h4⟩ := put_form hf h1 hd
  refine ⟨h3, fun hj => ?_⟩
  obtain ⟨e, he, hej, hea⟩ := h4 hj
  obtain ⟨a0, a1⟩ := form_jump h3 hj
  refine ⟨a0, begins_aimed (by omega) ?_⟩
  unfold aimed
  rw [List.any_eq_true]
  refine ⟨e, he, ?_⟩
  rw [hej, hea]
  simp
  omega
def passU (u : Un) : Un := { u with code := over u.code }
theorem pass_forms {m n : Md} (h : Al m n) {u : Un} (hf : Forms m u) : Forms n (passU u) := fun c hc => by
  have hc' : c ∈ (out (all u.code)).map (moved (all u.code)) := hc
  obtain ⟨d, hd, rfl⟩ := List.mem_map.1 hc'
  obtain ⟨h1, h2⟩ := out_form hf hd
  by_cases hj : jmp d = true
  · obtain ⟨a0, hb⟩ := h2 hj
    have e : moved (all u.code) d = { d with a := (now (all u.code) d.a.toNat : Nat) } := by unfold moved; rw [if_pos hj]
    rw [e]
    refine jump_form (by simpa [jmp] using hj) ⟨by simp, ?_⟩
    have := now_lt hb
    rw [← over_len] at this
    show ((now (all u.code) d.a.toNat : Nat) : Int) < (((over u.code).length : Nat) : Int)
    omega
  · have hj' : jmp d = false := by simpa using hj
    have e : moved (all u.code) d = d := by unfold moved; rw [if_neg hj]
    rw [e]
    exact (form_al h u _ hj').trans h1
theorem pass_head {m n : Md} (h : Al m n) {u : Un} (hu : headE m u = 0) : headE n (passU u) = 0 := by
  obtain ⟨h1, h2, h3⟩ := headE_zero hu
  have e2 : sized (passU u) = true := by
    have l1 := over_le u.code
    have e0 : sized (passU u) = (decide (u.locals.length ≤ 200) && decide (0 ≤ u.params) && decide (u.params ≤ if u.kind == 4 then 0 else min 6 (u.locals.length : Int)) && decide (0 < (over u.code).length) && decide ((over u.code).length ≤ 4000)) := rfl
    rw [e0]
    unfold sized at h2
    simp only [Bool.and_eq_true, decide_eq_true_eq] at h2 ⊢
    obtain ⟨⟨⟨⟨a1, a2⟩, a3⟩, a4⟩, a5⟩ := h2
    exact ⟨⟨⟨⟨a1, a2⟩, a3⟩, over_pos a4⟩, by omega⟩
  have e3 : typed n (passU u) = typed m u := by
    unfold typed
    simp only [h.is]
    rfl
  unfold headE
  rw [show kindly (passU u) = kindly u from rfl, h1, e2, e3, h3]
  rfl

/-- One step on. -/
theorem fix_on {m : Md} {u : Un} {K : Nat → Option Kn} (hK : Fix m u K) {x : Nat} {k : Kn} {c : Ins} (hx : K x = some k) (hc : u.code[x]? = some c) (hop : c.op ≠ 21 ∧ c.op ≠ 22 ∧ c.op ≠ 24 ∧ c.op ≠ 25) : ∃ k' k2, reck m u c k = .ok k' ∧ K (x + 1) = some k2 ∧ k2.st = k'.st ∧ FlLe k2.fl k'.fl := by
  obtain ⟨k', h1, h2⟩ := hK.next x k c hx hc
  have hg : goes c x = [(x : Int) + 1] := by
    unfold goes
    rw [if_neg (by omega), if_neg (by omega), if_neg (by omega)]
  obtain ⟨_, k2, h3, h4, h5⟩ := h2 ((x : Int) + 1) (by rw [hg]; exact List.mem_singleton.2 rfl)
  rw [show ((x : Int) + 1).toNat = x + 1 by omega] at h3
  exact ⟨k', k2, h1, h3, h4, h5⟩
theorem reck_const {m : Md} {u : Un} {c : Ins} {k k' : Kn} (h : c.op = 1 ∨ c.op = 2) (hr : reck m u c k = .ok k') : k.st.length + 1 ≤ 300 ∧ k' = ⟨c.op :: k.st, k.fl⟩ := by
  obtain ⟨op, a, n⟩ := c
  rcases h with h | h
  · simp only at h
    subst h
    simp only [reck, reckS, put, andThen, reckF] at hr
    by_cases hl : k.st.length + 1 ≤ 300
    · simp [hl] at hr; exact ⟨hl, hr.symm⟩
    · simp [hl] at hr
  · simp only at h
    subst h
    simp only [reck, reckS, put, andThen, reckF] at hr
    by_cases hl : k.st.length + 1 ≤ 300
    · simp [hl] at hr; exact ⟨hl, hr.symm⟩
    · simp [hl] at hr
theorem const_reck {m : Md} {u : Un} {c : Ins} {k : Kn} (h : c.op = 1 ∨ c.op = 2) (hl : k.st.length + 1 ≤ 300) : reck m u c k = .ok ⟨c.op :: k.st, k.fl⟩ := by
  obtain ⟨op, a, n⟩ := c
  rcases h with h | h
  · simp only at h
    subst h
    simp [reck, reckS, put, andThen, reckF, hl]
  · simp only at h
    subst h
    simp [reck, reckS, put, andThen, reckF, hl]
theorem reck_load {m : Md} {u : Un} {c : Ins} {k k' : Kn} (h : c.op = 3) (hr : reck m u c k = .ok k') : ∃ t, k' = ⟨t :: k.st, k.fl⟩ := by
  obtain ⟨op, a, n⟩ := c
  simp only at h
  subst h
  simp only [reck, reckS, put, andThen, reckF, must] at hr
  cases hh : k.fl.has a.toNat with
  | false => simp [hh] at hr
  | true =>
    by_cases hl : k.st.length + 1 ≤ 300
    · simp [hh, hl] at hr; exact ⟨_, hr.symm⟩
    · simp [hh, hl] at hr
theorem reck_drop {m : Md} {u : Un} {c : Ins} {k k' : Kn} {t : Int} {s : List Int} (h : c.op = 5) (hs : k.st = t :: s) (hr : reck m u c k = .ok k') : k' = ⟨s, k.fl⟩ := by
  obtain ⟨op, a, n⟩ := c
  simp only at h
  subst h
  simp [reck, reckS, pop, andThen, reckF, hs] at hr
  exact hr.symm
theorem reck_one {m : Md} {u : Un} {c : Ins} {k k' : Kn} {t : Int} {s : List Int} (h : c.op = 6 ∧ t = 1 ∨ c.op = 7 ∧ t = 2) (hs : k.st = t :: s) (hr : reck m u c k = .ok k') : k' = ⟨t :: s, k.fl⟩ := by
  obtain ⟨op, a, n⟩ := c
  rcases h with ⟨h, rfl⟩ | ⟨h, rfl⟩
  · simp only at h
    subst h
    simp only [reck, reckS, turn, takeR, put, andThen, reckF, hs] at hr
    by_cases hl : s.length + 1 ≤ 300
    · simp [takeR, hl] at hr; exact hr.symm
    · simp [takeR, hl] at hr
  · simp only at h
    subst h
    simp only [reck, reckS, turn, takeR, put, andThen, reckF, hs] at hr
    by_cases hl : s.length + 1 ≤ 300
    · simp [takeR, hl] at hr; exact hr.symm
    · simp [takeR, hl] at hr
theorem reck_else {m : Md} {u : Un} {c : Ins} {k k' : Kn} {t : Int} {s : List Int} (h : c.op = 22) (hs : k.st = t :: s) (hr : reck m u c k = .ok k') : k' = ⟨s, k.fl⟩ := by
  obtain ⟨op, a, n⟩ := c
  simp only at h
  subst h
  simp only [reck, reckS, andThen, reckF, hs] at hr
  by_cases ht : t = 2
  · simp [takeR, ht] at hr; exact hr.symm
  · simp [takeR, ht] at hr
theorem reck_two {m : Md} {u : Un} {c : Ins} {k k' : Kn} {t : Int} {s : List Int} (h : reckons t c.op = true) (hs : k.st = t :: t :: s) (hr : reck m u c k = .ok k') : k' = ⟨(if c.op ≤ 12 then 1 else 2) :: s, k.fl⟩ := by
  obtain ⟨op, a, n⟩ := c
  simp only at h ⊢
  have hl : s.length + 1 ≤ 300 ∨ ¬ s.length + 1 ≤ 300 := by omega
  unfold reckons at h
  split at h
  · rename_i ht
    subst ht
    simp only [Bool.and_eq_true, decide_eq_true_eq] at h
    have : op = 8 ∨ op = 9 ∨ op = 10 ∨ op = 11 ∨ op = 12 ∨ op = 13 ∨ op = 14 ∨ op = 15 ∨ op = 16 ∨ op = 17 ∨ op = 18 := by omega
    rcases hl with hl | hl
    · rcases this with rfl | rfl | rfl | rfl | rfl | rfl | rfl | rfl | rfl | rfl | rfl <;> simp [reck, reckS, turn, takeR, popPlain, pop, plain, put, andThen, reckF, hs, hl] at hr <;> exact hr.symm
    · rcases this with rfl | rfl | rfl | rfl | rfl | rfl | rfl | rfl | rfl | rfl | rfl <;> simp [reck, reckS, turn, takeR, popPlain, pop, plain, put, andThen, hs, hl] at hr
  · split at h
    · rename_i ht
      subst ht
      simp only [Bool.or_eq_true, beq_iff_eq] at h
      have : op = 13 ∨ op = 14 ∨ op = 19 ∨ op = 20 := by omega
      rcases hl with hl | hl
      · rcases this with rfl | rfl | rfl | rfl <;> simp [reck, reckS, turn, takeR, popPlain, pop, plain, put, andThen, reckF, hs, hl] at hr <;> exact hr.symm
      · rcases this with rfl | rfl | rfl | rfl <;> simp [reck, reckS, turn, takeR, popPlain, pop, plain, put, andThen, hs, hl] at hr
    · cases h
theorem kind_of {t op : Int} (h : reckons t op = true) : (t = 1 ∨ t = 2) ∧ op ≠ 21 ∧ op ≠ 22 ∧ op ≠ 24 ∧ op ≠ 25 := by
  unfold reckons at h
  split at h
  · simp only [Bool.and_eq_true, decide_eq_true_eq] at h
    omega
  · split at h
    · simp only [Bool.or_eq_true, beq_iff_eq] at h
      omega
    · cases h
/-- What is known fits, at another instruction. -/
def Fits (K : Nat → Option Kn) (x : Nat) (k : Kn) : Prop := ∃ k2, K x = some k2 ∧ k2.st = k.st ∧ FlLe k2.fl k.fl
/-- Where nothing is put there what is known goes on. -/
theorem fits_gone {m : Md} {u : Un} {K : Nat → Option Kn} (hK : Fix m u K) {k : Kn} {x : Nat} (h : Fits K x k) (hn : (change u.code x).2 = []) : Fits K (x + (change u.code x).1) k := by
  obtain ⟨k0, h0, hs, hl⟩ := h
  rcases change_form u.code x with e | ⟨_, e⟩
  · rw [e] at hn; cases hn
  rcases e with ⟨a, b, c, hr, e⟩ | ⟨a, b, hr, e⟩ | ⟨a, b, hr, e⟩ | ⟨a, b, hr, e⟩ | ⟨a, b, hr, e⟩ | ⟨a, ha, hop, hta, e⟩
  · rw [e] at hn; cases hn
  · rw [e]
    have hop : a.op = 1 ∨ a.op = 2 ∨ a.op = 3 := by simpa using hr.op0
    obtain ⟨k1, k2, r1, h2, s2, l2⟩ := fix_on hK h0 hr.h0 (by omega)
    have e1 : ∃ t, k1 = ⟨t :: k0.st, k0.fl⟩ := by
      rcases hop with h | h | h
      · exact ⟨_, (reck_const (.inl h) r1).2⟩
      · exact ⟨_, (reck_const (.inr h) r1).2⟩
      · exact reck_load h r1
    obtain ⟨t, rfl⟩ := e1
    obtain ⟨k3, k4, r3, h4, s4, l4⟩ := fix_on hK h2 hr.h1 (by have := hr.op1; omega)
    have e3 := reck_drop hr.op1 s2 r3
    subst e3
    exact ⟨k4, h4, s4.trans hs, (l4.trans l2).trans hl⟩
  · rw [e] at hn; cases hn
  · rw [e] at hn; cases hn
  · rw [e]
    have hop : a.op = 2 := by simpa using hr.op0
    obtain ⟨k1, k2, r1, h2, s2, l2⟩ := fix_on hK h0 hr.h0 (by omega)
    obtain ⟨_, rfl⟩ := reck_const (.inr hop) r1
    obtain ⟨k3, r3, h3⟩ := hK.next (x + 1) k2 b h2 hr.h1
    have e3 := reck_else hr.op1 s2 r3
    subst e3
    have hg : goes b (x + 1) = [b.a, ((x + 1 : Nat) : Int) + 1] := by
      unfold goes
      rw [if_neg (by have := hr.op1; omega), if_neg (by have := hr.op1; omega), if_pos hr.op1]
    obtain ⟨_, k4, h4, s4, l4⟩ := h3 (((x + 1 : Nat) : Int) + 1) (by rw [hg]; simp)
    rw [show (((x + 1 : Nat) : Int) + 1).toNat = x + 2 by omega] at h4
    exact ⟨k4, h4, s4.trans hs, (l4.trans l2).trans hl⟩
  · rw [e]
    obtain ⟨k3, r3, h3⟩ := hK.next x k0 a h0 ha
    have e3 : k3 = k0 := by
      obtain ⟨op, a', n⟩ := a
      simp only at hop
      subst hop
      simp [reck, reckS, speak, andThen, reckF] at r3
      exact r3.symm
    subst e3
    have hg : goes a x = [a.a] := by
      unfold goes
      rw [if_neg (by omega), if_pos hop]
    obtain ⟨_, k4, h4, s4, l4⟩ := h3 a.a (by rw [hg]; exact List.mem_singleton.2 rfl)
    rw [show a.a.toNat = x + 1 by omega] at h4
    exact ⟨k4, h4, s4.trans hs, l4.trans hl⟩
/-- What is known at what is put there. -/
def newK (l : List Ins) (K : Nat → Option Kn) (n : Nat) : Option Kn := ((olds (all l))[n]?).bind K
theorem fits_new {m : Md} {u : Un} {K : Nat → Option Kn} (hK : Fix m u K) {k : Kn} {x : Nat} (hb : Begins (all u.code) x) (h : Fits K x k) : Fits (newK u.code K) (now (all u.code) x) k := by
  obtain ⟨y, c, h1, h2, h3, h4, _⟩ := on_to (l := u.code) (P := fun x => Fits K x k) (fun x _ h hn => fits_gone hK h hn) u.code.length x (by omega) hb h
  obtain ⟨k2, e1, e2⟩ := h2
  rw [← h3]
  refine ⟨k2, ?_, e2⟩
  unfold newK
  rw [(put_at h1 h4).2]
  exact e1
theorem goes_one {c : Ins} (h : c.op ≠ 21 ∧ c.op ≠ 22 ∧ c.op ≠ 24 ∧ c.op ≠ 25) (n : Nat) : goes c n = [(n : Int) + 1] := by
  unfold goes
  rw [if_neg (by omega), if_neg (by omega), if_neg (by omega)]
/-- WHAT IS KNOWN FITS EVERYWHERE, behind a pass too. -/
theorem pass_fix {m n : Md} (h : Al m n) {u : Un} (hf : Forms m u) (hp : 0 < u.code.length) {K : Nat → Option Kn} (hK : Fix m u K) : Fix n (passU u) (newK u.code K) := by
  have hlt : ∀ {x : Nat}, Begins (all u.code) x → now (all u.code) x < (passU u).code.length := fun hb => by
    have := now_lt hb
    rw [← over_len] at this
    exact this
  -- on to the instruction behind a piece
  have next : ∀ {x : Nat} {k' : Kn}, Begins (all u.code) x → (x + (change u.code x).1 < u.code.length) → Fits K (x + (change u.code x).1) k' → (change u.code x).2.length = 1 → ((now (all u.code) x : Nat) + 1 : Int).toNat < (passU u).code.length ∧ Fits (newK u.code K) ((now (all u.code) x : Nat) + 1 : Int).toNat k' := fun {x k'} hb hl hfi h1 => by
    have hb2 := begins_next hb hl
    have hn := begins_now hb
    rw [h1] at hn
    rw [show ((now (all u.code) x : Nat) + 1 : Int).toNat = now (all u.code) (x + (change u.code x).1) by omega]
    exact ⟨hlt hb2, fits_new hK hb2 hfi⟩
  refine ⟨?_, fun i k hi => ?_, fun i k c hi hc => ?_⟩
  · obtain ⟨k, h0, hs, hl⟩ := hK.zero
    obtain ⟨k2, e1, e2, e3⟩ := fits_new hK (begins_zero hp) ⟨k, h0, rfl, .refl _⟩
    rw [now_zero] at e1
    exact ⟨k2, e1, e2.trans hs, e3.trans hl⟩
  · unfold newK at hi
    obtain ⟨x, hx, _⟩ := Option.bind_eq_some_iff.1 hi
    have := (List.getElem?_eq_some_iff.1 hx).1
    rw [olds_len, ← over_len] at this
    exact this
  · unfold newK at hi
    obtain ⟨x, hx, hKx⟩ := Option.bind_eq_some_iff.1 hi
    obtain ⟨hb, hnow, d, hd⟩ := old_at hx
    have hxl := begins_lt hb
    have hput := (put_at hb hd).1
    rw [hnow] at hput
    have hc' : c = moved (all u.code) d := by
      have : (over u.code)[i]? = some c := hc
      unfold over at this
      rw [List.getElem?_map, hput] at this
      simpa using this.symm
    have hone : (change u.code x).2.length = 1 := by rw [hd]; rfl
    subst hc'
    subst hnow
    unfold Sat
    have hreck : ∀ k, reck n (passU u) (moved (all u.code) d) k = reck m u d k := fun k => by rw [show passU u = { u with code := over u.code } from rfl, h.reck, reck_moved]
    -- constants that go on behind their piece
    have const : (d.op = 1 ∨ d.op = 2) → k.st.length + 1 ≤ 300 → x + (change u.code x).1 < u.code.length → Fits K (x + (change u.code x).1) ⟨d.op :: k.st, k.fl⟩ → ∃ k', reck n (passU u) (moved (all u.code) d) k = .ok k' ∧ ∀ t ∈ goes (moved (all u.code) d) (now (all u.code) x), t.toNat < (passU u).code.length ∧ ∃ k2, newK u.code K t.toNat = some k2 ∧ k2.st = k'.st ∧ FlLe k2.fl k'.fl := fun hop hl hlen hfi => by
      refine ⟨_, (hreck k).trans (const_reck hop hl), fun t ht => ?_⟩
      have hm : moved (all u.code) d = d := by
        unfold moved
        rw [if_neg (by simp only [jmp, Bool.or_eq_true, beq_iff_eq]; omega)]
      rw [hm, goes_one (by omega)] at ht
      obtain rfl := List.mem_singleton.1 ht
      exact next hb hlen hfi hone
    rcases change_form u.code x with e | ⟨hmay, e⟩
    · -- it stays
      have hd0 : u.code[x]? = some d := by
        rw [e] at hd
        simp only [List.cons.injEq, and_true] at hd
        rw [List.getElem?_eq_getElem hxl] at hd ⊢
        rw [← hd]
        rfl
      obtain ⟨k', hr, ha⟩ := hK.next x k d hKx hd0
      refine ⟨k', (hreck k).trans hr, fun t ht => ?_⟩
      have hj := out_form hf (List.mem_of_getElem? hput)
      -- a place to which it jumps
      have aim : jmp d = true → d.a ∈ goes d x → ((now (all u.code) d.a.toNat : Nat) : Int).toNat < (passU u).code.length ∧ Fits (newK u.code K) ((now (all u.code) d.a.toNat : Nat) : Int).toNat k' := fun hjd hin => by
        obtain ⟨_, hbj⟩ := hj.2 hjd
        obtain ⟨_, k2, h1, h2, h3⟩ := ha d.a hin
        rw [show ((now (all u.code) d.a.toNat : Nat) : Int).toNat = now (all u.code) d.a.toNat by omega]
        exact ⟨hlt hbj, fits_new hK hbj ⟨k2, h1, h2, h3⟩⟩
      have on : (x : Int) + 1 ∈ goes d x → ((now (all u.code) x : Nat) + 1 : Int).toNat < (passU u).code.length ∧ Fits (newK u.code K) ((now (all u.code) x : Nat) + 1 : Int).toNat k' := fun hin => by
        obtain ⟨h0, k2, h1, h2, h3⟩ := ha _ hin
        have e1 : (change u.code x).1 = 1 := by rw [e]
        rw [show ((x : Int) + 1).toNat = x + 1 by omega] at h0 h1
        exact next hb (by rw [e1]; exact h0) (by rw [e1]; exact ⟨k2, h1, h2, h3⟩) hone
      have hmop : (moved (all u.code) d).op = d.op := by unfold moved; split <;> rfl
      unfold goes at ht aim on
      rw [hmop] at ht
      split at ht
      · cases ht
      · rename_i n1
        rw [if_neg n1] at aim on
        split at ht
        · rename_i n2
          rw [if_pos n2] at aim
          have hjd : jmp d = true := by simp [jmp, n2]
          obtain rfl := List.mem_singleton.1 ht
          have hma : (moved (all u.code) d).a = ((now (all u.code) d.a.toNat : Nat) : Int) := by unfold moved; rw [if_pos hjd]
          rw [hma]
          exact aim hjd List.mem_cons_self
        · rename_i n2
          rw [if_neg n2] at aim on
          split at ht
          · rename_i n3
            rw [if_pos n3] at aim on
            have hjd : jmp d = true := by simp [jmp, n3]
            have hma : (moved (all u.code) d).a = ((now (all u.code) d.a.toNat : Nat) : Int) := by unfold moved; rw [if_pos hjd]
            rcases List.mem_cons.1 ht with rfl | ht
            · rw [hma]
              exact aim hjd List.mem_cons_self
            · obtain rfl := List.mem_singleton.1 ht
              exact on (by simp)
          · rename_i n3
            rw [if_neg n3] at on
            obtain rfl := List.mem_singleton.1 ht
            exact on List.mem_cons_self
    · have hl := (may_of hmay).1
      rcases e with ⟨a, b, c, hr, e⟩ | ⟨a, b, hr, e⟩ | ⟨a, b, hr, e⟩ | ⟨a, b, hr, e⟩ | ⟨a, b, hr, e⟩ | ⟨a, _, _, _, e⟩
      · have hdc : d = comes a b c := by rw [e] at hd; simpa using hd.symm
        obtain ⟨hop, hn⟩ := kind_of hr.rk
        obtain ⟨k1, k2, r1, h2, s2, l2⟩ := fix_on hK hKx hr.h0 (by omega)
        obtain ⟨hst, rfl⟩ := reck_const hop r1
        obtain ⟨k3, k4, r3, h4, s4, l4⟩ := fix_on hK h2 hr.h1 (by have := hr.same; omega)
        obtain ⟨_, rfl⟩ := reck_const (by have := hr.same; omega) r3
        have s4' : k4.st = a.op :: a.op :: k.st := by rw [s4, s2, ← hr.same]
        obtain ⟨k5, k6, r5, h6, s6, l6⟩ := fix_on hK h4 hr.h2 hn
        have e5 := reck_two hr.rk s4' r5
        subst e5
        have hdop : d.op = if c.op ≤ 12 then 1 else 2 := by rw [hdc]; unfold comes; split <;> rfl
        refine const (by rw [hdop]; split; exact .inl rfl; exact .inr rfl) hst hl ?_
        rw [e, hdop]
        exact ⟨k6, h6, s6, (l6.trans l4).trans l2⟩
      · rw [e] at hd; cases hd
      · have hdc : d.op = 1 := by rw [e] at hd; simp only [put3, List.cons.injEq, and_true] at hd; rw [← hd]
        have hop : a.op = 1 := by simpa using hr.op0
        obtain ⟨k1, k2, r1, h2, s2, l2⟩ := fix_on hK hKx hr.h0 (by omega)
        obtain ⟨hst, rfl⟩ := reck_const (.inl hop) r1
        obtain ⟨k3, k4, r3, h4, s4, l4⟩ := fix_on hK h2 hr.h1 (by have := hr.op1; omega)
        have e3 := reck_one (.inl ⟨hr.op1, hop⟩) s2 r3
        subst e3
        refine const (.inl hdc) hst hl ?_
        rw [e, hdc, ← hop]
        exact ⟨k4, h4, s4, l4.trans l2⟩
      · have hdc : d.op = 2 := by rw [e] at hd; simp only [put4, List.cons.injEq, and_true] at hd; rw [← hd]
        have hop : a.op = 2 := by simpa using hr.op0
        obtain ⟨k1, k2, r1, h2, s2, l2⟩ := fix_on hK hKx hr.h0 (by omega)
        obtain ⟨hst, rfl⟩ := reck_const (.inr hop) r1
        obtain ⟨k3, k4, r3, h4, s4, l4⟩ := fix_on hK h2 hr.h1 (by have := hr.op1; omega)
        have e3 := reck_one (.inr ⟨hr.op1, hop⟩) s2 r3
        subst e3
        refine const (.inr hdc) hst hl ?_
        rw [e, hdc, ← hop]
        exact ⟨k4, h4, s4, l4.trans l2⟩
      · have hdc : d = ⟨21, b.a, 0⟩ := by
          rw [e] at hd
          simp only [put5] at hd
          split at hd
          · simpa using hd.symm
          · cases hd
        have hop : a.op = 2 := by simpa using hr.op0
        obtain ⟨k1, k2, r1, h2, s2, l2⟩ := fix_on hK hKx hr.h0 (by omega)
        obtain ⟨hst, rfl⟩ := reck_const (.inr hop) r1
        obtain ⟨k3, r3, h3⟩ := hK.next (x + 1) k2 b h2 hr.h1
        have e3 := reck_else hr.op1 s2 r3
        subst e3
        have hg : goes b (x + 1) = [b.a, ((x + 1 : Nat) : Int) + 1] := by
          unfold goes
          rw [if_neg (by have := hr.op1; omega), if_neg (by have := hr.op1; omega), if_pos hr.op1]
        obtain ⟨_, k4, h4, s4, l4⟩ := h3 b.a (by rw [hg]; exact List.mem_cons_self)
        have hjd : jmp d = true := by rw [hdc]; rfl
        obtain ⟨_, hbj⟩ := (out_form hf (List.mem_of_getElem? hput)).2 hjd
        have hda : d.a = b.a := by rw [hdc]
        rw [hda] at hbj
        refine ⟨k, (hreck k).trans (by rw [hdc]; simp [reck, reckS, speak, andThen, reckF]), fun t ht => ?_⟩
        have hm : moved (all u.code) d = ⟨21, ((now (all u.code) b.a.toNat : Nat) : Int), 0⟩ := by unfold moved; rw [if_pos hjd, hdc]
        rw [hm, goes, if_neg (by simp), if_pos rfl] at ht
        obtain rfl := List.mem_singleton.1 ht
        rw [show ((now (all u.code) b.a.toNat : Nat) : Int).toNat = now (all u.code) b.a.toNat by omega]
        exact ⟨hlt hbj, fits_new hK hbj ⟨k4, h4, s4, l4.trans l2⟩⟩
      · rw [e] at hd; cases hd
end Ot
end Go.Proofs.Ytlbihbfgglnfnaa

