/- Shorter code: what is right stays right, plainly. -/
import Derived.Test.YtalofknphhjhnaaM6
import Derived.Test.YtalofknphhjhnaaM12
import Derived.Test.YtalofknphhjhnaaM25
namespace Go.Proofs.Ytalofknphhjhnaa
namespace Ot
open Vf Vm

/-- Modules of which one has other code. -/
structure Al (m n : Md) : Prop where
  boxes : n.boxes = m.boxes
  len : n.units.length = m.units.length
  same : ∀ (k : Nat) (u : Un), m.units[k]? = some u → ∃ l, n.units[k]? = some { u with code := l }
theorem Al.unit {m n : Md} (h : Al m n) (a : Int) : ∃ l, Vf.unit n a = { Vf.unit m a with code := l } := by
  unfold Vf.unit
  cases hm : m.units[a.toNat]? with
  | none =>
    have : n.units[a.toNat]? = none := by
      rw [List.getElem?_eq_none_iff] at hm ⊢
      rw [h.len]
      exact hm
    rw [this]
    exact ⟨[], rfl⟩
  | some u =>
    obtain ⟨l, hl⟩ := h.same _ _ hm
    rw [hl]
    exact ⟨l, rfl⟩
theorem Al.is {m n : Md} (h : Al m n) (kd a : Int) : Vf.is n kd a = Vf.is m kd a := by
  unfold Vf.is
  cases hm : m.units[a.toNat]? with
  | none =>
    have : n.units[a.toNat]? = none := by
      rw [List.getElem?_eq_none_iff] at hm ⊢
      rw [h.len]
      exact hm
    rw [this]
  | some u =>
    obtain ⟨l, hl⟩ := h.same _ _ hm
    rw [hl]
    rfl
theorem Al.params {m n : Md} (h : Al m n) (a : Int) : Vf.params n a = Vf.params m a := by
  obtain ⟨l, hl⟩ := h.unit a
  unfold Vf.params
  rw [hl]
theorem Al.result {m n : Md} (h : Al m n) (a : Int) : (Vf.unit n a).result = (Vf.unit m a).result := by
  obtain ⟨l, hl⟩ := h.unit a
  rw [hl]
theorem Al.takes {m n : Md} (h : Al m n) (a : Int) : (Vf.unit n a).takes = (Vf.unit m a).takes := by
  obtain ⟨l, hl⟩ := h.unit a
  rw [hl]
theorem Al.resume {m n : Md} (h : Al m n) (st : List Int) : Vf.resume n st = Vf.resume m st := by
  unfold Vf.resume
  simp only [h.takes, h.result]
theorem Al.reckS {m n : Md} (h : Al m n) (u : Un) (l : List Ins) (c : Ins) (k : Kn) : Vf.reckS n { u with code := l } c k = Vf.reckS m u c k := by
  unfold Vf.reckS Vf.speak
  simp only [h.params, h.result, h.resume, Vf.boxTy, h.boxes, Vf.localTy]
theorem Al.reck {m n : Md} (h : Al m n) (u : Un) (l : List Ins) (c : Ins) (k : Kn) : Vf.reck n { u with code := l } c k = Vf.reck m u c k := by
  unfold Vf.reck
  rw [h.reckS]
theorem form_jump {m : Md} {u : Un} {c : Ins} (hf : formE m u c = 0) (hj : jmp c = true) : 0 ≤ c.a ∧ c.a < u.code.length := by
  obtain ⟨_, _, hr⟩ := formE_zero hf
  simp only [jmp, Bool.or_eq_true, beq_iff_eq] at hj
  unfold ranged at hr
  rw [if_neg (by omega), if_neg (by omega), if_pos hj] at hr
  simpa using hr
theorem forms_jumps {m : Md} {u : Un} (hf : Forms m u) : Jumps u.code := fun c hc hj => form_jump (hf c hc) hj
theorem mem_at {l : List Ins} {k : Nat} {c : Ins} (h : l[k]? = some c) : c ∈ l := List.mem_of_getElem? h
def passU (u : Un) : Un := { u with code := over u.code }
end Ot
end Go.Proofs.Ytalofknphhjhnaa

/- Shorter code: modules, passes until nothing is done, plainly. -/
namespace Go.Proofs.Ytalofknphhjhnaa
namespace Ot
open Vf Vm

def pass (m : Md) : Md := ⟨m.boxes, m.units.map passU⟩
theorem put_jump {l : List Ins} {x : Nat} (hx : x < l.length) {d : Ins} (hd : d ∈ (change l x).2) (hj : jmp d = true) : ∃ e ∈ l, jmp e = true ∧ e.a = d.a := by
  rcases change_form l x with h | ⟨_, h⟩
  · rw [h] at hd
    simp only [List.mem_singleton] at hd
    rw [List.getElem?_eq_getElem hx] at hd
    refine ⟨d, ?_, hj, rfl⟩
    rw [hd]
    exact List.getElem_mem hx
  · rcases h with ⟨a, b, c, hr, e⟩ | ⟨a, b, hr, e⟩ | ⟨a, b, hr, e⟩ | ⟨a, b, hr, e⟩ | ⟨a, b, hr, e⟩ | ⟨a, _, _, _, e⟩
    · rw [e] at hd
      simp only [List.mem_singleton] at hd
      subst hd
      unfold comes at hj
      split at hj <;> simp [jmp] at hj
    · rw [e] at hd; cases hd
    · rw [e] at hd
      simp only [put3, List.mem_singleton] at hd
      subst hd
      simp [jmp] at hj
    · rw [e] at hd
      simp only [put4, List.mem_singleton] at hd
      subst hd
      simp [jmp] at hj
    · rw [e] at hd
      simp only [put5] at hd
      split at hd
      · simp only [List.mem_singleton] at hd
        subst hd
        exact ⟨b, mem_at hr.h1, by simp [jmp, hr.op1], rfl⟩
      · cases hd
    · rw [e] at hd; cases hd
theorem out_jump {l : List Ins} (hl : Jumps l) {d : Ins} (hd : d ∈ out (all l)) (hj : jmp d = true) : 0 ≤ d.a ∧ Begins (all l) d.a.toNat := by
  obtain ⟨p, hp, hd⟩ := List.mem_flatMap.1 hd
  obtain ⟨_, h1, h2⟩ := pieces_mem _ _ _ _ hp
  rw [h2] at hd
  obtain ⟨e, he, hej, hea⟩ := put_jump h1 hd hj
  obtain ⟨a0, a1⟩ := hl e he hej
  rw [hea] at a0 a1
  refine ⟨a0, begins_aimed (by omega) ?_⟩
  unfold aimed
  rw [List.any_eq_true]
  refine ⟨e, he, ?_⟩
  rw [hej, hea]
  simp
  omega
theorem over_jumps {l : List Ins} (hl : Jumps l) : Jumps (over l) := fun c hc hj => by
  have hc' : c ∈ (out (all l)).map (moved (all l)) := hc
  obtain ⟨d, hd, rfl⟩ := List.mem_map.1 hc'
  by_cases hjd : jmp d = true
  · obtain ⟨_, hb⟩ := out_jump hl hd hjd
    have e : moved (all l) d = { d with a := (now (all l) d.a.toNat : Nat) } := by unfold moved; rw [if_pos hjd]
    have := now_lt hb
    rw [← over_len] at this
    rw [e]
    exact ⟨by simp, by show ((now (all l) d.a.toNat : Nat) : Int) < _; omega⟩
  · have e : moved (all l) d = d := by unfold moved; rw [if_neg hjd]
    rw [e] at hj
    exact absurd hj hjd
theorem short_len : ∀ (f : Nat) (l : List Ins), (shorter f l).length ≤ l.length ∧ (0 < l.length → 0 < (shorter f l).length)
  | 0, l => ⟨Nat.le_refl _, fun h => h⟩
  | f + 1, l => by
    have h1 := over_le l
    unfold shorter
    split
    · have := short_len f (over l)
      exact ⟨by omega, fun h => this.2 (over_pos h)⟩
    · exact ⟨h1, fun h => over_pos h⟩
def shortU (u : Un) : Un := { u with code := short u.code }
def shortM (m : Md) : Md := ⟨m.boxes, m.units.map shortU⟩
def passes (n : Nat) (m : Md) : Md := n.repeat pass m
theorem right_jumps {m : Md} (h : verify m = (0, 0, 0)) {u : Un} (hu : u ∈ m.units) : Jumps u.code ∧ 0 < u.code.length ∧ u.code.length ≤ 4000 := by
  have hl := right_iff.1 h
  obtain ⟨hR, _⟩ := rt_of (hl 0 (by omega)) (hl 1 (by omega)) (hl 2 (by omega))
  obtain ⟨k, hk⟩ := List.getElem?_of_mem hu
  have hm := hR.heads k u hk
  obtain ⟨_, h2, _⟩ := headE_zero hm.1
  unfold sized at h2
  simp only [Bool.and_eq_true, decide_eq_true_eq] at h2
  exact ⟨forms_jumps hm.2, h2.1.2, h2.2⟩
end Ot
end Go.Proofs.Ytalofknphhjhnaa

