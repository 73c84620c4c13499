/- A right module without some of its tasks is right. -/
import Derived.Test.YtlbihbfgglnfnaaM28
import Derived.Test.YtlbihbfgglnfnaaM6
import Derived.Test.YtlbihbfgglnfnaaM12
namespace Go.Proofs.Ytlbihbfgglnfnaa
namespace Vf

theorem gatC_like {rec1 rec2 : Int → LL → LL} : ∀ (cs : List Ins) (l : LL), (∀ c ∈ cs, ∀ l, gstep rec1 c l = gstep rec2 c l) → gatC rec1 cs l = gatC rec2 cs l
  | [], _, _ => rfl
  | c :: cs, l, h => by
    show gatC rec1 cs (gstep rec1 c l) = gatC rec2 cs (gstep rec2 c l)
    rw [h c List.mem_cons_self]
    exact gatC_like cs _ (fun c hc => h c (List.mem_cons_of_mem _ hc))
theorem Like.gat {m n : Md} (h : Like m n) (hR : Rt m) : ∀ (f : Nat) (a : Int) (l : LL), Vf.unit n a = Vf.unit m a → Vf.gat n f a l = Vf.gat m f a l
  | 0, _, _, _ => rfl
  | f + 1, a, l, he => by
    show gatC (Vf.gat n f) (Vf.unit n a).code l = gatC (Vf.gat m f) (Vf.unit m a).code l
    rw [he]
    have hu := unit_in hR a
    refine gatC_like _ _ (fun c hc l => ?_)
    unfold gstep
    by_cases h1 : c.op = 26 ∨ c.op = 27
    · rw [if_pos h1, if_pos h1]
    · rw [if_neg h1, if_neg h1]
      by_cases h2 : c.op = 23 ∨ c.op = 29
      · rw [if_pos h2, if_pos h2]
        obtain ⟨kd, hk4, hi⟩ := call_is (hu.2 c hc) h2
        rw [h.gat hR f c.a _ (h.unit hk4 hi)]
      · rw [if_neg h2, if_neg h2]
theorem Like.tc {m n : Md} (h : Like m n) (hR : Rt m) (q : Lk) (k : Nat) : Vf.tc n q k ≤ Vf.tc m q k := by
  unfold Vf.tc
  refine List.countP_mono_left (fun i _ hi => ?_)
  simp only [Bool.and_eq_true] at hi ⊢
  rw [h.is] at hi
  refine ⟨hi.1, ?_⟩
  have hc := hi.2
  obtain ⟨u, hu, hk, _⟩ := is_some hi.1
  have hi' : Vf.is n 4 (i : Int) = true := by rw [h.is]; exact hi.1
  obtain ⟨v, hv, _, _⟩ := is_some hi'
  have huv : Vf.unit m (i : Int) = u := by unfold Vf.unit; rw [hu]; rfl
  have hvv : Vf.unit n (i : Int) = v := by unfold Vf.unit; rw [hv]; rfl
  rcases h.same _ u v hu hv with h1 | ⟨_, h1⟩
  · unfold comes at hc ⊢
    rw [h.gat hR 61 (i : Int) [] (by rw [hvv, huv, h1])] at hc
    exact hc
  · exfalso
    unfold comes at hc
    rw [small_gat n 61 (i : Int) (by rw [hvv, h1])] at hc
    simp [cnt, idx] at hc
end Vf
end Go.Proofs.Ytlbihbfgglnfnaa

/- Shorter code: what is right stays right, plainly. -/
namespace Go.Proofs.Ytlbihbfgglnfnaa
namespace Ot
open Vf Vm

/-- Modules of which one has other code. -/
structure Al (m n : Md) : Prop where
  boxes : n.boxes = m.boxes
  len : n.units.length = m.units.length
  same : ∀ (k : Nat) (u : Un), m.units[k]? = some u → ∃ l, n.units[k]? = some { u with code := l }
theorem Al.unit {m n : Md} (h : Al m n) (a : Int) : ∃ l, Vf.unit n a = { Vf.unit m a with code := l } := by
  unfold Vf.unit
  cases hm : m.units[a.toNat]? with
  | none =>
    have : n.units[a.toNat]? = none := by
      rw [List.getElem?_eq_none_iff] at hm ⊢
      rw [h.len]
      exact hm
    rw [this]
    exact ⟨[], rfl⟩
  | some u =>
    obtain ⟨l, hl⟩ := h.same _ _ hm
    rw [hl]
    exact ⟨l, rfl⟩
theorem Al.is {m n : Md} (h : Al m n) (kd a : Int) : Vf.is n kd a = Vf.is m kd a := by
  unfold Vf.is
  cases hm : m.units[a.toNat]? with
  | none =>
    have : n.units[a.toNat]? = none := by
      rw [List.getElem?_eq_none_iff] at hm ⊢
      rw [h.len]
      exact hm
    rw [this]
  | some u =>
    obtain ⟨l, hl⟩ := h.same _ _ hm
    rw [hl]
    rfl
theorem Al.params {m n : Md} (h : Al m n) (a : Int) : Vf.params n a = Vf.params m a := by
  obtain ⟨l, hl⟩ := h.unit a
  unfold Vf.params
  rw [hl]
theorem Al.result {m n : Md} (h : Al m n) (a : Int) : (Vf.unit n a).result = (Vf.unit m a).result := by
  obtain ⟨l, hl⟩ := h.unit a
  rw [hl]
theorem Al.takes {m n : Md} (h : Al m n) (a : Int) : (Vf.unit n a).takes = (Vf.unit m a).takes := by
  obtain ⟨l, hl⟩ := h.unit a
  rw [hl]
theorem Al.resume {m n : Md} (h : Al m n) (st : List Int) : Vf.resume n st = Vf.resume m st := by
  unfold Vf.resume
  simp only [h.takes, h.result]
theorem Al.reckS {m n : Md} (h : Al m n) (u : Un) (l : List Ins) (c : Ins) (k : Kn) : Vf.reckS n { u with code := l } c k = Vf.reckS m u c k := by
  unfold Vf.reckS Vf.speak
  simp only [h.params, h.result, h.resume, Vf.boxTy, h.boxes, Vf.localTy]
theorem Al.reck {m n : Md} (h : Al m n) (u : Un) (l : List Ins) (c : Ins) (k : Kn) : Vf.reck n { u with code := l } c k = Vf.reck m u c k := by
  unfold Vf.reck
  rw [h.reckS]
theorem form_jump {m : Md} {u : Un} {c : Ins} (hf : formE m u c = 0) (hj : jmp c = true) : 0 ≤ c.a ∧ c.a < u.code.length := by
  obtain ⟨_, _, hr⟩ := formE_zero hf
  simp only [jmp, Bool.or_eq_true, beq_iff_eq] at hj
  unfold ranged at hr
  rw [if_neg (by omega), if_neg (by omega), if_pos hj] at hr
  simpa using hr
theorem forms_jumps {m : Md} {u : Un} (hf : Forms m u) : Jumps u.code := fun c hc hj => form_jump (hf c hc) hj
theorem mem_at {l : List Ins} {k : Nat} {c : Ins} (h : l[k]? = some c) : c ∈ l := List.mem_of_getElem? h
def passU (u : Un) : Un := { u with code := over u.code }
end Ot
end Go.Proofs.Ytlbihbfgglnfnaa

