/- The listing, plainly: what Print answers, held against what the laws need; numbers of a module in memory. -/
import Derived.Test.YtlicfdligldhdaaDoorM31
namespace Go.Proofs.YtlicfdligldhdaaDoor.Aw
open Go.RowKit As

theorem printP_ok {m : Vf.Md} {s : By} (h : printP m = ((0, 0, 0), s)) : printA m = ((0, 0, 0), s) := by
  unfold printP at h
  split at h
  · cases h
  · exact h
theorem printP_of {m : Vf.Md} {s : By} (h : printA m = ((0, 0, 0), s)) : printP m = ((0, 0, 0), s) := by
  obtain ⟨_, h2, h3⟩ := print_ok h
  unfold printP
  rw [if_neg ?_]
  · exact h
  · rw [h2, lines, text_app, List.length_append] at h3
    omega
theorem num_mod {B : Nat} {w : World} {m : Vf.Md} {ab au : Option Addr} (h : ModIn B w m ab au) : NumM m := by
  refine ⟨fun b hb => ?_, fun u hu => ?_⟩
  · obtain ⟨i, hi⟩ := List.mem_iff_getElem?.1 hb
    obtain ⟨h1, h2, _⟩ := h.boxes i b hi
    exact ⟨i64_of h1, i64_of h2⟩
  · obtain ⟨i, hi⟩ := List.mem_iff_getElem?.1 hu
    obtain ⟨_, _, _, _, _, _, _, _, hun, _⟩ := h.units i u hi
    refine ⟨fun n hn => ?_, fun c hc => ?_⟩
    · simp only [List.mem_cons] at hn
      rcases hn with rfl | rfl | rfl | hn
      · exact i64_of hun.nums.2.1
      · exact i64_of hun.nums.2.2.1
      · exact i64_of hun.nums.2.2.2
      · obtain ⟨j, hj⟩ := List.mem_iff_getElem?.1 hn
        exact i64_of (hun.locals j n hj).1
    · obtain ⟨j, hj⟩ := List.mem_iff_getElem?.1 hc
      obtain ⟨_, h2, h3, _⟩ := hun.code j c hj
      exact ⟨i64_of h2, i64_of h3⟩
theorem prt_num : ∀ (us : List Vf.Un) (acc : By) (k : Nat) (a b : Nat) (s : By), prt acc k us = ((0, a, b), s) → a = 0 ∧ b = 0
  | [], acc, k, a, b, s, h => by
    unfold prt at h
    split at h
    · cases h
    · cases h; exact ⟨rfl, rfl⟩
  | u :: us, acc, k, a, b, s, h => by
    rw [prt_unit] at h
    split at h
    · exact prt_num us _ _ a b s h
    · rename_i hn
      have : (unitR acc k u).1 = 0 := by rw [(Prod.mk.inj h).1]
      exact absurd this hn
theorem printP_num {m : Vf.Md} (h : (printP m).1.1 = 0) : (printP m).1 = (0, 0, 0) := by
  unfold printP at h ⊢
  split at h
  · cases h
  · rename_i hn
    rw [if_neg hn]
    cases hp : prt (text (m.boxes.map bxL)) 0 m.units with
    | mk r s =>
      obtain ⟨e, a, b⟩ := r
      rw [hp] at h
      have h' : e = 0 := h
      subst h'
      obtain ⟨rfl, rfl⟩ := prt_num _ _ _ _ _ _ hp
      rfl

end Go.Proofs.YtlicfdligldhdaaDoor.Aw

