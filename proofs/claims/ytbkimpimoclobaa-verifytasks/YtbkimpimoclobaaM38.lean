/- A right module without some of its tasks is right. -/
import Derived.Test.YtbkimpimoclobaaM37
namespace Go.Proofs.Ytbkimpimoclobaa
namespace Vf

theorem small_flow (m : Md) : (flowF m smallU).1 = 0 := by
  have h1 : flowF m smallU = flow m smallU 2000 (start smallU) := flow_fuel (small_forms m) _ _ _ (by omega) (by have := mu_start (u := smallU); have e : smallU.code.length = 3 := rfl; rw [e] at this ⊢; omega)
  have h2 : flow m smallU 2000 (start smallU) = (0, 0) := by rfl
  rw [h1, h2]
theorem gatC_like {rec1 rec2 : Int → LL → LL} : ∀ (cs : List Ins) (l : LL), (∀ c ∈ cs, ∀ l, gstep rec1 c l = gstep rec2 c l) → gatC rec1 cs l = gatC rec2 cs l
  | [], _, _ => rfl
  | c :: cs, l, h => by
    show gatC rec1 cs (gstep rec1 c l) = gatC rec2 cs (gstep rec2 c l)
    rw [h c List.mem_cons_self]
    exact gatC_like cs _ (fun c hc => h c (List.mem_cons_of_mem _ hc))
theorem Like.gat {m n : Md} (h : Like m n) (hR : Rt m) : ∀ (f : Nat) (a : Int) (l : LL), Vf.unit n a = Vf.unit m a → Vf.gat n f a l = Vf.gat m f a l
  | 0, _, _, _ => rfl
  | f + 1, a, l, he => by
    show gatC (Vf.gat n f) (Vf.unit n a).code l = gatC (Vf.gat m f) (Vf.unit m a).code l
    rw [he]
    have hu := unit_in hR a
    refine gatC_like _ _ (fun c hc l => ?_)
    unfold gstep
    by_cases h1 : c.op = 26 ∨ c.op = 27
    · rw [if_pos h1, if_pos h1]
    · rw [if_neg h1, if_neg h1]
      by_cases h2 : c.op = 23 ∨ c.op = 29
      · rw [if_pos h2, if_pos h2]
        obtain ⟨kd, hk4, hi⟩ := call_is (hu.2 c hc) h2
        rw [h.gat hR f c.a _ (h.unit hk4 hi)]
      · rw [if_neg h2, if_neg h2]
theorem Like.tc {m n : Md} (h : Like m n) (hR : Rt m) (q : Lk) (k : Nat) : Vf.tc n q k ≤ Vf.tc m q k := by
  unfold Vf.tc
  refine List.countP_mono_left (fun i _ hi => ?_)
  simp only [Bool.and_eq_true] at hi ⊢
  rw [h.is] at hi
  refine ⟨hi.1, ?_⟩
  have hc := hi.2
  obtain ⟨u, hu, hk, _⟩ := is_some hi.1
  have hi' : Vf.is n 4 (i : Int) = true := by rw [h.is]; exact hi.1
  obtain ⟨v, hv, _, _⟩ := is_some hi'
  have huv : Vf.unit m (i : Int) = u := by unfold Vf.unit; rw [hu]; rfl
  have hvv : Vf.unit n (i : Int) = v := by unfold Vf.unit; rw [hv]; rfl
  rcases h.same _ u v hu hv with h1 | ⟨_, h1⟩
  · unfold comes at hc ⊢
    rw [h.gat hR 61 (i : Int) [] (by rw [hvv, huv, h1])] at hc
    exact hc
  · exfalso
    unfold comes at hc
    rw [small_gat n 61 (i : Int) (by rw [hvv, h1])] at hc
    simp [cnt, idx] at hc
/-- WHAT IS RIGHT STAYS RIGHT, with small tasks in other ones' places. -/
theorem tasks_right {m n : Md} (h : Like m n) (hr : verify m = (0, 0, 0)) : verify n = (0, 0, 0) := by
  have hl := right_iff.1 hr
  obtain ⟨hR, hb⟩ := rt_of (hl 0 (by omega)) (hl 1 (by omega)) (hl 2 (by omega))
  have hsh : ∀ v ∈ n.units, headE n v = 0 ∧ Forms n v ∧ (flowF n v).1 = 0 := fun v hv => by
    obtain ⟨k, hk⟩ := List.getElem?_of_mem hv
    obtain ⟨u, hu, h1 | ⟨_, h1⟩⟩ := h.at hk
    · subst h1
      have hm := hR.heads k v hu
      refine ⟨by rw [h.headE]; exact hm.1, fun c hc => by rw [h.formE]; exact hm.2 c hc, ?_⟩
      rw [h.flowF hR hm.1 hm.2]
      exact each_all _ _ _ (hl 4 (by omega)) v (List.mem_of_getElem? hu)
    · rw [h1]
      exact ⟨small_head n, small_forms n, small_flow n⟩
  refine right_iff.2 (fun k hk => ?_)
  rcases (by omega : k = 0 ∨ k = 1 ∨ k = 2 ∨ k = 3 ∨ k = 4 ∨ k = 5) with rfl | rfl | rfl | rfl | rfl | rfl
  · show sizesE n = 0
    have := hl 0 (by omega)
    have h0 : sizesE m = 0 := this
    unfold sizesE at h0 ⊢
    rw [h.boxes, h.len]
    exact h0
  · show (firstE boxE n.boxes 0).1 = 0
    rw [h.boxes]
    exact hl 1 (by omega)
  · exact each_zero _ _ (fun v hv => shape_zero (hsh v hv).1 (hsh v hv).2.1)
  · show tasksE n = 0
    have h0 : tasksE m = 0 := hl 3 (by omega)
    unfold tasksE at h0 ⊢
    split at h0
    · rename_i ha
      rw [List.any_eq_true] at ha
      obtain ⟨u, hu, h4⟩ := ha
      obtain ⟨k, hk⟩ := List.getElem?_of_mem hu
      have hkn : k < n.units.length := by rw [h.len]; exact (List.getElem?_eq_some_iff.1 hk).1
      have hv := List.getElem?_eq_getElem hkn
      rw [if_pos]
      rw [List.any_eq_true]
      refine ⟨_, List.mem_of_getElem? hv, ?_⟩
      rcases h.same k u _ hk hv with h1 | ⟨_, h1⟩
      · rw [h1]; exact h4
      · rw [h1]; rfl
    · cases h0
  · exact each_zero _ _ (fun v hv => (hsh v hv).2.2)
  · show (ownersW n).1 = 0
    unfold ownersW
    rw [h.boxes]
    refine first_zero _ _ (fun b hb => ?_)
    have hm : ownersE m b = 0 := first_all _ _ _ (show (firstE (ownersE m) (List.range m.boxes.length) 0).1 = 0 from hl 5 (by omega)) b hb
    unfold ownersE at hm ⊢
    split at hm
    · cases hm
    · rename_i hno
      have h1 := h.tc hR (26, (b : Int)) m.units.length
      have h2 := h.tc hR (27, (b : Int)) m.units.length
      rw [h.len, if_neg (by omega)]

end Vf
end Go.Proofs.Ytbkimpimoclobaa

