/- A right module without some of its tasks is right. -/
import Derived.Test.YtbkimpimoclobaaM37
namespace Go.Proofs.Ytbkimpimoclobaa
namespace Vf

theorem small_flow (m : Md) : (flowF m smallU).1 = 0 := by
  have h1 : flowF m smallU = flow m smallU 2000 (start smallU) := flow_fuel (small_forms m) _ _ _ (by omega) (by have := mu_start (u := smallU); have e : smallU.code.length = 3 := rfl; rw [e] at this ⊢; omega)
  have h2 : flow m smallU 2000 (start smallU) = (0, 0) := by rfl
  rw [h1, h2]
theorem gatC_like {rec1 rec2 : Int → LL → LL} : ∀ (cs : List Ins) (l : LL), (∀ c ∈ cs, ∀ l, gstep rec1 c l = gstep rec2 c l) → gatC rec1 cs l = gatC rec2 cs l
  | [], _, _ => rfl
  | c :: cs, l, h => by
    show gatC rec1 cs (gstep rec1 c l) = gatC rec2 cs (gstep rec2 c l)
    rw [h c List.mem_cons_self]
    exact gatC_like cs _ (fun c hc => h c (List.mem_cons_of_mem _ hc))
theorem Like.gat {m n : Md} (h : Like m n) (hR : Rt m) : ∀ (f : Nat) (a : Int) (l : LL), Vf.unit n a = Vf.unit m a → Vf.gat n f a l = Vf.gat m f a l
  | 0, _, _, _ => rfl
  | f + 1, a, l, he => by
    show gatC (Vf.gat n f) (Vf.unit n a).code l = gatC (Vf.gat m f) (Vf.unit m a).code l
    rw [he]
    have hu := unit_in hR a
    refine gatC_like _ _ (fun c hc l => ?_)
    unfold gstep
    by_cases h1 : c.op = 26 ∨ c.op = 27
    · rw [if_pos h1, if_pos h1]
    · rw [if_neg h1, if_neg h1]
      by_cases h2 : c.op = 23 ∨ c.op = 29
      · rw [if_pos h2, if_pos h2]
        obtain ⟨kd, hk4, hi⟩ := call_is (hu.2 c hc) h2
        rw [h.gat hR f c.a _ (h.unit hk4 hi)]
      · rw [if_neg h2, if_neg h2]
theorem Like.tc {m n : Md} (h : Like m n) (hR : Rt m) (q : Lk) (k : Nat) : Vf.tc n q k ≤ Vf.tc m q k := by
  unfold Vf.tc
  refine List.countP_mono_left (fun i _ hi => ?_)
  simp only [Bool.and_eq_true] at hi ⊢
  rw [h.is] at hi
  refine ⟨hi.1, ?_⟩
  have hc := hi.2
  obtain ⟨u, hu, hk, _⟩ := is_some hi.1
  have hi' : Vf.is n 4 (i : Int) = true := by rw [h.is]; exact hi.1
  obtain ⟨v, hv, _, _⟩ := is_some hi'
  have huv : Vf.unit m (i : Int) = u := by unfold Vf.unit; rw [hu]; rfl
  have hvv : Vf.unit n (i : Int) = v := by unfold Vf.unit; rw [hv]; rfl
  rcases h.same _ u v hu hv with h1 | ⟨_, h1⟩
  · unfold comes at hc ⊢
    rw [h.gat hR 61 (i : Int) [] (by rw [hvv, huv, h1])] at hc
    exact hc
  · exfalso
    unfold comes at hc
    rw [small_gat n 61 (i : Int) (by rw [hvv, h1])] at hc
    simp [cnt, idx] at hc
end Vf
end Go.Proofs.Ytbkimpimoclobaa

