/- A right module without some of its tasks is right. -/
import Derived.Test.YtbkimpimoclobaaM20
namespace Go.Proofs.Ytbkimpimoclobaa
namespace Vf

theorem gatC_like {rec1 rec2 : Int → LL → LL} : ∀ (cs : List Ins) (l : LL), (∀ c ∈ cs, ∀ l, gstep rec1 c l = gstep rec2 c l) → gatC rec1 cs l = gatC rec2 cs l
  | [], _, _ => rfl
  | c :: cs, l, h => by
    show gatC rec1 cs (gstep rec1 c l) = gatC rec2 cs (gstep rec2 c l)
    rw [h c List.mem_cons_self]
    exact gatC_like cs _ (fun c hc => h c (List.mem_cons_of_mem _ hc))
theorem Like.gat {m n : Md} (h : Like m n) (hR : Rt m) : ∀ (f : Nat) (a : Int) (l : LL), Vf.unit n a = Vf.unit m a → Vf.gat n f a l = Vf.gat m f a l
  | 0, _, _, _ => rfl
  | f + 1, a, l, he => by
    show gatC (Vf.gat n f) (Vf.unit n a).code l = gatC (Vf.gat m f) (Vf.unit m a).code l
    rw [he]
    have hu := unit_in hR a
    refine gatC_like _ _ (fun c hc l => ?_)
    unfold gstep
    by_cases h1 : c.op = 26 ∨ c.op = 27
    · rw [if_pos h1, if_pos h1]
    · rw [if_neg h1, if_neg h1]
      by_cases h2 : c.op = 23 ∨ c.op = 29
      · rw [if_pos h2, if_pos h2]
        obtain ⟨kd, hk4, hi⟩ := call_is (hu.2 c hc) h2
        rw [h.gat hR f c.a _ (h.unit hk4 hi)]
      · rw [if_neg h2, if_neg h2]
theorem Like.tc {m n : Md} (h : Like m n) (hR : Rt m) (q : Lk) (k : Nat) : Vf.tc n q k ≤ Vf.tc m q k := by
  unfold Vf.tc
  refine List.countP_mono_left (fun i _ hi => ?_)
  simp only [Bool.and_eq_true] at hi ⊢
  rw [h.is] at hi
  refine ⟨hi.1, ?_⟩
  have hc := hi.2
  obtain ⟨u, hu, hk, _⟩ := is_some hi.1
  have hi' : Vf.is n 4 (i : Int) = true := by rw [h.is]; exact hi.1
  obtain ⟨v, hv, _, _⟩ := is_some hi'
  have huv : Vf.unit m (i : Int) = u := by unfold Vf.unit; rw [hu]; rfl
  have hvv : Vf.unit n (i : Int) = v := by unfold Vf.unit; rw [hv]; rfl
  rcases h.same _ u v hu hv with h1 | ⟨_, h1⟩
  · unfold comes at hc ⊢
    rw [h.gat hR 61 (i : Int) [] (by rw [hvv, huv, h1])] at hc
    exact hc
  · exfalso
    unfold comes at hc
    rw [small_gat n 61 (i : Int) (by rw [hvv, h1])] at hc
    simp [cnt, idx] at hc
end Vf
end Go.Proofs.Ytbkimpimoclobaa

/- Two Wheres, held against each other. -/
namespace Go.Proofs.Ytbkimpimoclobaa
open Go.RowKit

theorem Try.infoerrno : (Try.prog.info? 26).map (fun i => i.size) = some 1 := by kernel_rfl
theorem eq_errno (d : Nat) (x y : Int) (w : World) : (Op.equalIn (d + 1) 26 (.int .i64 x) (.int .i64 y)).run Try.prog w = .ok (x == y) w := by
  simp [Op.equalIn, run_underlying Try.underlying26]
/-- Two Wheres, held against each other. -/
theorem eq_where (a b c a' b' c' : Int) (w : World) : (Op.equalIn 10000 28 (whV a b c) (whV a' b' c')).run Try.prog w = .ok (a == a' && b == b' && c == c') w := by
  have hu := run_underlying (P := Try.prog) (w := w) Try.underlying28
  obtain ⟨j, hj, hj2⟩ := Option.map_eq_some_iff.1 Try.infolink
  obtain ⟨j', hj', hj2'⟩ := Option.map_eq_some_iff.1 Try.infoerrno
  have p0 : ∀ (a b c : Value) (w : World), (part 26 #[a, b, c] 0).run Try.prog w = .ok a w := fun _ _ _ _ => by simp [part, sizeOf, typeInfo, hj', hj2']
  have p1 : ∀ (a b c : Value) (w : World), (part 3 #[a, b, c] 1).run Try.prog w = .ok b w := fun _ _ _ _ => by simp [part, sizeOf, typeInfo, hj, hj2]
  have p2 : ∀ (a b c : Value) (w : World), (part 3 #[a, b, c] 2).run Try.prog w = .ok c w := fun _ _ _ _ => by simp [part, sizeOf, typeInfo, hj, hj2]
  have hst : Try.prog.stoodInHeld 28 = false := by kernel_rfl
  have hp : (Sem.program Sem.pure).run Try.prog w = .ok Try.prog w := rfl
  have h : ∀ d : Nat, (Op.equalIn (d + 2) 28 (whV a b c) (whV a' b' c')).run Try.prog w = .ok (a == a' && b == b' && c == c') w := fun d => by
    rw [Op.equalIn]
    simp [hu, program, hp, hst, p0, p1, p2, eq_int, eq_errno]
    by_cases ha : a = a'
    · by_cases hb : b = b'
      · by_cases hc : c = c'
        · simp [ha, hb, hc]
        · simp [ha, hb, hc]
      · simp [ha, hb]
    · simp [ha]
  exact h 9998

end Go.Proofs.Ytbkimpimoclobaa

