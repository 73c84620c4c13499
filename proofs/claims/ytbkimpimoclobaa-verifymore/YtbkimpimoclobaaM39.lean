/- Two Wheres, held against each other. -/
import Derived.Test.YtbkimpimoclobaaM36
namespace Go.Proofs.Ytbkimpimoclobaa
open Go.RowKit

theorem Try.infoerrno : (Try.prog.info? 26).map (fun i => i.size) = some 1 := by kernel_rfl
theorem eq_errno (d : Nat) (x y : Int) (w : World) : (Op.equalIn (d + 1) 26 (.int .i64 x) (.int .i64 y)).run Try.prog w = .ok (x == y) w := by
  simp [Op.equalIn, run_underlying Try.underlying26]
/-- Two Wheres, held against each other. -/
theorem eq_where (a b c a' b' c' : Int) (w : World) : (Op.equalIn 10000 28 (whV a b c) (whV a' b' c')).run Try.prog w = .ok (a == a' && b == b' && c == c') w := by
  have hu := run_underlying (P := Try.prog) (w := w) Try.underlying28
  obtain ⟨j, hj, hj2⟩ := Option.map_eq_some_iff.1 Try.infolink
  obtain ⟨j', hj', hj2'⟩ := Option.map_eq_some_iff.1 Try.infoerrno
  have p0 : ∀ (a b c : Value) (w : World), (part 26 #[a, b, c] 0).run Try.prog w = .ok a w := fun _ _ _ _ => by simp [part, sizeOf, typeInfo, hj', hj2']
  have p1 : ∀ (a b c : Value) (w : World), (part 3 #[a, b, c] 1).run Try.prog w = .ok b w := fun _ _ _ _ => by simp [part, sizeOf, typeInfo, hj, hj2]
  have p2 : ∀ (a b c : Value) (w : World), (part 3 #[a, b, c] 2).run Try.prog w = .ok c w := fun _ _ _ _ => by simp [part, sizeOf, typeInfo, hj, hj2]
  have hst : Try.prog.stoodInHeld 28 = false := by kernel_rfl
  have hp : (Sem.program Sem.pure).run Try.prog w = .ok Try.prog w := rfl
  have h : ∀ d : Nat, (Op.equalIn (d + 2) 28 (whV a b c) (whV a' b' c')).run Try.prog w = .ok (a == a' && b == b' && c == c') w := fun d => by
    rw [Op.equalIn]
    simp [hu, program, hp, hst, p0, p1, p2, eq_int, eq_errno]
    by_cases ha : a = a'
    · by_cases hb : b = b'
      · by_cases hc : c = c'
        · simp [ha, hb, hc]
        · simp [ha, hb, hc]
      · simp [ha, hb]
    · simp [ha]
  exact h 9998

end Go.Proofs.Ytbkimpimoclobaa

