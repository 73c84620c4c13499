/- How many picks there are, by what they weigh. -/
import Derived.Test.YtekjhefmhhcboaaGreatM40
import Derived.SizedLaws
namespace Go.Proofs.YtekjhefmhhcboaaGreat.Vw
open Go.RowKit Vf Vm
section
variable {H : Type} {enc : TypeId × Value → H} {w : World} {base : Nat} {spare : Nat → Bool} {held : Bool}
theorem bytes_pick : Tryz.prog.bytesOf 41 = 16 := by kernel_rfl
theorem picks_bytes {fuel n c R : Nat} {a : Option Addr} {cs : List Value} {d : DataW H} {ps : List MemPlace} (h : DataW.trod enc Tryz.prog w base spare held fuel 26 cs = some (d, ps)) (hcs : cs = [.slice a n c]) (hw : ∀ k ∈ d.weights Tryz.prog 26, k ≤ R) : n * 16 ≤ R := by
  subst hcs
  rcases DataW.trod_slice Tryz.underlying26 h with ⟨e, _⟩ | ⟨a', len, cap, elems, rest, k, _, e, e2, _, _, _, hlen, _⟩
  · simp at e
    omega
  · simp at e
    obtain ⟨_, rfl, _⟩ := e
    have hd := congrArg Prod.fst e2
    simp only at hd
    have := hw ((elems.length + rest.length) * 16) (by rw [hd]; simp [DataW.weights, Tryz.underlying26, bytes_pick])
    rw [← hlen]
    exact Nat.le_trans (Nat.mul_le_mul_right _ (Nat.le_add_right _ _)) this
end
end Go.Proofs.YtekjhefmhhcboaaGreat.Vw

