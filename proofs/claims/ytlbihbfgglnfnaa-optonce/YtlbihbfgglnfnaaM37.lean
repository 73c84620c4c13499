/- The small module of yieldlaw14's alive, plainly. -/
import Derived.Test.YtlbihbfgglnfnaaM30
import Derived.Test.YtlbihbfgglnfnaaM36
namespace Go.Proofs.Ytlbihbfgglnfnaa.Ow
open Go.RowKit Vf Vm Ot

def smallC : List Ins := [⟨1, 0, 1⟩, ⟨1, 0, 2⟩, ⟨8, 0, 0⟩, ⟨28, 0, 0⟩, ⟨25, 0, 0⟩]
def smallM : Md := ⟨[], [⟨4, 0, [], 0, 0, smallC⟩]⟩
theorem small_verify : verify smallM = (0, 0, 0) := of_decide_eq_true (by kernel_rfl)
theorem small_short : short smallC = [⟨1, 0, 3⟩, ⟨28, 0, 0⟩, ⟨25, 0, 0⟩] := by kernel_rfl
end Go.Proofs.Ytlbihbfgglnfnaa.Ow

/- The walk of yieldlaw14's alive. -/
namespace Go.Proofs.Ytlbihbfgglnfnaa.Ow
open Go.RowKit Vf Vm Ot

abbrev codeO : Obj := .cells #[.int .i64 1, .int .i64 0, .int .i64 1, .int .i64 1, .int .i64 0, .int .i64 2, .int .i64 8, .int .i64 0, .int .i64 0, .int .i64 28, .int .i64 0, .int .i64 0, .int .i64 25, .int .i64 0, .int .i64 0] 41 (0, 0)
abbrev unitO (g : Nat) : Obj := .cells #[.int .i64 4, .int .i64 0, .slice none 0 0, .int .i64 0, .int .i64 0, .slice (some ⟨g, 0, none⟩) 5 5] 38 (0, 0)
theorem small_in (w : World) : ModIn ((w.alloc codeO).alloc (unitO w.heap.size)).heap.size ((w.alloc codeO).alloc (unitO w.heap.size)) smallM none (some ⟨w.heap.size + 1, 0, none⟩) := by
  have hc : ((w.alloc codeO).alloc (unitO w.heap.size)).heap[w.heap.size]? = some codeO := oldO _ _ _
  have hu : ((w.alloc codeO).alloc (unitO w.heap.size)).heap[w.heap.size + 1]? = some (unitO w.heap.size) := newO _ _ _
  have hz : ((w.alloc codeO).alloc (unitO w.heap.size)).heap.size = w.heap.size + 2 := by simp
  generalize (w.alloc codeO).alloc (unitO w.heap.size) = W at *
  refine ⟨⟨by simp [smallM], by simp [smallM]⟩, fun i x hx => by simp [smallM] at hx, fun i u hi => ?_⟩
  have hi0 : i = 0 := by
    have := (List.getElem?_eq_some_iff.1 hi).1
    simp [smallM] at this
    exact this
  subst hi0
  simp [smallM] at hi
  subst hi
  refine ⟨w.heap.size + 1, 0, none, 0, some ⟨w.heap.size, 0, none⟩, 5, rfl, by omega, ⟨⟨by constructor <;> decide, by constructor <;> decide, by constructor <;> decide, by constructor <;> decide⟩, ⟨by simp, by simp [smallC]⟩, ⟨by simp, by simp [smallC]⟩, fun i x hx => (by simp at hx), fun i x hx => ?_⟩, ?_, ?_, ?_, ?_, ?_, ?_⟩
  · have hi5 : i = 0 ∨ i = 1 ∨ i = 2 ∨ i = 3 ∨ i = 4 := by
      have := (List.getElem?_eq_some_iff.1 hx).1
      simp [smallC] at this
      omega
    rcases hi5 with rfl | rfl | rfl | rfl | rfl
    all_goals (
      simp [smallC] at hx
      subst hx
      refine ⟨by constructor <;> decide, by constructor <;> decide, by constructor <;> decide, w.heap.size, 0, rfl, by omega, ?_, ?_, ?_⟩ <;> simp [World.cell?, hc])
  all_goals simp [World.cell?, hu, smallC]
theorem small_made : made smallM = ⟨[], [⟨4, 0, [], 0, 0, [⟨1, 0, 3⟩, ⟨28, 0, 0⟩, ⟨25, 0, 0⟩]⟩]⟩ := by
  unfold made
  rw [small_verify, if_pos rfl]
  unfold shortM smallM
  simp only [List.map_cons, List.map_nil, shortU, small_short]

set_option maxHeartbeats 1000000 in
set_option maxRecDepth 100000 in
theorem alive_any (w : World) : Calls Try.prog 6 #[] w fun e w' => e = .returned (.bool true) ∧ Below w.heap.size w w' := by
  have hm := module_any ((w.alloc codeO).alloc (unitO w.heap.size)).heap.size smallM none (some ⟨w.heap.size + 1, 0, none⟩) 0 1 ((w.alloc codeO).alloc (unitO w.heap.size)) (hide (Nat.le_refl _)) (hide (small_in w))
  unfold ModV at hm
  rw [small_made, small_verify] at hm
  have HM := hide hm
  clear hm
  go_enter Try.func6, Try.ntmps6
  go_wp2_with fail
  refine HM.out.mono ?_
  rintro e w1 ⟨ab, cb, au, cu, rfl, hM, hb⟩
  obtain ⟨b, off, al, cl, ac, cc, rfl, hbl, hU, _, _, _, _, _, c5⟩ := hM.units 0 ⟨4, 0, [], 0, 0, [⟨1, 0, 3⟩, ⟨28, 0, 0⟩, ⟨25, 0, 0⟩]⟩ rfl
  obtain ⟨_, _, _, b2, off2, rfl, hb2l, _, _, d2⟩ := hU.code 0 ⟨1, 0, 3⟩ rfl
  have c5' : w1.cell? ⟨b, off + 5, none⟩ = some (.slice (some ⟨b2, off2, none⟩) 3 cc) := c5
  have d2' : w1.cell? ⟨b2, off2 + 2, none⟩ = some (.int .i64 3) := d2
  have HB : Hid (Below w.heap.size w w1) := below_onO (two_belowO _ _ _) hb
  clear hM hU c5 d2 hb HM
  go_wp2
  go_ret
  exact ⟨rfl, (HB.out.alloc HB.out.size _).alloc (by have := HB.out.size; simp; omega) _⟩
end Go.Proofs.Ytlbihbfgglnfnaa.Ow

