/- alive, StacksRoom, StacksGauge: the walks of the laws. -/
import Derived.Test.YtnoecaapmcidhaaSt10
namespace Go.Proofs.Ytnoecaapmcidhaa
open Go.RowKit

def aliveOps : List Sk.Op := [⟨1, 0, 7⟩, ⟨1, 0, 8⟩]
theorem alive_play : Sk.play 1 4 aliveOps = ([7, 8], [1, 2], 0, 0) := by decide

abbrev aliveO : Obj := .cells #[.int .i64 1, .int .i64 0, .int .i64 7, .int .i64 1, .int .i64 0, .int .i64 8] 36 (0, 0)

theorem alive_in (w : World) : OpsIn (w.alloc aliveO).heap.size (w.alloc aliveO) aliveOps (some ⟨w.heap.size, 0, none⟩) := by
  intro i o ho
  refine ⟨w.heap.size, 0, rfl, by simp, ?_⟩
  match i, ho with
  | 0, ho => simp [aliveOps] at ho; subst ho; simp [World.cell?_alloc_mark]
  | 1, ho => simp [aliveOps] at ho; subst ho; simp [World.cell?_alloc_mark]
  | n + 2, ho => simp [aliveOps] at ho

set_option maxRecDepth 100000 in
set_option maxHeartbeats 400000 in
theorem alive_any (w : World) : Calls Try.prog 13 #[] w fun e w' => e = .returned (.bool true) ∧ Below w.heap.size w w' := by
  go_enter Try.func13, Try.ntmps13
  go_wp2_with fail
  refine (play_any 1 4 aliveOps (some ⟨w.heap.size, 0, none⟩) 2 _ (alive_in w) (by decide) [7, 8] [1, 2] 0 0 alive_play).mono ?_
  rintro e w1 ⟨v1, v2, rfl, o1, o2, hb⟩
  obtain ⟨g1, cap1, rfl, hc1⟩ := own_vals o1 (by decide)
  obtain ⟨g2, cap2, rfl, hc2⟩ := own_vals o2 (by decide)
  have c1 := hc1 1 _ rfl
  have c2 := hc2 1 _ rfl
  have l1 := (o1.lt g1 rfl).2
  have l2 := (o2.lt g2 rfl).2
  have HB : Hid (Below w.heap.size w w1) := ((Below.refl _ w).alloc (Nat.le_refl _) _).trans (hb.mono (by simp))
  clear o1 o2 hb hc1 hc2
  simp only [List.length_cons, List.length_nil, Nat.zero_add, Nat.reduceAdd] at *
  go_wp2
  go_ret
  exact ⟨rfl, HB.out.alloc HB.out.size _⟩

end Go.Proofs.Ytnoecaapmcidhaa
