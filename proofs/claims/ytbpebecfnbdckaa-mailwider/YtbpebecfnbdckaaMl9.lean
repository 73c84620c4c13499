/- alive; the rows that MailOrder gathers. -/
import Derived.Test.YtbpebecfnbdckaaMl7
namespace Go.Proofs.Ytbpebecfnbdckaa.Mb
open Go.RowKit

def aliveOps : List Ml.Op := [⟨true, 7⟩, ⟨true, 8⟩]
theorem alive_play : Ml.play 1 aliveOps = ([⟨true, 0⟩, ⟨false, 0⟩], [7], 0) := by decide

abbrev aliveO : Obj := .cells #[.bool true, .int .i64 7, .bool true, .int .i64 8] 34 (0, 0)

theorem alive_in (w : World) : OpsIn (w.alloc aliveO).heap.size (w.alloc aliveO) aliveOps (some ⟨w.heap.size, 0, none⟩) := by
  intro i o ho
  refine ⟨w.heap.size, 0, rfl, by simp, ?_⟩
  match i, ho with
  | 0, ho => simp [aliveOps] at ho; subst ho; simp [World.cell?_alloc_mark]
  | 1, ho => simp [aliveOps] at ho; subst ho; simp [World.cell?_alloc_mark]
  | n + 2, ho => simp [aliveOps] at ho

set_option maxRecDepth 100000 in
set_option maxHeartbeats 400000 in
theorem alive_any (w : World) : Calls Try.prog 9 #[] w fun e w' => e = .returned (.bool true) ∧ Below w.heap.size w w' := by
  go_enter Try.func9, Try.ntmps9
  go_wp2_with fail
  refine (play_any 1 aliveOps (some ⟨w.heap.size, 0, none⟩) 2 _ (alive_in w) (by decide) [⟨true, 0⟩, ⟨false, 0⟩] [7] 0 alive_play).mono ?_
  rintro e w1 ⟨v1, v2, rfl, o1, o2, hb⟩
  obtain ⟨a1, k1, rfl, r1⟩ := own_gots o1
  obtain ⟨a2, k2, rfl, r2⟩ := own_reads o2
  obtain ⟨b1, rfl, _, x1, x2⟩ := r1 0 _ rfl
  obtain ⟨b1', hb1', _, x3, x4⟩ := r1 1 _ rfl
  obtain ⟨b2, f2, rfl, y1⟩ := r2 0 _ rfl
  simp only [Option.some.injEq, Addr.mk.injEq, and_true] at hb1'
  subst hb1'
  have HB : Hid (Below w.heap.size w w1) := ((Below.refl _ w).alloc (Nat.le_refl _) _).trans (hb.mono (by simp))
  clear o1 o2 hb r1 r2
  simp only [List.length_cons, List.length_nil, Nat.zero_add, Nat.reduceAdd, Nat.zero_mul, Nat.add_zero, Nat.one_mul] at *
  go_wp2
  go_ret
  exact ⟨rfl, HB.out⟩

end Go.Proofs.Ytbpebecfnbdckaa.Mb
