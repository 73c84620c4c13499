/- The walk of LexTells. -/
import Derived.Test.YtfmkhdncbdkpoaaR6
namespace Go.Proofs.Ytfmkhdncbdkpoaa
open Go.RowKit

theorem refTokens_any (s : ByteArray) (w : World) (hs : s.size ≤ maxLen) :
    Calls Try.prog 7 #[.string s] w fun e w' => ∃ v, e = .returned (.tuple #[v, .agg #[.int .i64 (Lx.lexB s).2.1, .int .i64 (Lx.lexB s).2.2]]) ∧ w'.ownsRow w.heap.size 32 4 v (Lx.lexB s).1.length (Lx.cellsOf (Lx.lexB s).1) ∧ Below w.heap.size w w' := by
  by_cases hm : 6000 < s.size
  · refine (refTokens_much s w hs hm).mono ?_
    rintro e w' ⟨rfl, hb⟩
    have e : Lx.lexB s = ([], 4, 0) := by unfold Lx.lexB; rw [if_pos hm]
    rw [e]
    exact ⟨.slice none 0 0, rfl, World.ownsRow_nil _ _ _ _, hb⟩
  · exact refTokens_few s w (by omega)

set_option maxRecDepth 100000 in
set_option maxHeartbeats 1000000 in
theorem tells_any (s : ByteArray) (w : World) (hs : s.size ≤ maxLen) :
    Calls Try.prog 3 #[.string s] w fun e w' => e = .returned (.bool true) ∧ Below w.heap.size w w' := by
  obtain ⟨E, P, hE⟩ : ∃ E P, (Lx.lexB s).2 = (E, P) := ⟨_, _, rfl⟩
  obtain ⟨T, hT⟩ : ∃ T, (Lx.lexB s).1 = T := ⟨_, rfl⟩
  obtain ⟨n, hn⟩ : ∃ n, T.length = n := ⟨_, rfl⟩
  have hn6 : n ≤ 6001 := by rw [← hn, ← hT]; exact Lx.lexB_len s
  have HE : Hid ((Lx.lexB s).2 = (E, P)) := hE
  have HT : Hid ((Lx.lexB s).1 = T) := hT
  have HN : Hid (T.length = n) := hn
  clear hE hT hn
  go_enter Try.func3, Try.ntmps3
  go_wp2_with fail
  refine (tokens_any s w hs).mono ?_
  rintro e w1 ⟨va, rfl, hownA, hb1⟩
  rw [HE.out]
  rw [HT.out, HN.out] at hownA
  go_wp2_with fail
  refine (refTokens_any s _ hs).mono ?_
  rintro e w2 ⟨vb, rfl, hownB, hb2⟩
  rw [HE.out]
  rw [HT.out, HN.out] at hownB
  have kZ : w2.heap[w1.heap.size]? = some (.cells #[.int .i64 E, .int .i64 P] 25 (0, 0)) := by
    rw [hb2.block _ (by simp)]; exact heap_alloc_new w1 _
  obtain ⟨t0, t1, y0, y1⟩ := two_cell kZ
  have hz := lt_of_block kZ
  have HB : Hid (Below w.heap.size w w2) := (hb1.alloc hb1.size _).trans (hb2.mono (by have := hb1.size; simp; omega))
  have hsz : w.heap.size ≤ w2.heap.size := HB.out.size
  have HA2 : Hid (w2.ownsRow w.heap.size 32 4 va n (Lx.cellsOf T)) := own_below (hownA.alloc _) hb2
  obtain ⟨aa, capa, rfl⟩ := own_slice hownA
  obtain ⟨ab, capb, rfl⟩ := own_slice hownB
  have HOB : Hid (w2.ownsRow (w1.alloc (.cells #[.int .i64 E, .int .i64 P] 25)).heap.size 32 4 (.slice ab n capb) n (Lx.cellsOf T)) := hownB
  clear kZ hownA hownB hb1 hb2
  go_wp2_with fail
  refine (same_any T n capa capb aa ab _ _ _ HN.out hn6 (HA2.out.alloc _) (HOB.out.alloc _)).mono ?_
  rintro e w3 ⟨rfl, hb3⟩
  have HB3 : Hid (Below w.heap.size w w3) := (HB.out.alloc hsz _).trans (hb3.mono (by simp; omega))
  have hsz3 : w.heap.size ≤ w3.heap.size := HB3.out.size
  clear hb3
  go_wp2_with fail
  refine (named_any s _ hs).mono ?_
  rintro e w4 ⟨rfl, rfl⟩
  go_wp2_with fail
  refine (refNamed_any s _ hs).mono ?_
  rintro e w5 ⟨rfl, hb5⟩
  have HB5 : Hid (Below w.heap.size w w5) := HB3.out.trans (hb5.mono hsz3)
  clear hb5
  go_wp2
  go_ret
  exact ⟨rfl, HB5.out⟩

end Go.Proofs.Ytfmkhdncbdkpoaa
