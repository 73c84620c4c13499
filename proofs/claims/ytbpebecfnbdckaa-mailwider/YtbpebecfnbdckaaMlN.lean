/- The walk of mail.New. -/
import Derived.Test.YtbpebecfnbdckaaMl3
namespace Go.Proofs.Ytbpebecfnbdckaa.Mb
open Go.RowKit

set_option maxHeartbeats 400000 in
theorem mnew_range (n : Int) (w : World) (h : n < 1 ∨ 20 < n) :
    Calls Try.prog 10 #[.int .i64 n] w fun e w' => e = .returned (.tuple #[.pointer none, .int .i64 3]) ∧ w' = w := by
  by_cases h1 : n < 1
  · go_enter Try.func10, Try.ntmps10
    go_wp2
    go_ret2
    exact ⟨rfl, rfl⟩
  · have h3 : 20 < n := by omega
    clear h
    go_enter Try.func10, Try.ntmps10
    go_wp2
    go_ret2
    exact ⟨rfl, rfl⟩

set_option maxHeartbeats 400000 in
/-- WHAT mail.New ANSWERS. -/
theorem mnew_any (n : Nat) (w : World) (h1 : 1 ≤ n) (h3 : n ≤ 20) :
    Calls Try.prog 10 #[.int .i64 n] w fun e w' => ∃ S, e = .returned (.tuple #[.pointer (some ⟨S, 0, none⟩), .int .i64 0]) ∧ BX w' S w.heap.size [] 0 n ∧ w.heap.size < S ∧ Below w.heap.size w w' := by
  obtain ⟨i0, hi, hz0, hz1, hz2⟩ := info_parts Try.info2
  have n1 : ¬ (n : Int) < 1 := by omega
  have n3 : ¬ (20 : Int) < (n : Int) := by omega
  go_enter Try.func10, Try.ntmps10
  go_wp2_with (at_make; refine wpList_make_full _ rfl _ _ 24 rfl w.heap.size 2 i0 (.int .i64 0) 1 Try.underlying24 hi hz0 hz1 _ _ _ _ n rfl rfl rfl rfl (by rw [hz2]; omega) (by unfold maxLen; omega) (Nat.le_refl _) ?_; intro w1 hown hgrow)
  have hb : Below w.heap.size w w1 := (Below.refl _ w).grown hgrow (Nat.le_refl _) (fun k hk => by simp at hk)
  have hrk : RK w1 w.heap.size [] 0 n := by
    rcases hown.2 with ⟨hv, _⟩ | ⟨g', cap, cur, hv, _, hh, _, _, hc, _⟩
    · simp at hv
    · simp at hv
      obtain ⟨rfl, rfl⟩ := hv
      exact ⟨cur.toList, hh, by simpa using hc, fun i x hx => by simp at hx⟩
  have hz := lt_of_block hrk.choose_spec.1
  have HS0 := hide (show BX (w1.alloc (bxO w.heap.size n 0 0)) w1.heap.size w.heap.size [] 0 n from ⟨heap_alloc_new w1 _, RK.far (Below.heap_alloc _ _ _ hz) hrk, Nat.zero_le _, by omega, h3⟩)
  have HB := hide (hb.alloc hb.size (bxO w.heap.size n 0 0))
  clear hown hgrow n1 n3 hb hrk
  go_wp2
  go_ret2
  exact ⟨_, rfl, HS0.out, hz, HB.out⟩
end Go.Proofs.Ytbpebecfnbdckaa.Mb
