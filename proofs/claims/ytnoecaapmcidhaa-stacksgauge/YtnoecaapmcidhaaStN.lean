/- The walk of stacks.New. -/
import Derived.Test.YtnoecaapmcidhaaSt5
namespace Go.Proofs.Ytnoecaapmcidhaa
open Go.RowKit

theorem ck_made {w : World} {B mn : Nat} {g : Nat} {xs : List Value} (h : w.ownsRow B 2 1 (.slice (some ⟨g, 0, none⟩) mn mn) mn xs) : CK w g [] mn := by
  rcases h.2 with ⟨hv, _⟩ | ⟨g', cap, cur, hv, _, hh, _, _, hc, _⟩
  · simp at hv
  · simp at hv
    obtain ⟨rfl, rfl⟩ := hv
    exact ⟨cur.toList, hh, by simpa using hc, rfl⟩

set_option maxHeartbeats 400000 in
theorem snew_range (mn most : Int) (w : World) (h : mn < 1 ∨ most < mn ∨ 400 < most) :
    Calls Try.prog 17 #[.int .i64 mn, .int .i64 most] w fun e w' => e = .returned (.tuple #[.pointer none, .int .i64 3]) ∧ w' = w := by
  by_cases h1 : mn < 1
  · go_enter Try.func17, Try.ntmps17
    go_wp2
    go_ret2
    exact ⟨rfl, rfl⟩
  · by_cases h2 : most < mn
    · clear h
      go_enter Try.func17, Try.ntmps17
      go_wp2
      go_ret2
      exact ⟨rfl, rfl⟩
    · have h3 : 400 < most := by omega
      clear h
      go_enter Try.func17, Try.ntmps17
      go_wp2
      go_ret2
      exact ⟨rfl, rfl⟩

set_option maxHeartbeats 400000 in
/-- WHAT stacks.New ANSWERS. -/
theorem snew_any (mn most : Nat) (w : World) (h1 : 1 ≤ mn) (h2 : mn ≤ most) (h3 : most ≤ 400) :
    Calls Try.prog 17 #[.int .i64 mn, .int .i64 most] w fun e w' => ∃ S, e = .returned (.tuple #[.pointer (some ⟨S, 0, none⟩), .int .i64 0]) ∧ SK w' S w.heap.size [] mn mn most ∧ w.heap.size < S ∧ Below w.heap.size w w' := by
  obtain ⟨i0, hi, hz0, hz1, hz2⟩ := info_parts Try.info2
  have n1 : ¬ (mn : Int) < 1 := by omega
  have n2 : ¬ (most : Int) < (mn : Int) := by omega
  have n3 : ¬ (400 : Int) < (most : Int) := by omega
  go_enter Try.func17, Try.ntmps17
  go_wp2_with (at_make; refine wpList_make_full _ rfl _ _ 23 rfl w.heap.size 2 i0 (.int .i64 0) 1 Try.underlying23 hi hz0 hz1 _ _ _ _ mn rfl rfl rfl rfl (by rw [hz2]; omega) (by unfold maxLen; omega) (Nat.le_refl _) ?_; intro w1 hown hgrow)
  have hb : Below w.heap.size w w1 := (Below.refl _ w).grown hgrow (Nat.le_refl _) (fun k hk => by simp at hk)
  have hz := lt_of_block (ck_made hown).choose_spec.1
  have HS0 := hide (show SK (w1.alloc (skO w.heap.size 0 mn mn most)) w1.heap.size w.heap.size [] mn mn most from ⟨heap_alloc_new w1 _, (ck_made hown).alloc _, by unfold Sk.Fits; simp; omega⟩)
  have HB := hide (hb.alloc hb.size (skO w.heap.size 0 mn mn most))
  clear hown hgrow n1 n2 n3 hb
  go_wp2
  go_ret2
  exact ⟨_, rfl, HS0.out, hz, HB.out⟩
end Go.Proofs.Ytnoecaapmcidhaa
