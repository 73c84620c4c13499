/- The walks of Same, SameInts and StacksPlay. -/
import Derived.Test.YtnoecaapmcidhaaSt8
namespace Go.Proofs.Ytnoecaapmcidhaa
open Go.RowKit

theorem own_vals {w : World} {B e n : Nat} {v : Value} {l : List Value} (h : w.ownsRow B e 1 v n l) (hn : 0 < n) :
    ∃ g cap, v = .slice (some ⟨g, 0, none⟩) n cap ∧ ∀ j u, l[j]? = some u → w.cell? ⟨g, j, none⟩ = some u := by
  rcases h.2 with ⟨_, h0⟩ | ⟨g, cap, cur, rfl, hg, hh, h1, h2, h3, h4⟩
  · omega
  · refine ⟨g, cap, rfl, fun j u hu => ?_⟩
    rw [← h4, List.getElem?_take] at hu
    split at hu
    · simp [World.cell?, hh]; simpa using hu
    · simp at hu


set_option maxHeartbeats 400000 in
theorem same_any (v1 v2 : Value) (l : List Int) (B1 B2 n : Nat) (w : World) (h1 : Hid (w.ownsRow B1 2 1 v1 n (ints l))) (h2 : Hid (w.ownsRow B2 2 1 v2 n (ints l))) (hn : n ≤ 9223372036854775806) :
    Calls Try.prog 11 #[v1, v2] w fun e w' => e = .returned (.bool true) ∧ ∃ d, w' = w.drewN d := by
  have hl : l.length = n := by have := h1.out.1; simpa using this
  have eq0 : ((n : Int) != (n : Int)) = false := by simp
  by_cases h0 : n = 0
  · obtain ⟨a1, c1, rfl⟩ : ∃ a c, v1 = .slice a 0 c := by
      rcases h1.out.2 with ⟨rfl, _⟩ | ⟨g, cap, cur, rfl, _⟩
      · exact ⟨_, _, rfl⟩
      · rw [h0]; exact ⟨_, _, rfl⟩
    obtain ⟨a2, c2, rfl⟩ : ∃ a c, v2 = .slice a 0 c := by
      rcases h2.out.2 with ⟨rfl, _⟩ | ⟨g, cap, cur, rfl, _⟩
      · exact ⟨_, _, rfl⟩
      · rw [h0]; exact ⟨_, _, rfl⟩
    clear h1 h2 hl eq0 h0
    go_enter Try.func11, Try.ntmps11
    go_wp2
    go_loopw [13] (fun i wr => i = .int .i64 0 ∧ wr = w) (fun _ _ => 0)
    case atStart => exact ⟨rfl, rfl⟩
    case round =>
      obtain ⟨rfl, rfl⟩ := hrel
      go_wp2
      go_ret
      exact ⟨rfl, 0, rfl⟩
  · obtain ⟨g1, cap1, rfl, hc1⟩ := own_vals h1.out (by omega)
    obtain ⟨g2, cap2, rfl, hc2⟩ := own_vals h2.out (by omega)
    have HC1 := hide hc1
    have HC2 := hide hc2
    have HL := hide hl
    clear h1 h2 hl hc1 hc2
    go_enter Try.func11, Try.ntmps11
    go_wp2
    go_loopw [13] (fun i wr => ∃ k d : Nat, k ≤ n ∧ i = .int .i64 k ∧ wr = w.drewN d) (fun i _ => n - (intOf i).toNat)
    case atStart => exact ⟨0, 0, Nat.zero_le _, rfl, rfl⟩
    case round =>
      obtain ⟨k, d, hk, rfl, rfl⟩ := hrel
      by_cases hlt : k < n
      · obtain ⟨x, hx⟩ : ∃ x, l[k]? = some x := ⟨_, List.getElem?_eq_getElem (by have := HL.out; omega)⟩
        have x1 := HC1.out k (.int .i64 x) (by simp [hx])
        have x2 := HC2.out k (.int .i64 x) (by simp [hx])
        have eqx : (x != x) = false := by simp
        have b0 : (0 : Int) ≤ (k : Int) := by omega
        have b1 : (k : Int) < (n : Int) := by omega
        clear hx
        go_wp2
        go_quiet (fail)
        go_wp2
        go_roundw
        case rel => exact ⟨k + 1, _, by omega, by go_num, rfl⟩
        case measure => simp [intOf]; omega
      · go_wp2
        go_ret
        exact ⟨rfl, d, rfl⟩
set_option maxHeartbeats 400000 in
theorem sameInts_any (v1 v2 : Value) (l : List Int) (B1 B2 n : Nat) (w : World) (h1 : Hid (w.ownsRow B1 3 1 v1 n (ints l))) (h2 : Hid (w.ownsRow B2 3 1 v2 n (ints l))) (hn : n ≤ 9223372036854775806) :
    Calls Try.prog 12 #[v1, v2] w fun e w' => e = .returned (.bool true) ∧ ∃ d, w' = w.drewN d := by
  have hl : l.length = n := by have := h1.out.1; simpa using this
  have eq0 : ((n : Int) != (n : Int)) = false := by simp
  by_cases h0 : n = 0
  · obtain ⟨a1, c1, rfl⟩ : ∃ a c, v1 = .slice a 0 c := by
      rcases h1.out.2 with ⟨rfl, _⟩ | ⟨g, cap, cur, rfl, _⟩
      · exact ⟨_, _, rfl⟩
      · rw [h0]; exact ⟨_, _, rfl⟩
    obtain ⟨a2, c2, rfl⟩ : ∃ a c, v2 = .slice a 0 c := by
      rcases h2.out.2 with ⟨rfl, _⟩ | ⟨g, cap, cur, rfl, _⟩
      · exact ⟨_, _, rfl⟩
      · rw [h0]; exact ⟨_, _, rfl⟩
    clear h1 h2 hl eq0 h0
    go_enter Try.func12, Try.ntmps12
    go_wp2
    go_loopw [13] (fun i wr => i = .int .i64 0 ∧ wr = w) (fun _ _ => 0)
    case atStart => exact ⟨rfl, rfl⟩
    case round =>
      obtain ⟨rfl, rfl⟩ := hrel
      go_wp2
      go_ret
      exact ⟨rfl, 0, rfl⟩
  · obtain ⟨g1, cap1, rfl, hc1⟩ := own_vals h1.out (by omega)
    obtain ⟨g2, cap2, rfl, hc2⟩ := own_vals h2.out (by omega)
    have HC1 := hide hc1
    have HC2 := hide hc2
    have HL := hide hl
    clear h1 h2 hl hc1 hc2
    go_enter Try.func12, Try.ntmps12
    go_wp2
    go_loopw [13] (fun i wr => ∃ k d : Nat, k ≤ n ∧ i = .int .i64 k ∧ wr = w.drewN d) (fun i _ => n - (intOf i).toNat)
    case atStart => exact ⟨0, 0, Nat.zero_le _, rfl, rfl⟩
    case round =>
      obtain ⟨k, d, hk, rfl, rfl⟩ := hrel
      by_cases hlt : k < n
      · obtain ⟨x, hx⟩ : ∃ x, l[k]? = some x := ⟨_, List.getElem?_eq_getElem (by have := HL.out; omega)⟩
        have x1 := HC1.out k (.int .i64 x) (by simp [hx])
        have x2 := HC2.out k (.int .i64 x) (by simp [hx])
        have eqx : (x != x) = false := by simp
        have b0 : (0 : Int) ≤ (k : Int) := by omega
        have b1 : (k : Int) < (n : Int) := by omega
        clear hx
        go_wp2
        go_quiet (fail)
        go_wp2
        go_roundw
        case rel => exact ⟨k + 1, _, by omega, by go_num, rfl⟩
        case measure => simp [intOf]; omega
      · go_wp2
        go_ret
        exact ⟨rfl, d, rfl⟩

end Go.Proofs.Ytnoecaapmcidhaa
