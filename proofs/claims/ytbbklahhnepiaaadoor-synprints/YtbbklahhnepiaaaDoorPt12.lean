/- What a look that found nothing says of a definition; the walk of text. -/
import Derived.Test.YtbbklahhnepiaaaDoorPt11
namespace Go.Proofs.YtbbklahhnepiaaaDoor
open Go.RowKit

theorem pmsW_all : ∀ (l : List Sy.Pm), Sy.pmsW l = 0 → ∀ p ∈ l, Sy.tyW p.ty = 0
  | [], _, p, hp => by cases hp
  | q :: l, h, p, hp => by
    unfold Sy.pmsW at h
    split at h
    · omega
    · split at h
      · rename_i h2; exact absurd h h2
      · rename_i h2
        rcases List.mem_cons.1 hp with rfl | hp
        · simpa using h2
        · exact pmsW_all l h p hp

theorem dfOk_of {d : Sy.Df} {n m : Nat} (h : Sy.dfW d n = .ok m) : DfOk d := by
  unfold Sy.dfW at h
  split at h
  · simp at h
  · rename_i h0
    have h0 : Sy.dfHead d n = 0 := by simpa using h0
    have hz : Sy.nodeW d.kind 4 40 n = 0 := by
      by_cases hq : Sy.nodeW d.kind 4 40 n = 0
      · exact hq
      · rw [dfHead_node hq] at h0; exact absurd h0 hq
    obtain ⟨_, hk1, hk2, _⟩ := Sy.nodeW_zero hz
    have hnm : Sy.nm d.name = true := by
      cases hq : Sy.nm d.name
      · rw [dfHead_name hz hq] at h0; omega
      · rfl
    rw [dfHead_rest hz hnm] at h0
    have hb : d.kind ≠ 1 → ∀ s ∈ d.body, Sy.StOk 39 s := by
      intro hk s hs
      rw [if_neg hk] at h
      obtain ⟨i, j, hij⟩ := Sy.bodyOf_mem h s hs
      exact Sy.stOk_of 39 s i j hij
    have hp : d.kind = 2 ∨ d.kind = 3 → pmsE d = 0 := by
      intro hk
      by_cases hq : pmsE d = 0
      · exact hq
      · rw [rest_p hk rfl hq] at h0; exact absurd h0 hq
    have hp2 : d.kind = 2 ∨ d.kind = 3 → ∀ p ∈ d.params, Sy.tyW p.ty = 0 := by
      intro hk
      have := hp hk
      unfold pmsE at this
      split at this
      · omega
      · exact pmsW_all _ this
    rcases (show d.kind = 1 ∨ d.kind = 2 ∨ d.kind = 3 ∨ d.kind = 4 by omega) with hk | hk | hk | hk
    · rw [rest_1 hk] at h0
      by_cases ht : Sy.tyW d.ty = 0
      · rw [if_neg (by simpa using ht)] at h0
        refine ⟨hk1, hk2, hp2, fun h3 => by omega, fun _ => ht, fun _ => ?_, hb⟩
        unfold capE at h0
        split at h0
        · omega
        · omega
      · rw [if_pos (by simpa using ht)] at h0; exact absurd h0 ht
    · rw [rest_2 hk, if_neg (by simpa using hp (.inl hk))] at h0
      exact ⟨hk1, hk2, hp2, fun h3 => by omega, fun _ => h0, fun h1 => by omega, hb⟩
    · rw [rest_3 hk, if_neg (by simpa using hp (.inr hk))] at h0
      by_cases ht : Sy.tyW d.takes = 0
      · rw [if_neg (by simpa using ht)] at h0
        exact ⟨hk1, hk2, hp2, fun _ => ht, fun _ => h0, fun h1 => by omega, hb⟩
      · rw [if_pos (by simpa using ht)] at h0; exact absurd h0 ht
    · exact ⟨hk1, hk2, hp2, fun h3 => by omega, fun h4 => absurd hk h4, fun h1 => by omega, hb⟩

/-- The words, blanks between. -/
def joinT (ws : List ByteArray) : ByteArray := ⟨(Lib.join (ws.map (·.data.toList)) [32]).toArray⟩

set_option maxHeartbeats 400000 in
theorem text_any (P Bs : Nat) (ws : List ByteArray) (mv : Value) (w : World) (hPR : Hid (PR w P Bs ws mv)) (hn : ws.length ≤ 1000000) (hlen : (Lib.join (ws.map (·.data.toList)) [32]).length ≤ 140737488355328) :
    Calls Tryd.prog 10 #[.pointer (some ⟨P, 0, none⟩)] w fun e w' => e = .returned (.string (joinT ws)) ∧ Below w.heap.size w w' := by
  obtain ⟨v, hP, hown⟩ := hPR.out
  obtain ⟨c0, c1, f0, f1⟩ := two_cell hP
  obtain ⟨t, ht⟩ : ∃ t, t = joinT ws := ⟨_, rfl⟩
  rw [← ht]
  rcases hown.2 with ⟨rfl, h0⟩ | ⟨g, cap, cur, rfl, hg, hh, hc1, hc2, hc3, hc4⟩
  · have hj := Tryd.strings_Join_none Option.none 0 ⟨#[32]⟩ w
    have HT : Hid (t = ⟨#[]⟩) := by rw [ht]; rw [List.length_eq_zero_iff.1 h0]; rfl
    clear hP hown ht hlen
    go_enter Tryd.func10, Tryd.ntmps10
    go_wp2_with fail
    refine hj.mono ?_
    rintro e w1 ⟨rfl, rfl⟩
    go_wp2
    go_ret
    exact ⟨by rw [HT.out]; rfl, Below.refl _ _⟩
  · have hj := Tryd.strings_Join g 0 cap ws ⟨#[32]⟩ w (by
      intro j x hx
      rw [Nat.zero_add, cell_of_row w g j cur _ _ hh]
      have : (cur.toList.take (ws.length * 1))[j]? = some (.string x) := by rw [hc4, List.getElem?_map, hx]; rfl
      rw [List.getElem?_take] at this
      split at this
      · simpa using this
      · simp at this) (lt_of_block hh) (by omega) hc1 hlen
    have HT : Hid (t = ⟨(Lib.join (ws.map (·.data.toList)) [32]).toArray⟩) := ht
    clear hP hown ht hlen hh hc3 hc4
    go_enter Tryd.func10, Tryd.ntmps10
    go_wp2_with fail
    refine hj.mono ?_
    rintro e w1 ⟨rfl, hb⟩
    have HB : Hid (Below w.heap.size w w1) := hb
    clear hb hj
    go_wp2
    go_ret
    exact ⟨by rw [HT.out]; rfl, HB.out⟩

end Go.Proofs.YtbbklahhnepiaaaDoor
