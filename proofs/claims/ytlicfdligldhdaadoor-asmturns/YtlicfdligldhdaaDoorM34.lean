/- The walk of the document's Word, where there is one. -/
import Derived.Test.YtlicfdligldhdaaDoorM33
namespace Go.Proofs.YtlicfdligldhdaaDoor.Aw
open Go.RowKit As

def hasL : List Int := [2, 3, 4, 21, 22, 23, 26, 27, 29]
def hasOf (op : Int) : Nat := if op = 1 then 2 else if op ∈ hasL then 1 else 0
theorem has_tab : ∀ j : Nat, j < 32 → (tab[j]?).all (fun x => decide (x.2 = hasOf (((j : Nat) : Int) + 1))) = true := by decide
theorem has_word {op : Int} {w : By} {h : Nat} (e : wordOf op = some (w, h)) : h = hasOf op ∧ 1 ≤ op ∧ op ≤ 32 := by
  unfold wordOf at e
  split at e
  · rename_i h1
    have hl := (List.getElem?_eq_some_iff.1 e).1
    have hl' : (op - 1).toNat < 32 := hl
    have := has_tab _ hl'
    rw [e] at this
    simp at this
    refine ⟨?_, h1, by omega⟩
    rw [this]
    congr 1
    omega
  · cases e
abbrev hasO : Obj := .cells #[.int .i64 2, .int .i64 3, .int .i64 4, .int .i64 21, .int .i64 22, .int .i64 23, .int .i64 26, .int .i64 27, .int .i64 29] 3 (0, 0)
theorem has_cell {w : World} {N : Nat} (h : w.heap[N]? = some hasO) {k : Nat} {x : Int} (hx : hasL[k]? = some x) : w.cell? ⟨N, k, none⟩ = some (.int .i64 x) := by
  have hk : k < 9 := (List.getElem?_eq_some_iff.1 hx).1
  rcases (by omega : k = 0 ∨ k = 1 ∨ k = 2 ∨ k = 3 ∨ k = 4 ∨ k = 5 ∨ k = 6 ∨ k = 7 ∨ k = 8) with rfl | rfl | rfl | rfl | rfl | rfl | rfl | rfl | rfl <;> (simp [hasL] at hx; subst hx; simp [World.cell?, h])

set_option maxHeartbeats 2000000 in
set_option maxRecDepth 100000 in
theorem word_any (op : Int) (h1 : 1 ≤ op) (h2 : op ≤ 32) (w : World) (r : Nat) (hr : Hid (r = hasOf op)) :
    Calls Tryd.prog 18 #[.int .i64 op] w fun e w' => ∃ s, e = .returned (.tuple #[.string s, .int .i64 r]) ∧ Below w.heap.size w w' := by
  have t1 : ¬ op < 1 := by omega
  have t2 : ¬ 32 < op := by omega
  go_enter Tryd.func18, Tryd.ntmps18
  go_wp2
  go_loopw [5, 7, 19] (fun v _ i wr => ∃ k : Nat, k ≤ 9 ∧ i = .int .i64 k ∧ v = .int .i64 (if op ∈ hasL.take k then 1 else 0) ∧ wr.heap[w.heap.size]? = some (.cells (tab.map (fun x => sv x.1)).toArray 9 (0, 0)) ∧ wr.heap[w.heap.size + 1]? = some hasO ∧ Below w.heap.size w wr) (fun _ _ i _ => 9 - (intOf i).toNat)
  case atStart => exact ⟨0, Nat.zero_le _, rfl, by simp, two_old _ _ _, two_new _ _ _, two_below _ _ _⟩
  case round =>
    obtain ⟨k, hk, rfl, rfl, hT, hH, hB⟩ := hrel
    have HT := hide hT
    have HH := hide hH
    have HB := hide hB
    clear hT hH hB
    by_cases hlt : k < 9
    · obtain ⟨x, hx⟩ : ∃ x, hasL[k]? = some x := ⟨_, List.getElem?_eq_getElem (show k < hasL.length from hlt)⟩
      have hc := has_cell HH.out hx
      have k0 : (0 : Int) ≤ (k : Int) := by omega
      have k1 : (k : Int) < 9 := by omega
      have ht : hasL.take (k + 1) = hasL.take k ++ [x] := by rw [List.take_add_one, hx]; rfl
      by_cases he : x = op
      · have e1 : (x == op) = true := by simpa using he
        have HM : Hid (op ∈ hasL.take (k + 1)) := by unfold Hid; rw [ht, he]; simp
        clear hx ht he
        generalize (if op ∈ List.take k hasL then (1 : Int) else 0) = q
        go_wp2
        go_roundw
        case rel => exact ⟨k + 1, by omega, by go_num, by rw [if_pos HM.out], HT.out, HH.out, HB.out⟩
        case measure => simp [intOf]; omega
      · have e1 : (x == op) = false := by simpa using he
        have HM : Hid ((if op ∈ hasL.take (k + 1) then (1 : Int) else 0) = if op ∈ hasL.take k then 1 else 0) := by
          unfold Hid
          rw [ht]
          have : op ∈ hasL.take k ++ [x] ↔ op ∈ hasL.take k := by
            rw [List.mem_append, List.mem_singleton]
            exact ⟨fun h => h.elim id (fun e => absurd e.symm he), .inl⟩
          simp only [this]
        clear hx ht he
        generalize hq : (if op ∈ List.take k hasL then (1 : Int) else 0) = q at *
        go_wp2
        go_roundw
        case rel => exact ⟨k + 1, by omega, by go_num, by rw [HM.out], HT.out, HH.out, HB.out⟩
        case measure => simp [intOf]; omega
    · obtain rfl : k = 9 := by omega
      have hl : (op - 1).toNat < 32 := by omega
      have hc : wr.cell? ⟨w.heap.size, (op - 1).toNat, none⟩ = some (sv (tab[(op - 1).toNat]'hl).1) := by
        simp only [World.cell?, HT.out]
        have : (tab.map (fun x => sv x.1))[(op - 1).toNat]? = some (sv (tab[(op - 1).toNat]'hl).1) := by rw [List.getElem?_map, List.getElem?_eq_getElem hl]; rfl
        simpa using this
      have o0 : (0 : Int) ≤ op - 1 := by omega
      have o1 : op - 1 < 32 := by omega
      generalize (tab[(op - 1).toNat]'hl).1 = s at *
      rw [show (op - 1).toNat = op.toNat - 1 by omega] at hc
      by_cases hop : op = 1
      · have e1 : (op == 1) = true := by simpa using hop
        have HR : Hid (r = 2) := by unfold Hid; rw [hr.out, hasOf, if_pos hop]
        clear hop hlt
        generalize (if op ∈ List.take 9 hasL then (1 : Int) else 0) = q
        go_wp2
        exact bodyPost_ret (v := .tuple #[sv s, .int .i64 2]) (by simp [results, Tryd.results18, go_sem]) rfl ⟨⟨s.toArray⟩, by rw [HR.out]; rfl, HB.out⟩
      · have e1 : (op == 1) = false := by simpa using hop
        have HR : Hid ((if op ∈ List.take 9 hasL then (1 : Int) else 0) = (r : Int)) := by
          unfold Hid
          rw [hr.out, hasOf, if_neg hop, show List.take 9 hasL = hasL from rfl]
          split <;> rfl
        clear hop hlt
        rw [HR.out]
        go_wp2
        exact bodyPost_ret (v := .tuple #[sv s, .int .i64 r]) (by simp [results, Tryd.results18, go_sem]) rfl ⟨⟨s.toArray⟩, rfl, HB.out⟩
end Go.Proofs.YtlicfdligldhdaaDoor.Aw

