/- The walk of pairsByKind, whatever type its variable's block bears. -/
import Derived.Test.YtbbklahhnepiaaaDoorPm
namespace Go.Proofs.YtbbklahhnepiaaaDoor
open Go.RowKit

/-- The package-level variable holds the table. -/
def TabV (w : World) (G : Nat) : Prop := ∃ t fr, w.heap[G]? = some (.cells tableCells.toArray t fr)
theorem TabV.keep {w w' : World} {G B : Nat} (h : TabV w G) (hb : Below B w w') (hG : G < B) : TabV w' G := h.elim fun t h => h.elim fun fr h => ⟨t, fr, (hb.block G hG).trans h⟩
theorem TabV.lt {w : World} {G : Nat} (h : TabV w G) : G < w.heap.size := h.elim fun _ h => h.elim fun _ h => lt_of_block h

set_option maxRecDepth 100000 in
set_option maxHeartbeats 2000000 in
theorem pairsByKind2_any (w : World) (hT : TabV w 0) :
    Calls Tryd.prog 8 #[] w fun e w' => e = .returned (.map (some w.heap.size)) ∧ MpK w' w.heap.size ∧ Below w.heap.size w w' := by
  have hmm : ∀ w : World, (Instr.makeMap 30 Option.none).run Tryd.prog w = .ok (.map (some w.heap.size)) (w.alloc (.map #[] 0)) := fun _ => rfl
  have h0 := hT.lt
  obtain ⟨tt, fr, hT1⟩ : TabV (w.alloc (.map #[] 0)) 0 := hT.keep ((Below.refl _ w).alloc (Nat.le_refl _) _) h0
  obtain ⟨cs, hcs⟩ : ∃ cs, cs = tableCells.toArray := ⟨_, rfl⟩
  rw [← hcs] at hT1
  have hI : (Tryd.prog.info? 60).map (·.size) = some 39 := by kernel_rfl
  have HI : Hid ((Tryd.prog.info? 60).map (·.size) = some cs.size) := by rw [hcs]; exact hI
  have HT : Hid ((w.alloc (.map #[] 0)).heap[0]? = some (.cells cs tt fr)) := hT1
  have HX : Hid (∀ (k : Nat) p, Sy.table[k]? = some p → ∀ w : World, (Instr.index 60 (.agg cs) (.int .i64 (k : Int))).run Tryd.prog w = .ok (pairV p) w) := by rw [hcs]; exact fun k p hp w => index_table k p hp w
  clear hT hT1 hcs hI
  go_enter Tryd.func8, Tryd.ntmps8
  go_wp2_with (refine wpList_load_row rfl 60 (.global 0) rfl 0 rfl tt cs fr _ HT.out Tryd.underlying60 rfl HI.out ?_)
  go_loopw [6] (fun i wr => ∃ k : Nat, k ≤ 13 ∧ i = .int .i64 k ∧ Hid (wr.heap[w.heap.size]? = some (.map (entries.take k).toArray k)) ∧ Hid (Below w.heap.size w wr)) (fun i _ => 13 - (intOf i).toNat)
  case atStart => exact ⟨0, by omega, rfl, heap_alloc_new w _, (Below.refl _ w).alloc (Nat.le_refl _) _⟩
  case round =>
    obtain ⟨k, hk, rfl, HM, HB⟩ := hrel
    by_cases hk13 : k < 13
    · obtain ⟨p, hp⟩ : ∃ p, Sy.table[k]? = some p := ⟨_, List.getElem?_eq_getElem (by simpa [Sy.table] using hk13)⟩
      have hix := HX.out k p hp
      have HM1 : (wr.alloc (.cells #[.int .i64 p.1, .string p.2.1, .int .i64 p.2.2] 59)).heap[w.heap.size]? = some (.map (entries.take k).toArray k) := (Below.heap_alloc _ _ _ (lt_of_block HM.out)).trans HM.out
      have hup := upd_run w.heap.size k _ p hp HM1
      obtain ⟨W2, hW2⟩ : ∃ W2 : World, W2 = { (wr.alloc (.cells #[.int .i64 p.1, .string p.2.1, .int .i64 p.2.2] 59)) with heap := (wr.alloc (.cells #[.int .i64 p.1, .string p.2.1, .int .i64 p.2.2] 59)).heap.setIfInBounds w.heap.size (.map (entries.take (k + 1)).toArray (k + 1)) } := ⟨_, rfl⟩
      rw [← hW2] at hup
      obtain ⟨m1, m2⟩ := map_set (o' := .map (entries.take (k + 1)).toArray (k + 1)) HM1 w.heap.size (Nat.le_refl _)
      rw [← hW2] at m1 m2
      have HM2 : Hid (W2.heap[w.heap.size]? = some (.map (entries.take (k + 1)).toArray (k + 1))) := m1
      have HB2 : Hid (Below w.heap.size w W2) := (HB.out.alloc (by have := HB.out.size; omega) _).trans m2
      clear hp HM1 hW2 m1 m2
      go_wp2
      go_roundw
      case rel => exact ⟨k + 1, by omega, by go_num, HM2, HB2⟩
      case measure => simp [intOf]; omega
    · go_wp2
      go_ret
      obtain rfl : k = 13 := by omega
      exact ⟨rfl, HM.out, HB.out⟩

end Go.Proofs.YtbbklahhnepiaaaDoor
