/- The walk of pairsByKind; the map in later worlds. -/
import Derived.Test.YtbbklahhnepiaaaDoorPw
import Derived.Deep.LoopGhost
namespace Go.Proofs.YtbbklahhnepiaaaDoor
open Go.RowKit

/-- The table as the program's variable holds it: 39 cells. -/
def tableCells : List Value := Sy.table.flatMap fun p => [.int .i64 p.1, .string p.2.1, .int .i64 p.2.2]

/-- The package-level variable holds the table. -/
def TabK (w : World) (G : Nat) : Prop := ∃ fr, w.heap[G]? = some (.cells tableCells.toArray 60 fr)

theorem upd_run (M k : Nat) (w : World) (p : Int × ByteArray × Int) (hp : Sy.table[k]? = some p) (h : w.heap[M]? = some (.map (entries.take k).toArray k)) :
    (Instr.mapUpdate 30 (.map (some M)) (.int .i64 p.1) (pairV p)).run Tryd.prog w = .ok () { w with heap := w.heap.setIfInBounds M (.map (entries.take (k + 1)).toArray (k + 1)) } := by
  have hg : (getObj M).run Tryd.prog w = .ok (.map (entries.take k).toArray k) w := by simp [getObj, Sem.run, h]
  have hc : ∀ b, (Instr.checkKey b 10000 3 (.int .i64 p.1)).run Tryd.prog w = .ok () w := fun b => MapKept.run_checkKey (n := 9999) Tryd.underlying3 (by simp [MapKept.IsKey]) b
  have hu := run_underlying (w := w) Tryd.underlying30
  have hk13 : k < 13 := by have := (List.getElem?_eq_some_iff.1 hp).1; simpa [Sy.table] using this
  have hf : Instr.findNow (.int .i64) (.int .i64 p.1) (entries.take k) 0 = some none := by
    rcases (show k = 0 ∨ k = 1 ∨ k = 2 ∨ k = 3 ∨ k = 4 ∨ k = 5 ∨ k = 6 ∨ k = 7 ∨ k = 8 ∨ k = 9 ∨ k = 10 ∨ k = 11 ∨ k = 12 by omega) with rfl | rfl | rfl | rfl | rfl | rfl | rfl | rfl | rfl | rfl | rfl | rfl | rfl <;>
      (simp only [Sy.table, List.getElem?_cons_zero, List.getElem?_cons_succ, Option.some.injEq] at hp; subst hp; rfl)
  have he : (entries.take (k + 1)) = entries.take k ++ [{ key := .int .i64 p.1, val := pairV p, born := k }] := by
    rcases (show k = 0 ∨ k = 1 ∨ k = 2 ∨ k = 3 ∨ k = 4 ∨ k = 5 ∨ k = 6 ∨ k = 7 ∨ k = 8 ∨ k = 9 ∨ k = 10 ∨ k = 11 ∨ k = 12 by omega) with rfl | rfl | rfl | rfl | rfl | rfl | rfl | rfl | rfl | rfl | rfl | rfl | rfl <;>
      (simp only [Sy.table, List.getElem?_cons_zero, List.getElem?_cons_succ, Option.some.injEq] at hp; subst hp; rfl)
  have hk := MapKept.run_findKey (P := Tryd.prog) (w := w) (kt := 3) Tryd.underlying3 hf
  have hs := MapKept.run_setObj_map (P := Tryd.prog) (.map (entries.take (k + 1)).toArray (k + 1)) h
  rw [he] at hs
  simp [Instr.mapUpdate, hu, hg, hc, hk, hs, he]

theorem TabK.keep {w w' : World} {G B : Nat} (h : TabK w G) (hb : Below B w w') (hG : G < B) : TabK w' G := h.elim fun fr h => ⟨fr, (hb.block G hG).trans h⟩

theorem TabK.lt {w : World} {G : Nat} (h : TabK w G) : G < w.heap.size := h.elim fun _ h => lt_of_block h

theorem index_table (k : Nat) (p : Int × ByteArray × Int) (hp : Sy.table[k]? = some p) (w : World) : (Instr.index 60 (.agg tableCells.toArray) (.int .i64 (k : Int))).run Tryd.prog w = .ok (pairV p) w := by
  have hk13 : k < 13 := by have := (List.getElem?_eq_some_iff.1 hp).1; simpa [Sy.table] using this
  rcases (show k = 0 ∨ k = 1 ∨ k = 2 ∨ k = 3 ∨ k = 4 ∨ k = 5 ∨ k = 6 ∨ k = 7 ∨ k = 8 ∨ k = 9 ∨ k = 10 ∨ k = 11 ∨ k = 12 by omega) with rfl | rfl | rfl | rfl | rfl | rfl | rfl | rfl | rfl | rfl | rfl | rfl | rfl <;>
    (simp only [Sy.table, List.getElem?_cons_zero, List.getElem?_cons_succ, Option.some.injEq] at hp; subst hp; simp [Instr.index, go_sem, tableCells, Sy.table, part])

theorem map_set {w : World} {M : Nat} {o o' : Obj} (h : w.heap[M]? = some o) (B : Nat) (hB : B ≤ M) : ({ w with heap := w.heap.setIfInBounds M o' } : World).heap[M]? = some o' ∧ Below B w { w with heap := w.heap.setIfInBounds M o' } := by
  obtain ⟨h1, h2⟩ := MapKept.heap_set (o' := o') h
  exact ⟨h1, rfl, rfl, rfl, by simp, fun k hk => h2 k (by omega)⟩

set_option maxRecDepth 100000 in
set_option maxHeartbeats 2000000 in
theorem pairsByKind_any (w : World) (hT : TabK w 0) :
    Calls Tryd.prog 8 #[] w fun e w' => e = .returned (.map (some w.heap.size)) ∧ MpK w' w.heap.size ∧ Below w.heap.size w w' := by
  have hmm : ∀ w : World, (Instr.makeMap 30 Option.none).run Tryd.prog w = .ok (.map (some w.heap.size)) (w.alloc (.map #[] 0)) := fun _ => rfl
  have h0 := hT.lt
  obtain ⟨fr, hT1⟩ : TabK (w.alloc (.map #[] 0)) 0 := hT.keep ((Below.refl _ w).alloc (Nat.le_refl _) _) h0
  obtain ⟨cs, hcs⟩ : ∃ cs, cs = tableCells.toArray := ⟨_, rfl⟩
  rw [← hcs] at hT1
  have hI : (Tryd.prog.info? 60).map (·.size) = some 39 := by kernel_rfl
  have HI : Hid ((Tryd.prog.info? 60).map (·.size) = some cs.size) := by rw [hcs]; exact hI
  have HT : Hid ((w.alloc (.map #[] 0)).heap[0]? = some (.cells cs 60 fr)) := hT1
  have HX : Hid (∀ (k : Nat) p, Sy.table[k]? = some p → ∀ w : World, (Instr.index 60 (.agg cs) (.int .i64 (k : Int))).run Tryd.prog w = .ok (pairV p) w) := by rw [hcs]; exact fun k p hp w => index_table k p hp w
  clear hT hT1 hcs hI
  go_enter Tryd.func8, Tryd.ntmps8
  go_wp2_with (refine wpList_load_row rfl 60 (.global 0) rfl 0 rfl _ cs fr _ HT.out Tryd.underlying60 rfl HI.out ?_)
  go_loopw [6] (fun i wr => ∃ k : Nat, k ≤ 13 ∧ i = .int .i64 k ∧ Hid (wr.heap[w.heap.size]? = some (.map (entries.take k).toArray k)) ∧ Hid (Below w.heap.size w wr)) (fun i _ => 13 - (intOf i).toNat)
  case atStart => exact ⟨0, by omega, rfl, heap_alloc_new w _, (Below.refl _ w).alloc (Nat.le_refl _) _⟩
  case round =>
    obtain ⟨k, hk, rfl, HM, HB⟩ := hrel
    by_cases hk13 : k < 13
    · obtain ⟨p, hp⟩ : ∃ p, Sy.table[k]? = some p := ⟨_, List.getElem?_eq_getElem (by simpa [Sy.table] using hk13)⟩
      have hix := HX.out k p hp
      have HM1 : (wr.alloc (.cells #[.int .i64 p.1, .string p.2.1, .int .i64 p.2.2] 59)).heap[w.heap.size]? = some (.map (entries.take k).toArray k) := (Below.heap_alloc _ _ _ (lt_of_block HM.out)).trans HM.out
      have hup := upd_run w.heap.size k _ p hp HM1
      obtain ⟨W2, hW2⟩ : ∃ W2 : World, W2 = { (wr.alloc (.cells #[.int .i64 p.1, .string p.2.1, .int .i64 p.2.2] 59)) with heap := (wr.alloc (.cells #[.int .i64 p.1, .string p.2.1, .int .i64 p.2.2] 59)).heap.setIfInBounds w.heap.size (.map (entries.take (k + 1)).toArray (k + 1)) } := ⟨_, rfl⟩
      rw [← hW2] at hup
      obtain ⟨m1, m2⟩ := map_set (o' := .map (entries.take (k + 1)).toArray (k + 1)) HM1 w.heap.size (Nat.le_refl _)
      rw [← hW2] at m1 m2
      have HM2 : Hid (W2.heap[w.heap.size]? = some (.map (entries.take (k + 1)).toArray (k + 1))) := m1
      have HB2 : Hid (Below w.heap.size w W2) := (HB.out.alloc (by have := HB.out.size; omega) _).trans m2
      clear hp HM1 hW2 m1 m2
      go_wp2
      go_roundw
      case rel => exact ⟨k + 1, by omega, by go_num, HM2, HB2⟩
      case measure => simp [intOf]; omega
    · go_wp2
      go_ret
      obtain rfl : k = 13 := by omega
      exact ⟨rfl, HM.out, HB.out⟩

end Go.Proofs.YtbbklahhnepiaaaDoor
