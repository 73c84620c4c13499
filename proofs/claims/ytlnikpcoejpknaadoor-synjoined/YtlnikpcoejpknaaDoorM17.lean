/- Programs as words; the table of signs. -/
import Derived.Test.YtlnikpcoejpknaaDoorM16
import Derived.MapKept
import Derived.Lib.Itoa
import Derived.Deep.LoopGhost
namespace Go.Proofs.YtlnikpcoejpknaaDoor
open Go.RowKit
namespace Sy

/-- How strongly a kind's sign binds; 0: it has none between kids. -/
def lev (k : Int) : Int := if k = 18 then 1 else if k = 17 then 2 else if 11 ≤ k ∧ k ≤ 16 then 3 else if k = 6 ∨ k = 7 then 4 else if 8 ≤ k ∧ k ≤ 10 then 5 else 0
def levelOf (k : Int) : Int := if 0 < lev k then lev k else 6

/-- The signs: kind, text, how strongly it binds. -/
def table : List (Int × ByteArray × Int) := [(18, ⟨#[111, 114]⟩, 1), (17, ⟨#[97, 110, 100]⟩, 2), (11, ⟨#[61, 61]⟩, 3), (12, ⟨#[33, 61]⟩, 3), (13, ⟨#[60]⟩, 3), (14, ⟨#[60, 61]⟩, 3), (15, ⟨#[62]⟩, 3), (16, ⟨#[62, 61]⟩, 3), (6, ⟨#[43]⟩, 4), (7, ⟨#[45]⟩, 4), (8, ⟨#[42]⟩, 5), (9, ⟨#[47]⟩, 5), (10, ⟨#[37]⟩, 5)]

def sign (k : Int) : ByteArray := ((table.find? (fun p => p.1 == k)).map (fun p => p.2.1)).getD ⟨#[]⟩

end Sy

abbrev pairV (p : Int × ByteArray × Int) : Value := .agg #[.int .i64 p.1, .string p.2.1, .int .i64 p.2.2]
/-- The map's entries. -/
def entries : List MapEntry := (Sy.table.zipIdx).map fun (p, i) => { key := .int .i64 p.1, val := pairV p, born := i }

/-- The map of signs by kind lies in block M. -/
def MpK (w : World) (M : Nat) : Prop := w.heap[M]? = some (.map entries.toArray 13)

/-- What a look into it gives. -/
def lookK (k : Int) : Value := .agg #[.int .i64 (if 0 < Sy.lev k then k else 0), .string (Sy.sign k), .int .i64 (Sy.lev k)]

theorem find_some (k : Int) (p : Int × ByteArray × Int) (i : Nat) (h : Instr.findNow (.int .i64) (.int .i64 k) entries 0 = some (some (i, pairV p))) (hp : pairV p = lookK k) : Instr.findNow (.int .i64) (.int .i64 k) entries 0 = some (some (i, lookK k)) := by rw [h, hp]

theorem kinds_cases (k : Int) : (∃ i, Instr.findNow (.int .i64) (.int .i64 k) entries 0 = some (some (i, lookK k))) ∨ (Instr.findNow (.int .i64) (.int .i64 k) entries 0 = some none ∧ lookK k = .agg #[.int .i64 0, .string ⟨#[]⟩, .int .i64 0]) := by
  by_cases h18 : k = 18
  · subst h18; exact .inl ⟨0, rfl⟩
  by_cases h17 : k = 17
  · subst h17; exact .inl ⟨1, rfl⟩
  by_cases h11 : k = 11
  · subst h11; exact .inl ⟨2, rfl⟩
  by_cases h12 : k = 12
  · subst h12; exact .inl ⟨3, rfl⟩
  by_cases h13 : k = 13
  · subst h13; exact .inl ⟨4, rfl⟩
  by_cases h14 : k = 14
  · subst h14; exact .inl ⟨5, rfl⟩
  by_cases h15 : k = 15
  · subst h15; exact .inl ⟨6, rfl⟩
  by_cases h16 : k = 16
  · subst h16; exact .inl ⟨7, rfl⟩
  by_cases h6 : k = 6
  · subst h6; exact .inl ⟨8, rfl⟩
  by_cases h7 : k = 7
  · subst h7; exact .inl ⟨9, rfl⟩
  by_cases h8 : k = 8
  · subst h8; exact .inl ⟨10, rfl⟩
  by_cases h9 : k = 9
  · subst h9; exact .inl ⟨11, rfl⟩
  by_cases h10 : k = 10
  · subst h10; exact .inl ⟨12, rfl⟩
  right
  constructor
  · have e : ∀ n : Int, k ≠ n → (k == n) = false := fun n h => by simp; omega
    simp [entries, Sy.table, Instr.findNow, Instr.sameNow, e _ h18, e _ h17, e _ h11, e _ h12, e _ h13, e _ h14, e _ h15, e _ h16, e _ h6, e _ h7, e _ h8, e _ h9, e _ h10]
  · have hl : Sy.lev k = 0 := by unfold Sy.lev; repeat' split
                                 all_goals omega
    have hs : Sy.sign k = ⟨#[]⟩ := by
      unfold Sy.sign Sy.table
      simp only [List.find?_cons, List.find?_nil]
      have e : ∀ n : Int, k ≠ n → (n == k) = false := fun n h => by simp; omega
      simp only [e _ h18, e _ h17, e _ h11, e _ h12, e _ h13, e _ h14, e _ h15, e _ h16, e _ h6, e _ h7, e _ h8, e _ h9, e _ h10]
      rfl
    unfold lookK
    rw [hl, hs]; rfl

theorem run_lookK (M : Nat) (k : Int) (w : World) (h : MpK w M) : (Instr.lookup 35 (.map (some M)) (.int .i64 k) false).run Tryd.prog w = .ok (lookK k) w := by
  unfold MpK at h
  have hg : (getObj M).run Tryd.prog w = .ok (.map entries.toArray 13) w := by simp [getObj, Sem.run, h]
  have hc : ∀ b, (Instr.checkKey b 10000 3 (.int .i64 k)).run Tryd.prog w = .ok () w := fun b => MapKept.run_checkKey (n := 9999) Tryd.underlying3 (by simp [MapKept.IsKey]) b
  have hu := run_underlying (w := w) Tryd.underlying35
  rcases kinds_cases k with ⟨i, hf⟩ | ⟨hf, hz⟩
  · have hk := MapKept.run_findKey (P := Tryd.prog) (w := w) (kt := 3) Tryd.underlying3 hf
    simp [Instr.lookup, hu, hg, hc, hk]
  · have hk := MapKept.run_findKey (P := Tryd.prog) (w := w) (kt := 3) Tryd.underlying3 hf
    have hzv : (zeroValue 80).run Tryd.prog w = .ok (lookK k) w := by rw [hz]; kernel_rfl
    simp [Instr.lookup, hu, hg, hc, hk, hzv]

end Go.Proofs.YtlnikpcoejpknaaDoor

/- The walk of pairsByKind; the map in later worlds. -/
namespace Go.Proofs.YtlnikpcoejpknaaDoor
open Go.RowKit

/-- The table as the program's variable holds it: 39 cells. -/
def tableCells : List Value := Sy.table.flatMap fun p => [.int .i64 p.1, .string p.2.1, .int .i64 p.2.2]

/-- The package-level variable holds the table. -/
def TabK (w : World) (G : Nat) : Prop := ∃ fr, w.heap[G]? = some (.cells tableCells.toArray 81 fr)

theorem upd_run (M k : Nat) (w : World) (p : Int × ByteArray × Int) (hp : Sy.table[k]? = some p) (h : w.heap[M]? = some (.map (entries.take k).toArray k)) :
    (Instr.mapUpdate 35 (.map (some M)) (.int .i64 p.1) (pairV p)).run Tryd.prog w = .ok () { w with heap := w.heap.setIfInBounds M (.map (entries.take (k + 1)).toArray (k + 1)) } := by
  have hg : (getObj M).run Tryd.prog w = .ok (.map (entries.take k).toArray k) w := by simp [getObj, Sem.run, h]
  have hc : ∀ b, (Instr.checkKey b 10000 3 (.int .i64 p.1)).run Tryd.prog w = .ok () w := fun b => MapKept.run_checkKey (n := 9999) Tryd.underlying3 (by simp [MapKept.IsKey]) b
  have hu := run_underlying (w := w) Tryd.underlying35
  have hk13 : k < 13 := by have := (List.getElem?_eq_some_iff.1 hp).1; simpa [Sy.table] using this
  have hf : Instr.findNow (.int .i64) (.int .i64 p.1) (entries.take k) 0 = some none := by
    rcases (show k = 0 ∨ k = 1 ∨ k = 2 ∨ k = 3 ∨ k = 4 ∨ k = 5 ∨ k = 6 ∨ k = 7 ∨ k = 8 ∨ k = 9 ∨ k = 10 ∨ k = 11 ∨ k = 12 by omega) with rfl | rfl | rfl | rfl | rfl | rfl | rfl | rfl | rfl | rfl | rfl | rfl | rfl <;>
      (simp only [Sy.table, List.getElem?_cons_zero, List.getElem?_cons_succ, Option.some.injEq] at hp; subst hp; rfl)
  have he : (entries.take (k + 1)) = entries.take k ++ [{ key := .int .i64 p.1, val := pairV p, born := k }] := by
    rcases (show k = 0 ∨ k = 1 ∨ k = 2 ∨ k = 3 ∨ k = 4 ∨ k = 5 ∨ k = 6 ∨ k = 7 ∨ k = 8 ∨ k = 9 ∨ k = 10 ∨ k = 11 ∨ k = 12 by omega) with rfl | rfl | rfl | rfl | rfl | rfl | rfl | rfl | rfl | rfl | rfl | rfl | rfl <;>
      (simp only [Sy.table, List.getElem?_cons_zero, List.getElem?_cons_succ, Option.some.injEq] at hp; subst hp; rfl)
  have hk := MapKept.run_findKey (P := Tryd.prog) (w := w) (kt := 3) Tryd.underlying3 hf
  have hs := MapKept.run_setObj_map (P := Tryd.prog) (.map (entries.take (k + 1)).toArray (k + 1)) h
  rw [he] at hs
  simp [Instr.mapUpdate, hu, hg, hc, hk, hs, he]

theorem TabK.keep {w w' : World} {G B : Nat} (h : TabK w G) (hb : Below B w w') (hG : G < B) : TabK w' G := h.elim fun fr h => ⟨fr, (hb.block G hG).trans h⟩

theorem TabK.lt {w : World} {G : Nat} (h : TabK w G) : G < w.heap.size := h.elim fun _ h => lt_of_block h

theorem index_table (k : Nat) (p : Int × ByteArray × Int) (hp : Sy.table[k]? = some p) (w : World) : (Instr.index 81 (.agg tableCells.toArray) (.int .i64 (k : Int))).run Tryd.prog w = .ok (pairV p) w := by
  have hk13 : k < 13 := by have := (List.getElem?_eq_some_iff.1 hp).1; simpa [Sy.table] using this
  rcases (show k = 0 ∨ k = 1 ∨ k = 2 ∨ k = 3 ∨ k = 4 ∨ k = 5 ∨ k = 6 ∨ k = 7 ∨ k = 8 ∨ k = 9 ∨ k = 10 ∨ k = 11 ∨ k = 12 by omega) with rfl | rfl | rfl | rfl | rfl | rfl | rfl | rfl | rfl | rfl | rfl | rfl | rfl <;>
    (simp only [Sy.table, List.getElem?_cons_zero, List.getElem?_cons_succ, Option.some.injEq] at hp; subst hp; simp [Instr.index, go_sem, tableCells, Sy.table, part])

theorem map_set {w : World} {M : Nat} {o o' : Obj} (h : w.heap[M]? = some o) (B : Nat) (hB : B ≤ M) : ({ w with heap := w.heap.setIfInBounds M o' } : World).heap[M]? = some o' ∧ Below B w { w with heap := w.heap.setIfInBounds M o' } := by
  obtain ⟨h1, h2⟩ := MapKept.heap_set (o' := o') h
  exact ⟨h1, rfl, rfl, rfl, by simp, fun k hk => h2 k (by omega)⟩

set_option maxRecDepth 100000 in
set_option maxHeartbeats 2000000 in
theorem pairsByKind_any (w : World) (hT : TabK w 0) :
    Calls Tryd.prog 12 #[] w fun e w' => e = .returned (.map (some w.heap.size)) ∧ MpK w' w.heap.size ∧ Below w.heap.size w w' := by
  have hmm : ∀ w : World, (Instr.makeMap 35 Option.none).run Tryd.prog w = .ok (.map (some w.heap.size)) (w.alloc (.map #[] 0)) := fun _ => rfl
  have h0 := hT.lt
  obtain ⟨fr, hT1⟩ : TabK (w.alloc (.map #[] 0)) 0 := hT.keep ((Below.refl _ w).alloc (Nat.le_refl _) _) h0
  obtain ⟨cs, hcs⟩ : ∃ cs, cs = tableCells.toArray := ⟨_, rfl⟩
  rw [← hcs] at hT1
  have hI : (Tryd.prog.info? 81).map (·.size) = some 39 := by kernel_rfl
  have HI : Hid ((Tryd.prog.info? 81).map (·.size) = some cs.size) := by rw [hcs]; exact hI
  have HT : Hid ((w.alloc (.map #[] 0)).heap[0]? = some (.cells cs 81 fr)) := hT1
  have HX : Hid (∀ (k : Nat) p, Sy.table[k]? = some p → ∀ w : World, (Instr.index 81 (.agg cs) (.int .i64 (k : Int))).run Tryd.prog w = .ok (pairV p) w) := by rw [hcs]; exact fun k p hp w => index_table k p hp w
  clear hT hT1 hcs hI
  go_enter Tryd.func12, Tryd.ntmps12
  go_wp2_with (refine wpList_load_row rfl 81 (.global 0) rfl 0 rfl _ cs fr _ HT.out Tryd.underlying81 rfl HI.out ?_)
  go_loopw [6] (fun i wr => ∃ k : Nat, k ≤ 13 ∧ i = .int .i64 k ∧ Hid (wr.heap[w.heap.size]? = some (.map (entries.take k).toArray k)) ∧ Hid (Below w.heap.size w wr)) (fun i _ => 13 - (intOf i).toNat)
  case atStart => exact ⟨0, by omega, rfl, heap_alloc_new w _, (Below.refl _ w).alloc (Nat.le_refl _) _⟩
  case round =>
    obtain ⟨k, hk, rfl, HM, HB⟩ := hrel
    by_cases hk13 : k < 13
    · obtain ⟨p, hp⟩ : ∃ p, Sy.table[k]? = some p := ⟨_, List.getElem?_eq_getElem (by simpa [Sy.table] using hk13)⟩
      have hix := HX.out k p hp
      have HM1 : (wr.alloc (.cells #[.int .i64 p.1, .string p.2.1, .int .i64 p.2.2] 80)).heap[w.heap.size]? = some (.map (entries.take k).toArray k) := (Below.heap_alloc _ _ _ (lt_of_block HM.out)).trans HM.out
      have hup := upd_run w.heap.size k _ p hp HM1
      obtain ⟨W2, hW2⟩ : ∃ W2 : World, W2 = { (wr.alloc (.cells #[.int .i64 p.1, .string p.2.1, .int .i64 p.2.2] 80)) with heap := (wr.alloc (.cells #[.int .i64 p.1, .string p.2.1, .int .i64 p.2.2] 80)).heap.setIfInBounds w.heap.size (.map (entries.take (k + 1)).toArray (k + 1)) } := ⟨_, rfl⟩
      rw [← hW2] at hup
      obtain ⟨m1, m2⟩ := map_set (o' := .map (entries.take (k + 1)).toArray (k + 1)) HM1 w.heap.size (Nat.le_refl _)
      rw [← hW2] at m1 m2
      have HM2 : Hid (W2.heap[w.heap.size]? = some (.map (entries.take (k + 1)).toArray (k + 1))) := m1
      have HB2 : Hid (Below w.heap.size w W2) := (HB.out.alloc (by have := HB.out.size; omega) _).trans m2
      clear hp HM1 hW2 m1 m2
      go_wp2
      go_roundw
      case rel => exact ⟨k + 1, by omega, by go_num, HM2, HB2⟩
      case measure => simp [intOf]; omega
    · go_wp2
      go_ret
      obtain rfl : k = 13 := by omega
      exact ⟨rfl, HM.out, HB.out⟩

end Go.Proofs.YtlnikpcoejpknaaDoor

