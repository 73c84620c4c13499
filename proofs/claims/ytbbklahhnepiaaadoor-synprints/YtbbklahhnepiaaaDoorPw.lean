/- Programs as words; the table of signs. -/
import Derived.Test.YtbbklahhnepiaaaDoorPt1
import Derived.MapKept
import Derived.Lib.Itoa
namespace Go.Proofs.YtbbklahhnepiaaaDoor
open Go.RowKit
namespace Sy

/-- How strongly a kind's sign binds; 0: it has none between kids. -/
def lev (k : Int) : Int := if k = 18 then 1 else if k = 17 then 2 else if 11 ≤ k ∧ k ≤ 16 then 3 else if k = 6 ∨ k = 7 then 4 else if 8 ≤ k ∧ k ≤ 10 then 5 else 0
def levelOf (k : Int) : Int := if 0 < lev k then lev k else 6

/-- The signs: kind, text, how strongly it binds. -/
def table : List (Int × ByteArray × Int) := [(18, ⟨#[111, 114]⟩, 1), (17, ⟨#[97, 110, 100]⟩, 2), (11, ⟨#[61, 61]⟩, 3), (12, ⟨#[33, 61]⟩, 3), (13, ⟨#[60]⟩, 3), (14, ⟨#[60, 61]⟩, 3), (15, ⟨#[62]⟩, 3), (16, ⟨#[62, 61]⟩, 3), (6, ⟨#[43]⟩, 4), (7, ⟨#[45]⟩, 4), (8, ⟨#[42]⟩, 5), (9, ⟨#[47]⟩, 5), (10, ⟨#[37]⟩, 5)]

def sign (k : Int) : ByteArray := ((table.find? (fun p => p.1 == k)).map (fun p => p.2.1)).getD ⟨#[]⟩

end Sy

abbrev pairV (p : Int × ByteArray × Int) : Value := .agg #[.int .i64 p.1, .string p.2.1, .int .i64 p.2.2]
/-- The map's entries. -/
def entries : List MapEntry := (Sy.table.zipIdx).map fun (p, i) => { key := .int .i64 p.1, val := pairV p, born := i }

/-- The map of signs by kind lies in block M. -/
def MpK (w : World) (M : Nat) : Prop := w.heap[M]? = some (.map entries.toArray 13)

/-- What a look into it gives. -/
def lookK (k : Int) : Value := .agg #[.int .i64 (if 0 < Sy.lev k then k else 0), .string (Sy.sign k), .int .i64 (Sy.lev k)]

theorem find_some (k : Int) (p : Int × ByteArray × Int) (i : Nat) (h : Instr.findNow (.int .i64) (.int .i64 k) entries 0 = some (some (i, pairV p))) (hp : pairV p = lookK k) : Instr.findNow (.int .i64) (.int .i64 k) entries 0 = some (some (i, lookK k)) := by rw [h, hp]

theorem kinds_cases (k : Int) : (∃ i, Instr.findNow (.int .i64) (.int .i64 k) entries 0 = some (some (i, lookK k))) ∨ (Instr.findNow (.int .i64) (.int .i64 k) entries 0 = some none ∧ lookK k = .agg #[.int .i64 0, .string ⟨#[]⟩, .int .i64 0]) := by
  by_cases h18 : k = 18
  · subst h18; exact .inl ⟨0, rfl⟩
  by_cases h17 : k = 17
  · subst h17; exact .inl ⟨1, rfl⟩
  by_cases h11 : k = 11
  · subst h11; exact .inl ⟨2, rfl⟩
  by_cases h12 : k = 12
  · subst h12; exact .inl ⟨3, rfl⟩
  by_cases h13 : k = 13
  · subst h13; exact .inl ⟨4, rfl⟩
  by_cases h14 : k = 14
  · subst h14; exact .inl ⟨5, rfl⟩
  by_cases h15 : k = 15
  · subst h15; exact .inl ⟨6, rfl⟩
  by_cases h16 : k = 16
  · subst h16; exact .inl ⟨7, rfl⟩
  by_cases h6 : k = 6
  · subst h6; exact .inl ⟨8, rfl⟩
  by_cases h7 : k = 7
  · subst h7; exact .inl ⟨9, rfl⟩
  by_cases h8 : k = 8
  · subst h8; exact .inl ⟨10, rfl⟩
  by_cases h9 : k = 9
  · subst h9; exact .inl ⟨11, rfl⟩
  by_cases h10 : k = 10
  · subst h10; exact .inl ⟨12, rfl⟩
  right
  constructor
  · have e : ∀ n : Int, k ≠ n → (k == n) = false := fun n h => by simp; omega
    simp [entries, Sy.table, Instr.findNow, Instr.sameNow, e _ h18, e _ h17, e _ h11, e _ h12, e _ h13, e _ h14, e _ h15, e _ h16, e _ h6, e _ h7, e _ h8, e _ h9, e _ h10]
  · have hl : Sy.lev k = 0 := by unfold Sy.lev; repeat' split
                                 all_goals omega
    have hs : Sy.sign k = ⟨#[]⟩ := by
      unfold Sy.sign Sy.table
      simp only [List.find?_cons, List.find?_nil]
      have e : ∀ n : Int, k ≠ n → (n == k) = false := fun n h => by simp; omega
      simp only [e _ h18, e _ h17, e _ h11, e _ h12, e _ h13, e _ h14, e _ h15, e _ h16, e _ h6, e _ h7, e _ h8, e _ h9, e _ h10]
      rfl
    unfold lookK
    rw [hl, hs]; rfl

theorem run_lookK (M : Nat) (k : Int) (w : World) (h : MpK w M) : (Instr.lookup 30 (.map (some M)) (.int .i64 k) false).run Tryd.prog w = .ok (lookK k) w := by
  unfold MpK at h
  have hg : (getObj M).run Tryd.prog w = .ok (.map entries.toArray 13) w := by simp [getObj, Sem.run, h]
  have hc : ∀ b, (Instr.checkKey b 10000 3 (.int .i64 k)).run Tryd.prog w = .ok () w := fun b => MapKept.run_checkKey (n := 9999) Tryd.underlying3 (by simp [MapKept.IsKey]) b
  have hu := run_underlying (w := w) Tryd.underlying30
  rcases kinds_cases k with ⟨i, hf⟩ | ⟨hf, hz⟩
  · have hk := MapKept.run_findKey (P := Tryd.prog) (w := w) (kt := 3) Tryd.underlying3 hf
    simp [Instr.lookup, hu, hg, hc, hk]
  · have hk := MapKept.run_findKey (P := Tryd.prog) (w := w) (kt := 3) Tryd.underlying3 hf
    have hzv : (zeroValue 59).run Tryd.prog w = .ok (lookK k) w := by rw [hz]; kernel_rfl
    simp [Instr.lookup, hu, hg, hc, hk, hzv]

end Go.Proofs.YtbbklahhnepiaaaDoor
