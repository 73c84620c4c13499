/- What the row's list gives: the table of signs, the table of powers; and the argument's generators' names. -/
import Derived.Test.YtlnikpcoejpknaaGreatDoorM30
import Derived.Test.YtlnikpcoejpknaaGreatDoorM43
import Derived.Test.YtlnikpcoejpknaaGreatDoorM42
import Derived.Lib.LaidTab
import Derived.LaidSub
import Derived.OpenShut
import Derived.MakeChecks
import Derived.SizedLaws
namespace Go.Proofs.YtlnikpcoejpknaaGreatDoor
open Go.RowKit

theorem cells_pair : Tryz.prog.cellsOf 87 = 3 := by kernel_rfl
theorem cells_tab : Tryz.prog.cellsOf 88 = 39 := by kernel_rfl

/-- A pair that reads as a datum holds it. -/
theorem pair_cells {H : Type} {enc : TypeId × Value → H} {w : World} {base : Nat} {spare : Nat → Bool} {held : Bool} {fuel : Nat} {cs : List Value} {k l : Int} {s : List UInt8} {p : List MemPlace}
    (h : DataW.trod enc Tryz.prog w base spare held fuel 87 cs = some (.agg [.lit (.int .i64 k), .lit (.string s), .lit (.int .i64 l)], p)) :
    cs = [.int .i64 k, .string ⟨s.toArray⟩, .int .i64 l] := by
  obtain ⟨xs, n, rfl, hx, hl, hxl, hf⟩ := DataW.trod_struct Tryz.underlying87 h
  rw [cells_pair] at hl
  obtain ⟨a, b, c, rfl⟩ := threeOp hl
  have e : xs.map (·.1) = [.lit (.int .i64 k), .lit (.string s), .lit (.int .i64 l)] := by
    have := congrArg Prod.fst hx
    simpa using this.symm
  match xs, e with
  | [x0, x1, x2], e =>
    simp only [List.map_cons, List.map_nil, List.cons.injEq, and_true] at e
    have h0 : DataW.trod enc Tryz.prog w base spare held n 3 (([a, b, c].drop 0).take (Tryz.prog.cellsOf 3)) = some x0 := hf 0 _ rfl
    have h1 : DataW.trod enc Tryz.prog w base spare held n 9 (([a, b, c].drop 1).take (Tryz.prog.cellsOf 9)) = some x1 := hf 1 _ rfl
    have h2 : DataW.trod enc Tryz.prog w base spare held n 3 (([a, b, c].drop 2).take (Tryz.prog.cellsOf 3)) = some x2 := hf 2 _ rfl
    rw [cells_int] at h0 h2
    rw [cells_str] at h1
    obtain ⟨k', hk, rfl, _⟩ := DataW.trod_int Tryz.underlying3 h0
    obtain ⟨s', hs, rfl, _⟩ := DataW.trod_string Tryz.underlying9 h1
    obtain ⟨l', hl', rfl, _⟩ := DataW.trod_int Tryz.underlying3 h2
    simp at hk hs hl'
    simp at e
    obtain ⟨e1, e2, e3⟩ := e
    rw [hk, hs, hl', e1, e3, ← e2]

theorem chunks {α : Type} (f : α → List Value) (hf : ∀ a, (f a).length = 3) : ∀ (ts : List α) (cs : List Value), cs.length = 3 * ts.length → (∀ i a, ts[i]? = some a → (cs.drop (i * 3)).take 3 = f a) → cs = ts.flatMap f
  | [], cs, hl, _ => by simp at hl; simp [hl]
  | a :: ts, cs, hl, h => by
    have h0 := h 0 a rfl
    simp only [Nat.zero_mul, List.drop_zero] at h0
    have ih := chunks f hf ts (cs.drop 3) (by simp at hl ⊢; omega) (fun i b hb => by
      have := h (i + 1) b (by simpa using hb)
      rw [List.drop_drop, show 3 + i * 3 = (i + 1) * 3 by omega]
      exact this)
    rw [List.flatMap_cons, ← h0, ← ih, List.take_append_drop]

/-- The table of signs as a datum. -/
def tableD {H : Type} : List (DataW H) := Sy.table.map fun p => .agg [.lit (.int .i64 p.1), .lit (.string p.2.1.data.toList), .lit (.int .i64 p.2.2)]

theorem laid_table {H : Type} : (Rows.laid_yieldshape_syn_pairs : DataW H) = .agg tableD := rfl

theorem table_cells {H : Type} {enc : TypeId × Value → H} {w : World} {base : Nat} {spare : Nat → Bool} {held : Bool} {fuel : Nat} {cs : List Value} {p : List MemPlace}
    (h : DataW.trod enc Tryz.prog w base spare held fuel 88 cs = some (.agg tableD, p)) : cs = tableCells := by
  obtain ⟨xs, n, rfl, hx, hl, hxl, hel⟩ := DataW.trod_array Tryz.underlying88 h
  rw [cells_tab] at hl
  have hx1 : xs.map (·.1) = tableD := by
    have := congrArg Prod.fst hx
    simpa using this.symm
  refine chunks (fun p => [.int .i64 p.1, .string p.2.1, .int .i64 p.2.2]) (fun _ => rfl) Sy.table cs (by rw [hl]; rfl) (fun i q hq => ?_)
  have hi : i < 13 := by have := (List.getElem?_eq_some_iff.1 hq).1; simpa [Sy.table] using this
  have he := hel i hi
  rw [cells_pair] at he
  obtain ⟨x, hxi⟩ : ∃ x, xs[i]? = some x := ⟨_, List.getElem?_eq_getElem (by omega)⟩
  rw [hxi] at he
  have hd : x.1 = .agg [.lit (.int .i64 q.1), .lit (.string q.2.1.data.toList), .lit (.int .i64 q.2.2)] := by
    have h1 : (xs.map (·.1))[i]? = some x.1 := by rw [List.getElem?_map, hxi]; rfl
    rw [hx1] at h1
    unfold tableD at h1
    rw [List.getElem?_map, hq] at h1
    simpa using h1.symm
  have h3 := pair_cells (cs := (cs.drop (i * 3)).take 3) (p := x.2) (by rw [← hd]; exact he)
  exact h3

theorem gPairs : Tryz.prog.globalNamed "yieldshape/syn.pairs" = some 0 := by kernel_rfl
theorem gPairsType : (Tryz.prog.globals[0]?).map (·.type) = some 88 := by kernel_rfl
theorem gPowType : (Tryz.prog.globals[1]?).map (·.type) = some 173 := by kernel_rfl
theorem cells_pow : Tryz.prog.cellsOf 173 = 20 := by kernel_rfl
theorem cells_u64 : Tryz.prog.cellsOf 156 = 1 := by kernel_rfl

/-- WHAT THE ROW's LIST GIVES. -/
theorem of_laidT {W : World} (h : laidMetH Tryz.prog Rows.synTurnsRow.laid W) : TabV W 0 ∧ TabW W := by
  constructor
  · have h1 := h.filter (fun x => x.1 == "yieldshape/syn.pairs")
    have e : Rows.synTurnsRow.laid.filter (fun x => x.1 == "yieldshape/syn.pairs") = [("yieldshape/syn.pairs", Rows.laid_yieldshape_syn_pairs)] := by rfl
    rw [e, MakeChecks.laidMetH_plain _ _ _ (by kernel_rfl)] at h1
    obtain ⟨ps, ⟨g', t', cs, fuel, p, q, hg', ht', hvar, hd, _, _⟩, _⟩ := h1
    obtain rfl := Option.some.inj (gPairs.symm.trans hg')
    obtain rfl := Option.some.inj (gPairsType.symm.trans ht')
    rw [laid_table] at hd
    have hc := table_cells hd
    simp only [World.var?, gPairs, Option.bind_some] at hvar
    split at hvar
    · rename_i c t fr hh
      simp only [Option.some.injEq] at hvar
      subst hvar
      refine ⟨t, fr, ?_⟩
      rw [hh, ← hc]
    · simp at hvar
  · have h1 := h.filter (fun x => x.1 == "internal/strconv.uint64pow10")
    have e : Rows.synTurnsRow.laid.filter (fun x => x.1 == "internal/strconv.uint64pow10") = [("internal/strconv.uint64pow10", Rows.laid_internal_strconv_uint64pow10)] := by rfl
    rw [e, MakeChecks.laidMetH_plain _ _ _ (by kernel_rfl)] at h1
    exact Lib.tabIs_of_head (rest := []) pow_global gPowType Tryz.underlying173 Tryz.underlying156 cells_u64 cells_pow h1

end Go.Proofs.YtlnikpcoejpknaaGreatDoor

