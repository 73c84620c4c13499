/- Modules in memory, out of what an argument reads as. -/
import Derived.Test.YtbdcmkmeljddmaaGreatDoorM4
import Derived.ChangeArms
import Derived.DataReads
namespace Go.Proofs.YtbdcmkmeljddmaaGreatDoor
open Go.RowKit

section
variable {H : Type} {enc : TypeId × Value → H} {w : World} {base : Nat} {spare : Nat → Bool} {held : Bool}

/-- Cells of an element, at an address of the form that the walks read. -/
theorem cells_at {a : Addr} {i n : Nat} {cs : List Value} (hn : 0 < n) (h : w.cells? base (a.add (i * n)) n = some cs) (h0 : a.spot = none) :
    a.block < w.heap.size ∧ ∀ j, j < n → w.cell? ⟨a.block, a.off + i * n + j, none⟩ = cs[j]? := by
  obtain ⟨hb, hl, hc⟩ := World.cells?_some h
  have hadd : ∀ k, a.add k = ⟨a.block, a.off + k, none⟩ := by
    intro k
    unfold Addr.add
    split
    · subst_vars; cases a; simp_all
    · rfl
  have hcell : ∀ j, j < n → w.cell? ⟨a.block, a.off + i * n + j, none⟩ = cs[j]? := by
    intro j hj
    have := hc j hj
    rw [hadd] at this
    rw [← this]
    congr 1
    unfold Addr.add
    split
    · subst_vars; rfl
    · rfl
  refine ⟨?_, hcell⟩
  have h1 := hcell 0 hn
  rw [List.getElem?_eq_getElem (by omega)] at h1
  cases hh : w.heap[a.block]? with
  | none => simp [World.cell?, hh] at h1
  | some o => exact lt_of_block hh

theorem spot_of {a : Addr} {n : Nat} {cs : List Value} (hn : 0 < n) (h : w.cells? base (a.add (0 * n)) n = some cs) : a.spot = none := by
  obtain ⟨hb, hl, hc⟩ := World.cells?_some h
  have h1 := hc 0 hn
  rw [List.getElem?_eq_getElem (by omega)] at h1
  simp only [Nat.zero_mul, Addr.add, if_true] at h1
  unfold World.cell? at h1
  split at h1
  · split at h1
    · simp at h1
    · rename_i hs; simpa using hs
  · simp at h1

theorem list_of {α : Type} {p : Nat → α → Prop} : ∀ (n : Nat), (∀ i, i < n → ∃ y, p i y) → ∃ l : List α, l.length = n ∧ ∀ i y, l[i]? = some y → p i y
  | 0, _ => ⟨[], rfl, fun i y hy => by simp at hy⟩
  | m + 1, hall => by
    obtain ⟨l, h1, h2⟩ := list_of m (fun i hi => hall i (by omega))
    obtain ⟨y, h3⟩ := hall m (by omega)
    refine ⟨l ++ [y], by simp [h1], fun i z hz => ?_⟩
    by_cases hi : i < l.length
    · rw [List.getElem?_append_left hi] at hz; exact h2 i z hz
    · rw [List.getElem?_append_right (by omega)] at hz
      have hi2 : i - l.length = 0 := by
        have := (List.getElem?_eq_some_iff.1 hz).1
        simp at this; omega
      rw [hi2] at hz
      simp at hz
      subst hz
      obtain rfl : i = m := by omega
      exact h3

/-- A slice of whatever lies in n cells each: as a list of what Q says of them. -/
theorem slice_list {α : Type} {t e : TypeId} {n fuel : Nat} {cs : List Value} {x : DataW H × List MemPlace} (Q : Nat → List Value → α → Prop)
    (ht : Tryz.prog.underlying t = some (.slice e)) (hce : Tryz.prog.cellsOf e = n) (hn : 0 < n)
    (hQ : ∀ f cs' x', f < fuel → DataW.trod enc Tryz.prog w base spare held f e cs' = some x' → ∃ y, Q f cs' y)
    (h : DataW.trod enc Tryz.prog w base spare held fuel t cs = some x) :
    ∃ (l : List α) (a : Option Addr) (c : Nat), cs = [.slice a l.length c] ∧ l.length ≤ maxLen ∧ l.length ≤ c ∧
      ∀ i y, l[i]? = some y → ∃ b off cs' f, a = some ⟨b, off, none⟩ ∧ b < w.heap.size ∧ f < fuel ∧ cs'.length = n ∧ Q f cs' y ∧ ∀ j, j < n → w.cell? ⟨b, off + i * n + j, none⟩ = cs'[j]? := by
  rcases DataW.trod_slice ht h with ⟨rfl, _⟩ | ⟨a, len, cap, elems, rest, k, rfl, rfl, _, hb, hl, hm, hlen, hel, _, _⟩
  · exact ⟨[], none, 0, rfl, Nat.zero_le _, Nat.zero_le _, fun i y hy => by simp at hy⟩
  · rw [hce] at hel
    have hall : ∀ i, i < len → ∃ cs' y, w.cells? base (a.add (i * n)) n = some cs' ∧ Q k cs' y := by
      intro i hi
      have := hel i hi
      rw [List.getElem?_eq_getElem (by omega)] at this
      obtain ⟨cs', h1, h2⟩ := Option.bind_eq_some_iff.1 this
      obtain ⟨y, hy⟩ := hQ k cs' _ (by omega) h2
      exact ⟨cs', y, h1, hy⟩
    obtain ⟨l, hll, hlq⟩ := list_of (p := fun i y => ∃ cs', w.cells? base (a.add (i * n)) n = some cs' ∧ Q k cs' y) len (fun i hi => by
      obtain ⟨cs', y, h1, h2⟩ := hall i hi
      exact ⟨y, cs', h1, h2⟩)
    refine ⟨l, some a, cap, by rw [hll], by omega, by omega, fun i y hy => ?_⟩
    have hi := (List.getElem?_eq_some_iff.1 hy).1
    have hsp : a.spot = none := by
      obtain ⟨cs0, y0, h1, _⟩ := hall 0 (by omega)
      exact spot_of hn h1
    obtain ⟨cs', h1, h2⟩ := hlq i y hy
    obtain ⟨h3, h4⟩ := cells_at hn h1 hsp
    exact ⟨a.block, a.off, cs', k, by cases a; simp_all, h3, by omega, (World.cells?_some h1).2.1, h2, h4⟩

theorem two {cs : List Value} (h : cs.length = 2) : ∃ a b, cs = [a, b] := by
  match cs, h with
  | [a, b], _ => exact ⟨a, b, rfl⟩

theorem three {cs : List Value} (h : cs.length = 3) : ∃ a b c, cs = [a, b, c] := by
  match cs, h with
  | [a, b, c], _ => exact ⟨a, b, c, rfl⟩

/-- A field's reading, if the struct reads. -/
theorem field_some {fs : Array Field} {n : Nat} {cs : List Value} {xs : List (DataW H × List MemPlace)} (hl : xs.length = fs.size)
    (h : ∀ (i : Nat) (f : Field), fs[i]? = some f → DataW.trod enc Tryz.prog w base spare held n f.type ((cs.drop f.offset).take (Tryz.prog.cellsOf f.type)) = xs[i]?)
    (i : Nat) (f : Field) (hf : fs[i]? = some f) : ∃ x, DataW.trod enc Tryz.prog w base spare held n f.type ((cs.drop f.offset).take (Tryz.prog.cellsOf f.type)) = some x := by
  have hi : i < fs.size := (Array.getElem?_eq_some_iff.1 hf).1
  exact ⟨xs[i]'(by omega), by rw [h i f hf, List.getElem?_eq_getElem]⟩

theorem six {cs : List Value} (h : cs.length = 6) : ∃ a b c d e f, cs = [a, b, c, d, e, f] := by
  match cs, h with
  | [a, b, c, d, e, f], _ => exact ⟨a, b, c, d, e, f, rfl⟩

theorem cells_box : Tryz.prog.cellsOf 67 = 2 := by kernel_rfl
theorem cells_ins : Tryz.prog.cellsOf 43 = 3 := by kernel_rfl
theorem cells_un : Tryz.prog.cellsOf 41 = 6 := by kernel_rfl
theorem cells_md : Tryz.prog.cellsOf 25 = 2 := by kernel_rfl
theorem cells_int : Tryz.prog.cellsOf 3 = 1 := by kernel_rfl
theorem cells_i64 : Tryz.prog.cellsOf 2 = 1 := by kernel_rfl
theorem cells_ints : Tryz.prog.cellsOf 38 = 1 := by kernel_rfl
theorem cells_code : Tryz.prog.cellsOf 39 = 1 := by kernel_rfl
theorem cells_boxes : Tryz.prog.cellsOf 22 = 1 := by kernel_rfl
theorem cells_units : Tryz.prog.cellsOf 23 = 1 := by kernel_rfl

theorem wf_i64 {n : Int} (h : (Lit.int .i64 n).wf = true) : I64 n := by
  simp only [Lit.wf, Bool.and_eq_true, decide_eq_true_eq] at h
  have e1 : IntKind.i64.min = -9223372036854775808 := by decide
  have e2 : IntKind.i64.max = 9223372036854775807 := by decide
  rw [e1, e2] at h
  exact h

theorem int_open {fuel : Nat} {cs : List Value} {x : DataW H × List MemPlace} (h : DataW.trod enc Tryz.prog w base spare held fuel 3 cs = some x) : ∃ n : Int, I64 n ∧ cs = [.int .i64 n] := by
  obtain ⟨n, hn, _, hw⟩ := DataW.trod_int Tryz.underlying3 h
  exact ⟨n, wf_i64 hw, hn⟩
theorem i64_open {fuel : Nat} {cs : List Value} {x : DataW H × List MemPlace} (h : DataW.trod enc Tryz.prog w base spare held fuel 2 cs = some x) : ∃ n : Int, I64 n ∧ cs = [.int .i64 n] := by
  obtain ⟨n, hn, _, hw⟩ := DataW.trod_int Tryz.underlying2 h
  exact ⟨n, wf_i64 hw, hn⟩

theorem ints_open {fuel : Nat} {cs : List Value} {x : DataW H × List MemPlace} (h : DataW.trod enc Tryz.prog w base spare held fuel 38 cs = some x) :
    ∃ (l : List Int) (a : Option Addr) (c : Nat), cs = [.slice a l.length c] ∧ IntsIn w.heap.size w l a ∧ l.length ≤ 9223372036854775807 ∧ l.length ≤ c := by
  obtain ⟨l, a, c, hcs, hm, hc, hall⟩ := slice_list (n := 1) (fun _ cs' (y : Int) => I64 y ∧ cs' = [.int .i64 y]) Tryz.underlying38 cells_int (by decide) (fun f cs' x' _ hx' => int_open hx') h
  refine ⟨l, a, c, hcs, fun i y hy => ?_, by unfold maxLen at hm; omega, hc⟩
  obtain ⟨b, off, cs', f, he, hb, _, _, ⟨h1, rfl⟩, hcell⟩ := hall i y hy
  exact ⟨h1, b, off, he, hb, by have := hcell 0 (by decide); rw [Nat.mul_one] at this; exact this⟩

theorem box_open {fuel : Nat} {cs : List Value} {x : DataW H × List MemPlace} (h : DataW.trod enc Tryz.prog w base spare held fuel 67 cs = some x) :
    ∃ o : Vf.Bx, (I64 o.ty ∧ I64 o.cap) ∧ cs = [.int .i64 o.ty, .int .i64 o.cap] := by
  obtain ⟨xs, n, rfl, _, hl, hxl, hf⟩ := DataW.trod_struct Tryz.underlying67 h
  rw [cells_box] at hl
  obtain ⟨a, b, rfl⟩ := two hl
  obtain ⟨x0, h0⟩ : ∃ x, DataW.trod enc Tryz.prog w base spare held n 3 (([a, b].drop 0).take (Tryz.prog.cellsOf 3)) = some x := field_some hxl hf 0 _ rfl
  obtain ⟨x1, h1⟩ : ∃ x, DataW.trod enc Tryz.prog w base spare held n 3 (([a, b].drop 1).take (Tryz.prog.cellsOf 3)) = some x := field_some hxl hf 1 _ rfl
  simp only [cells_int] at h0 h1
  obtain ⟨p, p1, p2⟩ := int_open h0
  obtain ⟨q, q1, q2⟩ := int_open h1
  simp at p2 q2
  exact ⟨⟨p, q⟩, ⟨p1, q1⟩, by rw [p2, q2]⟩
theorem ins_open {fuel : Nat} {cs : List Value} {x : DataW H × List MemPlace} (h : DataW.trod enc Tryz.prog w base spare held fuel 43 cs = some x) :
    ∃ o : Vf.Ins, (I64 o.op ∧ I64 o.a ∧ I64 o.n) ∧ cs = [.int .i64 o.op, .int .i64 o.a, .int .i64 o.n] := by
  obtain ⟨xs, n, rfl, _, hl, hxl, hf⟩ := DataW.trod_struct Tryz.underlying43 h
  rw [cells_ins] at hl
  obtain ⟨a, b, c, rfl⟩ := three hl
  obtain ⟨x0, h0⟩ : ∃ x, DataW.trod enc Tryz.prog w base spare held n 3 (([a, b, c].drop 0).take (Tryz.prog.cellsOf 3)) = some x := field_some hxl hf 0 _ rfl
  obtain ⟨x1, h1⟩ : ∃ x, DataW.trod enc Tryz.prog w base spare held n 3 (([a, b, c].drop 1).take (Tryz.prog.cellsOf 3)) = some x := field_some hxl hf 1 _ rfl
  obtain ⟨x2, h2⟩ : ∃ x, DataW.trod enc Tryz.prog w base spare held n 2 (([a, b, c].drop 2).take (Tryz.prog.cellsOf 2)) = some x := field_some hxl hf 2 _ rfl
  simp only [cells_int, cells_i64] at h0 h1 h2
  obtain ⟨p, p1, p2⟩ := int_open h0
  obtain ⟨q, q1, q2⟩ := int_open h1
  obtain ⟨r, r1, r2⟩ := i64_open h2
  simp at p2 q2 r2
  exact ⟨⟨p, q, r⟩, ⟨p1, q1, r1⟩, by rw [p2, q2, r2]⟩
theorem code_open {fuel : Nat} {cs : List Value} {x : DataW H × List MemPlace} (h : DataW.trod enc Tryz.prog w base spare held fuel 39 cs = some x) :
    ∃ (l : List Vf.Ins) (a : Option Addr) (c : Nat), cs = [.slice a l.length c] ∧ CodeIn w.heap.size w l a ∧ l.length ≤ 9223372036854775807 ∧ l.length ≤ c := by
  obtain ⟨l, a, c, hcs, hm, hc, hall⟩ := slice_list (n := 3) (fun _ cs' (y : Vf.Ins) => (I64 y.op ∧ I64 y.a ∧ I64 y.n) ∧ cs' = [.int .i64 y.op, .int .i64 y.a, .int .i64 y.n]) Tryz.underlying39 cells_ins (by decide) (fun f cs' x' _ hx' => ins_open hx') h
  refine ⟨l, a, c, hcs, fun i y hy => ?_, by unfold maxLen at hm; omega, hc⟩
  obtain ⟨b, off, cs', f, he, hb, _, _, ⟨⟨h1, h2, h3⟩, rfl⟩, hcell⟩ := hall i y hy
  exact ⟨h1, h2, h3, b, off, he, hb, hcell 0 (by decide), hcell 1 (by decide), hcell 2 (by decide)⟩
theorem unit_open {fuel : Nat} {cs : List Value} {x : DataW H × List MemPlace} (h : DataW.trod enc Tryz.prog w base spare held fuel 41 cs = some x) :
    ∃ u : Vf.Un, ∃ al cl ac cc, UnIn w.heap.size w u al ac cl cc ∧ cs = [.int .i64 u.kind, .int .i64 u.params, .slice al u.locals.length cl, .int .i64 u.result, .int .i64 u.takes, .slice ac u.code.length cc] := by
  obtain ⟨xs, n, rfl, _, hl, hxl, hf⟩ := DataW.trod_struct Tryz.underlying41 h
  rw [cells_un] at hl
  obtain ⟨a, b, c, d, e, f, rfl⟩ := six hl
  obtain ⟨x0, h0⟩ : ∃ x, DataW.trod enc Tryz.prog w base spare held n 3 (([a, b, c, d, e, f].drop 0).take (Tryz.prog.cellsOf 3)) = some x := field_some hxl hf 0 _ rfl
  obtain ⟨x1, h1⟩ : ∃ x, DataW.trod enc Tryz.prog w base spare held n 3 (([a, b, c, d, e, f].drop 1).take (Tryz.prog.cellsOf 3)) = some x := field_some hxl hf 1 _ rfl
  obtain ⟨x2, h2⟩ : ∃ x, DataW.trod enc Tryz.prog w base spare held n 38 (([a, b, c, d, e, f].drop 2).take (Tryz.prog.cellsOf 38)) = some x := field_some hxl hf 2 _ rfl
  obtain ⟨x3, h3⟩ : ∃ x, DataW.trod enc Tryz.prog w base spare held n 3 (([a, b, c, d, e, f].drop 3).take (Tryz.prog.cellsOf 3)) = some x := field_some hxl hf 3 _ rfl
  obtain ⟨x4, h4⟩ : ∃ x, DataW.trod enc Tryz.prog w base spare held n 3 (([a, b, c, d, e, f].drop 4).take (Tryz.prog.cellsOf 3)) = some x := field_some hxl hf 4 _ rfl
  obtain ⟨x5, h5⟩ : ∃ x, DataW.trod enc Tryz.prog w base spare held n 39 (([a, b, c, d, e, f].drop 5).take (Tryz.prog.cellsOf 39)) = some x := field_some hxl hf 5 _ rfl
  simp only [cells_int, cells_ints, cells_code] at h0 h1 h2 h3 h4 h5
  obtain ⟨p0, i0, e0⟩ := int_open h0
  obtain ⟨p1, i1, e1⟩ := int_open h1
  obtain ⟨p2, a2, c2, e2, i2, l2, k2⟩ := ints_open h2
  obtain ⟨p3, i3, e3⟩ := int_open h3
  obtain ⟨p4, i4, e4⟩ := int_open h4
  obtain ⟨p5, a5, c5, e5, i5, l5, k5⟩ := code_open h5
  simp at e0 e1 e2 e3 e4 e5
  exact ⟨⟨p0, p1, p2, p3, p4, p5⟩, a2, c2, a5, c5, ⟨⟨i0, i1, i3, i4⟩, ⟨l2, l5⟩, ⟨k2, k5⟩, i2, i5⟩, by rw [e0, e1, e2, e3, e4, e5]⟩

/-- WHAT AN ARGUMENT Module IS. -/
theorem mod_open {fuel : Nat} {cs : List Value} {x : DataW H × List MemPlace} (h : DataW.trod enc Tryz.prog w base spare held fuel 25 cs = some x) :
    ∃ m : Vf.Md, ∃ ab cb au cu, cs = [.slice ab m.boxes.length cb, .slice au m.units.length cu] ∧ ModIn w.heap.size w m ab au := by
  obtain ⟨xs, n, rfl, _, hl, hxl, hf⟩ := DataW.trod_struct Tryz.underlying25 h
  rw [cells_md] at hl
  obtain ⟨p, q, rfl⟩ := two hl
  obtain ⟨x0, h0⟩ : ∃ x, DataW.trod enc Tryz.prog w base spare held n 22 (([p, q].drop 0).take (Tryz.prog.cellsOf 22)) = some x := field_some hxl hf 0 _ rfl
  obtain ⟨x1, h1⟩ : ∃ x, DataW.trod enc Tryz.prog w base spare held n 23 (([p, q].drop 1).take (Tryz.prog.cellsOf 23)) = some x := field_some hxl hf 1 _ rfl
  simp only [cells_boxes, cells_units] at h0 h1
  obtain ⟨l, a, c, hcs, hm, _, hall⟩ := slice_list (n := 2) (fun _ cs' (y : Vf.Bx) => (I64 y.ty ∧ I64 y.cap) ∧ cs' = [.int .i64 y.ty, .int .i64 y.cap]) Tryz.underlying22 cells_box (by decide) (fun f cs' x' _ hx' => box_open hx') h0
  obtain ⟨l2, a2, c2, hcs2, hm2, _, hall2⟩ := slice_list (n := 6) (fun _ cs' (u : Vf.Un) => ∃ al cl ac cc, UnIn w.heap.size w u al ac cl cc ∧ cs' = [.int .i64 u.kind, .int .i64 u.params, .slice al u.locals.length cl, .int .i64 u.result, .int .i64 u.takes, .slice ac u.code.length cc]) Tryz.underlying23 cells_un (by decide) (fun f cs' x' _ hx' => unit_open hx') h1
  simp at hcs hcs2
  refine ⟨⟨l, l2⟩, a, c, a2, c2, by rw [hcs, hcs2], ⟨by unfold maxLen at hm; omega, by unfold maxLen at hm2; omega⟩, fun i y hy => ?_, fun i y hy => ?_⟩
  · obtain ⟨b, off, cs', f, he, hb, _, _, ⟨⟨h1, h2⟩, rfl⟩, hcell⟩ := hall i y hy
    exact ⟨h1, h2, b, off, he, hb, hcell 0 (by decide), hcell 1 (by decide)⟩
  · obtain ⟨b, off, cs', f, he, hb, _, _, ⟨al, cl, ac, cc, hu, rfl⟩, hcell⟩ := hall2 i y hy
    exact ⟨b, off, al, cl, ac, cc, he, hb, hu, hcell 0 (by decide), hcell 1 (by decide), hcell 2 (by decide), hcell 3 (by decide), hcell 4 (by decide), hcell 5 (by decide)⟩

end
end Go.Proofs.YtbdcmkmeljddmaaGreatDoor

/- Units in a row of their own. -/
namespace Go.Proofs.YtbdcmkmeljddmaaGreatDoor
open Go.RowKit

theorem Tryz.infounit : (Tryz.prog.info? 41).map (fun i => (i.zero, i.size, i.bytes)) = some (some (.agg #[.int .i64 0, .int .i64 0, .slice none 0 0, .int .i64 0, .int .i64 0, .slice none 0 0]), 6, 80) := by kernel_rfl

/-- A unit, and where its rows lie. -/
structure UV where
  u : Vf.Un
  al : Option Addr
  ac : Option Addr
  cl : Nat
  cc : Nat
abbrev uvC (x : UV) : List Value := [.int .i64 x.u.kind, .int .i64 x.u.params, .slice x.al x.u.locals.length x.cl, .int .i64 x.u.result, .int .i64 x.u.takes, .slice x.ac x.u.code.length x.cc]
def uvs (l : List UV) : List Value := l.flatMap uvC
theorem uvs_cons (x : UV) (l : List UV) : uvs (x :: l) = uvC x ++ uvs l := rfl
theorem uvs_at : ∀ (l : List UV) (i : Nat) (x : UV), l[i]? = some x → ∀ j, j < 6 → (uvs l)[i * 6 + j]? = (uvC x)[j]?
  | y :: l, 0, x, h, j, hj => by
    simp at h
    subst h
    rw [uvs_cons, List.getElem?_append_left (by simp; omega)]
    simp
  | y :: l, i + 1, x, h, j, hj => by
    have := uvs_at l i x (by simpa using h) j hj
    rw [uvs_cons, List.getElem?_append_right (by simp; omega)]
    rw [← this]
    congr 1
    simp
    omega
/-- Units in a row of which nothing else is known but where it lies. -/
structure UsIn (B : Nat) (w : World) (g : Nat) (l : List UV) (cap : Nat) : Prop where
  blk : ∃ cur : List Value, w.heap[g]? = some (.cells (List.toArray cur) 41 (0, 0)) ∧ cur.take (l.length * 6) = uvs l ∧ l.length * 6 ≤ cur.length
  un : ∀ (i : Nat) x, l[i]? = some x → UnIn B w x.u x.al x.ac x.cl x.cc
theorem UsIn.units {B : Nat} {w : World} {g : Nat} {l : List UV} {cap : Nat} (h : UsIn B w g l cap) (hB : w.heap.size ≤ B) : UnitsIn B w (l.map (·.u)) (some ⟨g, 0, none⟩) := by
  obtain ⟨cur, h1, h2, h3⟩ := h.blk
  have hlt := lt_of_block h1
  intro i u hu
  rw [List.getElem?_map] at hu
  obtain ⟨x, hx, rfl⟩ := Option.map_eq_some_iff.1 hu
  have hi := (List.getElem?_eq_some_iff.1 hx).1
  have cell : ∀ j, j < 6 → w.cell? ⟨g, 0 + i * 6 + j, none⟩ = (uvC x)[j]? := fun j hj => by
    rw [← uvs_at l i x hx j hj, ← h2, List.getElem?_take, if_pos (by omega)]
    simp [World.cell?, h1]
  exact ⟨g, 0, x.al, x.cl, x.ac, x.cc, rfl, by omega, h.un i x hx, cell 0 (by decide), cell 1 (by decide), cell 2 (by decide), cell 3 (by decide), cell 4 (by decide), cell 5 (by decide)⟩
/-- What an own row of units is. -/
theorem us_own {B C : Nat} {w : World} {v : Value} {l : List UV} (h : w.ownsRow C 41 6 v l.length (uvs l)) (hn : 0 < l.length) (hu : ∀ (i : Nat) x, l[i]? = some x → UnIn B w x.u x.al x.ac x.cl x.cc) : ∃ g cap, v = .slice (some ⟨g, 0, none⟩) l.length cap ∧ C ≤ g ∧ g < w.heap.size ∧ l.length ≤ cap ∧ UsIn B w g l cap := by
  rcases h.2 with ⟨_, h0⟩ | ⟨g, cap, cur, rfl, hg, hh, h1, h2, h3, h4⟩
  · omega
  · exact ⟨g, cap, rfl, hg, lt_of_block hh, h1, ⟨cur.toList, hh, h4, by simp; rw [h3]; exact Nat.mul_le_mul_right 6 h1⟩, hu⟩
theorem UnIn.grown {B : Nat} {w w' : World} {u : Vf.Un} {al ac : Option Addr} {cl cc g : Nat} (h : UnIn B w u al ac cl cc) (hg : w.grownBy w' (some g)) (hB : B ≤ g) (hw : B ≤ w.heap.size) : UnIn B w' u al ac cl cc := h.low (fun k hk => hg.block k (by omega) (by simp; omega))

end Go.Proofs.YtbdcmkmeljddmaaGreatDoor

