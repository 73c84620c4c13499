/- What the bound on an argument's bulk says of a module. -/
import Derived.Test.YtnfkfgpnojdfoaaRows
import Derived.Test.YtnfkfgpnojdfoaaIm11
import Derived.Test.YtnfkfgpnojdfoaaIm24
namespace Go.Proofs.Ytnfkfgpnojdfoaa
open Go.RowKit

theorem bulk_one {H : Type} (d : DataW H) : 1 ≤ Rows.uptoBulk d := by
  cases d with
  | lit l => cases l <;> simp [Rows.uptoBulk]
  | nil => simp [Rows.uptoBulk]
  | ptr d => simp [Rows.uptoBulk]
  | slice elems spare => simp [Rows.uptoBulk]
  | agg parts => simp [Rows.uptoBulk]
  | iface t d => simp [Rows.uptoBulk]
  | map entries => simp [Rows.uptoBulk]
  | held h => simp [Rows.uptoBulk]
/-- Weights by the bulk of what they weigh. -/
theorem bulk_sum {α H : Type} (wt : α → Nat) : ∀ (l : List (α × DataW H)), (∀ y ∈ l, wt y.1 ≤ Rows.uptoBulk y.2) → (l.map (fun y => wt y.1)).sum ≤ Rows.uptoBulkAll (l.map (·.2))
  | [], _ => by simp [Rows.uptoBulkAll]
  | y :: l, h => by
    have h1 := h y (by simp)
    have h2 := bulk_sum wt l (fun z hz => h z (by simp [hz]))
    simp only [List.map_cons, List.sum_cons, Rows.uptoBulkAll]
    omega

theorem ones {α : Type} : ∀ (l : List α), (l.map (fun _ => 1)).sum = l.length
  | [] => rfl
  | _ :: l => by have := ones l; simp only [List.map_cons, List.sum_cons, List.length_cons]; omega

section
variable {H : Type} {enc : TypeId × Value → H} {w : World} {base : Nat} {spare : Nat → Bool} {held : Bool}

theorem slice_list2 {α : Type} {t e : TypeId} {n fuel : Nat} {cs : List Value} {x : DataW H × List MemPlace} (Q : Nat → List Value → DataW H → α → Prop)
    (ht : Try.prog.underlying t = some (.slice e)) (hce : Try.prog.cellsOf e = n) (hn : 0 < n)
    (hQ : ∀ f cs' x', f < fuel → DataW.trod enc Try.prog w base spare held f e cs' = some x' → ∃ y, Q f cs' x'.1 y)
    (h : DataW.trod enc Try.prog w base spare held fuel t cs = some x) :
    ∃ (l : List (α × DataW H)) (a : Option Addr) (c : Nat), cs = [.slice a l.length c] ∧ l.length ≤ maxLen ∧ l.length ≤ c ∧ Rows.uptoBulkAll (l.map (·.2)) + 1 ≤ Rows.uptoBulk x.1 ∧
      ∀ i y, l[i]? = some y → ∃ b off cs' f, a = some ⟨b, off, none⟩ ∧ b < w.heap.size ∧ f < fuel ∧ cs'.length = n ∧ Q f cs' y.2 y.1 ∧ ∀ j, j < n → w.cell? ⟨b, off + i * n + j, none⟩ = cs'[j]? := by
  rcases DataW.trod_slice ht h with ⟨rfl, rfl⟩ | ⟨a, len, cap, elems, rest, k, rfl, rfl, rfl, hb, hl, hm, hlen, hel, _, _⟩
  · exact ⟨[], none, 0, rfl, Nat.zero_le _, Nat.zero_le _, by simp [Rows.uptoBulk, Rows.uptoBulkAll], fun i y hy => by simp at hy⟩
  · rw [hce] at hel
    have hall : ∀ i, i < len → ∃ cs' y, w.cells? base (a.add (i * n)) n = some cs' ∧ ∃ d, Q k cs' d y ∧ (elems.map (·.1))[i]? = some d := by
      intro i hi
      have := hel i hi
      rw [List.getElem?_eq_getElem (by omega)] at this
      obtain ⟨cs', h1, h2⟩ := Option.bind_eq_some_iff.1 this
      obtain ⟨y, hy⟩ := hQ k cs' _ (by omega) h2
      exact ⟨cs', y, h1, _, hy, by rw [List.getElem?_map, List.getElem?_eq_getElem (by omega)]; rfl⟩
    obtain ⟨l, hll, hlq⟩ := list_of (p := fun i (y : α × DataW H) => ∃ cs', w.cells? base (a.add (i * n)) n = some cs' ∧ Q k cs' y.2 y.1 ∧ (elems.map (·.1))[i]? = some y.2) len (fun i hi => by
      obtain ⟨cs', y, h1, d, h2, h3⟩ := hall i hi
      exact ⟨(y, d), cs', h1, h2, h3⟩)
    have hmap : l.map (·.2) = elems.map (·.1) := by
      apply List.ext_getElem?
      intro i
      by_cases hi : i < len
      · obtain ⟨y, hy⟩ : ∃ y, l[i]? = some y := ⟨_, List.getElem?_eq_getElem (by omega)⟩
        obtain ⟨_, _, _, h3⟩ := hlq i y hy
        rw [List.getElem?_map, hy, h3]
        rfl
      · rw [List.getElem?_eq_none (by simp; omega), List.getElem?_eq_none (by simp; omega)]
    refine ⟨l, some a, cap, by rw [hll], by omega, by omega, by rw [hmap]; simp only [Rows.uptoBulk]; omega, fun i y hy => ?_⟩
    have hi := (List.getElem?_eq_some_iff.1 hy).1
    have hsp : a.spot = none := by
      obtain ⟨cs0, y0, h1, _⟩ := hall 0 (by omega)
      exact spot_of hn h1
    obtain ⟨cs', h1, h2, _⟩ := hlq i y hy
    obtain ⟨h3, h4⟩ := cells_at hn h1 hsp
    exact ⟨a.block, a.off, cs', k, by cases a; simp_all, h3, by omega, (World.cells?_some h1).2.1, h2, h4⟩

theorem ints_open2 {fuel : Nat} {cs : List Value} {x : DataW H × List MemPlace} (h : DataW.trod enc Try.prog w base spare held fuel 49 cs = some x) :
    ∃ (l : List Int) (a : Option Addr) (c : Nat), cs = [.slice a l.length c] ∧ IntsIn w.heap.size w l a ∧ l.length ≤ 9223372036854775807 ∧ l.length + 1 ≤ Rows.uptoBulk x.1 := by
  obtain ⟨l, a, c, hcs, hm, hc, hbk, hall⟩ := slice_list2 (n := 1) (fun _ cs' _ (y : Int) => I64 y ∧ cs' = [.int .i64 y]) Try.underlying49 cells_int (by decide) (fun f cs' x' _ hx' => int_open hx') h
  refine ⟨l.map (·.1), a, c, by rw [List.length_map]; exact hcs, fun i y hy => ?_, by rw [List.length_map]; unfold maxLen at hm; omega, ?_⟩
  · rw [List.getElem?_map] at hy
    obtain ⟨z, hz, rfl⟩ := Option.map_eq_some_iff.1 hy
    obtain ⟨b, off, cs', f, he, hb, _, _, ⟨h1, rfl⟩, hcell⟩ := hall i z hz
    exact ⟨h1, b, off, he, .inl hb, by have := hcell 0 (by decide); rw [Nat.mul_one] at this; exact this⟩
  · have := bulk_sum (fun _ : Int => 1) l (fun y _ => bulk_one _)
    rw [ones] at this
    rw [List.length_map]
    omega
theorem code_open2 {fuel : Nat} {cs : List Value} {x : DataW H × List MemPlace} (h : DataW.trod enc Try.prog w base spare held fuel 50 cs = some x) :
    ∃ (l : List Im.Ins) (a : Option Addr) (c : Nat), cs = [.slice a l.length c] ∧ CodeIn w.heap.size w l a ∧ l.length ≤ 9223372036854775807 ∧ l.length + 1 ≤ Rows.uptoBulk x.1 := by
  obtain ⟨l, a, c, hcs, hm, hc, hbk, hall⟩ := slice_list2 (n := 3) (fun _ cs' _ (y : Im.Ins) => (I64 y.op ∧ I64 y.a ∧ I64 y.n) ∧ cs' = [.int .i64 y.op, .int .i64 y.a, .int .i64 y.n]) Try.underlying50 cells_ins (by decide) (fun f cs' x' _ hx' => ins_open hx') h
  refine ⟨l.map (·.1), a, c, by rw [List.length_map]; exact hcs, fun i y hy => ?_, by rw [List.length_map]; unfold maxLen at hm; omega, ?_⟩
  · rw [List.getElem?_map] at hy
    obtain ⟨z, hz, rfl⟩ := Option.map_eq_some_iff.1 hy
    obtain ⟨b, off, cs', f, he, hb, _, _, ⟨⟨h1, h2, h3⟩, rfl⟩, hcell⟩ := hall i z hz
    exact ⟨h1, h2, h3, b, off, he, .inl hb, hcell 0 (by decide), hcell 1 (by decide), hcell 2 (by decide)⟩
  · have := bulk_sum (fun _ : Im.Ins => 1) l (fun y _ => bulk_one _)
    rw [ones] at this
    rw [List.length_map]
    omega

theorem six' {α : Type} {cs : List α} (h : cs.length = 6) : ∃ a b c d e f, cs = [a, b, c, d, e, f] := by
  match cs, h with
  | [a, b, c, d, e, f], _ => exact ⟨a, b, c, d, e, f, rfl⟩

theorem unit_open2 {fuel : Nat} {cs : List Value} {x : DataW H × List MemPlace} (h : DataW.trod enc Try.prog w base spare held fuel 52 cs = some x) :
    ∃ u : Im.Un, (∃ al cl ac cc, UnIn w.heap.size w u al ac ∧ cs = [.int .i64 u.kind, .int .i64 u.params, .slice al u.locals.length cl, .int .i64 u.result, .int .i64 u.takes, .slice ac u.code.length cc]) ∧ 1 + u.locals.length + u.code.length ≤ Rows.uptoBulk x.1 := by
  obtain ⟨xs, n, rfl, rfl, hl, hxl, hf⟩ := DataW.trod_struct Try.underlying52 h
  rw [cells_un] at hl
  obtain ⟨a, b, c, d, e, f, rfl⟩ := six hl
  obtain ⟨x0, x1, x2, x3, x4, x5, rfl⟩ := six' hxl
  have h0 : DataW.trod enc Try.prog w base spare held n 3 (([a, b, c, d, e, f].drop 0).take (Try.prog.cellsOf 3)) = some x0 := hf 0 _ rfl
  have h1 : DataW.trod enc Try.prog w base spare held n 3 (([a, b, c, d, e, f].drop 1).take (Try.prog.cellsOf 3)) = some x1 := hf 1 _ rfl
  have h2 : DataW.trod enc Try.prog w base spare held n 49 (([a, b, c, d, e, f].drop 2).take (Try.prog.cellsOf 49)) = some x2 := hf 2 _ rfl
  have h3 : DataW.trod enc Try.prog w base spare held n 3 (([a, b, c, d, e, f].drop 3).take (Try.prog.cellsOf 3)) = some x3 := hf 3 _ rfl
  have h4 : DataW.trod enc Try.prog w base spare held n 3 (([a, b, c, d, e, f].drop 4).take (Try.prog.cellsOf 3)) = some x4 := hf 4 _ rfl
  have h5 : DataW.trod enc Try.prog w base spare held n 50 (([a, b, c, d, e, f].drop 5).take (Try.prog.cellsOf 50)) = some x5 := hf 5 _ rfl
  simp only [cells_int, cells_ints, cells_code] at h0 h1 h2 h3 h4 h5
  obtain ⟨p0, i0, e0⟩ := int_open h0
  obtain ⟨p1, i1, e1⟩ := int_open h1
  obtain ⟨p2, a2, c2, e2, i2, l2, w2⟩ := ints_open2 h2
  obtain ⟨p3, i3, e3⟩ := int_open h3
  obtain ⟨p4, i4, e4⟩ := int_open h4
  obtain ⟨p5, a5, c5, e5, i5, l5, w5⟩ := code_open2 h5
  simp at e0 e1 e2 e3 e4 e5
  refine ⟨⟨p0, p1, p2, p3, p4, p5⟩, ⟨a2, c2, a5, c5, ⟨⟨i0, i1, i3, i4⟩, ⟨l2, l5⟩, i2, i5⟩, by rw [e0, e1, e2, e3, e4, e5]⟩, ?_⟩
  simp only [List.map_cons, List.map_nil, Rows.uptoBulk, Rows.uptoBulkAll]
  omega

/-- How many numbers a module has. -/
def Im.cnt (m : Im.Md) : Nat := m.boxes.length + (m.units.map fun u => 1 + u.locals.length + u.code.length).sum

/-- WHAT AN ARGUMENT Module IS, and its bulk. -/
theorem mod_open2 {fuel : Nat} {cs : List Value} {x : DataW H × List MemPlace} (h : DataW.trod enc Try.prog w base spare held fuel 25 cs = some x) :
    ∃ m : Im.Md, (∃ ab cb au cu, cs = [.slice ab m.boxes.length cb, .slice au m.units.length cu] ∧ ModIn w.heap.size w m ab au) ∧ Im.cnt m ≤ Rows.uptoBulk x.1 := by
  obtain ⟨xs, n, rfl, rfl, hl, hxl, hf⟩ := DataW.trod_struct Try.underlying25 h
  rw [cells_md] at hl
  obtain ⟨p, q, rfl⟩ := two hl
  obtain ⟨x0, x1, rfl⟩ : ∃ x0 x1, xs = [x0, x1] := by
    match xs, hxl with
    | [x0, x1], _ => exact ⟨x0, x1, rfl⟩
  have h0 : DataW.trod enc Try.prog w base spare held n 22 (([p, q].drop 0).take (Try.prog.cellsOf 22)) = some x0 := hf 0 _ rfl
  have h1 : DataW.trod enc Try.prog w base spare held n 23 (([p, q].drop 1).take (Try.prog.cellsOf 23)) = some x1 := hf 1 _ rfl
  simp only [cells_boxes, cells_units] at h0 h1
  obtain ⟨l, a, c, hcs, hm, _, hb1, hall⟩ := slice_list2 (n := 2) (fun _ cs' _ (y : Im.Bx) => (I64 y.ty ∧ I64 y.cap) ∧ cs' = [.int .i64 y.ty, .int .i64 y.cap]) Try.underlying22 cells_box (by decide) (fun f cs' x' _ hx' => box_open hx') h0
  obtain ⟨l2, a2, c2, hcs2, hm2, _, hb2, hall2⟩ := slice_list2 (n := 6) (fun _ cs' d (u : Im.Un) => (∃ al cl ac cc, UnIn w.heap.size w u al ac ∧ cs' = [.int .i64 u.kind, .int .i64 u.params, .slice al u.locals.length cl, .int .i64 u.result, .int .i64 u.takes, .slice ac u.code.length cc]) ∧ 1 + u.locals.length + u.code.length ≤ Rows.uptoBulk d) Try.underlying23 cells_un (by decide) (fun f cs' x' _ hx' => unit_open2 hx') h1
  simp at hcs hcs2
  refine ⟨⟨l.map (·.1), l2.map (·.1)⟩, ⟨a, c, a2, c2, by simp only [List.length_map]; rw [hcs, hcs2], ⟨by simp only [List.length_map]; unfold maxLen at hm; omega, by simp only [List.length_map]; unfold maxLen at hm2; omega⟩, fun i y hy => ?_, fun i y hy => ?_⟩, ?_⟩
  · simp only [List.getElem?_map] at hy
    obtain ⟨z, hz, rfl⟩ := Option.map_eq_some_iff.1 hy
    obtain ⟨b, off, cs', f, he, hb, _, _, ⟨⟨h1, h2⟩, rfl⟩, hcell⟩ := hall i z hz
    exact ⟨h1, h2, b, off, he, .inl hb, hcell 0 (by decide), hcell 1 (by decide)⟩
  · simp only [List.getElem?_map] at hy
    obtain ⟨z, hz, rfl⟩ := Option.map_eq_some_iff.1 hy
    obtain ⟨b, off, cs', f, he, hb, _, _, ⟨⟨al, cl, ac, cc, hu, rfl⟩, _⟩, hcell⟩ := hall2 i z hz
    exact ⟨b, off, al, cl, ac, cc, he, .inl hb, hu, hcell 0 (by decide), hcell 1 (by decide), hcell 2 (by decide), hcell 3 (by decide), hcell 4 (by decide), hcell 5 (by decide)⟩
  · have s1 := bulk_sum (fun _ : Im.Bx => 1) l (fun y _ => bulk_one _)
    have s2 := bulk_sum (fun u : Im.Un => 1 + u.locals.length + u.code.length) l2 (fun y hy => by
      obtain ⟨i, hi⟩ := List.mem_iff_getElem?.1 hy
      obtain ⟨_, _, _, _, _, _, _, _, ⟨_, hw⟩, _⟩ := hall2 i y hi
      exact hw)
    simp only [Im.cnt, List.length_map, List.map_map, List.map_cons, List.map_nil, Rows.uptoBulk, Rows.uptoBulkAll]
    rw [ones] at s1
    have e : ((fun u : Im.Un => 1 + u.locals.length + u.code.length) ∘ fun x : Im.Un × DataW H => x.1) = fun y => 1 + y.1.locals.length + y.1.code.length := rfl
    rw [e]
    omega

end

theorem sum_le {α : Type} (f g : α → Nat) : ∀ (l : List α), (∀ x ∈ l, f x ≤ g x) → (l.map f).sum ≤ (l.map g).sum
  | [], _ => by simp
  | x :: l, h => by
    have h1 := h x (by simp)
    have h2 := sum_le f g l (fun y hy => h y (by simp [hy]))
    simp only [List.map_cons, List.sum_cons]
    omega

end Go.Proofs.Ytnfkfgpnojdfoaa
