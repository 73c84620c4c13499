/- Programs in memory, out of what an argument reads as: no generator's name is too long for any machine. -/
import Derived.Test.YtbbklahhnepiaaaDoorOp
import Derived.Test.YtbbklahhnepiaaaDoorDz
import Derived.SizedLaws
namespace Go.Proofs.YtbbklahhnepiaaaDoor
open Go.RowKit

section
variable {H : Type} {enc : TypeId × Value → H} {w : World} {base : Nat} {spare : Nat → Bool} {held : Bool}

/-- All that a datum holds is of bounded length. -/
def OkW (t : TypeId) (d : DataW H) : Prop := ∀ n ∈ d.weights Tryd.prog t, n ≤ reachBytes

theorem weightsAll_mem {e : TypeId} : ∀ {l : List (DataW H)} {d : DataW H}, d ∈ l → ∀ n ∈ d.weights Tryd.prog e, n ∈ DataW.weightsAll Tryd.prog e l
  | a :: l, d, hd, n, hn => by
    unfold DataW.weightsAll
    rcases List.mem_cons.1 hd with rfl | hd
    · exact List.mem_append_left _ hn
    · exact List.mem_append_right _ (weightsAll_mem hd n hn)

theorem ok_slice {t e : TypeId} {elems sp : List (DataW H)} (hu : Tryd.prog.underlying t = some (.slice e)) (h : OkW t (.slice elems sp)) {d : DataW H} (hd : d ∈ elems) : OkW e d := by
  intro n hn
  apply h
  unfold DataW.weights
  rw [hu]
  exact List.mem_cons_of_mem _ (List.mem_append_left _ (weightsAll_mem hd n hn))

theorem ok_struct {t : TypeId} {fs : Array Field} {parts : List (DataW H)} (hu : Tryd.prog.underlying t = some (.struct fs)) (h : OkW t (.agg parts)) {j : Nat} {f : Field} {d : DataW H} (hf : fs[j]? = some f) (hd : parts[j]? = some d) : OkW f.type d := by
  intro n hn
  apply h
  unfold DataW.weights
  rw [hu]
  exact DataW.weights_mem_each (t := f.type) (by simp [hf]) hd n hn

theorem ok_str {t : TypeId} {s : ByteArray} (h : OkW t (DataW.lit (H := H) (.string s.data.toList))) : s.size ≤ 140737488355328 := by
  have := h s.data.toList.length (by simp [DataW.weights])
  unfold reachBytes at this
  have e : s.data.toList.length = s.size := by rw [Array.length_toList]; rfl
  omega

/-- A field's reading and its weight. -/
theorem field_ok {t : TypeId} {fs : Array Field} {n : Nat} {cs : List Value} {xs : List (DataW H × List MemPlace)} (hu : Tryd.prog.underlying t = some (.struct fs)) (hl : xs.length = fs.size)
    (h : ∀ (i : Nat) (f : Field), fs[i]? = some f → DataW.trod enc Tryd.prog w base spare held n f.type ((cs.drop f.offset).take (Tryd.prog.cellsOf f.type)) = xs[i]?) (hok : OkW t (.agg (xs.map (·.1))))
    (i : Nat) (f : Field) (hf : fs[i]? = some f) : ∃ x, DataW.trod enc Tryd.prog w base spare held n f.type ((cs.drop f.offset).take (Tryd.prog.cellsOf f.type)) = some x ∧ OkW f.type x.1 := by
  have hi : i < fs.size := (Array.getElem?_eq_some_iff.1 hf).1
  have hx : xs[i]? = some (xs[i]'(by omega)) := List.getElem?_eq_getElem (by omega)
  exact ⟨_, by rw [h i f hf, hx], ok_struct hu hok hf (by rw [List.getElem?_map, hx]; rfl)⟩

/-- A slice of whatever lies in n cells each, with what its elements read as. -/
theorem slice_list2 {α : Type} {t e : TypeId} {n fuel : Nat} {cs : List Value} {x : DataW H × List MemPlace} (Q : List Value → α → Prop)
    (ht : Tryd.prog.underlying t = some (.slice e)) (hce : Tryd.prog.cellsOf e = n) (hn : 0 < n) (hok : OkW t x.1)
    (hQ : ∀ f cs' x', DataW.trod enc Tryd.prog w base spare held f e cs' = some x' → OkW e x'.1 → ∃ y, Q cs' y)
    (h : DataW.trod enc Tryd.prog w base spare held fuel t cs = some x) :
    ∃ (l : List α) (a : Option Addr) (c : Nat), cs = [.slice a l.length c] ∧ l.length ≤ maxLen ∧
      ∀ i y, l[i]? = some y → ∃ b off cs', a = some ⟨b, off, none⟩ ∧ b < w.heap.size ∧ Q cs' y ∧ ∀ j, j < n → w.cell? ⟨b, off + i * n + j, none⟩ = cs'[j]? := by
  rcases DataW.trod_slice ht h with ⟨rfl, _⟩ | ⟨a, len, cap, elems, rest, k, rfl, rfl, rfl, hb, hl, hm, hlen, hel, _, _⟩
  · exact ⟨[], none, 0, rfl, Nat.zero_le _, fun i y hy => by simp at hy⟩
  · rw [hce] at hel
    have hall : ∀ i, i < len → ∃ cs' y, w.cells? base (a.add (i * n)) n = some cs' ∧ Q cs' y := by
      intro i hi
      have := hel i hi
      rw [List.getElem?_eq_getElem (by omega)] at this
      obtain ⟨cs', h1, h2⟩ := Option.bind_eq_some_iff.1 this
      obtain ⟨y, hy⟩ := hQ k cs' _ h2 (ok_slice ht hok (List.mem_map_of_mem (List.getElem_mem _)))
      exact ⟨cs', y, h1, hy⟩
    obtain ⟨l, hll, hlq⟩ := list_of (p := fun i y => ∃ cs', w.cells? base (a.add (i * n)) n = some cs' ∧ Q cs' y) len (fun i hi => by
      obtain ⟨cs', y, h1, h2⟩ := hall i hi
      exact ⟨y, cs', h1, h2⟩)
    refine ⟨l, some a, cap, by rw [hll], by omega, fun i y hy => ?_⟩
    have hi := (List.getElem?_eq_some_iff.1 hy).1
    have hsp : a.spot = none := by
      obtain ⟨cs0, y0, h1, _⟩ := hall 0 (by omega)
      exact spot_of hn h1
    obtain ⟨cs', h1, h2⟩ := hlq i y hy
    obtain ⟨h3, h4⟩ := cells_at hn h1 hsp
    exact ⟨a.block, a.off, cs', by cases a; simp_all, h3, h2, h4⟩

theorem type_open2 {fuel : Nat} {cs : List Value} {x : DataW H × List MemPlace} (h : DataW.trod enc Tryd.prog w base spare held fuel 38 cs = some x) (hok : OkW 38 x.1) :
    ∃ t : Sy.Ty, cs = [.int .i64 t.kind, .string t.gen] ∧ t.gen.size ≤ maxLen ∧ t.gen.size ≤ 140737488355328 := by
  obtain ⟨xs, n, rfl, rfl, hl, hxl, hf⟩ := DataW.trod_struct Tryd.underlying38 h
  rw [cells_type] at hl
  obtain ⟨a, b, rfl⟩ := two hl
  obtain ⟨x0, h0, _⟩ : ∃ x, DataW.trod enc Tryd.prog w base spare held n 3 (([a, b].drop 0).take (Tryd.prog.cellsOf 3)) = some x ∧ OkW 3 x.1 := field_ok Tryd.underlying38 hxl hf hok 0 _ rfl
  obtain ⟨x1, h1, k1⟩ : ∃ x, DataW.trod enc Tryd.prog w base spare held n 9 (([a, b].drop 1).take (Tryd.prog.cellsOf 9)) = some x ∧ OkW 9 x.1 := field_ok Tryd.underlying38 hxl hf hok 1 _ rfl
  simp only [cells_int, cells_str] at h0 h1
  obtain ⟨k, hk, _, _⟩ := DataW.trod_int Tryd.underlying3 h0
  obtain ⟨s, hs, rfl, hsz⟩ := DataW.trod_string Tryd.underlying9 h1
  simp at hk hs
  exact ⟨⟨k, s⟩, by rw [hk, hs], hsz, ok_str k1⟩

theorem param_open2 {fuel : Nat} {cs : List Value} {x : DataW H × List MemPlace} (h : DataW.trod enc Tryd.prog w base spare held fuel 49 cs = some x) (hok : OkW 49 x.1) :
    ∃ p : Sy.Pm, cs = [.string p.name, .int .i64 p.ty.kind, .string p.ty.gen] ∧ p.name.size ≤ maxLen ∧ p.ty.gen.size ≤ maxLen ∧ p.ty.gen.size ≤ 140737488355328 := by
  obtain ⟨xs, n, rfl, rfl, hl, hxl, hf⟩ := DataW.trod_struct Tryd.underlying49 h
  rw [cells_param] at hl
  obtain ⟨a, b, c, rfl⟩ := three hl
  obtain ⟨x0, h0, _⟩ : ∃ x, DataW.trod enc Tryd.prog w base spare held n 9 (([a, b, c].drop 0).take (Tryd.prog.cellsOf 9)) = some x ∧ OkW 9 x.1 := field_ok Tryd.underlying49 hxl hf hok 0 _ rfl
  obtain ⟨x1, h1, k1⟩ : ∃ x, DataW.trod enc Tryd.prog w base spare held n 38 (([a, b, c].drop 1).take (Tryd.prog.cellsOf 38)) = some x ∧ OkW 38 x.1 := field_ok Tryd.underlying49 hxl hf hok 1 _ rfl
  simp only [cells_type, cells_str] at h0 h1
  obtain ⟨s, hs, _, hsz⟩ := DataW.trod_string Tryd.underlying9 h0
  obtain ⟨t, ht, htz, htg⟩ := type_open2 h1 k1
  simp at hs ht
  obtain ⟨e1, e2⟩ := ht
  exact ⟨⟨s, t⟩, by rw [hs, e1, e2], hsz, htz, htg⟩

theorem def_open2 {fuel : Nat} {cs : List Value} {x : DataW H × List MemPlace} (h : DataW.trod enc Tryd.prog w base spare held fuel 42 cs = some x) (hok : OkW 42 x.1) :
    ∃ d : Sy.Df, (∃ (pa : Option Addr) (pc : Nat) (ba : Option Addr) (bc : Nat), cs = [.int .i64 d.kind, .string d.name, .int .i64 d.ty.kind, .string d.ty.gen, .int .i64 d.takes.kind, .string d.takes.gen, .int .i64 d.cap, .slice pa d.params.length pc, .slice ba d.body.length bc] ∧ DfIn w.heap.size w d pa ba) ∧
      d.ty.gen.size ≤ 140737488355328 ∧ d.takes.gen.size ≤ 140737488355328 ∧ ∀ p ∈ d.params, p.ty.gen.size ≤ 140737488355328 := by
  obtain ⟨xs, n, rfl, rfl, hl, hxl, hf⟩ := DataW.trod_struct Tryd.underlying42 h
  rw [cells_def] at hl
  obtain ⟨v0, v1, v2, v3, v4, v5, v6, v7, v8, rfl⟩ := nine hl
  obtain ⟨x0, h0, _⟩ : ∃ x, DataW.trod enc Tryd.prog w base spare held n 3 (([v0, v1, v2, v3, v4, v5, v6, v7, v8].drop 0).take (Tryd.prog.cellsOf 3)) = some x ∧ OkW 3 x.1 := field_ok Tryd.underlying42 hxl hf hok 0 _ rfl
  obtain ⟨x1, h1, _⟩ : ∃ x, DataW.trod enc Tryd.prog w base spare held n 9 (([v0, v1, v2, v3, v4, v5, v6, v7, v8].drop 1).take (Tryd.prog.cellsOf 9)) = some x ∧ OkW 9 x.1 := field_ok Tryd.underlying42 hxl hf hok 1 _ rfl
  obtain ⟨x2, h2, k2⟩ : ∃ x, DataW.trod enc Tryd.prog w base spare held n 38 (([v0, v1, v2, v3, v4, v5, v6, v7, v8].drop 2).take (Tryd.prog.cellsOf 38)) = some x ∧ OkW 38 x.1 := field_ok Tryd.underlying42 hxl hf hok 2 _ rfl
  obtain ⟨x3, h3, k3⟩ : ∃ x, DataW.trod enc Tryd.prog w base spare held n 38 (([v0, v1, v2, v3, v4, v5, v6, v7, v8].drop 4).take (Tryd.prog.cellsOf 38)) = some x ∧ OkW 38 x.1 := field_ok Tryd.underlying42 hxl hf hok 3 _ rfl
  obtain ⟨x4, h4, _⟩ : ∃ x, DataW.trod enc Tryd.prog w base spare held n 3 (([v0, v1, v2, v3, v4, v5, v6, v7, v8].drop 6).take (Tryd.prog.cellsOf 3)) = some x ∧ OkW 3 x.1 := field_ok Tryd.underlying42 hxl hf hok 4 _ rfl
  obtain ⟨x5, h5, k5⟩ : ∃ x, DataW.trod enc Tryd.prog w base spare held n 39 (([v0, v1, v2, v3, v4, v5, v6, v7, v8].drop 7).take (Tryd.prog.cellsOf 39)) = some x ∧ OkW 39 x.1 := field_ok Tryd.underlying42 hxl hf hok 5 _ rfl
  obtain ⟨x6, h6, _⟩ : ∃ x, DataW.trod enc Tryd.prog w base spare held n 40 (([v0, v1, v2, v3, v4, v5, v6, v7, v8].drop 8).take (Tryd.prog.cellsOf 40)) = some x ∧ OkW 40 x.1 := field_ok Tryd.underlying42 hxl hf hok 6 _ rfl
  simp only [cells_int, cells_str, cells_type, cells_stats, cells_params] at h0 h1 h2 h3 h4 h5 h6
  obtain ⟨k, hk, _, _⟩ := DataW.trod_int Tryd.underlying3 h0
  obtain ⟨s, hs, _, hsz⟩ := DataW.trod_string Tryd.underlying9 h1
  obtain ⟨t, ht, htz, htg⟩ := type_open2 h2 k2
  obtain ⟨u, hu, huz, hug⟩ := type_open2 h3 k3
  obtain ⟨cp, hcp, _, _⟩ := DataW.trod_int Tryd.underlying3 h4
  obtain ⟨lp, pa, pc, hpsl, hplm, hpall⟩ := slice_list2 (n := 3) (fun cs' (y : Sy.Pm) => cs' = [.string y.name, .int .i64 y.ty.kind, .string y.ty.gen] ∧ y.name.size ≤ maxLen ∧ y.ty.gen.size ≤ maxLen ∧ y.ty.gen.size ≤ 140737488355328) Tryd.underlying39 cells_param (by decide) k5 (fun f cs' x' hx' hk' => param_open2 hx' hk') h5
  obtain ⟨lb, ba, bc, hbsl, hblm, hball⟩ := slice_list (n := 8) (fun f cs' (y : Sy.St) => ∃ (xa : Option Addr) (xc : Nat) (ba : Option Addr) (bc : Nat) (ea : Option Addr) (ec : Nat), cs' = [.int .i64 y.kind, .string y.name, .int .i64 y.x.kind, .int .i64 y.x.n, .string y.x.name, .slice xa y.x.kids.length xc, .slice ba y.body.length bc, .slice ea y.els.length ec] ∧ StIn w.heap.size w f y xa ba ea) Tryd.underlying40 cells_stat (by decide) (fun f cs' x' _ hx' => stat_open f cs' x' hx') h6
  simp at hk hs ht hu hcp hpsl hbsl
  obtain ⟨e2, e3⟩ := ht
  obtain ⟨e4, e5⟩ := hu
  refine ⟨⟨k, s, t, u, cp, lp, lb⟩, ⟨pa, pc, ba, bc, by rw [hk, hs, e2, e3, e4, e5, hcp, hpsl, hbsl], hsz, htz, huz, ⟨hplm, ?_⟩, n, hblm, ?_⟩, htg, hug, ?_⟩
  · intro i y hy
    obtain ⟨bb, off, cs', hea, hb, ⟨rfl, h1, h2, _⟩, hc⟩ := hpall i y hy
    exact ⟨bb, off, hea, hb, hc 0 (by decide), hc 1 (by decide), hc 2 (by decide), h1, h2⟩
  · intro i y hy
    obtain ⟨bb, off, cs', f, hea, hb, hflt, _, ⟨xa', xc', ba', bc', ea', ec', rfl, hin⟩, hc⟩ := hball i y hy
    exact ⟨bb, off, xa', xc', ba', bc', ea', ec', hea, hb, hc 0 (by decide), hc 1 (by decide), hc 2 (by decide), hc 3 (by decide), hc 4 (by decide), hc 5 (by decide), hc 6 (by decide), hc 7 (by decide), hin.mono (by omega)⟩
  · intro y hy
    obtain ⟨i, hi⟩ := List.mem_iff_getElem?.1 hy
    obtain ⟨bb, off, cs', hea, hb, ⟨rfl, h1, h2, h3⟩, hc⟩ := hpall i y hi
    exact h3

/-- WHAT AN ARGUMENT []Def IS: definitions in memory. -/
theorem defs_open2 {fuel : Nat} {cs : List Value} {x : DataW H × List MemPlace} (h : DataW.trod enc Tryd.prog w base spare held fuel 22 cs = some x) (hok : OkW 22 x.1) :
    ∃ (l : List Sy.Df) (a : Option Addr) (c : Nat), cs = [.slice a l.length c] ∧ DfsIn w.heap.size w l a ∧ Gens l := by
  obtain ⟨l, a, c, hsl, hlm, hall⟩ := slice_list2 (n := 9) (fun cs' (d : Sy.Df) => (∃ (pa : Option Addr) (pc : Nat) (ba : Option Addr) (bc : Nat), cs' = [.int .i64 d.kind, .string d.name, .int .i64 d.ty.kind, .string d.ty.gen, .int .i64 d.takes.kind, .string d.takes.gen, .int .i64 d.cap, .slice pa d.params.length pc, .slice ba d.body.length bc] ∧ DfIn w.heap.size w d pa ba) ∧
      d.ty.gen.size ≤ 140737488355328 ∧ d.takes.gen.size ≤ 140737488355328 ∧ ∀ p ∈ d.params, p.ty.gen.size ≤ 140737488355328) Tryd.underlying22 cells_def (by decide) hok (fun f cs' x' hx' hk' => def_open2 hx' hk') h
  refine ⟨l, a, c, hsl, ⟨hlm, fun i d hd => ?_⟩, fun d hd => ?_⟩
  · obtain ⟨bb, off, cs', hea, hb, ⟨⟨pa, pc, ba, bc, rfl, hin⟩, _⟩, hc⟩ := hall i d hd
    exact ⟨bb, off, pa, pc, ba, bc, hea, hb, hc 0 (by decide), hc 1 (by decide), hc 2 (by decide), hc 3 (by decide), hc 4 (by decide), hc 5 (by decide), hc 6 (by decide), hc 7 (by decide), hc 8 (by decide), hin⟩
  · obtain ⟨i, hi⟩ := List.mem_iff_getElem?.1 hd
    obtain ⟨bb, off, cs', hea, hb, ⟨_, hg⟩, hc⟩ := hall i d hi
    exact hg

end
end Go.Proofs.YtbbklahhnepiaaaDoor
