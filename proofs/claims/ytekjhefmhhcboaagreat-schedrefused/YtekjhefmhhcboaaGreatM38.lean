/- Picks in memory, out of what an argument reads as. -/
import Derived.Test.YtekjhefmhhcboaaGreatM37
import Derived.Test.YtekjhefmhhcboaaGreatM31
namespace Go.Proofs.YtekjhefmhhcboaaGreat.Vw
open Go.RowKit Vf Vm
section
variable {H : Type} {enc : TypeId × Value → H} {w : World} {base : Nat} {spare : Nat → Bool} {held : Bool}
theorem cells_pk : Tryz.prog.cellsOf 41 = 2 := by kernel_rfl
theorem pick_open {fuel : Nat} {cs : List Value} {x : DataW H × List MemPlace} (h : DataW.trod enc Tryz.prog w base spare held fuel 41 cs = some x) :
  ∃ o : Pk, (I64 o.task ∧ I64 o.q) ∧ cs = [.int .i64 o.task, .int .i64 o.q] := by
 obtain ⟨xs, n, rfl, _, hl, hxl, hf⟩ := DataW.trod_struct Tryz.underlying41 h
 rw [cells_pk] at hl
 obtain ⟨a, b, rfl⟩ := two hl
 obtain ⟨x0, h0⟩ : ∃ x, DataW.trod enc Tryz.prog w base spare held n 3 (([a, b].drop 0).take (Tryz.prog.cellsOf 3)) = some x := field_some hxl hf 0 _ rfl
 obtain ⟨x1, h1⟩ : ∃ x, DataW.trod enc Tryz.prog w base spare held n 3 (([a, b].drop 1).take (Tryz.prog.cellsOf 3)) = some x := field_some hxl hf 1 _ rfl
 simp only [cells_int] at h0 h1
 obtain ⟨p, p1, p2⟩ := int_open h0
 obtain ⟨q, q1, q2⟩ := int_open h1
 simp at p2 q2
 exact ⟨⟨p, q⟩, ⟨p1, q1⟩, by rw [p2, q2]⟩
theorem picks_open {fuel : Nat} {cs : List Value} {x : DataW H × List MemPlace} (h : DataW.trod enc Tryz.prog w base spare held fuel 26 cs = some x) :
  ∃ (ps : List Pk) (a : Option Addr) (c : Nat), cs = [.slice a ps.length c] ∧ ps.length ≤ maxLen ∧ (∀ p ∈ ps, I64 p.task ∧ I64 p.q) ∧ PkIn w.heap.size w ps a := by
 obtain ⟨l, a, c, hcs, hm, _, hall⟩ := slice_list (n := 2) (fun _ cs' (y : Pk) => (I64 y.task ∧ I64 y.q) ∧ cs' = [.int .i64 y.task, .int .i64 y.q]) Tryz.underlying26 cells_pk (by decide) (fun f cs' x' _ hx' => pick_open hx') h
 refine ⟨l, a, c, hcs, hm, fun p hp => ?_, fun i y hy => ?_⟩
 ·obtain ⟨i, hi⟩ := List.getElem?_of_mem hp
  obtain ⟨b, off, cs', f, he, hb, _, _, ⟨h1, rfl⟩, hcell⟩ := hall i p hi
  exact h1
 ·obtain ⟨b, off, cs', f, he, hb, _, _, ⟨_, rfl⟩, hcell⟩ := hall i y hy
  exact ⟨b, off, he, hb, hcell 0 (by decide), hcell 1 (by decide)⟩
end
end Go.Proofs.YtekjhefmhhcboaaGreat.Vw
