/- Behind the append of kids' own closure. -/
import Derived.Test.YtlnikpcoejpknaaGreatDoorM17
import Derived.Deep.RegionHeld3
namespace Go.Proofs.YtlnikpcoejpknaaGreatDoor
open Go.RowKit

theorem z4_news (w : World) : ∀ j u, (z4)[j]? = some u → (w.alloc ZE).cell? ((⟨w.heap.size, 0, none⟩ : Addr).add j) = some u :=
  ex_news (x := ⟨0, 0, ⟨#[]⟩, []⟩) (a := none) (c := 0) (heap_alloc_new w ZE)

theorem z4_at {w : World} {K : Nat} (h : w.heap[K]? = some ZE) : ∀ j u, (z4)[j]? = some u → w.cell? ((⟨K, 0, none⟩ : Addr).add j) = some u := ex_news (x := ⟨0, 0, ⟨#[]⟩, []⟩) (a := none) (c := 0) h
theorem z4_one : ∀ u ∈ z4, u.oneCell' = true := cells4_one [(⟨0, 0, ⟨#[]⟩, []⟩, none, 0)]
/-- Behind the append. -/
structure Apd (E : Env) (op : Int) (w0 w : World) (N q : Nat) (its : List Itm) (v : Value) (n n1 : Nat) (x : Sy.Ex) (a1 : Option Addr) (g cap : Nat) (W w4 : World) : Prop where
  kat : KAt E N W its v n
  old : ∀ b, v.ownBlock = some b → b < w.heap.size
  box : N + 1 < w.heap.size
  ex : ExQ (fun b => w.heap.size ≤ b ∧ b < W.heap.size) W n1 x a1
  grown0 : w0.grownBy W (some E.R)
  rdy : Rdy E W q op
  own : w4.ownsRow (N + 2) 64 4 (.slice (some ⟨g, 0, none⟩) (its.length + 1) cap) (its.length + 1) (cells4 its ++ z4)
  grown : W.grownBy w4 v.ownBlock
  place : v.ownBlock = some g ∨ g = W.heap.size

theorem apd_mk {E : Env} {op : Int} {w0 w : World} {N q : Nat} {its : List Itm} {v : Value} {n n1 : Nat} {x : Sy.Ex} {a1 : Option Addr} {g cap : Nat} {W w4 : World} (k0 : KAt E N w its v n) (own : w4.ownsRow (N + 2) 64 4 (.slice (some ⟨g, 0, none⟩) (its.length + 1) cap) (its.length + 1) (cells4 its ++ z4)) (grown : W.grownBy w4 v.ownBlock) (place : v.ownBlock = some g ∨ g = W.heap.size)
    (kat : KAt E N W its v n) (ex : ExQ (fun b => w.heap.size ≤ b ∧ b < W.heap.size) W n1 x a1) (grown0 : w0.grownBy W (some E.R)) (rdy : Rdy E W q op) : Apd E op w0 w N q its v n n1 x a1 g cap W w4 :=
  ⟨kat, fun b hb => (k0.row.lt b hb).2, lt_of_block k0.ob, ex, grown0, rdy, own, grown, place⟩

theorem Apd.facts {E : Env} {op : Int} {w0 w : World} {N q : Nat} {its : List Itm} {v : Value} {n n1 : Nat} {x : Sy.Ex} {a1 : Option Addr} {g cap : Nat} {W w4 : World} (A : Apd E op w0 w N q its v n n1 x a1 g cap W w4) :
    (w4.cell? ⟨g, its.length * 4, none⟩ = some (.int .i64 0) ∧ w4.cell? ⟨g, its.length * 4 + 1, none⟩ = some (.int .i64 0) ∧ w4.cell? ⟨g, its.length * 4 + 2, none⟩ = some (.string ⟨#[]⟩) ∧ w4.cell? ⟨g, its.length * 4 + 3, none⟩ = some (.slice none 0 0)) ∧
    (w4.frozen? ⟨g, its.length * 4, none⟩ = false ∧ w4.frozen? ⟨g, its.length * 4 + 1, none⟩ = false ∧ w4.frozen? ⟨g, its.length * 4 + 2, none⟩ = false ∧ w4.frozen? ⟨g, its.length * 4 + 3, none⟩ = false) ∧
    w4.cell? ⟨N + 1, 0, none⟩ = some v ∧ w4.frozen? ⟨N + 1, 0, none⟩ = false ∧ w4.cell? ⟨N, 0, none⟩ = some (.pointer (some ⟨E.R, 0, none⟩)) ∧ N ≠ g ∧ N + 1 ≠ g := by
  have hl := cells4_len its
  have hgl := A.own.lt g rfl
  have hv : ∀ b, v.ownBlock = some b → N + 2 ≤ b := fun b hb => (A.kat.row.lt b hb).1
  have at' : ∀ j, j < 4 → w4.cell? ⟨g, its.length * 4 + j, none⟩ = z4[j]? := by
    intro j hj
    rw [A.own.cellAt (its.length * 4 + j) (by omega), List.getElem?_append_right (by omega), hl]
    congr 1
    omega
  have ob4 : w4.heap[N + 1]? = some (rowO v) := (A.grown.block (N + 1) (lt_of_block A.kat.ob) (fun e => by have := hv _ e.symm; omega)).trans A.kat.ob
  have rb4 : w4.heap[N]? = some (rbO E.R) := (A.grown.block N (lt_of_block A.kat.rb) (fun e => by have := hv _ e.symm; omega)).trans A.kat.rb
  exact ⟨⟨at' 0 (by omega), at' 1 (by omega), at' 2 (by omega), at' 3 (by omega)⟩, ⟨A.own.frozenAt _, A.own.frozenAt _, A.own.frozenAt _, A.own.frozenAt _⟩, by simp [World.cell?, ob4], by simp [World.frozen?, ob4], by simp [World.cell?, rb4], by omega, by omega⟩

theorem kat_ob {E : Env} {N : Nat} {w : World} {its : List Itm} {v : Value} {h : Nat} (k : KAt E N w its v h) : w.cell? ⟨N + 1, 0, none⟩ = some v := by simp [World.cell?, k.ob]
theorem kat_rb {E : Env} {N : Nat} {w : World} {its : List Itm} {v : Value} {h : Nat} (k : KAt E N w its v h) : w.cell? ⟨N, 0, none⟩ = some (.pointer (some ⟨E.R, 0, none⟩)) := by simp [World.cell?, k.rb]

/-- One kid more is read. -/
theorem Apd.done {E : Env} (G : Good E) {op : Int} {w0 w : World} {N q : Nat} {its : List Itm} {v : Value} {n n1 : Nat} {x : Sy.Ex} {a1 : Option Addr} {g cap c : Nat} {W w4 w5 : World} {out : List Sy.Ex} (A : Apd E op w0 w N q its v n n1 x a1 g cap W w4) (hN : w0.heap.size ≤ N) (hR : E.R < w0.heap.size) (hout : its.map (·.1) = out)
    (h5 : w5 = (put4 w4 g its.length (x, a1, c)).setCell ⟨N + 1, 0, none⟩ (.slice (some ⟨g, 0, none⟩) (its.length + 1) cap) ∨ w5 = put4 (w4.setCell ⟨N + 1, 0, none⟩ (.slice (some ⟨g, 0, none⟩) (its.length + 1) cap)) g its.length (x, a1, c)) :
    KidEnds E op w0 N out (.ok (q, x)) (.returned (.tuple #[])) w5 := by
  have hbox := A.box
  obtain ⟨k5, g5, r5, blk⟩ := KAt.more (M := w.heap.size) (it := (x, a1, c)) A.kat A.old A.ex (by omega) hN (by omega) A.grown0 A.own A.grown A.place h5
  have hvb := A.kat.row.lt
  have hB := G.below
  have hRl := A.rdy.lt
  refine ⟨g5, rfl, ⟨r5.trans A.rdy.rd, A.rdy.tk.on ?_, ?_⟩, its ++ [(x, a1, c)], _, _, by simp [hout], k5⟩
  · intro b o hb
    exact World.cell?_of_block (blk b (by omega) (fun e => by have := (hvb b e).1; omega) (by omega))
  · refine (blk E.M (lt_of_block A.rdy.mp) (fun e => ?_) (fun e => ?_)).trans A.rdy.mp
    · have hm := A.rdy.mp
      rcases A.kat.row.2 with ⟨h1, _⟩ | ⟨g', cap', cur, h1, _, hh, _⟩
      · rw [h1] at e; simp [Value.ownBlock] at e
      · rw [h1] at e
        simp only [Value.ownBlock, Option.some.injEq] at e
        rw [← e, hh] at hm
        simp at hm
    · have hm := A.rdy.mp
      rw [e, A.kat.ob] at hm
      simp at hm

end Go.Proofs.YtlnikpcoejpknaaGreatDoor

