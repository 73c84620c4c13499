/- The walk of Run: WHAT RUNNING A TASK LEAVES. -/
import Derived.Test.YtekjhefmhhcboaaGreatM16
import Derived.Test.YtekjhefmhhcboaaGreatChecked
import Derived.WalkKit
import Derived.WalkSpells
import Derived.WalkLawsBesides
import Derived.Deep.QuietTactic
import Derived.BigQuiet
import Derived.Deep.RegionHeld3
import Derived.Laws.AppendOwnNone
namespace Go.Proofs.YtekjhefmhhcboaaGreat.Vw
open Go.RowKit Vf Vm
structure Keeps {β : Type} (X : Bxs β) (c : Cx) (I : Nat → Tk → β → Prop) : Prop where
 at' : ∀ n t x, I n t x → t.over = 0 → ∃ f rs u i, AtOk c t f rs u i
 step : ∀ n t x, n ≤ 1000000 → (∀ (j : Nat) h, t.ths[j]? = some h → h.ws.length ≤ 400) → I n t x → (stat X c.m t x).1 = 1 → ∃ f rs u i, StepOk X c t x f rs u i ∧ I (n + 1) (one X c.m t x).1 (one X c.m t x).2
section
variable {β : Type} (E : Env β) (X : Bxs β) (c : Cx) (vB : Value) (N : Nat) (caps : Array Value) (hN : Hid (Hears E c N caps)) (hX : Hid (BoxesAt E X c vB)) (I : Nat → Tk → β → Prop) (hI : Hid (Keeps X c I)) (o T : Nat)
include hN hX hI
end
end Go.Proofs.YtekjhefmhhcboaaGreat.Vw
namespace Go.Proofs.YtekjhefmhhcboaaGreat.Mb
open Go.RowKit
theorem Tryz.info2 : (Tryz.prog.info? 2).map (fun i => (i.zero, i.size, i.bytes)) = some (some (.int .i64 0), 1, 8) := by kernel_rfl
theorem hide {p : Prop} (h : p) : Hid p := h
abbrev bxO (g n f c : Nat) : Obj := .cells #[.slice (some ⟨g, 0, none⟩) n n, .int .i64 f, .int .i64 c] 91 (0, 0)
abbrev ints (l : List Int) : List Value := l.map (.int .i64)
def RK (w : World) (g : Nat) (ws : List Int) (f n : Nat) : Prop := ∃ cs : List Value, w.heap[g]? = some (.cells cs.toArray 2 (0, 0)) ∧ cs.length = n ∧ ∀ i x, ws[i]? = some x → cs[(f + i) % n]? = some (.int .i64 x)
structure BX (w : World) (S g : Nat) (ws : List Int) (f n : Nat) : Prop where
 blk : w.heap[S]? = some (bxO g n f ws.length)
 row : RK w g ws f n
 few : ws.length ≤ n
 at' : f < n
 most : n ≤ 20
theorem BX.cells {w : World} {S g : Nat} {ws : List Int} {f n : Nat} (h : BX w S g ws f n) :
  w.cell? ⟨S, 0, none⟩ = some (.slice (some ⟨g, 0, none⟩) n n) ∧ w.cell? ⟨S, 1, none⟩ = some (.int .i64 f) ∧ w.cell? ⟨S, 2, none⟩ = some (.int .i64 ws.length) := by
 have h := h.blk
 simp [World.cell?, h]
theorem BX.free {w : World} {S g : Nat} {ws : List Int} {f n : Nat} (h : BX w S g ws f n) : w.frozen? ⟨S, 1, none⟩ = false ∧ w.frozen? ⟨S, 2, none⟩ = false := by
 have h := h.blk
 simp [World.frozen?, h]
theorem BX.ne {w : World} {S g : Nat} {ws : List Int} {f n : Nat} (h : BX w S g ws f n) : S ≠ g := by
 rintro rfl
 obtain ⟨cs, hc, _⟩ := h.row
 have h1 := h.blk
 rw [hc] at h1
 simp at h1
theorem BX.drewN {w : World} {S g : Nat} {ws : List Int} {f n : Nat} (h : BX w S g ws f n) (d : Nat) : BX (w.drewN d) S g ws f n := ⟨h.blk, h.row, h.few, h.at', h.most⟩
theorem BX.drew {w : World} {S g : Nat} {ws : List Int} {f n : Nat} (h : BX w S g ws f n) : BX w.drew S g ws f n := ⟨h.blk, h.row, h.few, h.at', h.most⟩
theorem RK.far {w w' : World} {g : Nat} {ws : List Int} {f n : Nat} (e : w'.heap[g]? = w.heap[g]?) (h : RK w g ws f n) : RK w' g ws f n := by
 obtain ⟨cs, hc, hr⟩ := h
 exact ⟨cs, e.trans hc, hr⟩
theorem BX.alloc {w : World} {S g : Nat} {ws : List Int} {f n : Nat} (h : BX w S g ws f n) (o : Obj) : BX (w.alloc o) S g ws f n := by
 obtain ⟨cs, hc, hr⟩ := h.row
 exact ⟨(Below.heap_alloc _ _ _ (lt_of_block h.blk)).trans h.blk, ⟨cs, (Below.heap_alloc _ _ _ (lt_of_block hc)).trans hc, hr⟩, h.few, h.at', h.most⟩
theorem RK.at {w : World} {g : Nat} {ws : List Int} {f n : Nat} (h : RK w g ws f n) (j : Nat) (hj : j < n) : ∃ v, w.cell? ⟨g, j, none⟩ = some v ∧ w.frozen? ⟨g, j, none⟩ = false := by
 obtain ⟨cs, hc, hl, _⟩ := h
 obtain ⟨v, hv⟩ : ∃ v, cs[j]? = some v := ⟨_, List.getElem?_eq_getElem (by omega)⟩
 exact ⟨v, by simp [World.cell?, hc, hv], by simp [World.frozen?, hc]⟩
theorem RK.word {w : World} {g : Nat} {ws : List Int} {f n : Nat} (h : RK w g ws f n) {i : Nat} {x : Int} (hx : ws[i]? = some x) : w.cell? ⟨g, (f + i) % n, none⟩ = some (.int .i64 x) := by
 obtain ⟨cs, hc, _, hl⟩ := h
 simp [World.cell?, hc, hl i x hx]
theorem set_row {w : World} {g : Nat} {cs : List Value} {t : TypeId} (h : w.heap[g]? = some (.cells cs.toArray t (0, 0))) (j : Nat) (v : Value) : (w.setCell ⟨g, j, none⟩ v).heap[g]? = some (.cells (cs.set j v).toArray t (0, 0)) := by
 simp only [World.setCell, Array.getElem?_modify, if_true, h, Option.map_some, List.setIfInBounds_toArray]
 rfl
theorem mod_ne {f i c n : Nat} (hf : f < n) (hi : i < c) (hc : c < n) : (f + i) % n ≠ (f + c) % n := by
 by_cases h1 : f + i < n
 ·rw [Nat.mod_eq_of_lt h1]
  by_cases h2 : f + c < n
  ·rw [Nat.mod_eq_of_lt h2]; omega
  ·rw [Nat.mod_eq_sub_mod (by omega), Nat.mod_eq_of_lt (by omega)]; omega
 ·rw [Nat.mod_eq_sub_mod (by omega), Nat.mod_eq_of_lt (by omega)]
  rw [Nat.mod_eq_sub_mod (by omega), Nat.mod_eq_of_lt (by omega)]; omega
theorem RK.put {w : World} {g : Nat} {ws : List Int} {f n : Nat} (h : RK w g ws f n) (hf : f < n) (hc : ws.length < n) (v : Int) : RK (w.setCell ⟨g, (f + ws.length) % n, none⟩ (.int .i64 v)) g (ws ++ [v]) f n := by
 obtain ⟨cs, hc1, hl, ht⟩ := h
 refine ⟨_, set_row hc1 _ _, by simpa using hl, fun i x hx => ?_⟩
 by_cases hi : i < ws.length
 ·rw [List.getElem?_append_left hi] at hx
  rw [List.getElem?_set_ne (fun e => mod_ne hf hi hc e.symm)]
  exact ht i x hx
 ·have hi2 : i = ws.length := by
   have := (List.getElem?_eq_some_iff.1 hx).1
   simp at this
   omega
  subst hi2
  simp at hx
  subst hx
  rw [List.getElem?_set_self (by rw [hl]; exact Nat.mod_lt _ (by omega))]
theorem RK.take {w : World} {g : Nat} {ws : List Int} {f n : Nat} (h : RK w g ws f n) : RK w g ws.tail ((f + 1) % n) n := by
 obtain ⟨cs, hc, hl, ht⟩ := h
 refine ⟨cs, hc, hl, fun i x hx => ?_⟩
 have := ht (i + 1) x (by simpa using hx)
 rw [Nat.mod_add_mod, show f + 1 + i = f + (i + 1) by omega]
 exact this
structure Mv (w w' : World) (S g : Nat) : Prop where
 os : w'.os = w.os
 tape : w'.tape = w.tape
 output : w'.output = w.output
 size : w.heap.size ≤ w'.heap.size
 block : ∀ k, k < w.heap.size → k ≠ S → k ≠ g → w'.heap[k]? = w.heap[k]?
theorem Mv.refl (w : World) (S g : Nat) : Mv w w S g := ⟨rfl, rfl, rfl, Nat.le_refl _, fun _ _ _ _ => rfl⟩
theorem Mv.drew {w w' : World} {S g : Nat} (h : Mv w w' S g) : Mv w w'.drew S g := ⟨h.os, h.tape, h.output, h.size, h.block⟩
theorem Mv.drewN {w w' : World} {S g : Nat} (h : Mv w w' S g) (n : Nat) : Mv w (w'.drewN n) S g := ⟨h.os, h.tape, h.output, h.size, h.block⟩
theorem Mv.set {w w' : World} {S g : Nat} (h : Mv w w' S g) {a : Addr} (ha : a.block = S ∨ a.block = g ∨ w.heap.size ≤ a.block) (u : Value) : Mv w (w'.setCell a u) S g :=
 ⟨h.os, h.tape, h.output, by simpa [World.setCell] using h.size, fun k hk h1 h2 => (Below.heap_setCell _ _ _ _ (by omega)).trans (h.block k hk h1 h2)⟩
theorem Mv.alloc {w w' : World} {S g : Nat} (h : Mv w w' S g) (o : Obj) : Mv w (w'.alloc o) S g :=
 ⟨h.os, h.tape, h.output, by have := h.size; simp; omega, fun k hk h1 h2 => (Below.heap_alloc _ _ _ (by have := h.size; omega)).trans (h.block k hk h1 h2)⟩
end Go.Proofs.YtekjhefmhhcboaaGreat.Mb
