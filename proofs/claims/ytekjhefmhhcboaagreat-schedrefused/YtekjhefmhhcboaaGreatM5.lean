/- The walks of push, pop and set. -/
import Derived.Test.YtekjhefmhhcboaaGreatM4
set_option maxHeartbeats 400000
namespace Go.Proofs.YtekjhefmhhcboaaGreat.Sb
open Go.RowKit
theorem SK.drew {w : World} {S g : Nat} {ws : List Int} {r mn most : Nat} (h : SK w S g ws r mn most) : SK w.drew S g ws r mn most := h
theorem CK.drew {w : World} {g : Nat} {ws : List Int} {r : Nat} (h : CK w g ws r) : CK w.drew g ws r := h
theorem CK.at {w : World} {g : Nat} {ws : List Int} {r : Nat} (h : CK w g ws r) (j : Nat) (hj : j < r) : ∃ v, w.cell? ⟨g, j, none⟩ = some v ∧ w.frozen? ⟨g, j, none⟩ = false := by
 obtain ⟨cs, hc, hl, _⟩ := h
 obtain ⟨v, hv⟩ : ∃ v, cs[j]? = some v := ⟨_, List.getElem?_eq_getElem (by omega)⟩
 exact ⟨v, by simp [World.cell?, hc, hv], by simp [World.frozen?, hc]⟩
theorem set_row {w : World} {g : Nat} {cs : List Value} {t : TypeId} (h : w.heap[g]? = some (.cells cs.toArray t (0, 0))) (j : Nat) (v : Value) : (w.setCell ⟨g, j, none⟩ v).heap[g]? = some (.cells (cs.set j v).toArray t (0, 0)) := by
 simp only [World.setCell, Array.getElem?_modify, if_true, h, Option.map_some, List.setIfInBounds_toArray]
 rfl
theorem CK.put {w : World} {g : Nat} {ws : List Int} {r : Nat} (h : CK w g ws r) (j : Nat) (v : Int) : CK (w.setCell ⟨g, j, none⟩ (.int .i64 v)) g (ws.set j v) r := by
 obtain ⟨cs, hc, hl, ht⟩ := h
 refine ⟨_, set_row hc _ _, by simpa using hl, ?_⟩
 rw [List.length_set, List.take_set, ht]
 simp [ints, List.map_set]
theorem CK.pop {w : World} {g : Nat} {ws : List Int} {r : Nat} (h : CK w g ws r) (c : Nat) (hc : c ≤ ws.length) : CK w g (ws.take c) r := by
 obtain ⟨cs, hh, hl, ht⟩ := h
 refine ⟨cs, hh, hl, ?_⟩
 have e : (ws.take c).length = c := by simp; omega
 have e2 : ints (ws.take c) = (ints ws).take c := by simp [ints, List.map_take]
 rw [e, e2, ← ht, List.take_take, Nat.min_eq_left hc]
theorem hide {p : Prop} (h : p) : Hid p := h
theorem mv_on {w a b c : World} {S g : Nat} (h : Mv w a S g) (k : Mv b c S g) (hos : b.os = a.os := by rfl) (ht : b.tape = a.tape := by rfl) (ho : b.output = a.output := by rfl) (hh : b.heap = a.heap := by rfl) : Mv w c S g :=
 ⟨k.os.trans (hos.trans h.os), k.tape.trans (ht.trans h.tape), k.output.trans (ho.trans h.output), by have := h.size; have := k.size; rw [hh] at this; omega, fun i hi h1 h2 => by
  rw [k.block i (by rw [hh]; have := h.size; omega) h1 h2, hh]; exact h.block i hi h1 h2⟩
theorem Mv.drewN {w w' : World} {S g : Nat} (h : Mv w w' S g) (n : Nat) : Mv w (w'.drewN n) S g := ⟨h.os, h.tape, h.output, h.size, h.block⟩
theorem SK.popped {w : World} {S g : Nat} {ws : List Int} {r mn most k : Nat} (h : SK w S g ws r mn most) (hk : k ≤ ws.length) : SK (w.setCell ⟨S, 1, none⟩ (.int .i64 ((ws.length : Int) - (k : Int)))) S g (ws.take (ws.length - k)) r mn most := by
 have e : (ws.take (ws.length - k)).length = ws.length - k := by simp
 refine ⟨?_, ?_, ?_⟩
 ·rw [e]; exact sk_set1 h.1 (by omega)
 ·exact CK.far (Below.heap_setCell _ _ _ _ (fun e => h.ne e.symm)) (h.2.1.pop _ (by omega))
 ·rw [e]; have := h.2.2; unfold Sk.Fits at *; omega
theorem pop_keep (S g : Nat) (ws : List Int) (r mn most k : Nat) (w : World) (h : Hid (SK w S g ws r mn most)) (hk : k ≤ ws.length) (hs : ¬ (ws.length - k ≤ r / 4 ∧ mn < r)) :
  Calls Tryz.prog 96 #[.pointer (some ⟨S, 0, none⟩), .int .i64 k] w fun e w' => e = .returned (.int .i64 0) ∧ SK w' S g (ws.take (ws.length - k)) r mn most ∧ Mv w w' S g := by
 obtain ⟨c0, c1, c2, c3⟩ := h.out.cells
 obtain ⟨f0, f1⟩ := h.out.free
 have HSK := hide (h.out.popped hk)
 have hfit := h.out.2.2
 unfold Sk.Fits at hfit
 obtain ⟨h3, h4, h5, h6, h7⟩ := hfit
 have n0 : ¬ (k : Int) < 0 := by omega
 have n1 : ¬ (ws.length : Int) < (k : Int) := by omega
 by_cases hc : ws.length - k ≤ r / 4
 ·have d1 : decide ((ws.length : Int) - (k : Int) ≤ (r : Int) / 4) = true := by simp; omega
  have d2 : decide ((mn : Int) < (r : Int)) = false := by simp; omega
  have hmr : ¬ mn < r := by omega
  clear hs hc
  go_enter Tryz.func96, Tryz.ntmps96
  go_wp2
  go_quiet ((go_at_call 92; exact Calls.quiet_of_same (room_any S g (ws.take (ws.length - k)) r mn most _ HSK.out)))
  go_wp2
  go_ret
  exact ⟨rfl, HSK.out, ((Mv.refl w S g).set (.inl rfl) _).drewN _⟩
 ·have d1 : decide ((ws.length : Int) - (k : Int) ≤ (r : Int) / 4) = false := by simp; omega
  clear hs hc
  go_enter Tryz.func96, Tryz.ntmps96
  go_wp2
  go_quiet ((go_at_call 92; exact Calls.quiet_of_same (room_any S g (ws.take (ws.length - k)) r mn most _ HSK.out)))
  go_wp2
  go_ret
  exact ⟨rfl, HSK.out, ((Mv.refl w S g).set (.inl rfl) _).drewN _⟩
theorem pop_move (S g : Nat) (ws : List Int) (r q mn most k : Nat) (w : World) (h : Hid (SK w S g ws r mn most)) (hk : k ≤ ws.length) (hc : ws.length - k ≤ r / 4) (hm : mn < r) (hq : Hid (q = max (r / 2) mn)) :
  Calls Tryz.prog 96 #[.pointer (some ⟨S, 0, none⟩), .int .i64 k] w fun e w' => e = .returned (.int .i64 0) ∧ SK w' S w.heap.size (ws.take (ws.length - k)) q mn most ∧ Mv w w' S g := by
 obtain ⟨c0, c1, c2, c3⟩ := h.out.cells
 obtain ⟨f0, f1⟩ := h.out.free
 have HSK := hide (h.out.popped hk)
 have hfit := h.out.2.2
 unfold Sk.Fits at hfit
 obtain ⟨h3, h4, h5, h6, h7⟩ := hfit
 have n0 : ¬ (k : Int) < 0 := by omega
 have n1 : ¬ (ws.length : Int) < (k : Int) := by omega
 have d1 : decide ((ws.length : Int) - (k : Int) ≤ (r : Int) / 4) = true := by simp; omega
 have d2 : decide ((mn : Int) < (r : Int)) = true := by simp; omega
 have hq1 : (ws.take (ws.length - k)).length ≤ q := by have := hq.out; simp; omega
 have hq2 : q ≤ 400 := by have := hq.out; omega
 have HQV : Hid ((if IntKind.i64.wrap ((r : Int) / 2) < (mn : Int) then (mn : Int) else IntKind.i64.wrap ((r : Int) / 2)) = (q : Int)) := by
  unfold Hid
  rw [IntWalk.i64_in _ ⟨by omega, by omega⟩, hq.out]
  split <;> omega
 have HM0 : Hid (Mv w (w.setCell ⟨S, 1, none⟩ (.int .i64 ((ws.length : Int) - (k : Int)))) S g) := (Mv.refl w S g).set (.inl rfl) _
 have HF : Hid (Sk.Fits mn most (ws.take (ws.length - k)).length q) := by have := hq.out; unfold Hid Sk.Fits; simp; omega
 go_enter Tryz.func96, Tryz.ntmps96
 go_wp2
 go_quiet ((go_at_call 92; exact Calls.quiet_of_same (room_any S g (ws.take (ws.length - k)) r mn most _ HSK.out)))
 go_wp2
 have k2 : (w.setCell ⟨S, 1, none⟩ (.int .i64 ((ws.length : Int) - (k : Int)))).cell? ⟨S, 2, none⟩ = some (.int .i64 mn) := HSK.out.cells.2.2.1
 go_region_held3 (fun w' => w'.cell? ⟨S, 2, none⟩ = some (.int .i64 mn)) (go_keep) (first | (go_at_call 92; refine (room_any S g (ws.take (ws.length - k)) r mn most _ (by exact HSK.out)).mono ?_; rintro e w' ⟨rfl, rfl⟩) | (go_at_call 93; rw [HQV.out]; refine (move_any S g (ws.take (ws.length - k)) r q mn most _ (by exact HSK.out) hq1 hq2).mono ?_; rintro e w1 ⟨rfl, hS1, hC1, hM1⟩; have HS1 : Hid (SK w1 S w.heap.size (ws.take (ws.length - k)) q mn most ∧ Mv w w1 S g) := ⟨⟨by simpa using hS1, by simpa using hC1, HF.out⟩, mv_on HM0.out hM1⟩; clear hS1 hC1 hM1; have k2 : w1.cell? ⟨S, 2, none⟩ = some (.int .i64 mn) := HS1.out.1.cells.2.2.1))
 go_wp2
 go_ret
 exact ⟨rfl, HS1.out⟩
def Did (w w' : World) (S g mn most E : Nat) (ws : List Int) (r : Nat) : Prop := (E = 0 → ∃ g', SK w' S g' ws r mn most ∧ (g' = g ∨ w.heap.size ≤ g')) ∧ Mv w w' S g
theorem SK.alloc {w : World} {S g : Nat} {ws : List Int} {r mn most : Nat} (h : SK w S g ws r mn most) (o : Obj) : SK (w.alloc o) S g ws r mn most := by
 obtain ⟨cs, hc, hr⟩ := h.2.1
 exact ⟨(Below.heap_alloc _ _ _ (lt_of_block h.1)).trans h.1, ⟨cs, (Below.heap_alloc _ _ _ (lt_of_block hc)).trans hc, hr⟩, h.2.2⟩
end Go.Proofs.YtekjhefmhhcboaaGreat.Sb
