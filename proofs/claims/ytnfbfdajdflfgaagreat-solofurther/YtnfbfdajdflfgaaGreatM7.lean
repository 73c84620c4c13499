/- The walks of push, pop and set. -/
import Derived.Test.YtnfbfdajdflfgaaGreatM6
namespace Go.Proofs.YtnfbfdajdflfgaaGreat.Sb
open Go.RowKit

theorem SK.drew {w : World} {S g : Nat} {ws : List Int} {r mn most : Nat} (h : SK w S g ws r mn most) : SK w.drew S g ws r mn most := h
theorem CK.drew {w : World} {g : Nat} {ws : List Int} {r : Nat} (h : CK w g ws r) : CK w.drew g ws r := h

/-- A cell of the row. -/
theorem CK.at {w : World} {g : Nat} {ws : List Int} {r : Nat} (h : CK w g ws r) (j : Nat) (hj : j < r) : ∃ v, w.cell? ⟨g, j, none⟩ = some v ∧ w.frozen? ⟨g, j, none⟩ = false := by
  obtain ⟨cs, hc, hl, _⟩ := h
  obtain ⟨v, hv⟩ : ∃ v, cs[j]? = some v := ⟨_, List.getElem?_eq_getElem (by omega)⟩
  exact ⟨v, by simp [World.cell?, hc, hv], by simp [World.frozen?, hc]⟩

theorem set_row {w : World} {g : Nat} {cs : List Value} {t : TypeId} (h : w.heap[g]? = some (.cells cs.toArray t (0, 0))) (j : Nat) (v : Value) : (w.setCell ⟨g, j, none⟩ v).heap[g]? = some (.cells (cs.set j v).toArray t (0, 0)) := by
  simp only [World.setCell, Array.getElem?_modify, if_true, h, Option.map_some, List.setIfInBounds_toArray]
  rfl

theorem CK.push {w : World} {g : Nat} {ws : List Int} {r : Nat} (h : CK w g ws r) (hj : ws.length < r) (v : Int) : CK (w.setCell ⟨g, ws.length, none⟩ (.int .i64 v)) g (ws ++ [v]) r := by
  obtain ⟨cs, hc, hl, ht⟩ := h
  refine ⟨_, set_row hc _ _, by simpa using hl, ?_⟩
  rw [List.length_append, List.length_singleton, List.take_succ_eq_append_getElem (by simp; omega), List.take_set_of_le (Nat.le_refl _), ht]
  simp
theorem CK.put {w : World} {g : Nat} {ws : List Int} {r : Nat} (h : CK w g ws r) (j : Nat) (v : Int) : CK (w.setCell ⟨g, j, none⟩ (.int .i64 v)) g (ws.set j v) r := by
  obtain ⟨cs, hc, hl, ht⟩ := h
  refine ⟨_, set_row hc _ _, by simpa using hl, ?_⟩
  rw [List.length_set, List.take_set, ht]
  simp [ints, List.map_set]
theorem CK.pop {w : World} {g : Nat} {ws : List Int} {r : Nat} (h : CK w g ws r) (c : Nat) (hc : c ≤ ws.length) : CK w g (ws.take c) r := by
  obtain ⟨cs, hh, hl, ht⟩ := h
  refine ⟨cs, hh, hl, ?_⟩
  have e : (ws.take c).length = c := by simp; omega
  have e2 : ints (ws.take c) = (ints ws).take c := by simp [ints, List.map_take]
  rw [e, e2, ← ht, List.take_take, Nat.min_eq_left hc]

theorem sk_cells {w : World} {S g c r mn most : Nat} (h : w.heap[S]? = some (skO g c r mn most)) :
    w.cell? ⟨S, 0, none⟩ = some (.slice (some ⟨g, 0, none⟩) r r) ∧ w.cell? ⟨S, 1, none⟩ = some (.int .i64 c) ∧ w.cell? ⟨S, 3, none⟩ = some (.int .i64 most) ∧ w.frozen? ⟨S, 0, none⟩ = false ∧ w.frozen? ⟨S, 1, none⟩ = false := by
  simp [World.cell?, World.frozen?, h]

set_option maxHeartbeats 400000 in
theorem push_full (S g : Nat) (ws : List Int) (r mn most : Nat) (v : Int) (w : World) (h : Hid (SK w S g ws r mn most)) (hf : Hid (ws.length = most)) :
    Calls Tryz.prog 40 #[.pointer (some ⟨S, 0, none⟩), .int .i64 v] w fun e w' => e = .returned (.int .i64 4) ∧ Mv w w' S g := by
  obtain ⟨c0, c1, c2, c3⟩ := h.out.cells
  have e1 : ((ws.length : Int) == (most : Int)) = true := by have := hf.out; simp; omega
  go_enter Tryz.func40, Tryz.ntmps40
  go_wp2
  go_region_held3 (fun w' => w'.cell? ⟨S, 1, none⟩ = some (.int .i64 ws.length) ∧ w'.cell? ⟨S, 3, none⟩ = some (.int .i64 most)) (go_keep) (fail)
  go_wp2
  go_ret
  exact ⟨rfl, (Mv.refl _ _ _).drew⟩

set_option maxHeartbeats 400000 in
theorem push_room (S g : Nat) (ws : List Int) (r mn most : Nat) (v : Int) (w : World) (h : Hid (SK w S g ws r mn most)) (hf : ws.length < r) :
    Calls Tryz.prog 40 #[.pointer (some ⟨S, 0, none⟩), .int .i64 v] w fun e w' => e = .returned (.int .i64 0) ∧ w'.heap[S]? = some (skO g (ws.length + 1) r mn most) ∧ CK w' g (ws ++ [v]) r ∧ Mv w w' S g := by
  obtain ⟨c0, c1, c2, c3⟩ := h.out.cells
  obtain ⟨f0, f1⟩ := h.out.free
  have hne : ¬ g = S := fun e => h.out.ne e.symm
  have hfit := h.out.2.2
  unfold Sk.Fits at hfit
  obtain ⟨h3, h4, h5, h6, h7⟩ := hfit
  obtain ⟨u, cu, fu⟩ := h.out.2.1.at ws.length hf
  have e1 : ((ws.length : Int) == (most : Int)) = false := by simp; omega
  have e2 : ((ws.length : Int) == (r : Int)) = false := by simp; omega
  have n0 : (0 : Int) ≤ (ws.length : Int) := by omega
  have n1 : (ws.length : Int) < (r : Int) := by omega
  go_enter Tryz.func40, Tryz.ntmps40
  go_wp2
  go_region_held3 (fun w' => w'.cell? ⟨S, 1, none⟩ = some (.int .i64 ws.length) ∧ w'.cell? ⟨S, 3, none⟩ = some (.int .i64 most)) (go_keep) (fail)
  go_wp2
  go_region_held3 (fun w' => w'.cell? ⟨S, 1, none⟩ = some (.int .i64 ws.length)) (go_keep) ((go_at_call 65; refine (room_any S g ws r mn most _ h.out.drew.drew).mono ?_; rintro e w' ⟨rfl, rfl⟩))
  go_wp2
  go_region_held3 (fun w' => w'.cell? ⟨S, 0, none⟩ = some (.slice (some ⟨g, 0, none⟩) r r) ∧ w'.cell? ⟨S, 1, none⟩ = some (.int .i64 ws.length)) (go_keep) (fail)
  go_wp2
  go_ret
  refine ⟨rfl, ?_, ?_, (((Mv.refl w S g).set (.inr (.inl rfl)) _).set (.inl rfl) _).drew.drew.drew⟩
  · exact sk_set1 ((Below.heap_setCell _ _ _ _ (fun e => hne e.symm)).trans h.out.1) (by go_num)
  · exact CK.far (Below.heap_setCell _ _ _ _ hne) (h.out.2.1.push hf v)

set_option maxHeartbeats 400000 in
theorem push_grow (S g : Nat) (ws : List Int) (r q mn most : Nat) (v : Int) (w : World) (h : Hid (SK w S g ws r mn most)) (hr : Hid (ws.length = r)) (hf : ws.length < most) (hq : Hid (q = min (2 * r) most)) :
    Calls Tryz.prog 40 #[.pointer (some ⟨S, 0, none⟩), .int .i64 v] w fun e w' => e = .returned (.int .i64 0) ∧ w'.heap[S]? = some (skO w.heap.size (ws.length + 1) q mn most) ∧ CK w' w.heap.size (ws ++ [v]) q ∧ Mv w w' S g := by
  obtain ⟨c0, c1, c2, c3⟩ := h.out.cells
  have hS := lt_of_block h.out.1
  have hfit := h.out.2.2
  unfold Sk.Fits at hfit
  obtain ⟨h3, h4, h5, h6, h7⟩ := hfit
  have e1 : ((ws.length : Int) == (most : Int)) = false := by simp; omega
  have e2 : ((ws.length : Int) == (r : Int)) = true := by have := hr.out; simp; omega
  have hq1 : ws.length < q := by have := hr.out; have := hq.out; omega
  have hq2 : q ≤ 400 := by have := hq.out; omega
  have HQV : Hid ((if (most : Int) < IntKind.i64.wrap (2 * (r : Int)) then (most : Int) else IntKind.i64.wrap (2 * (r : Int))) = (q : Int)) := by
    unfold Hid
    rw [IntWalk.i64_in _ ⟨by omega, by omega⟩, hq.out]
    split <;> omega
  go_enter Tryz.func40, Tryz.ntmps40
  go_wp2
  go_region_held3 (fun w' => w'.cell? ⟨S, 1, none⟩ = some (.int .i64 ws.length) ∧ w'.cell? ⟨S, 3, none⟩ = some (.int .i64 most)) (go_keep) (fail)
  go_wp2
  go_region_held3 (fun w' => w'.cell? ⟨S, 1, none⟩ = some (.int .i64 ws.length)) (go_keep) ((go_at_call 65; refine (room_any S g ws r mn most _ h.out.drew.drew).mono ?_; rintro e w' ⟨rfl, rfl⟩))
  go_wp2
  go_region_held3 (fun w' => w'.cell? ⟨S, 3, none⟩ = some (.int .i64 most)) (go_keep) (first | (go_at_call 65; refine (room_any S g ws r mn most _ h.out.drew.drew.drew).mono ?_; rintro e w' ⟨rfl, rfl⟩) | (go_at_call 66; rw [HQV.out]; refine (move_any S g ws r q mn most _ h.out.drew.drew.drew (by omega) hq2).mono ?_; rintro e w1 ⟨rfl, hS1, hC1, hM1⟩; have HS1 : Hid (w1.heap[S]? = some (skO w.heap.size ws.length q mn most)) := hS1; have HC1 : Hid (CK w1 w.heap.size ws q) := hC1; have HM1 : Hid (Mv w w1 S g) := ⟨hM1.os, hM1.tape, hM1.output, hM1.size, hM1.block⟩; obtain ⟨d0, d1, d3, g0, g1⟩ := sk_cells hS1; clear hS1 hC1 hM1))
  have hne : ¬ w.heap.size = S := by omega
  obtain ⟨u, cu, fu⟩ := HC1.out.at ws.length hq1
  have n0 : (0 : Int) ≤ (ws.length : Int) := by omega
  have n1 : (ws.length : Int) < (q : Int) := by omega
  clear c0 c1 c2 c3
  go_wp2
  go_region_held3 (fun w' => w'.cell? ⟨S, 0, none⟩ = some (.slice (some ⟨w.heap.size, 0, none⟩) q q) ∧ w'.cell? ⟨S, 1, none⟩ = some (.int .i64 ws.length)) (go_keep) (fail)
  go_wp2
  go_ret
  refine ⟨rfl, ?_, ?_, ((HM1.out.set (.inr (.inr (Nat.le_refl _))) _).set (.inl rfl) _).drew⟩
  · exact sk_set1 ((Below.heap_setCell _ _ _ _ (fun e => hne e.symm)).trans HS1.out) (by go_num)
  · exact CK.far (Below.heap_setCell _ _ _ _ hne) (HC1.out.push hq1 v)

end Go.Proofs.YtnfbfdajdflfgaaGreat.Sb

/- The walks of pop and set. -/
namespace Go.Proofs.YtnfbfdajdflfgaaGreat.Sb
open Go.RowKit

theorem hide {p : Prop} (h : p) : Hid p := h

theorem mv_on {w a b c : World} {S g : Nat} (h : Mv w a S g) (k : Mv b c S g) (hos : b.os = a.os := by rfl) (ht : b.tape = a.tape := by rfl) (ho : b.output = a.output := by rfl) (hh : b.heap = a.heap := by rfl) : Mv w c S g :=
  ⟨k.os.trans (hos.trans h.os), k.tape.trans (ht.trans h.tape), k.output.trans (ho.trans h.output), by have := h.size; have := k.size; rw [hh] at this; omega, fun i hi h1 h2 => by
    rw [k.block i (by rw [hh]; have := h.size; omega) h1 h2, hh]; exact h.block i hi h1 h2⟩
theorem Mv.drewN {w w' : World} {S g : Nat} (h : Mv w w' S g) (n : Nat) : Mv w (w'.drewN n) S g := ⟨h.os, h.tape, h.output, h.size, h.block⟩

set_option maxHeartbeats 400000 in
theorem pop_bad (S g : Nat) (ws : List Int) (r mn most : Nat) (n : Int) (w : World) (h : Hid (SK w S g ws r mn most)) (hn : n < 0 ∨ (ws.length : Int) < n) :
    Calls Tryz.prog 69 #[.pointer (some ⟨S, 0, none⟩), .int .i64 n] w fun e w' => e = .returned (.int .i64 3) ∧ Mv w w' S g := by
  obtain ⟨c0, c1, c2, c3⟩ := h.out.cells
  by_cases hz : n < 0
  · go_enter Tryz.func69, Tryz.ntmps69
    go_wp2
    go_ret
    exact ⟨rfl, Mv.refl _ _ _⟩
  · have hz2 : (ws.length : Int) < n := by omega
    clear hn
    go_enter Tryz.func69, Tryz.ntmps69
    go_wp2
    go_ret
    exact ⟨rfl, Mv.refl _ _ _⟩

/-- The stack with its count set. -/
theorem SK.popped {w : World} {S g : Nat} {ws : List Int} {r mn most k : Nat} (h : SK w S g ws r mn most) (hk : k ≤ ws.length) : SK (w.setCell ⟨S, 1, none⟩ (.int .i64 ((ws.length : Int) - (k : Int)))) S g (ws.take (ws.length - k)) r mn most := by
  have e : (ws.take (ws.length - k)).length = ws.length - k := by simp
  refine ⟨?_, ?_, ?_⟩
  · rw [e]; exact sk_set1 h.1 (by omega)
  · exact CK.far (Below.heap_setCell _ _ _ _ (fun e => h.ne e.symm)) (h.2.1.pop _ (by omega))
  · rw [e]; have := h.2.2; unfold Sk.Fits at *; omega

set_option maxHeartbeats 400000 in
theorem pop_keep (S g : Nat) (ws : List Int) (r mn most k : Nat) (w : World) (h : Hid (SK w S g ws r mn most)) (hk : k ≤ ws.length) (hs : ¬ (ws.length - k ≤ r / 4 ∧ mn < r)) :
    Calls Tryz.prog 69 #[.pointer (some ⟨S, 0, none⟩), .int .i64 k] w fun e w' => e = .returned (.int .i64 0) ∧ SK w' S g (ws.take (ws.length - k)) r mn most ∧ Mv w w' S g := by
  obtain ⟨c0, c1, c2, c3⟩ := h.out.cells
  obtain ⟨f0, f1⟩ := h.out.free
  have HSK := hide (h.out.popped hk)
  have hfit := h.out.2.2
  unfold Sk.Fits at hfit
  obtain ⟨h3, h4, h5, h6, h7⟩ := hfit
  have n0 : ¬ (k : Int) < 0 := by omega
  have n1 : ¬ (ws.length : Int) < (k : Int) := by omega
  by_cases hc : ws.length - k ≤ r / 4
  · have d1 : decide ((ws.length : Int) - (k : Int) ≤ (r : Int) / 4) = true := by simp; omega
    have d2 : decide ((mn : Int) < (r : Int)) = false := by simp; omega
    have hmr : ¬ mn < r := by omega
    clear hs hc
    go_enter Tryz.func69, Tryz.ntmps69
    go_wp2
    go_quiet ((go_at_call 65; exact Calls.quiet_of_same (room_any S g (ws.take (ws.length - k)) r mn most _ HSK.out)))
    go_wp2
    go_ret
    exact ⟨rfl, HSK.out, ((Mv.refl w S g).set (.inl rfl) _).drewN _⟩
  · have d1 : decide ((ws.length : Int) - (k : Int) ≤ (r : Int) / 4) = false := by simp; omega
    clear hs hc
    go_enter Tryz.func69, Tryz.ntmps69
    go_wp2
    go_quiet ((go_at_call 65; exact Calls.quiet_of_same (room_any S g (ws.take (ws.length - k)) r mn most _ HSK.out)))
    go_wp2
    go_ret
    exact ⟨rfl, HSK.out, ((Mv.refl w S g).set (.inl rfl) _).drewN _⟩

set_option maxHeartbeats 400000 in
theorem pop_move (S g : Nat) (ws : List Int) (r q mn most k : Nat) (w : World) (h : Hid (SK w S g ws r mn most)) (hk : k ≤ ws.length) (hc : ws.length - k ≤ r / 4) (hm : mn < r) (hq : Hid (q = max (r / 2) mn)) :
    Calls Tryz.prog 69 #[.pointer (some ⟨S, 0, none⟩), .int .i64 k] w fun e w' => e = .returned (.int .i64 0) ∧ SK w' S w.heap.size (ws.take (ws.length - k)) q mn most ∧ Mv w w' S g := by
  obtain ⟨c0, c1, c2, c3⟩ := h.out.cells
  obtain ⟨f0, f1⟩ := h.out.free
  have HSK := hide (h.out.popped hk)
  have hfit := h.out.2.2
  unfold Sk.Fits at hfit
  obtain ⟨h3, h4, h5, h6, h7⟩ := hfit
  have n0 : ¬ (k : Int) < 0 := by omega
  have n1 : ¬ (ws.length : Int) < (k : Int) := by omega
  have d1 : decide ((ws.length : Int) - (k : Int) ≤ (r : Int) / 4) = true := by simp; omega
  have d2 : decide ((mn : Int) < (r : Int)) = true := by simp; omega
  have hq1 : (ws.take (ws.length - k)).length ≤ q := by have := hq.out; simp; omega
  have hq2 : q ≤ 400 := by have := hq.out; omega
  have HQV : Hid ((if IntKind.i64.wrap ((r : Int) / 2) < (mn : Int) then (mn : Int) else IntKind.i64.wrap ((r : Int) / 2)) = (q : Int)) := by
    unfold Hid
    rw [IntWalk.i64_in _ ⟨by omega, by omega⟩, hq.out]
    split <;> omega
  have HM0 : Hid (Mv w (w.setCell ⟨S, 1, none⟩ (.int .i64 ((ws.length : Int) - (k : Int)))) S g) := (Mv.refl w S g).set (.inl rfl) _
  have HF : Hid (Sk.Fits mn most (ws.take (ws.length - k)).length q) := by have := hq.out; unfold Hid Sk.Fits; simp; omega
  go_enter Tryz.func69, Tryz.ntmps69
  go_wp2
  go_quiet ((go_at_call 65; exact Calls.quiet_of_same (room_any S g (ws.take (ws.length - k)) r mn most _ HSK.out)))
  go_wp2
  have k2 : (w.setCell ⟨S, 1, none⟩ (.int .i64 ((ws.length : Int) - (k : Int)))).cell? ⟨S, 2, none⟩ = some (.int .i64 mn) := HSK.out.cells.2.2.1
  go_region_held3 (fun w' => w'.cell? ⟨S, 2, none⟩ = some (.int .i64 mn)) (go_keep) (first | (go_at_call 65; refine (room_any S g (ws.take (ws.length - k)) r mn most _ (by exact HSK.out)).mono ?_; rintro e w' ⟨rfl, rfl⟩) | (go_at_call 66; rw [HQV.out]; refine (move_any S g (ws.take (ws.length - k)) r q mn most _ (by exact HSK.out) hq1 hq2).mono ?_; rintro e w1 ⟨rfl, hS1, hC1, hM1⟩; have HS1 : Hid (SK w1 S w.heap.size (ws.take (ws.length - k)) q mn most ∧ Mv w w1 S g) := ⟨⟨by simpa using hS1, by simpa using hC1, HF.out⟩, mv_on HM0.out hM1⟩; clear hS1 hC1 hM1; have k2 : w1.cell? ⟨S, 2, none⟩ = some (.int .i64 mn) := HS1.out.1.cells.2.2.1))
  go_wp2
  go_ret
  exact ⟨rfl, HS1.out⟩

end Go.Proofs.YtnfbfdajdflfgaaGreat.Sb

