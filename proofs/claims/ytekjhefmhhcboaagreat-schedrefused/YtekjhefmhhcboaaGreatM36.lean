/- The walk of Same. -/
import Derived.Test.YtekjhefmhhcboaaGreatM35
set_option maxRecDepth 100000
set_option maxHeartbeats 2000000
namespace Go.Proofs.YtekjhefmhhcboaaGreat.Vw
open Go.RowKit Vf Vm
theorem same_any (v1 v2 : Value) (l : List Int) (w : World) (h1 : Hid (RI w v1 l)) (h2 : Hid (RI w v2 l)) (hn : l.length ≤ 9223372036854775806) :
  Calls Tryz.prog 22 #[v1, v2] w fun e w' => e = .returned (.bool true) ∧ ∃ d, w' = w.drewN d := by
 obtain ⟨a1, c1, rfl, _, r1⟩ := h1.out
 obtain ⟨a2, c2, rfl, _, r2⟩ := h2.out
 have HR1 := Sb.hide r1
 have HR2 := Sb.hide r2
 clear r1 r2 h1 h2
 have eq0 : ((l.length : Int) != (l.length : Int)) = false := by simp
 go_enter Tryz.func22, Tryz.ntmps22
 go_wp2
 go_loopw [13] (fun i wr => ∃ k d : Nat, k ≤ l.length ∧ i = .int .i64 k ∧ wr = w.drewN d) (fun i _ => l.length - (intOf i).toNat)
 case atStart => exact ⟨0, 0, Nat.zero_le _, rfl, rfl⟩
 case round =>
  obtain ⟨k, d, hk, rfl, rfl⟩ := hrel
  by_cases hlt : k < l.length
  ·obtain ⟨x, hx⟩ : ∃ x, l[k]? = some x := ⟨_, List.getElem?_eq_getElem hlt⟩
   obtain ⟨b1, o1, rfl, x1⟩ := HR1.out k x hx
   obtain ⟨b2, o2, rfl, x2⟩ := HR2.out k x hx
   have eqx : (x != x) = false := by simp
   have b0 : (0 : Int) ≤ (k : Int) := by omega
   have b1 : (k : Int) < (l.length : Int) := by omega
   clear hx
   go_wp2
   go_quiet (fail)
   go_wp2
   go_roundw
   case rel => exact ⟨k + 1, _, by omega, by go_num, rfl⟩
   case measure => simp [intOf]; omega
  ·go_wp2
   go_ret
   exact ⟨rfl, d, rfl⟩
theorem sameAll_any (v1 v2 : Value) (ls : List (List Int)) (w : World) (h1 : Hid (RS w v1 ls)) (h2 : Hid (RS w v2 ls)) (hn : ls.length ≤ 9223372036854775806) (hm : Hid (∀ l ∈ ls, l.length ≤ 9223372036854775806)) :
  Calls Tryz.prog 20 #[v1, v2] w fun e w' => e = .returned (.bool true) ∧ Below w.heap.size w w' := by
 obtain ⟨a1, c1, rfl, r1⟩ := h1.out
 obtain ⟨a2, c2, rfl, r2⟩ := h2.out
 have HR1 := Sb.hide r1
 have HR2 := Sb.hide r2
 clear r1 r2 h1 h2
 have eq0 : ((ls.length : Int) != (ls.length : Int)) = false := by simp
 go_enter Tryz.func20, Tryz.ntmps20
 go_wp2
 go_loopw [13] (fun i wr => ∃ k : Nat, k ≤ ls.length ∧ i = .int .i64 k ∧ Below w.heap.size w wr) (fun i _ => ls.length - (intOf i).toNat)
 case atStart => exact ⟨0, Nat.zero_le _, rfl, .refl _ _⟩
 case round =>
  obtain ⟨k, hk, rfl, hb⟩ := hrel
  have HB := Sb.hide hb
  clear hb
  by_cases hlt : k < ls.length
  ·obtain ⟨l, hl⟩ : ∃ x, ls[k]? = some x := ⟨_, List.getElem?_eq_getElem hlt⟩
   obtain ⟨b1, o1, u1, rfl, x1, q1⟩ := HR1.out k l hl
   obtain ⟨b2, o2, u2, rfl, x2, q2⟩ := HR2.out k l hl
   have HQ : Hid (∀ W, Below w.heap.size w W → RI W u1 l ∧ RI W u2 l) := fun W hW => ⟨q1.below hW, q2.below hW⟩
   have hz1 := World.block_lt_of_cell? w _ x1
   have hz2 := World.block_lt_of_cell? w _ x2
   have HX : Hid (∀ W, Below w.heap.size w W → W.cell? ⟨b1, o1 + k, none⟩ = some u1 ∧ W.cell? ⟨b2, o2 + k, none⟩ = some u2) := fun W hW => ⟨(cell_eq (hW.block b1 hz1) _).trans x1, (cell_eq (hW.block b2 hz2) _).trans x2⟩
   obtain ⟨y1, y2⟩ := HX.out _ HB.out
   have hll := hm.out l (List.mem_of_getElem? hl)
   have i0 : (0 : Int) ≤ (k : Int) := by omega
   have i1 : (k : Int) < (ls.length : Int) := by omega
   clear hl q1 q2 x1 x2
   go_wp2
   go_region_held3 (fun w' => w'.cell? ⟨b1, o1 + k, none⟩ = some u1 ∧ w'.cell? ⟨b2, o2 + k, none⟩ = some u2) (go_keep) ((go_at_call 22; refine (same_any u1 u2 l _ (Sb.hide (HQ.out _ HB.out.drew).1) (Sb.hide (HQ.out _ HB.out.drew).2) hll).mono ?_; rintro e w' ⟨rfl, d2, rfl⟩; have HB2 : Hid (Below w.heap.size w ((wr.drew).drewN d2)) := (by exact below_drewN HB.out.drew d2); have y1 := (HX.out _ HB2.out).1; have y2 := (HX.out _ HB2.out).2))
   go_wp2
   go_roundw
   case rel => exact ⟨k + 1, by omega, by go_num, below_drewN HB.out _⟩
   case measure => simp [intOf]; omega
  ·go_wp2
   go_ret
   exact ⟨rfl, HB.out⟩
theorem sameEnds_any (m : Md) (ts : List Tk) (x : List Bq) (v1 v2 vB1 vB2 : Value) (w : World) (h1 : Hid (WRd w m ts x v1 vB1)) (h2 : Hid (WRd w m ts x v2 vB2)) (hn : ts.length ≤ 1000) (hm : Hid (∀ t ∈ ts, t.out.length ≤ 1000000)) :
  Calls Tryz.prog 19 #[v1, v2] w fun e w' => e = .returned (.bool true) ∧ Below w.heap.size w w' := by
 obtain ⟨a1, c1, rfl, r1⟩ := h1.out.ends
 obtain ⟨a2, c2, rfl, r2⟩ := h2.out.ends
 have HR1 := Sb.hide r1
 have HR2 := Sb.hide r2
 clear r1 r2 h1 h2
 obtain ⟨n, hnn⟩ : ∃ n, n = ts.length := ⟨_, rfl⟩
 have HN := Sb.hide hnn
 rw [← hnn] at hn ⊢
 clear hnn
 have eq0 : ((n : Int) != (n : Int)) = false := by simp
 go_enter Tryz.func19, Tryz.ntmps19
 go_wp2
 go_loopw [13] (fun i wr => ∃ k : Nat, k ≤ n ∧ i = .int .i64 k ∧ Below w.heap.size w wr) (fun i _ => n - (intOf i).toNat)
 case atStart => exact ⟨0, Nat.zero_le _, rfl, .refl _ _⟩
 case round =>
  obtain ⟨k, hk, rfl, hb⟩ := hrel
  have HB := Sb.hide hb
  clear hb
  by_cases hlt : k < n
  ·obtain ⟨t, ht⟩ : ∃ t, ts[k]? = some t := ⟨_, List.getElem?_eq_getElem (by have := HN.out; omega)⟩
   obtain ⟨b1, o1, u1, rfl, x0, x1, x2, x3, q1⟩ := HR1.out k t ht
   obtain ⟨b2, o2, u2, rfl, y0, y1, y2, y3, q2⟩ := HR2.out k t ht
   obtain ⟨s, hs⟩ : ∃ s, s = (stat mbX m t x).1 := ⟨_, rfl⟩
   obtain ⟨q, hq⟩ : ∃ s, s = (stat mbX m t x).2 := ⟨_, rfl⟩
   obtain ⟨tr, htr⟩ : ∃ s, s = t.trap := ⟨_, rfl⟩
   rw [← hs] at x0 y0
   rw [← hq] at x1 y1
   rw [← htr] at x2 y2
   have f1 : ((s : Int) != (s : Int)) = false := by simp
   have f2 : ((q : Int) != (q : Int)) = false := by simp
   have f3 : ((tr : Int) != (tr : Int)) = false := by simp
   have HQ : Hid (∀ W, Below w.heap.size w W → RI W u1 t.out ∧ RI W u2 t.out) := fun W hW => ⟨q1.below hW, q2.below hW⟩
   have hz1 := World.block_lt_of_cell? w _ x0
   have hz2 := World.block_lt_of_cell? w _ y0
   have HX : Hid (∀ W, Below w.heap.size w W → (W.cell? ⟨b1, o1 + k * 4, none⟩ = some (.int .i64 s) ∧ W.cell? ⟨b1, o1 + k * 4 + 1, none⟩ = some (.int .i64 q) ∧ W.cell? ⟨b1, o1 + k * 4 + 2, none⟩ = some (.int .i64 tr) ∧ W.cell? ⟨b1, o1 + k * 4 + 3, none⟩ = some u1) ∧ W.cell? ⟨b2, o2 + k * 4, none⟩ = some (.int .i64 s) ∧ W.cell? ⟨b2, o2 + k * 4 + 1, none⟩ = some (.int .i64 q) ∧ W.cell? ⟨b2, o2 + k * 4 + 2, none⟩ = some (.int .i64 tr) ∧ W.cell? ⟨b2, o2 + k * 4 + 3, none⟩ = some u2) := fun W hW => by
    have k1 := cell_eq (hW.block b1 hz1)
    have k2 := cell_eq (hW.block b2 hz2)
    exact ⟨⟨(k1 _).trans x0, (k1 _).trans x1, (k1 _).trans x2, (k1 _).trans x3⟩, (k2 _).trans y0, (k2 _).trans y1, (k2 _).trans y2, (k2 _).trans y3⟩
   obtain ⟨⟨z0, z1, z2, z3⟩, w0, w1, w2, w3⟩ := HX.out _ HB.out
   have hll := hm.out t (List.mem_of_getElem? ht)
   have i0 : (0 : Int) ≤ (k : Int) := by omega
   have i1 : (k : Int) < (n : Int) := by omega
   obtain ⟨l, hl⟩ : ∃ l, l = t.out := ⟨_, rfl⟩
   rw [← hl] at HQ hll
   clear ht q1 q2 x0 x1 x2 x3 y0 y1 y2 y3 hs hq htr hl
   go_wp2
   go_region_held3 (fun w' => (w'.cell? ⟨b1, o1 + k * 4, none⟩ = some (.int .i64 s) ∧ w'.cell? ⟨b1, o1 + k * 4 + 1, none⟩ = some (.int .i64 q) ∧ w'.cell? ⟨b1, o1 + k * 4 + 2, none⟩ = some (.int .i64 tr) ∧ w'.cell? ⟨b1, o1 + k * 4 + 3, none⟩ = some u1) ∧ w'.cell? ⟨b2, o2 + k * 4, none⟩ = some (.int .i64 s) ∧ w'.cell? ⟨b2, o2 + k * 4 + 1, none⟩ = some (.int .i64 q) ∧ w'.cell? ⟨b2, o2 + k * 4 + 2, none⟩ = some (.int .i64 tr) ∧ w'.cell? ⟨b2, o2 + k * 4 + 3, none⟩ = some u2) (go_keep) ((go_at_call 22; refine (same_any u1 u2 l _ (Sb.hide (HQ.out _ HB.out.drew).1) (Sb.hide (HQ.out _ HB.out.drew).2) (by omega)).mono ?_; rintro e w' ⟨rfl, d2, rfl⟩; have HB2 : Hid (Below w.heap.size w ((wr.drew).drewN d2)) := (by exact below_drewN HB.out.drew d2); obtain ⟨⟨z0, z1, z2, z3⟩, w0, w1, w2, w3⟩ := HX.out _ HB2.out))
   go_wp2
   go_roundw
   case rel => exact ⟨k + 1, by omega, by go_num, below_drewN HB.out _⟩
   case measure => simp [intOf]; omega
  ·have n1 : ¬ (k : Int) < (n : Int) := by omega
   go_wp2
   go_ret
   exact ⟨rfl, HB.out⟩
abbrev woA (vE vB : Value) (st : Int) : Value := .agg #[vE, vB, .int .i64 st]
theorem sameW_any (m : Md) (ts : List Tk) (x : List Bq) (st : Nat) (v1 v2 vB1 vB2 : Value) (w : World) (h1 : Hid (WRd w m ts x v1 vB1)) (h2 : Hid (WRd w m ts x v2 vB2)) (hn : ts.length ≤ 1000) (hx : x.length ≤ 1000) (hm : Hid (∀ t ∈ ts, t.out.length ≤ 1000000)) (hl : Hid (∀ q ∈ x, q.ws.length ≤ 1000000)) :
  Calls Tryz.prog 11 #[woA v1 vB1 st, woA v2 vB2 st] w fun e w' => e = .returned (.bool true) ∧ Below w.heap.size w w' := by
 obtain ⟨ea1, ec1, e1, _⟩ := h1.out.ends
 obtain ⟨ea2, ec2, e2, _⟩ := h2.out.ends
 subst e1 e2
 obtain ⟨ba1, bc1, e1, _⟩ := h1.out.boxes
 obtain ⟨ba2, bc2, e2, _⟩ := h2.out.boxes
 subst e1 e2
 simp only [List.length_map] at h1 h2 ⊢
 have f4 : ((st : Int) == (st : Int)) = true := by simp
 have HB0 : Hid (Below w.heap.size w ((w.alloc (woO (.slice ea1 ts.length ec1) (.slice ba1 x.length bc1) st)).alloc (woO (.slice ea2 ts.length ec2) (.slice ba2 x.length bc2) st))) := ((Below.refl _ w).alloc (Nat.le_refl _) _).alloc (by simp) _
 have HA0 : Hid (((w.alloc (woO (.slice ea1 ts.length ec1) (.slice ba1 x.length bc1) st)).alloc (woO (.slice ea2 ts.length ec2) (.slice ba2 x.length bc2) st)).heap[w.heap.size]? = some (woO (.slice ea1 ts.length ec1) (.slice ba1 x.length bc1) st)) := (Below.heap_alloc _ _ _ (by simp)).trans (heap_alloc_new w _)
 have HC0 : Hid (((w.alloc (woO (.slice ea1 ts.length ec1) (.slice ba1 x.length bc1) st)).alloc (woO (.slice ea2 ts.length ec2) (.slice ba2 x.length bc2) st)).heap[w.heap.size + 1]? = some (woO (.slice ea2 ts.length ec2) (.slice ba2 x.length bc2) st)) := by
  have e : (w.alloc (woO (.slice ea1 ts.length ec1) (.slice ba1 x.length bc1) st)).heap.size = w.heap.size + 1 := by simp
  unfold Hid
  rw [← e]
  exact heap_alloc_new _ _
 obtain ⟨nx, hnx⟩ : ∃ n, n = x.length := ⟨_, rfl⟩
 have HNX := Sb.hide hnx
 rw [← hnx] at hx HB0 HA0 HC0 h1 h2 ⊢
 clear hnx
 have ra := (wo_cells HA0.out).1
 have rc := (wo_cells HC0.out).1
 go_enter Tryz.func11, Tryz.ntmps11
 go_wp2_with fail
 generalize (w.alloc (woO (.slice ea1 ts.length ec1) (.slice ba1 nx bc1) st)).alloc (woO (.slice ea2 ts.length ec2) (.slice ba2 nx bc2) st) = W0 at *
 refine (sameEnds_any m ts x _ _ _ _ _ (Sb.hide (h1.out.below HB0.out)) (Sb.hide (h2.out.below HB0.out)) hn hm).mono ?_
 rintro e w1 ⟨rfl, hb1⟩
 have HB1 := Sb.hide (HB0.out.trans (hb1.mono HB0.out.size))
 have ra := (wo_cells ((hb1.block _ (lt_of_block HA0.out)).trans HA0.out)).1
 have rc := (wo_cells ((hb1.block _ (lt_of_block HC0.out)).trans HC0.out)).1
 clear hb1
 go_wp2_with fail
 refine (sameAll_any _ _ (x.map (·.ws)) _ (Sb.hide (h1.out.boxes.below HB1.out)) (Sb.hide (h2.out.boxes.below HB1.out)) (by have := HNX.out; simp; omega) (Sb.hide (fun l hl' => by
  obtain ⟨q, hq, rfl⟩ := List.mem_map.1 hl'
  have := hl.out q hq
  omega))).mono ?_
 rintro e w2 ⟨rfl, hb2⟩
 have HB2 := Sb.hide (HB1.out.trans (hb2.mono HB1.out.size))
 clear hb2
 go_wp2
 go_ret
 exact ⟨rfl, HB2.out⟩
end Go.Proofs.YtekjhefmhhcboaaGreat.Vw
