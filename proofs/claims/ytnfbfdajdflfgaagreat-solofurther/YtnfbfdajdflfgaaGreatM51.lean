/- The walks of SameAll, SameReport. -/
import Derived.Test.YtnfbfdajdflfgaaGreatM50
namespace Go.Proofs.YtnfbfdajdflfgaaGreat.Vw
open Go.RowKit Vf Vm

set_option maxRecDepth 100000 in
set_option maxHeartbeats 1000000 in
theorem sameAll_any (v1 v2 : Value) (ls : List (List Int)) (w : World) (h1 : Hid (RS w v1 ls)) (h2 : Hid (RS w v2 ls)) (hn : ls.length ≤ 9223372036854775806) (hm : Hid (∀ l ∈ ls, l.length ≤ 9223372036854775806)) :
    Calls Tryz.prog 16 #[v1, v2] w fun e w' => e = .returned (.bool true) ∧ Below w.heap.size w w' := by
  obtain ⟨a1, c1, rfl, r1⟩ := h1.out
  obtain ⟨a2, c2, rfl, r2⟩ := h2.out
  have HR1 := Sb.hide r1
  have HR2 := Sb.hide r2
  clear r1 r2 h1 h2
  have eq0 : ((ls.length : Int) != (ls.length : Int)) = false := by simp
  go_enter Tryz.func16, Tryz.ntmps16
  go_wp2
  go_loopw [13] (fun i wr => ∃ k : Nat, k ≤ ls.length ∧ i = .int .i64 k ∧ Below w.heap.size w wr) (fun i _ => ls.length - (intOf i).toNat)
  case atStart => exact ⟨0, Nat.zero_le _, rfl, .refl _ _⟩
  case round =>
    obtain ⟨k, hk, rfl, hb⟩ := hrel
    have HB := Sb.hide hb
    clear hb
    by_cases hlt : k < ls.length
    · obtain ⟨l, hl⟩ : ∃ x, ls[k]? = some x := ⟨_, List.getElem?_eq_getElem hlt⟩
      obtain ⟨b1, o1, u1, rfl, x1, q1⟩ := HR1.out k l hl
      obtain ⟨b2, o2, u2, rfl, x2, q2⟩ := HR2.out k l hl
      have HQ : Hid (∀ W, Below w.heap.size w W → RI W u1 l ∧ RI W u2 l) := fun W hW => ⟨q1.below hW, q2.below hW⟩
      have hz1 := World.block_lt_of_cell? w _ x1
      have hz2 := World.block_lt_of_cell? w _ x2
      have HX : Hid (∀ W, Below w.heap.size w W → W.cell? ⟨b1, o1 + k, none⟩ = some u1 ∧ W.cell? ⟨b2, o2 + k, none⟩ = some u2) := fun W hW => ⟨(cell_eq (hW.block b1 hz1) _).trans x1, (cell_eq (hW.block b2 hz2) _).trans x2⟩
      obtain ⟨y1, y2⟩ := HX.out _ HB.out
      have hll := hm.out l (List.mem_of_getElem? hl)
      have i0 : (0 : Int) ≤ (k : Int) := by omega
      have i1 : (k : Int) < (ls.length : Int) := by omega
      clear hl q1 q2 x1 x2
      go_wp2
      go_region_held3 (fun w' => w'.cell? ⟨b1, o1 + k, none⟩ = some u1 ∧ w'.cell? ⟨b2, o2 + k, none⟩ = some u2) (go_keep) ((go_at_call 15; refine (same_any u1 u2 l _ (Sb.hide (HQ.out _ HB.out.drew).1) (Sb.hide (HQ.out _ HB.out.drew).2) hll).mono ?_; rintro e w' ⟨rfl, d2, rfl⟩; have HB2 : Hid (Below w.heap.size w ((wr.drew).drewN d2)) := (by exact below_drewN HB.out.drew d2); have y1 := (HX.out _ HB2.out).1; have y2 := (HX.out _ HB2.out).2))
      go_wp2
      go_roundw
      case rel => exact ⟨k + 1, by omega, by go_num, below_drewN HB.out _⟩
      case measure => simp [intOf]; omega
    · go_wp2
      go_ret
      exact ⟨rfl, HB.out⟩
set_option maxRecDepth 100000 in
set_option maxHeartbeats 2000000 in
theorem sameReport_any (s q tr st : Nat) (t : Tk) (x : List Lst) (vO vS vT vO' vS' vT' : Value) (w : World) (h1 : Hid (RpRd w t x vO vS vT)) (h2 : Hid (RpRd w t x vO' vS' vT')) (hn : x.length ≤ 1000000) (ho : t.out.length ≤ 1000000) (hm : Hid (∀ q ∈ x, q.sent.length ≤ 1000000)) :
    Calls Tryz.prog 6 #[repV s q tr vO vS vT st, repV s q tr vO' vS' vT' st] w fun e w' => e = .returned (.bool true) ∧ Below w.heap.size w w' := by
  obtain ⟨ta1, tc1, e1, _, r1⟩ := h1.out.took
  obtain ⟨ta2, tc2, e2, _, r2⟩ := h2.out.took
  subst e1 e2
  obtain ⟨sa1, sc1, e1, _⟩ := h1.out.sent
  obtain ⟨sa2, sc2, e2, _⟩ := h2.out.sent
  subst e1 e2
  obtain ⟨oa1, oc1, e1, _⟩ := h1.out.out
  obtain ⟨oa2, oc2, e2, _⟩ := h2.out.out
  subst e1 e2
  simp only [List.length_map] at r1 r2 h1 h2 ⊢
  have HR1 := Sb.hide r1
  have HR2 := Sb.hide r2
  have f1 : ((s : Int) != (s : Int)) = false := by simp
  have f2 : ((q : Int) != (q : Int)) = false := by simp
  have f3 : ((tr : Int) != (tr : Int)) = false := by simp
  have f4 : ((st : Int) != (st : Int)) = false := by simp
  obtain ⟨n, hn1⟩ : ∃ n, n = x.length := ⟨_, rfl⟩
  have HN := Sb.hide hn1
  rw [← hn1] at hn h1 h2 ⊢
  have f5 : ((n : Int) != (n : Int)) = false := by simp
  clear r1 r2 hn1
  go_enter Tryz.func6, Tryz.ntmps6
  go_wp2_with fail
  have HB0 : Hid (Below w.heap.size w ((w.alloc (repO s q tr (.slice oa1 t.out.length oc1) (.slice sa1 n sc1) (.slice ta1 n tc1) st)).alloc (repO s q tr (.slice oa2 t.out.length oc2) (.slice sa2 n sc2) (.slice ta2 n tc2) st))) := ((Below.refl _ w).alloc (Nat.le_refl _) _).alloc (by simp) _
  have HA0 : Hid (((w.alloc (repO s q tr (.slice oa1 t.out.length oc1) (.slice sa1 n sc1) (.slice ta1 n tc1) st)).alloc (repO s q tr (.slice oa2 t.out.length oc2) (.slice sa2 n sc2) (.slice ta2 n tc2) st)).heap[w.heap.size]? = some (repO s q tr (.slice oa1 t.out.length oc1) (.slice sa1 n sc1) (.slice ta1 n tc1) st)) := (Below.heap_alloc _ _ _ (by simp)).trans (heap_alloc_new w _)
  have HC0 : Hid (((w.alloc (repO s q tr (.slice oa1 t.out.length oc1) (.slice sa1 n sc1) (.slice ta1 n tc1) st)).alloc (repO s q tr (.slice oa2 t.out.length oc2) (.slice sa2 n sc2) (.slice ta2 n tc2) st)).heap[w.heap.size + 1]? = some (repO s q tr (.slice oa2 t.out.length oc2) (.slice sa2 n sc2) (.slice ta2 n tc2) st)) := by
    have e : (w.alloc (repO s q tr (.slice oa1 t.out.length oc1) (.slice sa1 n sc1) (.slice ta1 n tc1) st)).heap.size = w.heap.size + 1 := by simp
    unfold Hid
    rw [← e]
    exact heap_alloc_new _ _
  generalize (w.alloc (repO s q tr (.slice oa1 t.out.length oc1) (.slice sa1 n sc1) (.slice ta1 n tc1) st)).alloc (repO s q tr (.slice oa2 t.out.length oc2) (.slice sa2 n sc2) (.slice ta2 n tc2) st) = W0 at *
  refine (same_any _ _ t.out _ (Sb.hide (h1.out.out.below HB0.out)) (Sb.hide (h2.out.out.below HB0.out)) (by omega)).mono ?_
  rintro e w' ⟨rfl, d, rfl⟩
  have HB1 : Hid (Below w.heap.size w (W0.drewN d)) := below_drewN HB0.out d
  have HA1 : Hid ((W0.drewN d).heap[w.heap.size]? = some (repO s q tr (.slice oa1 t.out.length oc1) (.slice sa1 n sc1) (.slice ta1 n tc1) st)) := HA0.out
  have HC1 : Hid ((W0.drewN d).heap[w.heap.size + 1]? = some (repO s q tr (.slice oa2 t.out.length oc2) (.slice sa2 n sc2) (.slice ta2 n tc2) st)) := HC0.out
  generalize W0.drewN d = W1 at *
  have ra := (rep_cells HA1.out).1
  have rc := (rep_cells HC1.out).1
  go_wp2_with fail
  refine (sameAll_any _ _ (x.map (·.sent)) _ (Sb.hide (by have := h1.out.sent.below HB1.out; exact this)) (Sb.hide (by have := h2.out.sent.below HB1.out; exact this)) (by have := HN.out; simp; omega) (Sb.hide (fun l hl => by
    obtain ⟨q, hq, rfl⟩ := List.mem_map.1 hl
    have := hm.out q hq
    omega))).mono ?_
  rintro e w2 ⟨rfl, hb2⟩
  have HB2 : Hid (Below w.heap.size w w2) := HB1.out.trans (hb2.mono HB1.out.size)
  have HA2 := Sb.hide ((hb2.block _ (lt_of_block HA1.out)).trans HA1.out)
  have HC2 := Sb.hide ((hb2.block _ (lt_of_block HC1.out)).trans HC1.out)
  clear ra rc hb2
  have ra := (rep_cells HA2.out).1
  have rc := (rep_cells HC2.out).1
  go_wp2
  clear ra rc
  go_loopw [60] (fun i wr => ∃ k d : Nat, k ≤ n ∧ i = .int .i64 k ∧ wr = w2.drewN d) (fun i _ => n - (intOf i).toNat)
  case atStart => exact ⟨0, 0, Nat.zero_le _, rfl, rfl⟩
  case round =>
    obtain ⟨k, d, hk, rfl, rfl⟩ := hrel
    by_cases hlt : k < n
    · obtain ⟨y, hy⟩ : ∃ y, x[k]? = some y := ⟨_, List.getElem?_eq_getElem (by have := HN.out; omega)⟩
      obtain ⟨b1, o1, rfl, x1⟩ := HR1.out k (y.took : Int) (by rw [List.getElem?_map, hy]; rfl)
      obtain ⟨b2, o2, rfl, x2⟩ := HR2.out k (y.took : Int) (by rw [List.getElem?_map, hy]; rfl)
      have z1 : w2.cell? ⟨b1, o1 + k, none⟩ = some (.int .i64 (y.took : Int)) := (cell_eq (HB2.out.block b1 (World.block_lt_of_cell? w _ x1)) _).trans x1
      have z2 : w2.cell? ⟨b2, o2 + k, none⟩ = some (.int .i64 (y.took : Int)) := (cell_eq (HB2.out.block b2 (World.block_lt_of_cell? w _ x2)) _).trans x2
      have eqx : ((y.took : Int) != (y.took : Int)) = false := by simp
      have i0 : (0 : Int) ≤ (k : Int) := by omega
      have i1 : (k : Int) < (n : Int) := by omega
      have ra := (rep_cells HA2.out).1.2.2.2.2.2.1
      have rc := (rep_cells HC2.out).1.2.2.2.2.2.1
      clear hy x1 x2
      go_wp2
      go_quiet (fail)
      go_wp2
      go_roundw
      case rel => exact ⟨k + 1, _, by omega, by go_num, rfl⟩
      case measure => simp [intOf]; omega
    · go_wp2
      go_ret
      exact ⟨rfl, below_drewN HB2.out d⟩
end Go.Proofs.YtnfbfdajdflfgaaGreat.Vw

/- The walk of alive: a closed module. -/
namespace Go.Proofs.YtnfbfdajdflfgaaGreat.Vw
open Go.RowKit Vf Vm

abbrev acO : Obj := .cells #[.int .i64 1, .int .i64 0, .int .i64 7, .int .i64 28, .int .i64 0, .int .i64 0, .int .i64 25, .int .i64 0, .int .i64 0] 39 (0, 0)
abbrev auO (c : Nat) : Obj := .cells #[.int .i64 4, .int .i64 0, .slice none 0 0, .int .i64 0, .int .i64 0, .slice (some ⟨c, 0, none⟩) 3 3] 42 (0, 0)
def am : Md := ⟨[], [⟨4, 0, [], 0, 0, [⟨1, 0, 7⟩, ⟨28, 0, 0⟩, ⟨25, 0, 0⟩]⟩]⟩
theorem am_in {B c u : Nat} {w : World} (hc : w.heap[c]? = some acO) (hu : w.heap[u]? = some (auO c)) (hB : w.heap.size ≤ B) : ModIn B w am none (some ⟨u, 0, none⟩) := by
  have hcl := lt_of_block hc
  have hul := lt_of_block hu
  refine ⟨by simp [am], fun i x hx => by simp [am] at hx, fun i x hx => ?_⟩
  match i, hx with
  | 0, hx =>
    simp [am] at hx
    subst hx
    refine ⟨u, 0, none, 0, some ⟨c, 0, none⟩, 3, rfl, by omega, ⟨⟨(by decide : I64 4), (by decide : I64 0), (by decide : I64 0), (by decide : I64 0)⟩, by simp, by simp, fun j y hy => by simp at hy, fun j y hy => ?_⟩, by simp [World.cell?, hu], by simp [World.cell?, hu], by simp [World.cell?, hu], by simp [World.cell?, hu], by simp [World.cell?, hu], by simp [World.cell?, hu]⟩
    match j, hy with
    | 0, hy =>
      simp at hy
      subst hy
      exact ⟨by decide, by decide, by decide, c, 0, rfl, by omega, by simp [World.cell?, hc], by simp [World.cell?, hc], by simp [World.cell?, hc]⟩
    | 1, hy =>
      simp at hy
      subst hy
      exact ⟨by decide, by decide, by decide, c, 0, rfl, by omega, by simp [World.cell?, hc], by simp [World.cell?, hc], by simp [World.cell?, hc]⟩
    | 2, hy =>
      simp at hy
      subst hy
      exact ⟨by decide, by decide, by decide, c, 0, rfl, by omega, by simp [World.cell?, hc], by simp [World.cell?, hc], by simp [World.cell?, hc]⟩
    | j + 3, hy => simp at hy
  | i + 1, hx => simp [am] at hx
theorem am_ok : soloE am 0 9 [] = 0 := by decide +kernel
theorem am_steps : (soloR am 0 9 []).1 = 3 := by decide +kernel
theorem am_stat : (stat lsX am (soloR am 0 9 []).2.1 (soloR am 0 9 []).2.2).1 = 4 := by decide +kernel
theorem am_out : (soloR am 0 9 []).2.1.out = [7] := by decide +kernel
theorem fd_nil (B : Nat) (w : World) : FdIn B w [] none (fun _ => none) (fun _ => 0) := ⟨by simp, fun i f hf => by simp at hf, fun i f hf => by simp at hf⟩

set_option maxRecDepth 100000 in
set_option maxHeartbeats 1000000 in
theorem alive_any (w : World) : Calls Tryz.prog 4 #[] w fun e w' => e = .returned (.bool true) ∧ Below w.heap.size w w' := by
  obtain ⟨W3, hW3⟩ : ∃ W3 : World, ((w.alloc acO).alloc (auO w.heap.size)).alloc (.cells #[.slice none 0 0, .slice (some ⟨w.heap.size + 1, 0, none⟩) 1 1] 25) = W3 := ⟨_, rfl⟩
  have HC3 : Hid (W3.heap[w.heap.size]? = some acO) := by
    rw [← hW3]
    exact (Below.heap_alloc _ _ _ (by simp; omega)).trans ((Below.heap_alloc _ _ _ (by simp)).trans (heap_alloc_new w _))
  have HU3 : Hid (W3.heap[w.heap.size + 1]? = some (auO w.heap.size)) := by
    rw [← hW3]
    have e : (w.alloc acO).heap.size = w.heap.size + 1 := by simp
    refine (Below.heap_alloc _ _ _ (by simp)).trans ?_
    rw [← e]
    exact heap_alloc_new _ _
  have HB3 : Hid (Below w.heap.size w W3) := by rw [← hW3]; exact (((Below.refl _ w).alloc (Nat.le_refl _) _).alloc (by simp) _).alloc (by simp; omega) _
  have HW3 := Sb.hide hW3
  clear hW3
  go_enter Tryz.func4, Tryz.ntmps4
  go_wp2_with fail
  rw [HW3.out]
  refine (solo_any am none (some ⟨w.heap.size + 1, 0, none⟩) 0 1 W3.heap.size [] none 0 (fun _ => none) (fun _ => 0) W3 (Sb.hide (am_in HC3.out HU3.out (Nat.le_refl _))) (Sb.hide (fd_nil _ _)) (Nat.le_refl _) 0 9 0 (Sb.hide am_ok.symm)).mono ?_
  rintro e w4 ⟨hb4, hr⟩
  rcases hr with ⟨h0, _⟩ | ⟨_, vO, vS, vT, rfl, hR, _⟩
  · exact absurd rfl h0
  rw [am_steps, am_stat]
  have hrd := hR.reads.out
  rw [am_out] at hrd
  obtain ⟨oa, oc, rfl, _, hrd⟩ := hrd
  obtain ⟨ob, oo, rfl, hoc⟩ := hrd 0 7 rfl
  obtain ⟨sa, sc, hsv⟩ := hR.reads.sent
  obtain ⟨ta, tc, htv, _⟩ := hR.reads.took
  obtain ⟨rfl, _⟩ := hsv
  subst htv
  have HB4 : Hid (Below w.heap.size w w4) := HB3.out.trans (hb4.mono HB3.out.size)
  have hoz := World.block_lt_of_cell? w4 _ hoc
  simp only [Nat.add_zero] at hoc
  clear hb4 hR hrd
  go_wp2
  go_ret
  exact ⟨rfl, HB4.out.alloc HB4.out.size _⟩
end Go.Proofs.YtnfbfdajdflfgaaGreat.Vw

