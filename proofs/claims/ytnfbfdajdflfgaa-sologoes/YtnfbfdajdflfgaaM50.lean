/- Rows to be read; the walks of Same, SameAll, Begins, SameReport. -/
import Derived.Test.YtnfbfdajdflfgaaM49
namespace Go.Proofs.Ytnfbfdajdflfgaa.Vw
open Go.RowKit Vf Vm

/-- Words that can be read. -/
def RI (w : World) (v : Value) (l : List Int) : Prop := ∃ a c, v = .slice a l.length c ∧ l.length ≤ c ∧ ∀ (i : Nat) x, l[i]? = some x → ∃ b off, a = some ⟨b, off, none⟩ ∧ w.cell? ⟨b, off + i, none⟩ = some (.int .i64 x)
/-- Rows of words that can be read. -/
def RS (w : World) (v : Value) (ls : List (List Int)) : Prop := ∃ a c, v = .slice a ls.length c ∧ ∀ (i : Nat) l, ls[i]? = some l → ∃ b off u, a = some ⟨b, off, none⟩ ∧ w.cell? ⟨b, off + i, none⟩ = some u ∧ RI w u l
theorem own_reads {w : World} {B n : Nat} {e : TypeId} {v : Value} {ws : List Int} (h : w.ownsRow B e 1 v n (ints ws)) : RI w v ws := by
  have hl : ws.length = n := by have := h.1; simpa using this
  subst hl
  rcases h.2 with ⟨rfl, h0⟩ | ⟨g, cap, cur, rfl, _, _, hc, _⟩
  · refine ⟨none, 0, by rw [h0], by omega, fun i x hx => ?_⟩
    have := (List.getElem?_eq_some_iff.1 hx).1
    omega
  · refine ⟨_, cap, rfl, hc, fun i x hx => ?_⟩
    obtain ⟨g', e', hc'⟩ := own_cell h (k := i) (u := .int .i64 x) (by rw [List.getElem?_map, hx]; rfl)
    cases e'
    exact ⟨g, 0, rfl, by rw [Nat.zero_add]; exact hc'⟩
theorem RI.below {w w' : World} {v : Value} {l : List Int} (h : RI w v l) (hb : Below w.heap.size w w') : RI w' v l := by
  obtain ⟨a, c, e, hc, hr⟩ := h
  refine ⟨a, c, e, hc, fun i x hx => ?_⟩
  obtain ⟨b, off, e2, hcell⟩ := hr i x hx
  exact ⟨b, off, e2, (cell_eq (hb.block b (World.block_lt_of_cell? w _ hcell)) _).trans hcell⟩
theorem RS.below {w w' : World} {v : Value} {ls : List (List Int)} (h : RS w v ls) (hb : Below w.heap.size w w') : RS w' v ls := by
  obtain ⟨a, c, e, hr⟩ := h
  refine ⟨a, c, e, fun i x hx => ?_⟩
  obtain ⟨b, off, u, e2, hcell, hi⟩ := hr i x hx
  exact ⟨b, off, u, e2, (cell_eq (hb.block b (World.block_lt_of_cell? w _ hcell)) _).trans hcell, hi.below hb⟩
/-- A report, to be read. -/
structure RpRd (w : World) (t : Tk) (x : List Lst) (vO vS vT : Value) : Prop where
  out : RI w vO t.out
  sent : RS w vS (x.map (·.sent))
  took : RI w vT (x.map fun q => (q.took : Int))
theorem RpRd.below {w w' : World} {t : Tk} {x : List Lst} {vO vS vT : Value} (h : RpRd w t x vO vS vT) (hb : Below w.heap.size w w') : RpRd w' t x vO vS vT := ⟨h.out.below hb, h.sent.below hb, h.took.below hb⟩
theorem RpIn.reads {w : World} {t : Tk} {x : List Lst} {vO vS vT : Value} (h : RpIn w t x vO vS vT) : RpRd w t x vO vS vT := by
  obtain ⟨sv, s1, s2⟩ := h.sent
  refine ⟨own_reads h.out, ?_, own_reads (B := 0) (e := 3) (n := x.length) ?_⟩
  · obtain ⟨a, c, rfl⟩ := own_slice s1
    refine ⟨a, c, by simp, fun i l hl => ?_⟩
    rw [List.getElem?_map] at hl
    cases hq : x[i]? with
    | none => rw [hq] at hl; cases hl
    | some q =>
      rw [hq] at hl
      cases hl
      have hi := (List.getElem?_eq_some_iff.1 hq).1
      obtain ⟨g, e, hc⟩ := own_cell s1 (k := i) (u := sv i) (by simp [svs, hi])
      exact ⟨g, 0, sv i, e, by rw [Nat.zero_add]; exact hc, own_reads (s2 i q hq)⟩
  · have := h.took
    unfold tks at this
    rw [List.take_length] at this
    simpa [ints, Function.comp_def] using this

set_option maxHeartbeats 400000 in
theorem same_any (v1 v2 : Value) (l : List Int) (w : World) (h1 : Hid (RI w v1 l)) (h2 : Hid (RI w v2 l)) (hn : l.length ≤ 9223372036854775806) :
    Calls Try.prog 22 #[v1, v2] w fun e w' => e = .returned (.bool true) ∧ ∃ d, w' = w.drewN d := by
  obtain ⟨a1, c1, rfl, _, r1⟩ := h1.out
  obtain ⟨a2, c2, rfl, _, r2⟩ := h2.out
  have HR1 := Sb.hide r1
  have HR2 := Sb.hide r2
  clear r1 r2 h1 h2
  have eq0 : ((l.length : Int) != (l.length : Int)) = false := by simp
  go_enter Try.func22, Try.ntmps22
  go_wp2
  go_loopw [13] (fun i wr => ∃ k d : Nat, k ≤ l.length ∧ i = .int .i64 k ∧ wr = w.drewN d) (fun i _ => l.length - (intOf i).toNat)
  case atStart => exact ⟨0, 0, Nat.zero_le _, rfl, rfl⟩
  case round =>
    obtain ⟨k, d, hk, rfl, rfl⟩ := hrel
    by_cases hlt : k < l.length
    · obtain ⟨x, hx⟩ : ∃ x, l[k]? = some x := ⟨_, List.getElem?_eq_getElem hlt⟩
      obtain ⟨b1, o1, rfl, x1⟩ := HR1.out k x hx
      obtain ⟨b2, o2, rfl, x2⟩ := HR2.out k x hx
      have eqx : (x != x) = false := by simp
      have b0 : (0 : Int) ≤ (k : Int) := by omega
      have b1 : (k : Int) < (l.length : Int) := by omega
      clear hx
      go_wp2
      go_quiet (fail)
      go_wp2
      go_roundw
      case rel => exact ⟨k + 1, _, by omega, by go_num, rfl⟩
      case measure => simp [intOf]; omega
    · go_wp2
      go_ret
      exact ⟨rfl, d, rfl⟩

end Go.Proofs.Ytnfbfdajdflfgaa.Vw

/- The walks of SameAll, SameReport. -/
namespace Go.Proofs.Ytnfbfdajdflfgaa.Vw
open Go.RowKit Vf Vm

set_option maxRecDepth 100000 in
set_option maxHeartbeats 1000000 in
theorem sameAll_any (v1 v2 : Value) (ls : List (List Int)) (w : World) (h1 : Hid (RS w v1 ls)) (h2 : Hid (RS w v2 ls)) (hn : ls.length ≤ 9223372036854775806) (hm : Hid (∀ l ∈ ls, l.length ≤ 9223372036854775806)) :
    Calls Try.prog 0 #[v1, v2] w fun e w' => e = .returned (.bool true) ∧ Below w.heap.size w w' := by
  obtain ⟨a1, c1, rfl, r1⟩ := h1.out
  obtain ⟨a2, c2, rfl, r2⟩ := h2.out
  have HR1 := Sb.hide r1
  have HR2 := Sb.hide r2
  clear r1 r2 h1 h2
  have eq0 : ((ls.length : Int) != (ls.length : Int)) = false := by simp
  go_enter Try.func0, Try.ntmps0
  go_wp2
  go_loopw [13] (fun i wr => ∃ k : Nat, k ≤ ls.length ∧ i = .int .i64 k ∧ Below w.heap.size w wr) (fun i _ => ls.length - (intOf i).toNat)
  case atStart => exact ⟨0, Nat.zero_le _, rfl, .refl _ _⟩
  case round =>
    obtain ⟨k, hk, rfl, hb⟩ := hrel
    have HB := Sb.hide hb
    clear hb
    by_cases hlt : k < ls.length
    · obtain ⟨l, hl⟩ : ∃ x, ls[k]? = some x := ⟨_, List.getElem?_eq_getElem hlt⟩
      obtain ⟨b1, o1, u1, rfl, x1, q1⟩ := HR1.out k l hl
      obtain ⟨b2, o2, u2, rfl, x2, q2⟩ := HR2.out k l hl
      have HQ : Hid (∀ W, Below w.heap.size w W → RI W u1 l ∧ RI W u2 l) := fun W hW => ⟨q1.below hW, q2.below hW⟩
      have hz1 := World.block_lt_of_cell? w _ x1
      have hz2 := World.block_lt_of_cell? w _ x2
      have HX : Hid (∀ W, Below w.heap.size w W → W.cell? ⟨b1, o1 + k, none⟩ = some u1 ∧ W.cell? ⟨b2, o2 + k, none⟩ = some u2) := fun W hW => ⟨(cell_eq (hW.block b1 hz1) _).trans x1, (cell_eq (hW.block b2 hz2) _).trans x2⟩
      obtain ⟨y1, y2⟩ := HX.out _ HB.out
      have hll := hm.out l (List.mem_of_getElem? hl)
      have i0 : (0 : Int) ≤ (k : Int) := by omega
      have i1 : (k : Int) < (ls.length : Int) := by omega
      clear hl q1 q2 x1 x2
      go_wp2
      go_region_held3 (fun w' => w'.cell? ⟨b1, o1 + k, none⟩ = some u1 ∧ w'.cell? ⟨b2, o2 + k, none⟩ = some u2) (go_keep) ((go_at_call 22; refine (same_any u1 u2 l _ (Sb.hide (HQ.out _ HB.out.drew).1) (Sb.hide (HQ.out _ HB.out.drew).2) hll).mono ?_; rintro e w' ⟨rfl, d2, rfl⟩; have HB2 : Hid (Below w.heap.size w ((wr.drew).drewN d2)) := (by exact below_drewN HB.out.drew d2); have y1 := (HX.out _ HB2.out).1; have y2 := (HX.out _ HB2.out).2))
      go_wp2
      go_roundw
      case rel => exact ⟨k + 1, by omega, by go_num, below_drewN HB.out _⟩
      case measure => simp [intOf]; omega
    · go_wp2
      go_ret
      exact ⟨rfl, HB.out⟩
set_option maxRecDepth 100000 in
set_option maxHeartbeats 2000000 in
theorem sameReport_any (s q tr st : Nat) (t : Tk) (x : List Lst) (vO vS vT vO' vS' vT' : Value) (w : World) (h1 : Hid (RpRd w t x vO vS vT)) (h2 : Hid (RpRd w t x vO' vS' vT')) (hn : x.length ≤ 1000000) (ho : t.out.length ≤ 1000000) (hm : Hid (∀ q ∈ x, q.sent.length ≤ 1000000)) :
    Calls Try.prog 0 #[repV s q tr vO vS vT st, repV s q tr vO' vS' vT' st] w fun e w' => e = .returned (.bool true) ∧ Below w.heap.size w w' := by
  obtain ⟨ta1, tc1, e1, _, r1⟩ := h1.out.took
  obtain ⟨ta2, tc2, e2, _, r2⟩ := h2.out.took
  subst e1 e2
  obtain ⟨sa1, sc1, e1, _⟩ := h1.out.sent
  obtain ⟨sa2, sc2, e2, _⟩ := h2.out.sent
  subst e1 e2
  obtain ⟨oa1, oc1, e1, _⟩ := h1.out.out
  obtain ⟨oa2, oc2, e2, _⟩ := h2.out.out
  subst e1 e2
  simp only [List.length_map] at r1 r2 h1 h2 ⊢
  have HR1 := Sb.hide r1
  have HR2 := Sb.hide r2
  have f1 : ((s : Int) != (s : Int)) = false := by simp
  have f2 : ((q : Int) != (q : Int)) = false := by simp
  have f3 : ((tr : Int) != (tr : Int)) = false := by simp
  have f4 : ((st : Int) != (st : Int)) = false := by simp
  obtain ⟨n, hn1⟩ : ∃ n, n = x.length := ⟨_, rfl⟩
  have HN := Sb.hide hn1
  rw [← hn1] at hn h1 h2 ⊢
  have f5 : ((n : Int) != (n : Int)) = false := by simp
  clear r1 r2 hn1
  go_enter Try.func0, Try.ntmps0
  go_wp2_with fail
  have HB0 : Hid (Below w.heap.size w ((w.alloc (repO s q tr (.slice oa1 t.out.length oc1) (.slice sa1 n sc1) (.slice ta1 n tc1) st)).alloc (repO s q tr (.slice oa2 t.out.length oc2) (.slice sa2 n sc2) (.slice ta2 n tc2) st))) := ((Below.refl _ w).alloc (Nat.le_refl _) _).alloc (by simp) _
  have HA0 : Hid (((w.alloc (repO s q tr (.slice oa1 t.out.length oc1) (.slice sa1 n sc1) (.slice ta1 n tc1) st)).alloc (repO s q tr (.slice oa2 t.out.length oc2) (.slice sa2 n sc2) (.slice ta2 n tc2) st)).heap[w.heap.size]? = some (repO s q tr (.slice oa1 t.out.length oc1) (.slice sa1 n sc1) (.slice ta1 n tc1) st)) := (Below.heap_alloc _ _ _ (by simp)).trans (heap_alloc_new w _)
  have HC0 : Hid (((w.alloc (repO s q tr (.slice oa1 t.out.length oc1) (.slice sa1 n sc1) (.slice ta1 n tc1) st)).alloc (repO s q tr (.slice oa2 t.out.length oc2) (.slice sa2 n sc2) (.slice ta2 n tc2) st)).heap[w.heap.size + 1]? = some (repO s q tr (.slice oa2 t.out.length oc2) (.slice sa2 n sc2) (.slice ta2 n tc2) st)) := by
    have e : (w.alloc (repO s q tr (.slice oa1 t.out.length oc1) (.slice sa1 n sc1) (.slice ta1 n tc1) st)).heap.size = w.heap.size + 1 := by simp
    unfold Hid
    rw [← e]
    exact heap_alloc_new _ _
  generalize (w.alloc (repO s q tr (.slice oa1 t.out.length oc1) (.slice sa1 n sc1) (.slice ta1 n tc1) st)).alloc (repO s q tr (.slice oa2 t.out.length oc2) (.slice sa2 n sc2) (.slice ta2 n tc2) st) = W0 at *
  refine (same_any _ _ t.out _ (Sb.hide (h1.out.out.below HB0.out)) (Sb.hide (h2.out.out.below HB0.out)) (by omega)).mono ?_
  rintro e w' ⟨rfl, d, rfl⟩
  have HB1 : Hid (Below w.heap.size w (W0.drewN d)) := below_drewN HB0.out d
  have HA1 : Hid ((W0.drewN d).heap[w.heap.size]? = some (repO s q tr (.slice oa1 t.out.length oc1) (.slice sa1 n sc1) (.slice ta1 n tc1) st)) := HA0.out
  have HC1 : Hid ((W0.drewN d).heap[w.heap.size + 1]? = some (repO s q tr (.slice oa2 t.out.length oc2) (.slice sa2 n sc2) (.slice ta2 n tc2) st)) := HC0.out
  generalize W0.drewN d = W1 at *
  have ra := (rep_cells HA1.out).1
  have rc := (rep_cells HC1.out).1
  go_wp2_with fail
  refine (sameAll_any _ _ (x.map (·.sent)) _ (Sb.hide (by have := h1.out.sent.below HB1.out; exact this)) (Sb.hide (by have := h2.out.sent.below HB1.out; exact this)) (by have := HN.out; simp; omega) (Sb.hide (fun l hl => by
    obtain ⟨q, hq, rfl⟩ := List.mem_map.1 hl
    have := hm.out q hq
    omega))).mono ?_
  rintro e w2 ⟨rfl, hb2⟩
  have HB2 : Hid (Below w.heap.size w w2) := HB1.out.trans (hb2.mono HB1.out.size)
  have HA2 := Sb.hide ((hb2.block _ (lt_of_block HA1.out)).trans HA1.out)
  have HC2 := Sb.hide ((hb2.block _ (lt_of_block HC1.out)).trans HC1.out)
  clear ra rc hb2
  have ra := (rep_cells HA2.out).1
  have rc := (rep_cells HC2.out).1
  go_wp2
  clear ra rc
  go_loopw [60] (fun i wr => ∃ k d : Nat, k ≤ n ∧ i = .int .i64 k ∧ wr = w2.drewN d) (fun i _ => n - (intOf i).toNat)
  case atStart => exact ⟨0, 0, Nat.zero_le _, rfl, rfl⟩
  case round =>
    obtain ⟨k, d, hk, rfl, rfl⟩ := hrel
    by_cases hlt : k < n
    · obtain ⟨y, hy⟩ : ∃ y, x[k]? = some y := ⟨_, List.getElem?_eq_getElem (by have := HN.out; omega)⟩
      obtain ⟨b1, o1, rfl, x1⟩ := HR1.out k (y.took : Int) (by rw [List.getElem?_map, hy]; rfl)
      obtain ⟨b2, o2, rfl, x2⟩ := HR2.out k (y.took : Int) (by rw [List.getElem?_map, hy]; rfl)
      have z1 : w2.cell? ⟨b1, o1 + k, none⟩ = some (.int .i64 (y.took : Int)) := (cell_eq (HB2.out.block b1 (World.block_lt_of_cell? w _ x1)) _).trans x1
      have z2 : w2.cell? ⟨b2, o2 + k, none⟩ = some (.int .i64 (y.took : Int)) := (cell_eq (HB2.out.block b2 (World.block_lt_of_cell? w _ x2)) _).trans x2
      have eqx : ((y.took : Int) != (y.took : Int)) = false := by simp
      have i0 : (0 : Int) ≤ (k : Int) := by omega
      have i1 : (k : Int) < (n : Int) := by omega
      have ra := (rep_cells HA2.out).1.2.2.2.2.2.1
      have rc := (rep_cells HC2.out).1.2.2.2.2.2.1
      clear hy x1 x2
      go_wp2
      go_quiet (fail)
      go_wp2
      go_roundw
      case rel => exact ⟨k + 1, _, by omega, by go_num, rfl⟩
      case measure => simp [intOf]; omega
    · go_wp2
      go_ret
      exact ⟨rfl, below_drewN HB2.out d⟩
end Go.Proofs.Ytnfbfdajdflfgaa.Vw

