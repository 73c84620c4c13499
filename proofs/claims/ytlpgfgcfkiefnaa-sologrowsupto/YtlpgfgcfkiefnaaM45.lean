/- Rows to be read; the walks of Same, SameAll, Begins, SameReport. -/
import Derived.Test.YtlpgfgcfkiefnaaM44
namespace Go.Proofs.Ytlpgfgcfkiefnaa.Vw
open Go.RowKit Vf Vm

/-- Words that can be read. -/
def RI (w : World) (v : Value) (l : List Int) : Prop := ∃ a c, v = .slice a l.length c ∧ l.length ≤ c ∧ ∀ (i : Nat) x, l[i]? = some x → ∃ b off, a = some ⟨b, off, none⟩ ∧ w.cell? ⟨b, off + i, none⟩ = some (.int .i64 x)
/-- Rows of words that can be read. -/
def RS (w : World) (v : Value) (ls : List (List Int)) : Prop := ∃ a c, v = .slice a ls.length c ∧ ∀ (i : Nat) l, ls[i]? = some l → ∃ b off u, a = some ⟨b, off, none⟩ ∧ w.cell? ⟨b, off + i, none⟩ = some u ∧ RI w u l
theorem own_reads {w : World} {B n : Nat} {e : TypeId} {v : Value} {ws : List Int} (h : w.ownsRow B e 1 v n (ints ws)) : RI w v ws := by
  have hl : ws.length = n := by have := h.1; simpa using this
  subst hl
  rcases h.2 with ⟨rfl, h0⟩ | ⟨g, cap, cur, rfl, _, _, hc, _⟩
  · refine ⟨none, 0, by rw [h0], by omega, fun i x hx => ?_⟩
    have := (List.getElem?_eq_some_iff.1 hx).1
    omega
  · refine ⟨_, cap, rfl, hc, fun i x hx => ?_⟩
    obtain ⟨g', e', hc'⟩ := own_cell h (k := i) (u := .int .i64 x) (by rw [List.getElem?_map, hx]; rfl)
    cases e'
    exact ⟨g, 0, rfl, by rw [Nat.zero_add]; exact hc'⟩
theorem RI.below {w w' : World} {v : Value} {l : List Int} (h : RI w v l) (hb : Below w.heap.size w w') : RI w' v l := by
  obtain ⟨a, c, e, hc, hr⟩ := h
  refine ⟨a, c, e, hc, fun i x hx => ?_⟩
  obtain ⟨b, off, e2, hcell⟩ := hr i x hx
  exact ⟨b, off, e2, (cell_eq (hb.block b (World.block_lt_of_cell? w _ hcell)) _).trans hcell⟩
theorem RS.below {w w' : World} {v : Value} {ls : List (List Int)} (h : RS w v ls) (hb : Below w.heap.size w w') : RS w' v ls := by
  obtain ⟨a, c, e, hr⟩ := h
  refine ⟨a, c, e, fun i x hx => ?_⟩
  obtain ⟨b, off, u, e2, hcell, hi⟩ := hr i x hx
  exact ⟨b, off, u, e2, (cell_eq (hb.block b (World.block_lt_of_cell? w _ hcell)) _).trans hcell, hi.below hb⟩
/-- A report, to be read. -/
structure RpRd (w : World) (t : Tk) (x : List Lst) (vO vS vT : Value) : Prop where
  out : RI w vO t.out
  sent : RS w vS (x.map (·.sent))
  took : RI w vT (x.map fun q => (q.took : Int))
theorem RpRd.below {w w' : World} {t : Tk} {x : List Lst} {vO vS vT : Value} (h : RpRd w t x vO vS vT) (hb : Below w.heap.size w w') : RpRd w' t x vO vS vT := ⟨h.out.below hb, h.sent.below hb, h.took.below hb⟩
theorem RpIn.reads {w : World} {t : Tk} {x : List Lst} {vO vS vT : Value} (h : RpIn w t x vO vS vT) : RpRd w t x vO vS vT := by
  obtain ⟨sv, s1, s2⟩ := h.sent
  refine ⟨own_reads h.out, ?_, own_reads (B := 0) (e := 3) (n := x.length) ?_⟩
  · obtain ⟨a, c, rfl⟩ := own_slice s1
    refine ⟨a, c, by simp, fun i l hl => ?_⟩
    rw [List.getElem?_map] at hl
    cases hq : x[i]? with
    | none => rw [hq] at hl; cases hl
    | some q =>
      rw [hq] at hl
      cases hl
      have hi := (List.getElem?_eq_some_iff.1 hq).1
      obtain ⟨g, e, hc⟩ := own_cell s1 (k := i) (u := sv i) (by simp [svs, hi])
      exact ⟨g, 0, sv i, e, by rw [Nat.zero_add]; exact hc, own_reads (s2 i q hq)⟩
  · have := h.took
    unfold tks at this
    rw [List.take_length] at this
    simpa [ints, Function.comp_def] using this

set_option maxHeartbeats 400000 in
theorem same_any (v1 v2 : Value) (l : List Int) (w : World) (h1 : Hid (RI w v1 l)) (h2 : Hid (RI w v2 l)) (hn : l.length ≤ 9223372036854775806) :
    Calls Try.prog 24 #[v1, v2] w fun e w' => e = .returned (.bool true) ∧ ∃ d, w' = w.drewN d := by
  obtain ⟨a1, c1, rfl, _, r1⟩ := h1.out
  obtain ⟨a2, c2, rfl, _, r2⟩ := h2.out
  have HR1 := Sb.hide r1
  have HR2 := Sb.hide r2
  clear r1 r2 h1 h2
  have eq0 : ((l.length : Int) != (l.length : Int)) = false := by simp
  go_enter Try.func24, Try.ntmps24
  go_wp2
  go_loopw [13] (fun i wr => ∃ k d : Nat, k ≤ l.length ∧ i = .int .i64 k ∧ wr = w.drewN d) (fun i _ => l.length - (intOf i).toNat)
  case atStart => exact ⟨0, 0, Nat.zero_le _, rfl, rfl⟩
  case round =>
    obtain ⟨k, d, hk, rfl, rfl⟩ := hrel
    by_cases hlt : k < l.length
    · obtain ⟨x, hx⟩ : ∃ x, l[k]? = some x := ⟨_, List.getElem?_eq_getElem hlt⟩
      obtain ⟨b1, o1, rfl, x1⟩ := HR1.out k x hx
      obtain ⟨b2, o2, rfl, x2⟩ := HR2.out k x hx
      have eqx : (x != x) = false := by simp
      have b0 : (0 : Int) ≤ (k : Int) := by omega
      have b1 : (k : Int) < (l.length : Int) := by omega
      clear hx
      go_wp2
      go_quiet (fail)
      go_wp2
      go_roundw
      case rel => exact ⟨k + 1, _, by omega, by go_num, rfl⟩
      case measure => simp [intOf]; omega
    · go_wp2
      go_ret
      exact ⟨rfl, d, rfl⟩

set_option maxHeartbeats 400000 in
theorem begins_any (v1 v2 : Value) (l l' : List Int) (w : World) (h1 : Hid (RI w v1 l)) (h2 : Hid (RI w v2 l')) (hn : l'.length ≤ 9223372036854775806) (hp : Hid (l <+: l')) :
    Calls Try.prog 9 #[v1, v2] w fun e w' => e = .returned (.bool true) ∧ ∃ d, w' = w.drewN d := by
  have hle := hp.out.length_le
  obtain ⟨a1, c1, rfl, hc1, r1⟩ := h1.out
  obtain ⟨a2, c2, rfl, hc2, r2⟩ := h2.out
  have HI2 : Hid (RI w (.slice a2 l.length c2) l) := ⟨a2, c2, rfl, by omega, fun i x hx => r2 i x (by
    obtain ⟨r, hr⟩ := hp.out
    rw [← hr, List.getElem?_append_left (List.getElem?_eq_some_iff.1 hx).1]
    exact hx)⟩
  clear r1 r2
  obtain ⟨n, hn1⟩ : ∃ n, n = l.length := ⟨_, rfl⟩
  obtain ⟨n', hn2⟩ : ∃ n, n = l'.length := ⟨_, rfl⟩
  have HN1 := Sb.hide hn1
  rw [← hn1] at h1 HI2 hle ⊢
  rw [← hn2] at hn hle hc2 ⊢
  have HN : Hid (l.length ≤ 9223372036854775806) := by unfold Hid; omega
  clear hn1 hn2 hc1
  have i1 : (n : Int) ≤ (n' : Int) := by omega
  have i2 : (n : Int) ≤ (c2 : Int) := by omega
  have i3 : (0 : Int) ≤ (n : Int) := by omega
  go_enter Try.func9, Try.ntmps9
  go_wp2_with fail

  refine (same_any _ _ l _ h1 HI2 HN.out).mono ?_
  rintro e w' ⟨rfl, d, rfl⟩
  go_wp2
  go_ret
  exact ⟨rfl, d, rfl⟩
end Go.Proofs.Ytlpgfgcfkiefnaa.Vw

/- The walk of alive: a closed module. -/
namespace Go.Proofs.Ytlpgfgcfkiefnaa.Vw
open Go.RowKit Vf Vm

abbrev acO : Obj := .cells #[.int .i64 1, .int .i64 0, .int .i64 7, .int .i64 28, .int .i64 0, .int .i64 0, .int .i64 25, .int .i64 0, .int .i64 0] 49 (0, 0)
abbrev auO (c : Nat) : Obj := .cells #[.int .i64 4, .int .i64 0, .slice none 0 0, .int .i64 0, .int .i64 0, .slice (some ⟨c, 0, none⟩) 3 3] 31 (0, 0)
def am : Md := ⟨[], [⟨4, 0, [], 0, 0, [⟨1, 0, 7⟩, ⟨28, 0, 0⟩, ⟨25, 0, 0⟩]⟩]⟩
theorem am_in {B c u : Nat} {w : World} (hc : w.heap[c]? = some acO) (hu : w.heap[u]? = some (auO c)) (hB : w.heap.size ≤ B) : ModIn B w am none (some ⟨u, 0, none⟩) := by
  have hcl := lt_of_block hc
  have hul := lt_of_block hu
  refine ⟨by simp [am], fun i x hx => by simp [am] at hx, fun i x hx => ?_⟩
  match i, hx with
  | 0, hx =>
    simp [am] at hx
    subst hx
    refine ⟨u, 0, none, 0, some ⟨c, 0, none⟩, 3, rfl, by omega, ⟨⟨(by decide : I64 4), (by decide : I64 0), (by decide : I64 0), (by decide : I64 0)⟩, by simp, by simp, fun j y hy => by simp at hy, fun j y hy => ?_⟩, by simp [World.cell?, hu], by simp [World.cell?, hu], by simp [World.cell?, hu], by simp [World.cell?, hu], by simp [World.cell?, hu], by simp [World.cell?, hu]⟩
    match j, hy with
    | 0, hy =>
      simp at hy
      subst hy
      exact ⟨by decide, by decide, by decide, c, 0, rfl, by omega, by simp [World.cell?, hc], by simp [World.cell?, hc], by simp [World.cell?, hc]⟩
    | 1, hy =>
      simp at hy
      subst hy
      exact ⟨by decide, by decide, by decide, c, 0, rfl, by omega, by simp [World.cell?, hc], by simp [World.cell?, hc], by simp [World.cell?, hc]⟩
    | 2, hy =>
      simp at hy
      subst hy
      exact ⟨by decide, by decide, by decide, c, 0, rfl, by omega, by simp [World.cell?, hc], by simp [World.cell?, hc], by simp [World.cell?, hc]⟩
    | j + 3, hy => simp at hy
  | i + 1, hx => simp [am] at hx
theorem am_ok : soloE am 0 9 [] = 0 := by decide +kernel
theorem am_steps : (soloR am 0 9 []).1 = 3 := by decide +kernel
theorem am_stat : (stat lsX am (soloR am 0 9 []).2.1 (soloR am 0 9 []).2.2).1 = 4 := by decide +kernel
theorem am_out : (soloR am 0 9 []).2.1.out = [7] := by decide +kernel
theorem fd_nil (B : Nat) (w : World) : FdIn B w [] none (fun _ => none) (fun _ => 0) := ⟨by simp, fun i f hf => by simp at hf, fun i f hf => by simp at hf⟩

set_option maxRecDepth 100000 in
set_option maxHeartbeats 1000000 in
theorem alive_any (w : World) : Calls Try.prog 6 #[] w fun e w' => e = .returned (.bool true) ∧ Below w.heap.size w w' := by
  obtain ⟨W3, hW3⟩ : ∃ W3 : World, ((w.alloc acO).alloc (auO w.heap.size)).alloc (.cells #[.slice none 0 0, .slice (some ⟨w.heap.size + 1, 0, none⟩) 1 1] 25) = W3 := ⟨_, rfl⟩
  have HC3 : Hid (W3.heap[w.heap.size]? = some acO) := by
    rw [← hW3]
    exact (Below.heap_alloc _ _ _ (by simp; omega)).trans ((Below.heap_alloc _ _ _ (by simp)).trans (heap_alloc_new w _))
  have HU3 : Hid (W3.heap[w.heap.size + 1]? = some (auO w.heap.size)) := by
    rw [← hW3]
    have e : (w.alloc acO).heap.size = w.heap.size + 1 := by simp
    refine (Below.heap_alloc _ _ _ (by simp)).trans ?_
    rw [← e]
    exact heap_alloc_new _ _
  have HB3 : Hid (Below w.heap.size w W3) := by rw [← hW3]; exact (((Below.refl _ w).alloc (Nat.le_refl _) _).alloc (by simp) _).alloc (by simp; omega) _
  have HW3 := Sb.hide hW3
  clear hW3
  go_enter Try.func6, Try.ntmps6
  go_wp2_with fail
  rw [HW3.out]
  refine (solo_any am none (some ⟨w.heap.size + 1, 0, none⟩) 0 1 W3.heap.size [] none 0 (fun _ => none) (fun _ => 0) W3 (Sb.hide (am_in HC3.out HU3.out (Nat.le_refl _))) (Sb.hide (fd_nil _ _)) (Nat.le_refl _) 0 9 0 (Sb.hide am_ok.symm)).mono ?_
  rintro e w4 ⟨hb4, hr⟩
  rcases hr with ⟨h0, _⟩ | ⟨_, vO, vS, vT, rfl, hR, _⟩
  · exact absurd rfl h0
  rw [am_steps, am_stat]
  have hrd := hR.reads.out
  rw [am_out] at hrd
  obtain ⟨oa, oc, rfl, _, hrd⟩ := hrd
  obtain ⟨ob, oo, rfl, hoc⟩ := hrd 0 7 rfl
  obtain ⟨sa, sc, hsv⟩ := hR.reads.sent
  obtain ⟨ta, tc, htv, _⟩ := hR.reads.took
  obtain ⟨rfl, _⟩ := hsv
  subst htv
  have HB4 : Hid (Below w.heap.size w w4) := HB3.out.trans (hb4.mono HB3.out.size)
  have hoz := World.block_lt_of_cell? w4 _ hoc
  simp only [Nat.add_zero] at hoc
  clear hb4 hR hrd
  go_wp2
  go_ret
  exact ⟨rfl, HB4.out.alloc HB4.out.size _⟩
end Go.Proofs.Ytlpgfgcfkiefnaa.Vw

