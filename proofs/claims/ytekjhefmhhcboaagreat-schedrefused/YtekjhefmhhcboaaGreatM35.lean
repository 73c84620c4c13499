/- Worlds to be read. -/
import Derived.Test.YtekjhefmhhcboaaGreatM34
set_option maxRecDepth 100000
set_option maxHeartbeats 1000000
namespace Go.Proofs.YtekjhefmhhcboaaGreat.Vw
open Go.RowKit Vf Vm
theorem own_cellN {w : World} {B e size n : Nat} {va : Option Addr} {vc : Nat} {xs : List Value} (h : w.ownsRow B e size (.slice va n vc) n xs) {k : Nat} {u : Value} (hk : xs[k]? = some u) : ∃ g, va = some ⟨g, 0, none⟩ ∧ w.cell? ⟨g, k, none⟩ = some u := by
 rcases h.2 with ⟨e1, h0⟩ | ⟨g, cap, cur, e1, _⟩
 ·have hl := h.1
  rw [h0] at hl
  have hx : xs = [] := List.eq_nil_of_length_eq_zero (by simpa using hl)
  rw [hx] at hk; cases hk
 ·have e2 := e1
  simp at e2
  refine ⟨g, e2.1, ?_⟩
  have := h.cells (g := g) (by rw [e1]; rfl) k _ hk
  rw [add_none] at this
  simpa using this
def RI (w : World) (v : Value) (l : List Int) : Prop := ∃ a c, v = .slice a l.length c ∧ l.length ≤ c ∧ ∀ (i : Nat) x, l[i]? = some x → ∃ b off, a = some ⟨b, off, none⟩ ∧ w.cell? ⟨b, off + i, none⟩ = some (.int .i64 x)
def RS (w : World) (v : Value) (ls : List (List Int)) : Prop := ∃ a c, v = .slice a ls.length c ∧ ∀ (i : Nat) l, ls[i]? = some l → ∃ b off u, a = some ⟨b, off, none⟩ ∧ w.cell? ⟨b, off + i, none⟩ = some u ∧ RI w u l
theorem own_reads {w : World} {B n : Nat} {e : TypeId} {v : Value} {ws : List Int} (h : w.ownsRow B e 1 v n (ints ws)) : RI w v ws := by
 have hl : ws.length = n := by have := h.1; simpa using this
 subst hl
 rcases h.2 with ⟨rfl, h0⟩ | ⟨g, cap, cur, rfl, _, _, hc, _⟩
 ·refine ⟨none, 0, by rw [h0], by omega, fun i x hx => ?_⟩
  have := (List.getElem?_eq_some_iff.1 hx).1
  omega
 ·refine ⟨_, cap, rfl, hc, fun i x hx => ?_⟩
  obtain ⟨g', e', hc'⟩ := own_cell h (k := i) (u := .int .i64 x) (by rw [List.getElem?_map, hx]; rfl)
  cases e'
  exact ⟨g, 0, rfl, by rw [Nat.zero_add]; exact hc'⟩
theorem RI.below {w w' : World} {v : Value} {l : List Int} (h : RI w v l) (hb : Below w.heap.size w w') : RI w' v l := by
 obtain ⟨a, c, e, hc, hr⟩ := h
 refine ⟨a, c, e, hc, fun i x hx => ?_⟩
 obtain ⟨b, off, e2, hcell⟩ := hr i x hx
 exact ⟨b, off, e2, (cell_eq (hb.block b (World.block_lt_of_cell? w _ hcell)) _).trans hcell⟩
theorem RS.below {w w' : World} {v : Value} {ls : List (List Int)} (h : RS w v ls) (hb : Below w.heap.size w w') : RS w' v ls := by
 obtain ⟨a, c, e, hr⟩ := h
 refine ⟨a, c, e, fun i x hx => ?_⟩
 obtain ⟨b, off, u, e2, hcell, hi⟩ := hr i x hx
 exact ⟨b, off, u, e2, (cell_eq (hb.block b (World.block_lt_of_cell? w _ hcell)) _).trans hcell, hi.below hb⟩
structure WRd (w : World) (m : Md) (ts : List Tk) (x : List Bq) (vE vB : Value) : Prop where
 ends : ∃ a c, vE = .slice a ts.length c ∧ ∀ (i : Nat) t, ts[i]? = some t → ∃ b off vo, a = some ⟨b, off, none⟩ ∧ w.cell? ⟨b, off + i * 4, none⟩ = some (.int .i64 (stat mbX m t x).1) ∧ w.cell? ⟨b, off + i * 4 + 1, none⟩ = some (.int .i64 (stat mbX m t x).2) ∧ w.cell? ⟨b, off + i * 4 + 2, none⟩ = some (.int .i64 t.trap) ∧ w.cell? ⟨b, off + i * 4 + 3, none⟩ = some vo ∧ RI w vo t.out
 boxes : RS w vB (x.map (·.ws))
theorem WRd.below {w w' : World} {m : Md} {ts : List Tk} {x : List Bq} {vE vB : Value} (h : WRd w m ts x vE vB) (hb : Below w.heap.size w w') : WRd w' m ts x vE vB := by
 obtain ⟨a, c, e, hr⟩ := h.ends
 refine ⟨⟨a, c, e, fun i t ht => ?_⟩, h.boxes.below hb⟩
 obtain ⟨b, off, vo, e2, h0, h1, h2, h3, h4⟩ := hr i t ht
 have hk := cell_eq (hb.block b (World.block_lt_of_cell? w _ h0))
 exact ⟨b, off, vo, e2, (hk _).trans h0, (hk _).trans h1, (hk _).trans h2, (hk _).trans h3, h4.below hb⟩
theorem enCells_len (m : Md) (W : Wd) (ov : Nat → Value) : ∀ n, (enCells m W ov n).length = n * 4
 | 0 => rfl
 | n + 1 => by rw [enCells_succ, List.length_append, enCells_len m W ov n]; simp [enc]; omega
theorem enCells_at (m : Md) (W : Wd) (ov : Nat → Value) : ∀ (n i j : Nat), i < n → j < 4 → (enCells m W ov n)[i * 4 + j]? = (enc m W ov i)[j]?
 | n + 1, i, j, hi, hj => by
  rw [enCells_succ]
  by_cases e : i = n
  ·subst e
   rw [List.getElem?_append_right (by rw [enCells_len]; omega), enCells_len]
   congr 1
   omega
  ·rw [List.getElem?_append_left (by rw [enCells_len]; omega)]
   exact enCells_at m W ov n i j (by omega) hj
theorem EnIn.reads {m : Md} {W : Wd} {C : Nat} {w : World} {vE vB : Value} {nb : Nat} {ov bv : Nat → Value} (h : EnIn m W C w vE vB W.ts.length nb ov bv) (hx : W.x.length = nb) : WRd w m W.ts W.x vE vB := by
 obtain ⟨ea, ec, rfl⟩ := own_slice h.ends
 obtain ⟨ba, bc, rfl⟩ := own_slice h.bxs
 refine ⟨⟨ea, ec, rfl, fun i t ht => ?_⟩, ⟨ba, bc, by simp [hx], fun i l hl => ?_⟩⟩
 ·have hi := (List.getElem?_eq_some_iff.1 ht).1
  have etk : W.tk (i : Int) = t := by simp [Wd.tk, ht]
  have ho := h.outs i hi
  rw [etk] at ho
  obtain ⟨g, rfl, c0⟩ := own_cellN h.ends (enCells_at m W ov W.ts.length i 0 hi (by omega))
  obtain ⟨g1, e1, c1⟩ := own_cellN h.ends (enCells_at m W ov W.ts.length i 1 hi (by omega))
  cases e1
  obtain ⟨g1, e1, c2⟩ := own_cellN h.ends (enCells_at m W ov W.ts.length i 2 hi (by omega))
  cases e1
  obtain ⟨g1, e1, c3⟩ := own_cellN h.ends (enCells_at m W ov W.ts.length i 3 hi (by omega))
  cases e1
  rw [etk] at c0 c1 c2
  simp only [Nat.add_zero] at c0 c1 c2 c3 ⊢
  exact ⟨g, 0, ov i, rfl, by simpa using c0, by simpa using c1, by simpa using c2, by simpa using c3, own_reads ho⟩
 ·rw [List.getElem?_map] at hl
  cases hq : W.x[i]? with
  | none => rw [hq] at hl; cases hl
  | some q =>
   rw [hq] at hl
   cases hl
   have hi := (List.getElem?_eq_some_iff.1 hq).1
   obtain ⟨g, e, hc⟩ := own_cell h.bxs (k := i) (u := bv i) (by simp [svs, show i < nb by omega])
   exact ⟨g, 0, bv i, e, by rw [Nat.zero_add]; exact hc, own_reads (h.words i q (by omega) hq)⟩
abbrev acO : Obj := .cells #[.int .i64 1, .int .i64 0, .int .i64 7, .int .i64 28, .int .i64 0, .int .i64 0, .int .i64 25, .int .i64 0, .int .i64 0] 55 (0, 0)
abbrev auO (c : Nat) : Obj := .cells #[.int .i64 4, .int .i64 0, .slice none 0 0, .int .i64 0, .int .i64 0, .slice (some ⟨c, 0, none⟩) 3 3] 59 (0, 0)
def am : Md := ⟨[], [⟨4, 0, [], 0, 0, [⟨1, 0, 7⟩, ⟨28, 0, 0⟩, ⟨25, 0, 0⟩]⟩]⟩
theorem am_in {B c u : Nat} {w : World} (hc : w.heap[c]? = some acO) (hu : w.heap[u]? = some (auO c)) (hB : w.heap.size ≤ B) : ModIn B w am none (some ⟨u, 0, none⟩) := by
 have hcl := lt_of_block hc
 have hul := lt_of_block hu
 refine ⟨by simp [am], fun i x hx => by simp [am] at hx, fun i x hx => ?_⟩
 match i, hx with
 | 0, hx =>
  simp [am] at hx
  subst hx
  refine ⟨u, 0, none, 0, some ⟨c, 0, none⟩, 3, rfl, by omega, ⟨⟨(by decide : I64 4), (by decide : I64 0), (by decide : I64 0), (by decide : I64 0)⟩, by simp, by simp, fun j y hy => by simp at hy, fun j y hy => ?_⟩, by simp [World.cell?, hu], by simp [World.cell?, hu], by simp [World.cell?, hu], by simp [World.cell?, hu], by simp [World.cell?, hu], by simp [World.cell?, hu]⟩
  match j, hy with
  | 0, hy =>
   simp at hy
   subst hy
   exact ⟨by decide, by decide, by decide, c, 0, rfl, by omega, by simp [World.cell?, hc], by simp [World.cell?, hc], by simp [World.cell?, hc]⟩
  | 1, hy =>
   simp at hy
   subst hy
   exact ⟨by decide, by decide, by decide, c, 0, rfl, by omega, by simp [World.cell?, hc], by simp [World.cell?, hc], by simp [World.cell?, hc]⟩
  | 2, hy =>
   simp at hy
   subst hy
   exact ⟨by decide, by decide, by decide, c, 0, rfl, by omega, by simp [World.cell?, hc], by simp [World.cell?, hc], by simp [World.cell?, hc]⟩
  | j + 3, hy => simp at hy
 | i + 1, hx => simp [am] at hx
def ap : List Pk := [⟨0, 2⟩]
theorem am_ok : wrongE am ap.length = 0 := by decide +kernel
theorem am_did : ddCells (runD am ap) = [.int .i64 0, .int .i64 2] := by rfl
theorem am_len : (runW am ap).ts.length = 1 := by decide +kernel
theorem am_st : (stat mbX am ((runW am ap).tk ((0 : Nat) : Int)) (runW am ap).x).1 = 1 := by decide +kernel
theorem am_out : ((runW am ap).tk ((0 : Nat) : Int)).out = [7] := by decide +kernel
theorem alive_any (w : World) : Calls Tryz.prog 9 #[] w fun e w' => e = .returned (.bool true) ∧ Below w.heap.size w w' := by
 obtain ⟨W4, hW4⟩ : ∃ W4 : World, (((w.alloc acO).alloc (auO w.heap.size)).alloc (.cells #[.slice none 0 0, .slice (some ⟨w.heap.size + 1, 0, none⟩) 1 1] 25)).alloc (pkO ⟨0, 2⟩) = W4 := ⟨_, rfl⟩
 have HC4 : Hid (W4.heap[w.heap.size]? = some acO) := by
  rw [← hW4]
  exact (Below.heap_alloc _ _ _ (by first | (simp; done) | (simp; omega))).trans ((Below.heap_alloc _ _ _ (by first | (simp; done) | (simp; omega))).trans ((Below.heap_alloc _ _ _ (by simp)).trans (heap_alloc_new w _)))
 have HU4 : Hid (W4.heap[w.heap.size + 1]? = some (auO w.heap.size)) := by
  rw [← hW4]
  have e : (w.alloc acO).heap.size = w.heap.size + 1 := by simp
  refine (Below.heap_alloc _ _ _ (by first | (simp; done) | (simp; omega))).trans ((Below.heap_alloc _ _ _ (by simp)).trans ?_)
  rw [← e]
  exact heap_alloc_new _ _
 have HP4 : Hid (W4.heap[w.heap.size + 1 + 1 + 1]? = some (pkO ⟨0, 2⟩)) := by
  rw [← hW4]
  have e : (((w.alloc acO).alloc (auO w.heap.size)).alloc (.cells #[.slice none 0 0, .slice (some ⟨w.heap.size + 1, 0, none⟩) 1 1] 25)).heap.size = w.heap.size + 1 + 1 + 1 := by simp
  rw [← e]
  exact heap_alloc_new _ _
 have HB4 : Hid (Below w.heap.size w W4) := by rw [← hW4]; exact ((((Below.refl _ w).alloc (Nat.le_refl _) _).alloc (by simp) _).alloc (by first | (simp; done) | (simp; omega)) _).alloc (by first | (simp; done) | (simp; omega)) _
 have HPK : Hid (PkIn W4.heap.size W4 ap (some ⟨w.heap.size + 1 + 1 + 1, 0, none⟩)) := fun i p hp => by
  have hpb := HP4.out
  have hz := lt_of_block HP4.out
  match i, hp with
  | 0, hp =>
   simp [ap] at hp
   subst hp
   exact ⟨_, 0, rfl, hz, by simp [World.cell?, hpb], by simp [World.cell?, hpb]⟩
  | i + 1, hp => simp [ap] at hp
 have HW4 := Sb.hide hW4
 clear hW4
 go_enter Tryz.func9, Tryz.ntmps9
 go_wp2_with fail
 rw [HW4.out]
 refine (Run_any am none (some ⟨w.heap.size + 1, 0, none⟩) 0 1 W4.heap.size ap (some ⟨w.heap.size + 1 + 1 + 1, 0, none⟩) 1 W4 (Sb.hide (am_in HC4.out HU4.out (Nat.le_refl _))) HPK (Nat.le_refl _) 0 (Sb.hide am_ok.symm)).mono ?_
 rintro e w5 ⟨hb5, hr⟩
 rcases hr with ⟨h0, _⟩ | ⟨_, vE, vB, vd, ov, bv, rfl, hEN, hD, _⟩
 ·exact absurd rfl h0
 have hO := hEN.outs 0 (by rw [am_len]; omega)
 have hE := hEN.ends
 have hBx := hEN.bxs
 rw [am_out] at hO
 rw [am_len] at hE
 rw [am_did] at hD
 obtain ⟨oa, oc, hov⟩ := own_slice hO
 obtain ⟨ea, ec, rfl⟩ := own_slice hE
 obtain ⟨da, dc, rfl⟩ := own_slice hD
 obtain ⟨ba, bc, rfl⟩ := own_slice hBx
 obtain ⟨g, rfl, k1⟩ := own_cellN hD (k := 1) (u := .int .i64 2) rfl
 obtain ⟨g0, e0, k0⟩ := own_cellN hD (k := 0) (u := .int .i64 0) rfl
 cases e0
 obtain ⟨h, rfl, j0⟩ := own_cellN hE (k := 0) (u := .int .i64 1) (by simp [enCells, enc]; exact_mod_cast am_st)
 obtain ⟨h1, e1, j1⟩ := own_cellN hE (k := 1) (u := .int .i64 (stat mbX am ((runW am ap).tk ((0 : Nat) : Int)) (runW am ap).x).2) (by simp [enCells, enc])
 cases e1
 obtain ⟨h1, e1, j2⟩ := own_cellN hE (k := 2) (u := .int .i64 ((runW am ap).tk ((0 : Nat) : Int)).trap) (by simp [enCells, enc])
 cases e1
 obtain ⟨h1, e1, j3⟩ := own_cellN hE (k := 3) (u := .slice oa 1 oc) (by simp [enCells, enc, hov])
 cases e1
 have HB5 : Hid (Below w.heap.size w w5) := HB4.out.trans (hb5.mono HB4.out.size)
 have hgz := World.block_lt_of_cell? w5 _ k1
 have hhz := World.block_lt_of_cell? w5 _ j0
 clear hb5 hEN hD hO hE hBx
 go_wp2
 go_ret
 exact ⟨rfl, HB5.out.alloc HB5.out.size _⟩
theorem same_any (v1 v2 : Value) (l : List Int) (w : World) (h1 : Hid (RI w v1 l)) (h2 : Hid (RI w v2 l)) (hn : l.length ≤ 9223372036854775806) :
  Calls Tryz.prog 22 #[v1, v2] w fun e w' => e = .returned (.bool true) ∧ ∃ d, w' = w.drewN d := by
 obtain ⟨a1, c1, rfl, _, r1⟩ := h1.out
 obtain ⟨a2, c2, rfl, _, r2⟩ := h2.out
 have HR1 := Sb.hide r1
 have HR2 := Sb.hide r2
 clear r1 r2 h1 h2
 have eq0 : ((l.length : Int) != (l.length : Int)) = false := by simp
 go_enter Tryz.func22, Tryz.ntmps22
 go_wp2
 go_loopw [13] (fun i wr => ∃ k d : Nat, k ≤ l.length ∧ i = .int .i64 k ∧ wr = w.drewN d) (fun i _ => l.length - (intOf i).toNat)
 case atStart => exact ⟨0, 0, Nat.zero_le _, rfl, rfl⟩
 case round =>
  obtain ⟨k, d, hk, rfl, rfl⟩ := hrel
  by_cases hlt : k < l.length
  ·obtain ⟨x, hx⟩ : ∃ x, l[k]? = some x := ⟨_, List.getElem?_eq_getElem hlt⟩
   obtain ⟨b1, o1, rfl, x1⟩ := HR1.out k x hx
   obtain ⟨b2, o2, rfl, x2⟩ := HR2.out k x hx
   have eqx : (x != x) = false := by simp
   have b0 : (0 : Int) ≤ (k : Int) := by omega
   have b1 : (k : Int) < (l.length : Int) := by omega
   clear hx
   go_wp2
   go_quiet (fail)
   go_wp2
   go_roundw
   case rel => exact ⟨k + 1, _, by omega, by go_num, rfl⟩
   case measure => simp [intOf]; omega
  ·go_wp2
   go_ret
   exact ⟨rfl, d, rfl⟩
end Go.Proofs.YtekjhefmhhcboaaGreat.Vw
