/- The walk of alive: a closed module. -/
import Derived.Test.YtomneemdbechgaaGreatM37
import Derived.Test.YtomneemdbechgaaGreatM42
namespace Go.Proofs.YtomneemdbechgaaGreat.Vw
open Go.RowKit Vf Vm

theorem own_cellN {w : World} {B e size n : Nat} {va : Option Addr} {vc : Nat} {xs : List Value} (h : w.ownsRow B e size (.slice va n vc) n xs) {k : Nat} {u : Value} (hk : xs[k]? = some u) : ∃ g, va = some ⟨g, 0, none⟩ ∧ w.cell? ⟨g, k, none⟩ = some u := by
  rcases h.2 with ⟨e1, h0⟩ | ⟨g, cap, cur, e1, _⟩
  · have hl := h.1
    rw [h0] at hl
    have hx : xs = [] := List.eq_nil_of_length_eq_zero (by simpa using hl)
    rw [hx] at hk; cases hk
  · have e2 := e1
    simp at e2
    refine ⟨g, e2.1, ?_⟩
    have := h.cells (g := g) (by rw [e1]; rfl) k _ hk
    rw [add_none] at this
    simpa using this
abbrev acO : Obj := .cells #[.int .i64 1, .int .i64 0, .int .i64 7, .int .i64 28, .int .i64 0, .int .i64 0, .int .i64 25, .int .i64 0, .int .i64 0] 53 (0, 0)
abbrev auO (c : Nat) : Obj := .cells #[.int .i64 4, .int .i64 0, .slice none 0 0, .int .i64 0, .int .i64 0, .slice (some ⟨c, 0, none⟩) 3 3] 57 (0, 0)
def am : Md := ⟨[], [⟨4, 0, [], 0, 0, [⟨1, 0, 7⟩, ⟨28, 0, 0⟩, ⟨25, 0, 0⟩]⟩]⟩
theorem am_in {B c u : Nat} {w : World} (hc : w.heap[c]? = some acO) (hu : w.heap[u]? = some (auO c)) (hB : w.heap.size ≤ B) : ModIn B w am none (some ⟨u, 0, none⟩) := by
  have hcl := lt_of_block hc
  have hul := lt_of_block hu
  refine ⟨by simp [am], fun i x hx => by simp [am] at hx, fun i x hx => ?_⟩
  match i, hx with
  | 0, hx =>
    simp [am] at hx
    subst hx
    refine ⟨u, 0, none, 0, some ⟨c, 0, none⟩, 3, rfl, by omega, ⟨⟨(by decide : I64 4), (by decide : I64 0), (by decide : I64 0), (by decide : I64 0)⟩, by simp, by simp, fun j y hy => by simp at hy, fun j y hy => ?_⟩, by simp [World.cell?, hu], by simp [World.cell?, hu], by simp [World.cell?, hu], by simp [World.cell?, hu], by simp [World.cell?, hu], by simp [World.cell?, hu]⟩
    match j, hy with
    | 0, hy =>
      simp at hy
      subst hy
      exact ⟨by decide, by decide, by decide, c, 0, rfl, by omega, by simp [World.cell?, hc], by simp [World.cell?, hc], by simp [World.cell?, hc]⟩
    | 1, hy =>
      simp at hy
      subst hy
      exact ⟨by decide, by decide, by decide, c, 0, rfl, by omega, by simp [World.cell?, hc], by simp [World.cell?, hc], by simp [World.cell?, hc]⟩
    | 2, hy =>
      simp at hy
      subst hy
      exact ⟨by decide, by decide, by decide, c, 0, rfl, by omega, by simp [World.cell?, hc], by simp [World.cell?, hc], by simp [World.cell?, hc]⟩
    | j + 3, hy => simp at hy
  | i + 1, hx => simp [am] at hx
def ap : List Pk := [⟨0, 2⟩]
theorem am_ok : wrongE am ap.length = 0 := by decide +kernel
theorem am_did : ddCells (runD am ap) = [.int .i64 0, .int .i64 2] := by rfl
theorem am_len : (runW am ap).ts.length = 1 := by decide +kernel
theorem am_st : (stat mbX am ((runW am ap).tk ((0 : Nat) : Int)) (runW am ap).x).1 = 1 := by decide +kernel
theorem am_out : ((runW am ap).tk ((0 : Nat) : Int)).out = [7] := by decide +kernel

set_option maxRecDepth 100000 in
set_option maxHeartbeats 1000000 in
theorem alive_any (w : World) : Calls Tryz.prog 6 #[] w fun e w' => e = .returned (.bool true) ∧ Below w.heap.size w w' := by
  obtain ⟨W4, hW4⟩ : ∃ W4 : World, (((w.alloc acO).alloc (auO w.heap.size)).alloc (.cells #[.slice none 0 0, .slice (some ⟨w.heap.size + 1, 0, none⟩) 1 1] 25)).alloc (pkO ⟨0, 2⟩) = W4 := ⟨_, rfl⟩
  have HC4 : Hid (W4.heap[w.heap.size]? = some acO) := by
    rw [← hW4]
    exact (Below.heap_alloc _ _ _ (by first | (simp; done) | (simp; omega))).trans ((Below.heap_alloc _ _ _ (by first | (simp; done) | (simp; omega))).trans ((Below.heap_alloc _ _ _ (by simp)).trans (heap_alloc_new w _)))
  have HU4 : Hid (W4.heap[w.heap.size + 1]? = some (auO w.heap.size)) := by
    rw [← hW4]
    have e : (w.alloc acO).heap.size = w.heap.size + 1 := by simp
    refine (Below.heap_alloc _ _ _ (by first | (simp; done) | (simp; omega))).trans ((Below.heap_alloc _ _ _ (by simp)).trans ?_)
    rw [← e]
    exact heap_alloc_new _ _
  have HP4 : Hid (W4.heap[w.heap.size + 1 + 1 + 1]? = some (pkO ⟨0, 2⟩)) := by
    rw [← hW4]
    have e : (((w.alloc acO).alloc (auO w.heap.size)).alloc (.cells #[.slice none 0 0, .slice (some ⟨w.heap.size + 1, 0, none⟩) 1 1] 25)).heap.size = w.heap.size + 1 + 1 + 1 := by simp
    rw [← e]
    exact heap_alloc_new _ _
  have HB4 : Hid (Below w.heap.size w W4) := by rw [← hW4]; exact ((((Below.refl _ w).alloc (Nat.le_refl _) _).alloc (by simp) _).alloc (by first | (simp; done) | (simp; omega)) _).alloc (by first | (simp; done) | (simp; omega)) _
  have HPK : Hid (PkIn W4.heap.size W4 ap (some ⟨w.heap.size + 1 + 1 + 1, 0, none⟩)) := fun i p hp => by
    have hpb := HP4.out
    have hz := lt_of_block HP4.out
    match i, hp with
    | 0, hp =>
      simp [ap] at hp
      subst hp
      exact ⟨_, 0, rfl, hz, by simp [World.cell?, hpb], by simp [World.cell?, hpb]⟩
    | i + 1, hp => simp [ap] at hp
  have HW4 := Sb.hide hW4
  clear hW4
  go_enter Tryz.func6, Tryz.ntmps6
  go_wp2_with fail
  rw [HW4.out]
  refine (Run_any am none (some ⟨w.heap.size + 1, 0, none⟩) 0 1 W4.heap.size ap (some ⟨w.heap.size + 1 + 1 + 1, 0, none⟩) 1 W4 (Sb.hide (am_in HC4.out HU4.out (Nat.le_refl _))) HPK (Nat.le_refl _) 0 (Sb.hide am_ok.symm)).mono ?_
  rintro e w5 ⟨hb5, hr⟩
  rcases hr with ⟨h0, _⟩ | ⟨_, vE, vB, vd, ov, bv, rfl, hEN, hD, _⟩
  · exact absurd rfl h0
  have hO := hEN.outs 0 (by rw [am_len]; omega)
  have hE := hEN.ends
  have hBx := hEN.bxs
  rw [am_out] at hO
  rw [am_len] at hE
  rw [am_did] at hD
  obtain ⟨oa, oc, hov⟩ := own_slice hO
  obtain ⟨ea, ec, rfl⟩ := own_slice hE
  obtain ⟨da, dc, rfl⟩ := own_slice hD
  obtain ⟨ba, bc, rfl⟩ := own_slice hBx
  obtain ⟨g, rfl, k1⟩ := own_cellN hD (k := 1) (u := .int .i64 2) rfl
  obtain ⟨g0, e0, k0⟩ := own_cellN hD (k := 0) (u := .int .i64 0) rfl
  cases e0
  obtain ⟨h, rfl, j0⟩ := own_cellN hE (k := 0) (u := .int .i64 1) (by simp [enCells, enc]; exact_mod_cast am_st)
  obtain ⟨h1, e1, j1⟩ := own_cellN hE (k := 1) (u := .int .i64 (stat mbX am ((runW am ap).tk ((0 : Nat) : Int)) (runW am ap).x).2) (by simp [enCells, enc])
  cases e1
  obtain ⟨h1, e1, j2⟩ := own_cellN hE (k := 2) (u := .int .i64 ((runW am ap).tk ((0 : Nat) : Int)).trap) (by simp [enCells, enc])
  cases e1
  obtain ⟨h1, e1, j3⟩ := own_cellN hE (k := 3) (u := .slice oa 1 oc) (by simp [enCells, enc, hov])
  cases e1
  have HB5 : Hid (Below w.heap.size w w5) := HB4.out.trans (hb5.mono HB4.out.size)
  have hgz := World.block_lt_of_cell? w5 _ k1
  have hhz := World.block_lt_of_cell? w5 _ j0
  clear hb5 hEN hD hO hE hBx
  go_wp2
  go_ret
  exact ⟨rfl, HB5.out.alloc HB5.out.size _⟩
end Go.Proofs.YtomneemdbechgaaGreat.Vw

/- The walk of TraceKahn: KAHN, OF ALL THAT A TASK DOES. -/
namespace Go.Proofs.YtomneemdbechgaaGreat.Vw
open Go.RowKit Vf Vm

/-- What Trace answers, in one form. -/
theorem traced {m : Md} {ps : List Pk} {E : Int} {w2 : World} {e : Ending} (hr : (E ≠ 0 ∧ e = .returned (.tuple #[.slice none 0 0, .int .i64 E])) ∨ (E = 0 ∧ ∃ v, e = .returned (.tuple #[v, .int .i64 0]) ∧ w2.ownsRow 0 43 4 v (runW m ps).evs.length (evCells (runW m ps).evs) ∧ (runW m ps).evs.length ≤ 40000)) :
    ∃ a n c, e = .returned (.tuple #[.slice a n c, .int .i64 E]) ∧ (E = 0 → RE w2 (.slice a n c) (runW m ps).evs ∧ (runW m ps).evs.length ≤ 40000) := by
  rcases hr with ⟨h0, rfl⟩ | ⟨rfl, v, rfl, h1, h2⟩
  · exact ⟨none, 0, 0, rfl, fun e => absurd e h0⟩
  · obtain ⟨a, c, rfl⟩ := own_slice h1
    exact ⟨a, _, c, rfl, fun _ => ⟨own_re h1, h2⟩⟩
/-- The beginning of what can be read. -/
theorem RE.take {w : World} {a : Option Addr} {n c : Nat} {l l' : List (Nat × Ev)} (h : RE w (.slice a n c) l') (hp : l <+: l') : RE w (.slice a l.length c) l ∧ n = l'.length ∧ l.length ≤ c := by
  obtain ⟨a', c', e, hc, hr⟩ := h
  simp only [Value.slice.injEq] at e
  obtain ⟨rfl, rfl, rfl⟩ := e
  have hle := hp.length_le
  refine ⟨⟨a, c, rfl, by omega, fun i p hi => hr i p ?_⟩, rfl, by omega⟩
  obtain ⟨r, hr'⟩ := hp
  rw [← hr', List.getElem?_append_left (List.getElem?_eq_some_iff.1 hi).1]
  exact hi

set_option maxRecDepth 100000 in
set_option maxHeartbeats 2000000 in
theorem tkahn_any (m : Md) (ab au : Option Addr) (cb cu : Nat) (ps : List Pk) (a : Option Addr) (cap : Nat) (qs : List Pk) (a2 : Option Addr) (cap2 : Nat) (w : World) (hmd : ModIn w.heap.size w m ab au) (hps : PkIn w.heap.size w ps a) (hqs : PkIn w.heap.size w qs a2) (task : Int) :
    Calls Tryz.prog 3 #[mdV m ab au cb cu, .slice a ps.length cap, .slice a2 qs.length cap2, .int .i64 task] w fun e w' => e = .returned (.bool true) ∧ Below w.heap.size w w' := by
  have HMD := Sb.hide hmd
  have HPS := Sb.hide hps
  have HQS := Sb.hide hqs
  obtain ⟨E, hE⟩ : ∃ E, E = wrongE m ps.length := ⟨_, rfl⟩
  obtain ⟨F, hF⟩ : ∃ E, E = wrongE m qs.length := ⟨_, rfl⟩
  have HV : Hid (E = 0 → verify m = (0, 0, 0)) := fun h => (wrongE_zero (by rw [← hE]; exact h)).1
  have HE := Sb.hide hE
  have HF := Sb.hide hF
  have HB0 : Hid (Below w.heap.size w (w.alloc (mdB m ab au cb cu))) := (Below.refl _ w).alloc (Nat.le_refl _) _
  have HM0 : Hid ((w.alloc (mdB m ab au cb cu)).heap[w.heap.size]? = some (mdB m ab au cb cu)) := heap_alloc_new w _
  clear hmd hps hqs hE hF
  go_enter Tryz.func3, Tryz.ntmps3
  go_wp2_with fail
  generalize w.alloc (mdB m ab au cb cu) = W0 at *
  refine (alive_any _).mono ?_
  rintro e w1 ⟨rfl, hb1⟩
  have HB1 := Sb.hide (HB0.out.trans (hb1.mono HB0.out.size))
  have HM1 := Sb.hide ((hb1.block _ (lt_of_block HM0.out)).trans HM0.out)
  have c1 := md_cells HM1.out
  clear hb1
  go_wp2_with fail
  refine (Trace_any m ab au cb cu w.heap.size ps a cap _ (Sb.hide (HMD.out.low HB1.out.block)) (Sb.hide (HPS.out.low HB1.out.block)) HB1.out.size E HE).mono ?_
  rintro e w2 ⟨hb2, hr1⟩
  have HB2 := Sb.hide (HB1.out.trans (hb2.mono HB1.out.size))
  have HM2 := Sb.hide ((hb2.block _ (lt_of_block HM1.out)).trans HM1.out)
  have c2 := md_cells HM2.out
  obtain ⟨ea, en, ec, rfl, hA⟩ := traced hr1
  have HA := Sb.hide hA
  clear hb2 c1 hr1 hA
  go_wp2_with fail
  refine (Trace_any m ab au cb cu w.heap.size qs a2 cap2 _ (Sb.hide (HMD.out.low HB2.out.block)) (Sb.hide (HQS.out.low HB2.out.block)) HB2.out.size F HF).mono ?_
  rintro e w3 ⟨hb3, hr2⟩
  have HB3 := Sb.hide (HB2.out.trans (hb3.mono HB2.out.size))
  obtain ⟨fa, fn, fc, rfl, hA2⟩ := traced hr2
  have HA2 := Sb.hide hA2
  have HA3 : Hid (E = 0 → RE w3 (.slice ea en ec) (runW m ps).evs) := fun h => (HA.out h).1.below hb3
  clear hb3 c2 hr2 hA2
  by_cases h1 : E = 0
  · by_cases h2 : F = 0
    · have e1 : (E != 0) = false := by simpa using h1
      have e2 : (F != 0) = false := by simpa using h2
      have hx := HA3.out h1
      have hy := (HA2.out h2).1
      have lx := (HA.out h1).2
      have ly := (HA2.out h2).2
      have HT := Sb.hide (trace_two (HV.out h1) ps qs task)
      obtain ⟨lp, hlp⟩ : ∃ l, l = (runW m ps).evs := ⟨_, rfl⟩
      obtain ⟨lq, hlq⟩ : ∃ l, l = (runW m qs).evs := ⟨_, rfl⟩
      rw [← hlp] at hx lx HT
      rw [← hlq] at hy ly HT
      have HX := Sb.hide hx
      have HY := Sb.hide hy
      clear hx hy hlp hlq h1 h2
      go_wp2_with fail
      refine (of_any _ lp task _ HX (by omega)).mono ?_
      rintro e w5 ⟨vx, rfl, hox, hb5⟩
      have HB5 := Sb.hide (HB3.out.trans (hb5.mono HB3.out.size))
      have HY5 := Sb.hide (HY.out.below hb5)
      obtain ⟨xa, xc, rfl⟩ := own_slice hox
      have HRX := Sb.hide (own_re hox)
      clear hox hb5
      go_wp2_with fail
      refine (of_any _ lq task _ HY5 (by omega)).mono ?_
      rintro e w7 ⟨vy, rfl, hoy, hb7⟩
      have HB7 := Sb.hide (HB5.out.trans (hb7.mono HB5.out.size))
      have HRX7 := Sb.hide (HRX.out.below hb7)
      obtain ⟨ya, yc, rfl⟩ := own_slice hoy
      have HRY := Sb.hide (own_re hoy)
      have kx := ofE_len lp task
      have ky := ofE_len lq task
      obtain ⟨OX, hOX⟩ : ∃ l, l = ofE lp task := ⟨_, rfl⟩
      obtain ⟨OY, hOY⟩ : ∃ l, l = ofE lq task := ⟨_, rfl⟩
      rw [← hOX] at HRX7 HT kx ⊢
      rw [← hOY] at HRY HT ky ⊢
      clear hoy hb7 hOX hOY HRX
      by_cases hgt : OY.length < OX.length
      · have hp : OY <+: OX := by
          rcases HT.out with h | h
          · have := h.length_le; omega
          · exact h
        obtain ⟨r1, _, r3⟩ := HRX7.out.take hp
        have HR1 := Sb.hide r1
        obtain ⟨nx, hnx⟩ : ∃ n, n = OX.length := ⟨_, rfl⟩
        obtain ⟨ny, hny⟩ : ∃ n, n = OY.length := ⟨_, rfl⟩
        rw [← hnx] at hgt kx ⊢
        rw [← hny] at hgt ky r3 HR1 HRY ⊢
        have HL : Hid (OY.length ≤ 9223372036854775806) := by unfold Hid; omega
        have i1 : (ny : Int) < (nx : Int) := by omega
        have i2 : (ny : Int) ≤ (nx : Int) := by omega
        have i3 : (ny : Int) ≤ (xc : Int) := by omega
        have i4 : (0 : Int) ≤ (ny : Int) := by omega
        clear hnx hny r1 hp
        go_wp2_with fail
        refine (sameEv_any _ _ OY _ HRY HR1 HL.out).mono ?_
        rintro e w8 ⟨rfl, d8, rfl⟩
        go_wp2
        go_ret
        exact ⟨rfl, below_drewN HB7.out _⟩
      · have hp : OX <+: OY := by
          rcases HT.out with h | h
          · exact h
          · have e := h.eq_of_length (by have := h.length_le; omega)
            rw [e]
            exact List.prefix_refl _
        obtain ⟨r1, _, r3⟩ := HRY.out.take hp
        have HR1 := Sb.hide r1
        obtain ⟨nx, hnx⟩ : ∃ n, n = OX.length := ⟨_, rfl⟩
        obtain ⟨ny, hny⟩ : ∃ n, n = OY.length := ⟨_, rfl⟩
        rw [← hnx] at hgt kx r3 HR1 HRX7 ⊢
        rw [← hny] at hgt ky ⊢
        have HL : Hid (OX.length ≤ 9223372036854775806) := by unfold Hid; omega
        have i1 : ¬ (ny : Int) < (nx : Int) := by omega
        have i2 : (nx : Int) ≤ (ny : Int) := by omega
        have i3 : (nx : Int) ≤ (yc : Int) := by omega
        have i4 : (0 : Int) ≤ (nx : Int) := by omega
        clear hnx hny r1 hp
        go_wp2_with fail
        refine (sameEv_any _ _ OX _ HRX7 HR1 HL.out).mono ?_
        rintro e w8 ⟨rfl, d8, rfl⟩
        go_wp2
        go_ret
        exact ⟨rfl, below_drewN HB7.out _⟩
    · have e1 : (E != 0) = false := by simpa using h1
      have e2 : (F != 0) = true := by simpa using h2
      clear h1 h2
      go_wp2
      go_ret
      exact ⟨rfl, HB3.out⟩
  · have e1 : (E != 0) = true := by simpa using h1
    clear h1
    go_wp2
    go_ret
    exact ⟨rfl, HB3.out⟩
end Go.Proofs.YtomneemdbechgaaGreat.Vw

/- Worlds to be read; the walks of Same, SameAll, SameEnds, and Same of worlds. -/
namespace Go.Proofs.YtomneemdbechgaaGreat.Vw
open Go.RowKit Vf Vm

/-- Words that can be read. -/
def RI (w : World) (v : Value) (l : List Int) : Prop := ∃ a c, v = .slice a l.length c ∧ l.length ≤ c ∧ ∀ (i : Nat) x, l[i]? = some x → ∃ b off, a = some ⟨b, off, none⟩ ∧ w.cell? ⟨b, off + i, none⟩ = some (.int .i64 x)
/-- Rows of words that can be read. -/
def RS (w : World) (v : Value) (ls : List (List Int)) : Prop := ∃ a c, v = .slice a ls.length c ∧ ∀ (i : Nat) l, ls[i]? = some l → ∃ b off u, a = some ⟨b, off, none⟩ ∧ w.cell? ⟨b, off + i, none⟩ = some u ∧ RI w u l
theorem own_reads {w : World} {B n : Nat} {e : TypeId} {v : Value} {ws : List Int} (h : w.ownsRow B e 1 v n (ints ws)) : RI w v ws := by
  have hl : ws.length = n := by have := h.1; simpa using this
  subst hl
  rcases h.2 with ⟨rfl, h0⟩ | ⟨g, cap, cur, rfl, _, _, hc, _⟩
  · refine ⟨none, 0, by rw [h0], by omega, fun i x hx => ?_⟩
    have := (List.getElem?_eq_some_iff.1 hx).1
    omega
  · refine ⟨_, cap, rfl, hc, fun i x hx => ?_⟩
    obtain ⟨g', e', hc'⟩ := own_cell h (k := i) (u := .int .i64 x) (by rw [List.getElem?_map, hx]; rfl)
    cases e'
    exact ⟨g, 0, rfl, by rw [Nat.zero_add]; exact hc'⟩
theorem RI.below {w w' : World} {v : Value} {l : List Int} (h : RI w v l) (hb : Below w.heap.size w w') : RI w' v l := by
  obtain ⟨a, c, e, hc, hr⟩ := h
  refine ⟨a, c, e, hc, fun i x hx => ?_⟩
  obtain ⟨b, off, e2, hcell⟩ := hr i x hx
  exact ⟨b, off, e2, (cell_eq (hb.block b (World.block_lt_of_cell? w _ hcell)) _).trans hcell⟩
theorem RS.below {w w' : World} {v : Value} {ls : List (List Int)} (h : RS w v ls) (hb : Below w.heap.size w w') : RS w' v ls := by
  obtain ⟨a, c, e, hr⟩ := h
  refine ⟨a, c, e, fun i x hx => ?_⟩
  obtain ⟨b, off, u, e2, hcell, hi⟩ := hr i x hx
  exact ⟨b, off, u, e2, (cell_eq (hb.block b (World.block_lt_of_cell? w _ hcell)) _).trans hcell, hi.below hb⟩
set_option maxHeartbeats 400000 in
theorem same_any (v1 v2 : Value) (l : List Int) (w : World) (h1 : Hid (RI w v1 l)) (h2 : Hid (RI w v2 l)) (hn : l.length ≤ 9223372036854775806) :
    Calls Tryz.prog 12 #[v1, v2] w fun e w' => e = .returned (.bool true) ∧ ∃ d, w' = w.drewN d := by
  obtain ⟨a1, c1, rfl, _, r1⟩ := h1.out
  obtain ⟨a2, c2, rfl, _, r2⟩ := h2.out
  have HR1 := Sb.hide r1
  have HR2 := Sb.hide r2
  clear r1 r2 h1 h2
  have eq0 : ((l.length : Int) != (l.length : Int)) = false := by simp
  go_enter Tryz.func12, Tryz.ntmps12
  go_wp2
  go_loopw [13] (fun i wr => ∃ k d : Nat, k ≤ l.length ∧ i = .int .i64 k ∧ wr = w.drewN d) (fun i _ => l.length - (intOf i).toNat)
  case atStart => exact ⟨0, 0, Nat.zero_le _, rfl, rfl⟩
  case round =>
    obtain ⟨k, d, hk, rfl, rfl⟩ := hrel
    by_cases hlt : k < l.length
    · obtain ⟨x, hx⟩ : ∃ x, l[k]? = some x := ⟨_, List.getElem?_eq_getElem hlt⟩
      obtain ⟨b1, o1, rfl, x1⟩ := HR1.out k x hx
      obtain ⟨b2, o2, rfl, x2⟩ := HR2.out k x hx
      have eqx : (x != x) = false := by simp
      have b0 : (0 : Int) ≤ (k : Int) := by omega
      have b1 : (k : Int) < (l.length : Int) := by omega
      clear hx
      go_wp2
      go_quiet (fail)
      go_wp2
      go_roundw
      case rel => exact ⟨k + 1, _, by omega, by go_num, rfl⟩
      case measure => simp [intOf]; omega
    · go_wp2
      go_ret
      exact ⟨rfl, d, rfl⟩

set_option maxRecDepth 100000 in
set_option maxHeartbeats 1000000 in
theorem sameAll_any (v1 v2 : Value) (ls : List (List Int)) (w : World) (h1 : Hid (RS w v1 ls)) (h2 : Hid (RS w v2 ls)) (hn : ls.length ≤ 9223372036854775806) (hm : Hid (∀ l ∈ ls, l.length ≤ 9223372036854775806)) :
    Calls Tryz.prog 11 #[v1, v2] w fun e w' => e = .returned (.bool true) ∧ Below w.heap.size w w' := by
  obtain ⟨a1, c1, rfl, r1⟩ := h1.out
  obtain ⟨a2, c2, rfl, r2⟩ := h2.out
  have HR1 := Sb.hide r1
  have HR2 := Sb.hide r2
  clear r1 r2 h1 h2
  have eq0 : ((ls.length : Int) != (ls.length : Int)) = false := by simp
  go_enter Tryz.func11, Tryz.ntmps11
  go_wp2
  go_loopw [13] (fun i wr => ∃ k : Nat, k ≤ ls.length ∧ i = .int .i64 k ∧ Below w.heap.size w wr) (fun i _ => ls.length - (intOf i).toNat)
  case atStart => exact ⟨0, Nat.zero_le _, rfl, .refl _ _⟩
  case round =>
    obtain ⟨k, hk, rfl, hb⟩ := hrel
    have HB := Sb.hide hb
    clear hb
    by_cases hlt : k < ls.length
    · obtain ⟨l, hl⟩ : ∃ x, ls[k]? = some x := ⟨_, List.getElem?_eq_getElem hlt⟩
      obtain ⟨b1, o1, u1, rfl, x1, q1⟩ := HR1.out k l hl
      obtain ⟨b2, o2, u2, rfl, x2, q2⟩ := HR2.out k l hl
      have HQ : Hid (∀ W, Below w.heap.size w W → RI W u1 l ∧ RI W u2 l) := fun W hW => ⟨q1.below hW, q2.below hW⟩
      have hz1 := World.block_lt_of_cell? w _ x1
      have hz2 := World.block_lt_of_cell? w _ x2
      have HX : Hid (∀ W, Below w.heap.size w W → W.cell? ⟨b1, o1 + k, none⟩ = some u1 ∧ W.cell? ⟨b2, o2 + k, none⟩ = some u2) := fun W hW => ⟨(cell_eq (hW.block b1 hz1) _).trans x1, (cell_eq (hW.block b2 hz2) _).trans x2⟩
      obtain ⟨y1, y2⟩ := HX.out _ HB.out
      have hll := hm.out l (List.mem_of_getElem? hl)
      have i0 : (0 : Int) ≤ (k : Int) := by omega
      have i1 : (k : Int) < (ls.length : Int) := by omega
      clear hl q1 q2 x1 x2
      go_wp2
      go_region_held3 (fun w' => w'.cell? ⟨b1, o1 + k, none⟩ = some u1 ∧ w'.cell? ⟨b2, o2 + k, none⟩ = some u2) (go_keep) ((go_at_call 12; refine (same_any u1 u2 l _ (Sb.hide (HQ.out _ HB.out.drew).1) (Sb.hide (HQ.out _ HB.out.drew).2) hll).mono ?_; rintro e w' ⟨rfl, d2, rfl⟩; have HB2 : Hid (Below w.heap.size w ((wr.drew).drewN d2)) := (by exact below_drewN HB.out.drew d2); have y1 := (HX.out _ HB2.out).1; have y2 := (HX.out _ HB2.out).2))
      go_wp2
      go_roundw
      case rel => exact ⟨k + 1, by omega, by go_num, below_drewN HB.out _⟩
      case measure => simp [intOf]; omega
    · go_wp2
      go_ret
      exact ⟨rfl, HB.out⟩

/-- A world's end, to be read. -/
structure WRd (w : World) (m : Md) (ts : List Tk) (x : List Bq) (vE vB : Value) : Prop where
  ends : ∃ a c, vE = .slice a ts.length c ∧ ∀ (i : Nat) t, ts[i]? = some t → ∃ b off vo, a = some ⟨b, off, none⟩ ∧ w.cell? ⟨b, off + i * 4, none⟩ = some (.int .i64 (stat mbX m t x).1) ∧ w.cell? ⟨b, off + i * 4 + 1, none⟩ = some (.int .i64 (stat mbX m t x).2) ∧ w.cell? ⟨b, off + i * 4 + 2, none⟩ = some (.int .i64 t.trap) ∧ w.cell? ⟨b, off + i * 4 + 3, none⟩ = some vo ∧ RI w vo t.out
  boxes : RS w vB (x.map (·.ws))
theorem WRd.below {w w' : World} {m : Md} {ts : List Tk} {x : List Bq} {vE vB : Value} (h : WRd w m ts x vE vB) (hb : Below w.heap.size w w') : WRd w' m ts x vE vB := by
  obtain ⟨a, c, e, hr⟩ := h.ends
  refine ⟨⟨a, c, e, fun i t ht => ?_⟩, h.boxes.below hb⟩
  obtain ⟨b, off, vo, e2, h0, h1, h2, h3, h4⟩ := hr i t ht
  have hk := cell_eq (hb.block b (World.block_lt_of_cell? w _ h0))
  exact ⟨b, off, vo, e2, (hk _).trans h0, (hk _).trans h1, (hk _).trans h2, (hk _).trans h3, h4.below hb⟩
theorem enCells_len (m : Md) (W : Wd) (ov : Nat → Value) : ∀ n, (enCells m W ov n).length = n * 4
  | 0 => rfl
  | n + 1 => by rw [enCells_succ, List.length_append, enCells_len m W ov n]; simp [enc]; omega
theorem enCells_at (m : Md) (W : Wd) (ov : Nat → Value) : ∀ (n i j : Nat), i < n → j < 4 → (enCells m W ov n)[i * 4 + j]? = (enc m W ov i)[j]?
  | n + 1, i, j, hi, hj => by
    rw [enCells_succ]
    by_cases e : i = n
    · subst e
      rw [List.getElem?_append_right (by rw [enCells_len]; omega), enCells_len]
      congr 1
      omega
    · rw [List.getElem?_append_left (by rw [enCells_len]; omega)]
      exact enCells_at m W ov n i j (by omega) hj
theorem EnIn.reads {m : Md} {W : Wd} {C : Nat} {w : World} {vE vB : Value} {nb : Nat} {ov bv : Nat → Value} (h : EnIn m W C w vE vB W.ts.length nb ov bv) (hx : W.x.length = nb) : WRd w m W.ts W.x vE vB := by
  obtain ⟨ea, ec, rfl⟩ := own_slice h.ends
  obtain ⟨ba, bc, rfl⟩ := own_slice h.bxs
  refine ⟨⟨ea, ec, rfl, fun i t ht => ?_⟩, ⟨ba, bc, by simp [hx], fun i l hl => ?_⟩⟩
  · have hi := (List.getElem?_eq_some_iff.1 ht).1
    have etk : W.tk (i : Int) = t := by simp [Wd.tk, ht]
    have ho := h.outs i hi
    rw [etk] at ho
    obtain ⟨g, rfl, c0⟩ := own_cellN h.ends (enCells_at m W ov W.ts.length i 0 hi (by omega))
    obtain ⟨g1, e1, c1⟩ := own_cellN h.ends (enCells_at m W ov W.ts.length i 1 hi (by omega))
    cases e1
    obtain ⟨g1, e1, c2⟩ := own_cellN h.ends (enCells_at m W ov W.ts.length i 2 hi (by omega))
    cases e1
    obtain ⟨g1, e1, c3⟩ := own_cellN h.ends (enCells_at m W ov W.ts.length i 3 hi (by omega))
    cases e1
    rw [etk] at c0 c1 c2
    simp only [Nat.add_zero] at c0 c1 c2 c3 ⊢
    exact ⟨g, 0, ov i, rfl, by simpa using c0, by simpa using c1, by simpa using c2, by simpa using c3, own_reads ho⟩
  · rw [List.getElem?_map] at hl
    cases hq : W.x[i]? with
    | none => rw [hq] at hl; cases hl
    | some q =>
      rw [hq] at hl
      cases hl
      have hi := (List.getElem?_eq_some_iff.1 hq).1
      obtain ⟨g, e, hc⟩ := own_cell h.bxs (k := i) (u := bv i) (by simp [svs, show i < nb by omega])
      exact ⟨g, 0, bv i, e, by rw [Nat.zero_add]; exact hc, own_reads (h.words i q (by omega) hq)⟩
end Go.Proofs.YtomneemdbechgaaGreat.Vw

