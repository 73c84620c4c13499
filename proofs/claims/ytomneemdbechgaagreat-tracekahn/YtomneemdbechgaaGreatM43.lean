/- The walk of alive: a closed module. -/
import Derived.Test.YtomneemdbechgaaGreatM37
import Derived.Test.YtomneemdbechgaaGreatM42
import Derived.Test.YtomneemdbechgaaGreatM1
import Derived.ChangeArms
import Derived.DataReads
namespace Go.Proofs.YtomneemdbechgaaGreat.Vw
open Go.RowKit Vf Vm

theorem own_cellN {w : World} {B e size n : Nat} {va : Option Addr} {vc : Nat} {xs : List Value} (h : w.ownsRow B e size (.slice va n vc) n xs) {k : Nat} {u : Value} (hk : xs[k]? = some u) : ∃ g, va = some ⟨g, 0, none⟩ ∧ w.cell? ⟨g, k, none⟩ = some u := by
  rcases h.2 with ⟨e1, h0⟩ | ⟨g, cap, cur, e1, _⟩
  · have hl := h.1
    rw [h0] at hl
    have hx : xs = [] := List.eq_nil_of_length_eq_zero (by simpa using hl)
    rw [hx] at hk; cases hk
  · have e2 := e1
    simp at e2
    refine ⟨g, e2.1, ?_⟩
    have := h.cells (g := g) (by rw [e1]; rfl) k _ hk
    rw [add_none] at this
    simpa using this
abbrev acO : Obj := .cells #[.int .i64 1, .int .i64 0, .int .i64 7, .int .i64 28, .int .i64 0, .int .i64 0, .int .i64 25, .int .i64 0, .int .i64 0] 53 (0, 0)
abbrev auO (c : Nat) : Obj := .cells #[.int .i64 4, .int .i64 0, .slice none 0 0, .int .i64 0, .int .i64 0, .slice (some ⟨c, 0, none⟩) 3 3] 57 (0, 0)
def am : Md := ⟨[], [⟨4, 0, [], 0, 0, [⟨1, 0, 7⟩, ⟨28, 0, 0⟩, ⟨25, 0, 0⟩]⟩]⟩
theorem am_in {B c u : Nat} {w : World} (hc : w.heap[c]? = some acO) (hu : w.heap[u]? = some (auO c)) (hB : w.heap.size ≤ B) : ModIn B w am none (some ⟨u, 0, none⟩) := by
  have hcl := lt_of_block hc
  have hul := lt_of_block hu
  refine ⟨by simp [am], fun i x hx => by simp [am] at hx, fun i x hx => ?_⟩
  match i, hx with
  | 0, hx =>
    simp [am] at hx
    subst hx
    refine ⟨u, 0, none, 0, some ⟨c, 0, none⟩, 3, rfl, by omega, ⟨⟨(by decide : I64 4), (by decide : I64 0), (by decide : I64 0), (by decide : I64 0)⟩, by simp, by simp, fun j y hy => by simp at hy, fun j y hy => ?_⟩, by simp [World.cell?, hu], by simp [World.cell?, hu], by simp [World.cell?, hu], by simp [World.cell?, hu], by simp [World.cell?, hu], by simp [World.cell?, hu]⟩
    match j, hy with
    | 0, hy =>
      simp at hy
      subst hy
      exact ⟨by decide, by decide, by decide, c, 0, rfl, by omega, by simp [World.cell?, hc], by simp [World.cell?, hc], by simp [World.cell?, hc]⟩
    | 1, hy =>
      simp at hy
      subst hy
      exact ⟨by decide, by decide, by decide, c, 0, rfl, by omega, by simp [World.cell?, hc], by simp [World.cell?, hc], by simp [World.cell?, hc]⟩
    | 2, hy =>
      simp at hy
      subst hy
      exact ⟨by decide, by decide, by decide, c, 0, rfl, by omega, by simp [World.cell?, hc], by simp [World.cell?, hc], by simp [World.cell?, hc]⟩
    | j + 3, hy => simp at hy
  | i + 1, hx => simp [am] at hx
def ap : List Pk := [⟨0, 2⟩]
theorem am_ok : wrongE am ap.length = 0 := by decide +kernel
theorem am_did : ddCells (runD am ap) = [.int .i64 0, .int .i64 2] := by rfl
theorem am_len : (runW am ap).ts.length = 1 := by decide +kernel
theorem am_st : (stat mbX am ((runW am ap).tk ((0 : Nat) : Int)) (runW am ap).x).1 = 1 := by decide +kernel
theorem am_out : ((runW am ap).tk ((0 : Nat) : Int)).out = [7] := by decide +kernel

set_option maxRecDepth 100000 in
set_option maxHeartbeats 1000000 in
theorem alive_any (w : World) : Calls Tryz.prog 6 #[] w fun e w' => e = .returned (.bool true) ∧ Below w.heap.size w w' := by
  obtain ⟨W4, hW4⟩ : ∃ W4 : World, (((w.alloc acO).alloc (auO w.heap.size)).alloc (.cells #[.slice none 0 0, .slice (some ⟨w.heap.size + 1, 0, none⟩) 1 1] 25)).alloc (pkO ⟨0, 2⟩) = W4 := ⟨_, rfl⟩
  have HC4 : Hid (W4.heap[w.heap.size]? = some acO) := by
    rw [← hW4]
    exact (Below.heap_alloc _ _ _ (by first | (simp; done) | (simp; omega))).trans ((Below.heap_alloc _ _ _ (by first | (simp; done) | (simp; omega))).trans ((Below.heap_alloc _ _ _ (by simp)).trans (heap_alloc_new w _)))
  have HU4 : Hid (W4.heap[w.heap.size + 1]? = some (auO w.heap.size)) := by
    rw [← hW4]
    have e : (w.alloc acO).heap.size = w.heap.size + 1 := by simp
    refine (Below.heap_alloc _ _ _ (by first | (simp; done) | (simp; omega))).trans ((Below.heap_alloc _ _ _ (by simp)).trans ?_)
    rw [← e]
    exact heap_alloc_new _ _
  have HP4 : Hid (W4.heap[w.heap.size + 1 + 1 + 1]? = some (pkO ⟨0, 2⟩)) := by
    rw [← hW4]
    have e : (((w.alloc acO).alloc (auO w.heap.size)).alloc (.cells #[.slice none 0 0, .slice (some ⟨w.heap.size + 1, 0, none⟩) 1 1] 25)).heap.size = w.heap.size + 1 + 1 + 1 := by simp
    rw [← e]
    exact heap_alloc_new _ _
  have HB4 : Hid (Below w.heap.size w W4) := by rw [← hW4]; exact ((((Below.refl _ w).alloc (Nat.le_refl _) _).alloc (by simp) _).alloc (by first | (simp; done) | (simp; omega)) _).alloc (by first | (simp; done) | (simp; omega)) _
  have HPK : Hid (PkIn W4.heap.size W4 ap (some ⟨w.heap.size + 1 + 1 + 1, 0, none⟩)) := fun i p hp => by
    have hpb := HP4.out
    have hz := lt_of_block HP4.out
    match i, hp with
    | 0, hp =>
      simp [ap] at hp
      subst hp
      exact ⟨_, 0, rfl, hz, by simp [World.cell?, hpb], by simp [World.cell?, hpb]⟩
    | i + 1, hp => simp [ap] at hp
  have HW4 := Sb.hide hW4
  clear hW4
  go_enter Tryz.func6, Tryz.ntmps6
  go_wp2_with fail
  rw [HW4.out]
  refine (Run_any am none (some ⟨w.heap.size + 1, 0, none⟩) 0 1 W4.heap.size ap (some ⟨w.heap.size + 1 + 1 + 1, 0, none⟩) 1 W4 (Sb.hide (am_in HC4.out HU4.out (Nat.le_refl _))) HPK (Nat.le_refl _) 0 (Sb.hide am_ok.symm)).mono ?_
  rintro e w5 ⟨hb5, hr⟩
  rcases hr with ⟨h0, _⟩ | ⟨_, vE, vB, vd, ov, bv, rfl, hEN, hD, _⟩
  · exact absurd rfl h0
  have hO := hEN.outs 0 (by rw [am_len]; omega)
  have hE := hEN.ends
  have hBx := hEN.bxs
  rw [am_out] at hO
  rw [am_len] at hE
  rw [am_did] at hD
  obtain ⟨oa, oc, hov⟩ := own_slice hO
  obtain ⟨ea, ec, rfl⟩ := own_slice hE
  obtain ⟨da, dc, rfl⟩ := own_slice hD
  obtain ⟨ba, bc, rfl⟩ := own_slice hBx
  obtain ⟨g, rfl, k1⟩ := own_cellN hD (k := 1) (u := .int .i64 2) rfl
  obtain ⟨g0, e0, k0⟩ := own_cellN hD (k := 0) (u := .int .i64 0) rfl
  cases e0
  obtain ⟨h, rfl, j0⟩ := own_cellN hE (k := 0) (u := .int .i64 1) (by simp [enCells, enc]; exact_mod_cast am_st)
  obtain ⟨h1, e1, j1⟩ := own_cellN hE (k := 1) (u := .int .i64 (stat mbX am ((runW am ap).tk ((0 : Nat) : Int)) (runW am ap).x).2) (by simp [enCells, enc])
  cases e1
  obtain ⟨h1, e1, j2⟩ := own_cellN hE (k := 2) (u := .int .i64 ((runW am ap).tk ((0 : Nat) : Int)).trap) (by simp [enCells, enc])
  cases e1
  obtain ⟨h1, e1, j3⟩ := own_cellN hE (k := 3) (u := .slice oa 1 oc) (by simp [enCells, enc, hov])
  cases e1
  have HB5 : Hid (Below w.heap.size w w5) := HB4.out.trans (hb5.mono HB4.out.size)
  have hgz := World.block_lt_of_cell? w5 _ k1
  have hhz := World.block_lt_of_cell? w5 _ j0
  clear hb5 hEN hD hO hE hBx
  go_wp2
  go_ret
  exact ⟨rfl, HB5.out.alloc HB5.out.size _⟩
end Go.Proofs.YtomneemdbechgaaGreat.Vw

/- The walk of TraceKahn: KAHN, OF ALL THAT A TASK DOES. -/
namespace Go.Proofs.YtomneemdbechgaaGreat.Vw
open Go.RowKit Vf Vm

/-- What Trace answers, in one form. -/
theorem traced {m : Md} {ps : List Pk} {E : Int} {w2 : World} {e : Ending} (hr : (E ≠ 0 ∧ e = .returned (.tuple #[.slice none 0 0, .int .i64 E])) ∨ (E = 0 ∧ ∃ v, e = .returned (.tuple #[v, .int .i64 0]) ∧ w2.ownsRow 0 43 4 v (runW m ps).evs.length (evCells (runW m ps).evs) ∧ (runW m ps).evs.length ≤ 40000)) :
    ∃ a n c, e = .returned (.tuple #[.slice a n c, .int .i64 E]) ∧ (E = 0 → RE w2 (.slice a n c) (runW m ps).evs ∧ (runW m ps).evs.length ≤ 40000) := by
  rcases hr with ⟨h0, rfl⟩ | ⟨rfl, v, rfl, h1, h2⟩
  · exact ⟨none, 0, 0, rfl, fun e => absurd e h0⟩
  · obtain ⟨a, c, rfl⟩ := own_slice h1
    exact ⟨a, _, c, rfl, fun _ => ⟨own_re h1, h2⟩⟩
/-- The beginning of what can be read. -/
theorem RE.take {w : World} {a : Option Addr} {n c : Nat} {l l' : List (Nat × Ev)} (h : RE w (.slice a n c) l') (hp : l <+: l') : RE w (.slice a l.length c) l ∧ n = l'.length ∧ l.length ≤ c := by
  obtain ⟨a', c', e, hc, hr⟩ := h
  simp only [Value.slice.injEq] at e
  obtain ⟨rfl, rfl, rfl⟩ := e
  have hle := hp.length_le
  refine ⟨⟨a, c, rfl, by omega, fun i p hi => hr i p ?_⟩, rfl, by omega⟩
  obtain ⟨r, hr'⟩ := hp
  rw [← hr', List.getElem?_append_left (List.getElem?_eq_some_iff.1 hi).1]
  exact hi

set_option maxRecDepth 100000 in
set_option maxHeartbeats 2000000 in
theorem tkahn_any (m : Md) (ab au : Option Addr) (cb cu : Nat) (ps : List Pk) (a : Option Addr) (cap : Nat) (qs : List Pk) (a2 : Option Addr) (cap2 : Nat) (w : World) (hmd : ModIn w.heap.size w m ab au) (hps : PkIn w.heap.size w ps a) (hqs : PkIn w.heap.size w qs a2) (task : Int) :
    Calls Tryz.prog 3 #[mdV m ab au cb cu, .slice a ps.length cap, .slice a2 qs.length cap2, .int .i64 task] w fun e w' => e = .returned (.bool true) ∧ Below w.heap.size w w' := by
  have HMD := Sb.hide hmd
  have HPS := Sb.hide hps
  have HQS := Sb.hide hqs
  obtain ⟨E, hE⟩ : ∃ E, E = wrongE m ps.length := ⟨_, rfl⟩
  obtain ⟨F, hF⟩ : ∃ E, E = wrongE m qs.length := ⟨_, rfl⟩
  have HV : Hid (E = 0 → verify m = (0, 0, 0)) := fun h => (wrongE_zero (by rw [← hE]; exact h)).1
  have HE := Sb.hide hE
  have HF := Sb.hide hF
  have HB0 : Hid (Below w.heap.size w (w.alloc (mdB m ab au cb cu))) := (Below.refl _ w).alloc (Nat.le_refl _) _
  have HM0 : Hid ((w.alloc (mdB m ab au cb cu)).heap[w.heap.size]? = some (mdB m ab au cb cu)) := heap_alloc_new w _
  clear hmd hps hqs hE hF
  go_enter Tryz.func3, Tryz.ntmps3
  go_wp2_with fail
  generalize w.alloc (mdB m ab au cb cu) = W0 at *
  refine (alive_any _).mono ?_
  rintro e w1 ⟨rfl, hb1⟩
  have HB1 := Sb.hide (HB0.out.trans (hb1.mono HB0.out.size))
  have HM1 := Sb.hide ((hb1.block _ (lt_of_block HM0.out)).trans HM0.out)
  have c1 := md_cells HM1.out
  clear hb1
  go_wp2_with fail
  refine (Trace_any m ab au cb cu w.heap.size ps a cap _ (Sb.hide (HMD.out.low HB1.out.block)) (Sb.hide (HPS.out.low HB1.out.block)) HB1.out.size E HE).mono ?_
  rintro e w2 ⟨hb2, hr1⟩
  have HB2 := Sb.hide (HB1.out.trans (hb2.mono HB1.out.size))
  have HM2 := Sb.hide ((hb2.block _ (lt_of_block HM1.out)).trans HM1.out)
  have c2 := md_cells HM2.out
  obtain ⟨ea, en, ec, rfl, hA⟩ := traced hr1
  have HA := Sb.hide hA
  clear hb2 c1 hr1 hA
  go_wp2_with fail
  refine (Trace_any m ab au cb cu w.heap.size qs a2 cap2 _ (Sb.hide (HMD.out.low HB2.out.block)) (Sb.hide (HQS.out.low HB2.out.block)) HB2.out.size F HF).mono ?_
  rintro e w3 ⟨hb3, hr2⟩
  have HB3 := Sb.hide (HB2.out.trans (hb3.mono HB2.out.size))
  obtain ⟨fa, fn, fc, rfl, hA2⟩ := traced hr2
  have HA2 := Sb.hide hA2
  have HA3 : Hid (E = 0 → RE w3 (.slice ea en ec) (runW m ps).evs) := fun h => (HA.out h).1.below hb3
  clear hb3 c2 hr2 hA2
  by_cases h1 : E = 0
  · by_cases h2 : F = 0
    · have e1 : (E != 0) = false := by simpa using h1
      have e2 : (F != 0) = false := by simpa using h2
      have hx := HA3.out h1
      have hy := (HA2.out h2).1
      have lx := (HA.out h1).2
      have ly := (HA2.out h2).2
      have HT := Sb.hide (trace_two (HV.out h1) ps qs task)
      obtain ⟨lp, hlp⟩ : ∃ l, l = (runW m ps).evs := ⟨_, rfl⟩
      obtain ⟨lq, hlq⟩ : ∃ l, l = (runW m qs).evs := ⟨_, rfl⟩
      rw [← hlp] at hx lx HT
      rw [← hlq] at hy ly HT
      have HX := Sb.hide hx
      have HY := Sb.hide hy
      clear hx hy hlp hlq h1 h2
      go_wp2_with fail
      refine (of_any _ lp task _ HX (by omega)).mono ?_
      rintro e w5 ⟨vx, rfl, hox, hb5⟩
      have HB5 := Sb.hide (HB3.out.trans (hb5.mono HB3.out.size))
      have HY5 := Sb.hide (HY.out.below hb5)
      obtain ⟨xa, xc, rfl⟩ := own_slice hox
      have HRX := Sb.hide (own_re hox)
      clear hox hb5
      go_wp2_with fail
      refine (of_any _ lq task _ HY5 (by omega)).mono ?_
      rintro e w7 ⟨vy, rfl, hoy, hb7⟩
      have HB7 := Sb.hide (HB5.out.trans (hb7.mono HB5.out.size))
      have HRX7 := Sb.hide (HRX.out.below hb7)
      obtain ⟨ya, yc, rfl⟩ := own_slice hoy
      have HRY := Sb.hide (own_re hoy)
      have kx := ofE_len lp task
      have ky := ofE_len lq task
      obtain ⟨OX, hOX⟩ : ∃ l, l = ofE lp task := ⟨_, rfl⟩
      obtain ⟨OY, hOY⟩ : ∃ l, l = ofE lq task := ⟨_, rfl⟩
      rw [← hOX] at HRX7 HT kx ⊢
      rw [← hOY] at HRY HT ky ⊢
      clear hoy hb7 hOX hOY HRX
      by_cases hgt : OY.length < OX.length
      · have hp : OY <+: OX := by
          rcases HT.out with h | h
          · have := h.length_le; omega
          · exact h
        obtain ⟨r1, _, r3⟩ := HRX7.out.take hp
        have HR1 := Sb.hide r1
        obtain ⟨nx, hnx⟩ : ∃ n, n = OX.length := ⟨_, rfl⟩
        obtain ⟨ny, hny⟩ : ∃ n, n = OY.length := ⟨_, rfl⟩
        rw [← hnx] at hgt kx ⊢
        rw [← hny] at hgt ky r3 HR1 HRY ⊢
        have HL : Hid (OY.length ≤ 9223372036854775806) := by unfold Hid; omega
        have i1 : (ny : Int) < (nx : Int) := by omega
        have i2 : (ny : Int) ≤ (nx : Int) := by omega
        have i3 : (ny : Int) ≤ (xc : Int) := by omega
        have i4 : (0 : Int) ≤ (ny : Int) := by omega
        clear hnx hny r1 hp
        go_wp2_with fail
        refine (sameEv_any _ _ OY _ HRY HR1 HL.out).mono ?_
        rintro e w8 ⟨rfl, d8, rfl⟩
        go_wp2
        go_ret
        exact ⟨rfl, below_drewN HB7.out _⟩
      · have hp : OX <+: OY := by
          rcases HT.out with h | h
          · exact h
          · have e := h.eq_of_length (by have := h.length_le; omega)
            rw [e]
            exact List.prefix_refl _
        obtain ⟨r1, _, r3⟩ := HRY.out.take hp
        have HR1 := Sb.hide r1
        obtain ⟨nx, hnx⟩ : ∃ n, n = OX.length := ⟨_, rfl⟩
        obtain ⟨ny, hny⟩ : ∃ n, n = OY.length := ⟨_, rfl⟩
        rw [← hnx] at hgt kx r3 HR1 HRX7 ⊢
        rw [← hny] at hgt ky ⊢
        have HL : Hid (OX.length ≤ 9223372036854775806) := by unfold Hid; omega
        have i1 : ¬ (ny : Int) < (nx : Int) := by omega
        have i2 : (nx : Int) ≤ (ny : Int) := by omega
        have i3 : (nx : Int) ≤ (yc : Int) := by omega
        have i4 : (0 : Int) ≤ (nx : Int) := by omega
        clear hnx hny r1 hp
        go_wp2_with fail
        refine (sameEv_any _ _ OX _ HRX7 HR1 HL.out).mono ?_
        rintro e w8 ⟨rfl, d8, rfl⟩
        go_wp2
        go_ret
        exact ⟨rfl, below_drewN HB7.out _⟩
    · have e1 : (E != 0) = false := by simpa using h1
      have e2 : (F != 0) = true := by simpa using h2
      clear h1 h2
      go_wp2
      go_ret
      exact ⟨rfl, HB3.out⟩
  · have e1 : (E != 0) = true := by simpa using h1
    clear h1
    go_wp2
    go_ret
    exact ⟨rfl, HB3.out⟩
end Go.Proofs.YtomneemdbechgaaGreat.Vw

/- Modules in memory, out of what an argument reads as. -/
namespace Go.Proofs.YtomneemdbechgaaGreat
open Go.RowKit

section
variable {H : Type} {enc : TypeId × Value → H} {w : World} {base : Nat} {spare : Nat → Bool} {held : Bool}

/-- Cells of an element, at an address of the form that the walks read. -/
theorem cells_at {a : Addr} {i n : Nat} {cs : List Value} (hn : 0 < n) (h : w.cells? base (a.add (i * n)) n = some cs) (h0 : a.spot = none) :
    a.block < w.heap.size ∧ ∀ j, j < n → w.cell? ⟨a.block, a.off + i * n + j, none⟩ = cs[j]? := by
  obtain ⟨hb, hl, hc⟩ := World.cells?_some h
  have hadd : ∀ k, a.add k = ⟨a.block, a.off + k, none⟩ := by
    intro k
    unfold Addr.add
    split
    · subst_vars; cases a; simp_all
    · rfl
  have hcell : ∀ j, j < n → w.cell? ⟨a.block, a.off + i * n + j, none⟩ = cs[j]? := by
    intro j hj
    have := hc j hj
    rw [hadd] at this
    rw [← this]
    congr 1
    unfold Addr.add
    split
    · subst_vars; rfl
    · rfl
  refine ⟨?_, hcell⟩
  have h1 := hcell 0 hn
  rw [List.getElem?_eq_getElem (by omega)] at h1
  cases hh : w.heap[a.block]? with
  | none => simp [World.cell?, hh] at h1
  | some o => exact lt_of_block hh

theorem spot_of {a : Addr} {n : Nat} {cs : List Value} (hn : 0 < n) (h : w.cells? base (a.add (0 * n)) n = some cs) : a.spot = none := by
  obtain ⟨hb, hl, hc⟩ := World.cells?_some h
  have h1 := hc 0 hn
  rw [List.getElem?_eq_getElem (by omega)] at h1
  simp only [Nat.zero_mul, Addr.add, if_true] at h1
  unfold World.cell? at h1
  split at h1
  · split at h1
    · simp at h1
    · rename_i hs; simpa using hs
  · simp at h1

theorem list_of {α : Type} {p : Nat → α → Prop} : ∀ (n : Nat), (∀ i, i < n → ∃ y, p i y) → ∃ l : List α, l.length = n ∧ ∀ i y, l[i]? = some y → p i y
  | 0, _ => ⟨[], rfl, fun i y hy => by simp at hy⟩
  | m + 1, hall => by
    obtain ⟨l, h1, h2⟩ := list_of m (fun i hi => hall i (by omega))
    obtain ⟨y, h3⟩ := hall m (by omega)
    refine ⟨l ++ [y], by simp [h1], fun i z hz => ?_⟩
    by_cases hi : i < l.length
    · rw [List.getElem?_append_left hi] at hz; exact h2 i z hz
    · rw [List.getElem?_append_right (by omega)] at hz
      have hi2 : i - l.length = 0 := by
        have := (List.getElem?_eq_some_iff.1 hz).1
        simp at this; omega
      rw [hi2] at hz
      simp at hz
      subst hz
      obtain rfl : i = m := by omega
      exact h3

/-- A slice of whatever lies in n cells each: as a list of what Q says of them. -/
theorem slice_list {α : Type} {t e : TypeId} {n fuel : Nat} {cs : List Value} {x : DataW H × List MemPlace} (Q : Nat → List Value → α → Prop)
    (ht : Tryz.prog.underlying t = some (.slice e)) (hce : Tryz.prog.cellsOf e = n) (hn : 0 < n)
    (hQ : ∀ f cs' x', f < fuel → DataW.trod enc Tryz.prog w base spare held f e cs' = some x' → ∃ y, Q f cs' y)
    (h : DataW.trod enc Tryz.prog w base spare held fuel t cs = some x) :
    ∃ (l : List α) (a : Option Addr) (c : Nat), cs = [.slice a l.length c] ∧ l.length ≤ maxLen ∧ l.length ≤ c ∧
      ∀ i y, l[i]? = some y → ∃ b off cs' f, a = some ⟨b, off, none⟩ ∧ b < w.heap.size ∧ f < fuel ∧ cs'.length = n ∧ Q f cs' y ∧ ∀ j, j < n → w.cell? ⟨b, off + i * n + j, none⟩ = cs'[j]? := by
  rcases DataW.trod_slice ht h with ⟨rfl, _⟩ | ⟨a, len, cap, elems, rest, k, rfl, rfl, _, hb, hl, hm, hlen, hel, _, _⟩
  · exact ⟨[], none, 0, rfl, Nat.zero_le _, Nat.zero_le _, fun i y hy => by simp at hy⟩
  · rw [hce] at hel
    have hall : ∀ i, i < len → ∃ cs' y, w.cells? base (a.add (i * n)) n = some cs' ∧ Q k cs' y := by
      intro i hi
      have := hel i hi
      rw [List.getElem?_eq_getElem (by omega)] at this
      obtain ⟨cs', h1, h2⟩ := Option.bind_eq_some_iff.1 this
      obtain ⟨y, hy⟩ := hQ k cs' _ (by omega) h2
      exact ⟨cs', y, h1, hy⟩
    obtain ⟨l, hll, hlq⟩ := list_of (p := fun i y => ∃ cs', w.cells? base (a.add (i * n)) n = some cs' ∧ Q k cs' y) len (fun i hi => by
      obtain ⟨cs', y, h1, h2⟩ := hall i hi
      exact ⟨y, cs', h1, h2⟩)
    refine ⟨l, some a, cap, by rw [hll], by omega, by omega, fun i y hy => ?_⟩
    have hi := (List.getElem?_eq_some_iff.1 hy).1
    have hsp : a.spot = none := by
      obtain ⟨cs0, y0, h1, _⟩ := hall 0 (by omega)
      exact spot_of hn h1
    obtain ⟨cs', h1, h2⟩ := hlq i y hy
    obtain ⟨h3, h4⟩ := cells_at hn h1 hsp
    exact ⟨a.block, a.off, cs', k, by cases a; simp_all, h3, by omega, (World.cells?_some h1).2.1, h2, h4⟩

theorem two {cs : List Value} (h : cs.length = 2) : ∃ a b, cs = [a, b] := by
  match cs, h with
  | [a, b], _ => exact ⟨a, b, rfl⟩

theorem three {cs : List Value} (h : cs.length = 3) : ∃ a b c, cs = [a, b, c] := by
  match cs, h with
  | [a, b, c], _ => exact ⟨a, b, c, rfl⟩

/-- A field's reading, if the struct reads. -/
theorem field_some {fs : Array Field} {n : Nat} {cs : List Value} {xs : List (DataW H × List MemPlace)} (hl : xs.length = fs.size)
    (h : ∀ (i : Nat) (f : Field), fs[i]? = some f → DataW.trod enc Tryz.prog w base spare held n f.type ((cs.drop f.offset).take (Tryz.prog.cellsOf f.type)) = xs[i]?)
    (i : Nat) (f : Field) (hf : fs[i]? = some f) : ∃ x, DataW.trod enc Tryz.prog w base spare held n f.type ((cs.drop f.offset).take (Tryz.prog.cellsOf f.type)) = some x := by
  have hi : i < fs.size := (Array.getElem?_eq_some_iff.1 hf).1
  exact ⟨xs[i]'(by omega), by rw [h i f hf, List.getElem?_eq_getElem]⟩

theorem six {cs : List Value} (h : cs.length = 6) : ∃ a b c d e f, cs = [a, b, c, d, e, f] := by
  match cs, h with
  | [a, b, c, d, e, f], _ => exact ⟨a, b, c, d, e, f, rfl⟩

theorem cells_box : Tryz.prog.cellsOf 46 = 2 := by kernel_rfl
theorem cells_ins : Tryz.prog.cellsOf 53 = 3 := by kernel_rfl
theorem cells_un : Tryz.prog.cellsOf 57 = 6 := by kernel_rfl
theorem cells_md : Tryz.prog.cellsOf 25 = 2 := by kernel_rfl
theorem cells_int : Tryz.prog.cellsOf 3 = 1 := by kernel_rfl
theorem cells_i64 : Tryz.prog.cellsOf 2 = 1 := by kernel_rfl
theorem cells_ints : Tryz.prog.cellsOf 55 = 1 := by kernel_rfl
theorem cells_code : Tryz.prog.cellsOf 54 = 1 := by kernel_rfl
theorem cells_boxes : Tryz.prog.cellsOf 22 = 1 := by kernel_rfl
theorem cells_units : Tryz.prog.cellsOf 23 = 1 := by kernel_rfl

theorem wf_i64 {n : Int} (h : (Lit.int .i64 n).wf = true) : I64 n := by
  simp only [Lit.wf, Bool.and_eq_true, decide_eq_true_eq] at h
  have e1 : IntKind.i64.min = -9223372036854775808 := by decide
  have e2 : IntKind.i64.max = 9223372036854775807 := by decide
  rw [e1, e2] at h
  exact h

theorem int_open {fuel : Nat} {cs : List Value} {x : DataW H × List MemPlace} (h : DataW.trod enc Tryz.prog w base spare held fuel 3 cs = some x) : ∃ n : Int, I64 n ∧ cs = [.int .i64 n] := by
  obtain ⟨n, hn, _, hw⟩ := DataW.trod_int Tryz.underlying3 h
  exact ⟨n, wf_i64 hw, hn⟩
theorem i64_open {fuel : Nat} {cs : List Value} {x : DataW H × List MemPlace} (h : DataW.trod enc Tryz.prog w base spare held fuel 2 cs = some x) : ∃ n : Int, I64 n ∧ cs = [.int .i64 n] := by
  obtain ⟨n, hn, _, hw⟩ := DataW.trod_int Tryz.underlying2 h
  exact ⟨n, wf_i64 hw, hn⟩

theorem ints_open {fuel : Nat} {cs : List Value} {x : DataW H × List MemPlace} (h : DataW.trod enc Tryz.prog w base spare held fuel 55 cs = some x) :
    ∃ (l : List Int) (a : Option Addr) (c : Nat), cs = [.slice a l.length c] ∧ IntsIn w.heap.size w l a ∧ l.length ≤ 9223372036854775807 ∧ l.length ≤ c := by
  obtain ⟨l, a, c, hcs, hm, hc, hall⟩ := slice_list (n := 1) (fun _ cs' (y : Int) => I64 y ∧ cs' = [.int .i64 y]) Tryz.underlying55 cells_int (by decide) (fun f cs' x' _ hx' => int_open hx') h
  refine ⟨l, a, c, hcs, fun i y hy => ?_, by unfold maxLen at hm; omega, hc⟩
  obtain ⟨b, off, cs', f, he, hb, _, _, ⟨h1, rfl⟩, hcell⟩ := hall i y hy
  exact ⟨h1, b, off, he, hb, by have := hcell 0 (by decide); rw [Nat.mul_one] at this; exact this⟩

theorem box_open {fuel : Nat} {cs : List Value} {x : DataW H × List MemPlace} (h : DataW.trod enc Tryz.prog w base spare held fuel 46 cs = some x) :
    ∃ o : Vf.Bx, (I64 o.ty ∧ I64 o.cap) ∧ cs = [.int .i64 o.ty, .int .i64 o.cap] := by
  obtain ⟨xs, n, rfl, _, hl, hxl, hf⟩ := DataW.trod_struct Tryz.underlying46 h
  rw [cells_box] at hl
  obtain ⟨a, b, rfl⟩ := two hl
  obtain ⟨x0, h0⟩ : ∃ x, DataW.trod enc Tryz.prog w base spare held n 3 (([a, b].drop 0).take (Tryz.prog.cellsOf 3)) = some x := field_some hxl hf 0 _ rfl
  obtain ⟨x1, h1⟩ : ∃ x, DataW.trod enc Tryz.prog w base spare held n 3 (([a, b].drop 1).take (Tryz.prog.cellsOf 3)) = some x := field_some hxl hf 1 _ rfl
  simp only [cells_int] at h0 h1
  obtain ⟨p, p1, p2⟩ := int_open h0
  obtain ⟨q, q1, q2⟩ := int_open h1
  simp at p2 q2
  exact ⟨⟨p, q⟩, ⟨p1, q1⟩, by rw [p2, q2]⟩
theorem ins_open {fuel : Nat} {cs : List Value} {x : DataW H × List MemPlace} (h : DataW.trod enc Tryz.prog w base spare held fuel 53 cs = some x) :
    ∃ o : Vf.Ins, (I64 o.op ∧ I64 o.a ∧ I64 o.n) ∧ cs = [.int .i64 o.op, .int .i64 o.a, .int .i64 o.n] := by
  obtain ⟨xs, n, rfl, _, hl, hxl, hf⟩ := DataW.trod_struct Tryz.underlying53 h
  rw [cells_ins] at hl
  obtain ⟨a, b, c, rfl⟩ := three hl
  obtain ⟨x0, h0⟩ : ∃ x, DataW.trod enc Tryz.prog w base spare held n 3 (([a, b, c].drop 0).take (Tryz.prog.cellsOf 3)) = some x := field_some hxl hf 0 _ rfl
  obtain ⟨x1, h1⟩ : ∃ x, DataW.trod enc Tryz.prog w base spare held n 3 (([a, b, c].drop 1).take (Tryz.prog.cellsOf 3)) = some x := field_some hxl hf 1 _ rfl
  obtain ⟨x2, h2⟩ : ∃ x, DataW.trod enc Tryz.prog w base spare held n 2 (([a, b, c].drop 2).take (Tryz.prog.cellsOf 2)) = some x := field_some hxl hf 2 _ rfl
  simp only [cells_int, cells_i64] at h0 h1 h2
  obtain ⟨p, p1, p2⟩ := int_open h0
  obtain ⟨q, q1, q2⟩ := int_open h1
  obtain ⟨r, r1, r2⟩ := i64_open h2
  simp at p2 q2 r2
  exact ⟨⟨p, q, r⟩, ⟨p1, q1, r1⟩, by rw [p2, q2, r2]⟩
theorem code_open {fuel : Nat} {cs : List Value} {x : DataW H × List MemPlace} (h : DataW.trod enc Tryz.prog w base spare held fuel 54 cs = some x) :
    ∃ (l : List Vf.Ins) (a : Option Addr) (c : Nat), cs = [.slice a l.length c] ∧ CodeIn w.heap.size w l a ∧ l.length ≤ 9223372036854775807 ∧ l.length ≤ c := by
  obtain ⟨l, a, c, hcs, hm, hc, hall⟩ := slice_list (n := 3) (fun _ cs' (y : Vf.Ins) => (I64 y.op ∧ I64 y.a ∧ I64 y.n) ∧ cs' = [.int .i64 y.op, .int .i64 y.a, .int .i64 y.n]) Tryz.underlying54 cells_ins (by decide) (fun f cs' x' _ hx' => ins_open hx') h
  refine ⟨l, a, c, hcs, fun i y hy => ?_, by unfold maxLen at hm; omega, hc⟩
  obtain ⟨b, off, cs', f, he, hb, _, _, ⟨⟨h1, h2, h3⟩, rfl⟩, hcell⟩ := hall i y hy
  exact ⟨h1, h2, h3, b, off, he, hb, hcell 0 (by decide), hcell 1 (by decide), hcell 2 (by decide)⟩
theorem unit_open {fuel : Nat} {cs : List Value} {x : DataW H × List MemPlace} (h : DataW.trod enc Tryz.prog w base spare held fuel 57 cs = some x) :
    ∃ u : Vf.Un, ∃ al cl ac cc, UnIn w.heap.size w u al ac cl cc ∧ cs = [.int .i64 u.kind, .int .i64 u.params, .slice al u.locals.length cl, .int .i64 u.result, .int .i64 u.takes, .slice ac u.code.length cc] := by
  obtain ⟨xs, n, rfl, _, hl, hxl, hf⟩ := DataW.trod_struct Tryz.underlying57 h
  rw [cells_un] at hl
  obtain ⟨a, b, c, d, e, f, rfl⟩ := six hl
  obtain ⟨x0, h0⟩ : ∃ x, DataW.trod enc Tryz.prog w base spare held n 3 (([a, b, c, d, e, f].drop 0).take (Tryz.prog.cellsOf 3)) = some x := field_some hxl hf 0 _ rfl
  obtain ⟨x1, h1⟩ : ∃ x, DataW.trod enc Tryz.prog w base spare held n 3 (([a, b, c, d, e, f].drop 1).take (Tryz.prog.cellsOf 3)) = some x := field_some hxl hf 1 _ rfl
  obtain ⟨x2, h2⟩ : ∃ x, DataW.trod enc Tryz.prog w base spare held n 55 (([a, b, c, d, e, f].drop 2).take (Tryz.prog.cellsOf 55)) = some x := field_some hxl hf 2 _ rfl
  obtain ⟨x3, h3⟩ : ∃ x, DataW.trod enc Tryz.prog w base spare held n 3 (([a, b, c, d, e, f].drop 3).take (Tryz.prog.cellsOf 3)) = some x := field_some hxl hf 3 _ rfl
  obtain ⟨x4, h4⟩ : ∃ x, DataW.trod enc Tryz.prog w base spare held n 3 (([a, b, c, d, e, f].drop 4).take (Tryz.prog.cellsOf 3)) = some x := field_some hxl hf 4 _ rfl
  obtain ⟨x5, h5⟩ : ∃ x, DataW.trod enc Tryz.prog w base spare held n 54 (([a, b, c, d, e, f].drop 5).take (Tryz.prog.cellsOf 54)) = some x := field_some hxl hf 5 _ rfl
  simp only [cells_int, cells_ints, cells_code] at h0 h1 h2 h3 h4 h5
  obtain ⟨p0, i0, e0⟩ := int_open h0
  obtain ⟨p1, i1, e1⟩ := int_open h1
  obtain ⟨p2, a2, c2, e2, i2, l2, k2⟩ := ints_open h2
  obtain ⟨p3, i3, e3⟩ := int_open h3
  obtain ⟨p4, i4, e4⟩ := int_open h4
  obtain ⟨p5, a5, c5, e5, i5, l5, k5⟩ := code_open h5
  simp at e0 e1 e2 e3 e4 e5
  exact ⟨⟨p0, p1, p2, p3, p4, p5⟩, a2, c2, a5, c5, ⟨⟨i0, i1, i3, i4⟩, ⟨l2, l5⟩, ⟨k2, k5⟩, i2, i5⟩, by rw [e0, e1, e2, e3, e4, e5]⟩

/-- WHAT AN ARGUMENT Module IS. -/
theorem mod_open {fuel : Nat} {cs : List Value} {x : DataW H × List MemPlace} (h : DataW.trod enc Tryz.prog w base spare held fuel 25 cs = some x) :
    ∃ m : Vf.Md, ∃ ab cb au cu, cs = [.slice ab m.boxes.length cb, .slice au m.units.length cu] ∧ ModIn w.heap.size w m ab au := by
  obtain ⟨xs, n, rfl, _, hl, hxl, hf⟩ := DataW.trod_struct Tryz.underlying25 h
  rw [cells_md] at hl
  obtain ⟨p, q, rfl⟩ := two hl
  obtain ⟨x0, h0⟩ : ∃ x, DataW.trod enc Tryz.prog w base spare held n 22 (([p, q].drop 0).take (Tryz.prog.cellsOf 22)) = some x := field_some hxl hf 0 _ rfl
  obtain ⟨x1, h1⟩ : ∃ x, DataW.trod enc Tryz.prog w base spare held n 23 (([p, q].drop 1).take (Tryz.prog.cellsOf 23)) = some x := field_some hxl hf 1 _ rfl
  simp only [cells_boxes, cells_units] at h0 h1
  obtain ⟨l, a, c, hcs, hm, _, hall⟩ := slice_list (n := 2) (fun _ cs' (y : Vf.Bx) => (I64 y.ty ∧ I64 y.cap) ∧ cs' = [.int .i64 y.ty, .int .i64 y.cap]) Tryz.underlying22 cells_box (by decide) (fun f cs' x' _ hx' => box_open hx') h0
  obtain ⟨l2, a2, c2, hcs2, hm2, _, hall2⟩ := slice_list (n := 6) (fun _ cs' (u : Vf.Un) => ∃ al cl ac cc, UnIn w.heap.size w u al ac cl cc ∧ cs' = [.int .i64 u.kind, .int .i64 u.params, .slice al u.locals.length cl, .int .i64 u.result, .int .i64 u.takes, .slice ac u.code.length cc]) Tryz.underlying23 cells_un (by decide) (fun f cs' x' _ hx' => unit_open hx') h1
  simp at hcs hcs2
  refine ⟨⟨l, l2⟩, a, c, a2, c2, by rw [hcs, hcs2], ⟨by unfold maxLen at hm; omega, by unfold maxLen at hm2; omega⟩, fun i y hy => ?_, fun i y hy => ?_⟩
  · obtain ⟨b, off, cs', f, he, hb, _, _, ⟨⟨h1, h2⟩, rfl⟩, hcell⟩ := hall i y hy
    exact ⟨h1, h2, b, off, he, hb, hcell 0 (by decide), hcell 1 (by decide)⟩
  · obtain ⟨b, off, cs', f, he, hb, _, _, ⟨al, cl, ac, cc, hu, rfl⟩, hcell⟩ := hall2 i y hy
    exact ⟨b, off, al, cl, ac, cc, he, hb, hu, hcell 0 (by decide), hcell 1 (by decide), hcell 2 (by decide), hcell 3 (by decide), hcell 4 (by decide), hcell 5 (by decide)⟩

end
end Go.Proofs.YtomneemdbechgaaGreat

