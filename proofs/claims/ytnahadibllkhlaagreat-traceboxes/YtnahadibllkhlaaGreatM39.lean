/- The walk of TraceKahn: KAHN, OF ALL THAT A TASK DOES. -/
import Derived.Test.YtnahadibllkhlaaGreatM38
namespace Go.Proofs.YtnahadibllkhlaaGreat.Vw
open Go.RowKit Vf Vm

/-- What Trace answers, in one form. -/
theorem traced {m : Md} {ps : List Pk} {E : Int} {w2 : World} {e : Ending} (hr : (E ≠ 0 ∧ e = .returned (.tuple #[.slice none 0 0, .int .i64 E])) ∨ (E = 0 ∧ ∃ v, e = .returned (.tuple #[v, .int .i64 0]) ∧ w2.ownsRow 0 43 4 v (runW m ps).evs.length (evCells (runW m ps).evs) ∧ (runW m ps).evs.length ≤ 40000)) :
    ∃ a n c, e = .returned (.tuple #[.slice a n c, .int .i64 E]) ∧ (E = 0 → RE w2 (.slice a n c) (runW m ps).evs ∧ (runW m ps).evs.length ≤ 40000) := by
  rcases hr with ⟨h0, rfl⟩ | ⟨rfl, v, rfl, h1, h2⟩
  · exact ⟨none, 0, 0, rfl, fun e => absurd e h0⟩
  · obtain ⟨a, c, rfl⟩ := own_slice h1
    exact ⟨a, _, c, rfl, fun _ => ⟨own_re h1, h2⟩⟩
/-- The beginning of what can be read. -/
theorem RE.take {w : World} {a : Option Addr} {n c : Nat} {l l' : List (Nat × Ev)} (h : RE w (.slice a n c) l') (hp : l <+: l') : RE w (.slice a l.length c) l ∧ n = l'.length ∧ l.length ≤ c := by
  obtain ⟨a', c', e, hc, hr⟩ := h
  simp only [Value.slice.injEq] at e
  obtain ⟨rfl, rfl, rfl⟩ := e
  have hle := hp.length_le
  refine ⟨⟨a, c, rfl, by omega, fun i p hi => hr i p ?_⟩, rfl, by omega⟩
  obtain ⟨r, hr'⟩ := hp
  rw [← hr', List.getElem?_append_left (List.getElem?_eq_some_iff.1 hi).1]
  exact hi

set_option maxRecDepth 100000 in
set_option maxHeartbeats 2000000 in
theorem tkahn_any (m : Md) (ab au : Option Addr) (cb cu : Nat) (ps : List Pk) (a : Option Addr) (cap : Nat) (qs : List Pk) (a2 : Option Addr) (cap2 : Nat) (w : World) (hmd : ModIn w.heap.size w m ab au) (hps : PkIn w.heap.size w ps a) (hqs : PkIn w.heap.size w qs a2) (task : Int) :
    Calls Tryz.prog 3 #[mdV m ab au cb cu, .slice a ps.length cap, .slice a2 qs.length cap2, .int .i64 task] w fun e w' => e = .returned (.bool true) ∧ Below w.heap.size w w' := by
  have HMD := Sb.hide hmd
  have HPS := Sb.hide hps
  have HQS := Sb.hide hqs
  obtain ⟨E, hE⟩ : ∃ E, E = wrongE m ps.length := ⟨_, rfl⟩
  obtain ⟨F, hF⟩ : ∃ E, E = wrongE m qs.length := ⟨_, rfl⟩
  have HV : Hid (E = 0 → verify m = (0, 0, 0)) := fun h => (wrongE_zero (by rw [← hE]; exact h)).1
  have HE := Sb.hide hE
  have HF := Sb.hide hF
  have HB0 : Hid (Below w.heap.size w (w.alloc (mdB m ab au cb cu))) := (Below.refl _ w).alloc (Nat.le_refl _) _
  have HM0 : Hid ((w.alloc (mdB m ab au cb cu)).heap[w.heap.size]? = some (mdB m ab au cb cu)) := heap_alloc_new w _
  clear hmd hps hqs hE hF
  go_enter Tryz.func3, Tryz.ntmps3
  go_wp2_with fail
  generalize w.alloc (mdB m ab au cb cu) = W0 at *
  refine (alive_any _).mono ?_
  rintro e w1 ⟨rfl, hb1⟩
  have HB1 := Sb.hide (HB0.out.trans (hb1.mono HB0.out.size))
  have HM1 := Sb.hide ((hb1.block _ (lt_of_block HM0.out)).trans HM0.out)
  have c1 := md_cells HM1.out
  clear hb1
  go_wp2_with fail
  refine (Trace_any m ab au cb cu w.heap.size ps a cap _ (Sb.hide (HMD.out.low HB1.out.block)) (Sb.hide (HPS.out.low HB1.out.block)) HB1.out.size E HE).mono ?_
  rintro e w2 ⟨hb2, hr1⟩
  have HB2 := Sb.hide (HB1.out.trans (hb2.mono HB1.out.size))
  have HM2 := Sb.hide ((hb2.block _ (lt_of_block HM1.out)).trans HM1.out)
  have c2 := md_cells HM2.out
  obtain ⟨ea, en, ec, rfl, hA⟩ := traced hr1
  have HA := Sb.hide hA
  clear hb2 c1 hr1 hA
  go_wp2_with fail
  refine (Trace_any m ab au cb cu w.heap.size qs a2 cap2 _ (Sb.hide (HMD.out.low HB2.out.block)) (Sb.hide (HQS.out.low HB2.out.block)) HB2.out.size F HF).mono ?_
  rintro e w3 ⟨hb3, hr2⟩
  have HB3 := Sb.hide (HB2.out.trans (hb3.mono HB2.out.size))
  obtain ⟨fa, fn, fc, rfl, hA2⟩ := traced hr2
  have HA2 := Sb.hide hA2
  have HA3 : Hid (E = 0 → RE w3 (.slice ea en ec) (runW m ps).evs) := fun h => (HA.out h).1.below hb3
  clear hb3 c2 hr2 hA2
  by_cases h1 : E = 0
  · by_cases h2 : F = 0
    · have e1 : (E != 0) = false := by simpa using h1
      have e2 : (F != 0) = false := by simpa using h2
      have hx := HA3.out h1
      have hy := (HA2.out h2).1
      have lx := (HA.out h1).2
      have ly := (HA2.out h2).2
      have HT := Sb.hide (trace_two (HV.out h1) ps qs task)
      obtain ⟨lp, hlp⟩ : ∃ l, l = (runW m ps).evs := ⟨_, rfl⟩
      obtain ⟨lq, hlq⟩ : ∃ l, l = (runW m qs).evs := ⟨_, rfl⟩
      rw [← hlp] at hx lx HT
      rw [← hlq] at hy ly HT
      have HX := Sb.hide hx
      have HY := Sb.hide hy
      clear hx hy hlp hlq h1 h2
      go_wp2_with fail
      refine (of_any _ lp task _ HX (by omega)).mono ?_
      rintro e w5 ⟨vx, rfl, hox, hb5⟩
      have HB5 := Sb.hide (HB3.out.trans (hb5.mono HB3.out.size))
      have HY5 := Sb.hide (HY.out.below hb5)
      obtain ⟨xa, xc, rfl⟩ := own_slice hox
      have HRX := Sb.hide (own_re hox)
      clear hox hb5
      go_wp2_with fail
      refine (of_any _ lq task _ HY5 (by omega)).mono ?_
      rintro e w7 ⟨vy, rfl, hoy, hb7⟩
      have HB7 := Sb.hide (HB5.out.trans (hb7.mono HB5.out.size))
      have HRX7 := Sb.hide (HRX.out.below hb7)
      obtain ⟨ya, yc, rfl⟩ := own_slice hoy
      have HRY := Sb.hide (own_re hoy)
      have kx := ofE_len lp task
      have ky := ofE_len lq task
      obtain ⟨OX, hOX⟩ : ∃ l, l = ofE lp task := ⟨_, rfl⟩
      obtain ⟨OY, hOY⟩ : ∃ l, l = ofE lq task := ⟨_, rfl⟩
      rw [← hOX] at HRX7 HT kx ⊢
      rw [← hOY] at HRY HT ky ⊢
      clear hoy hb7 hOX hOY HRX
      by_cases hgt : OY.length < OX.length
      · have hp : OY <+: OX := by
          rcases HT.out with h | h
          · have := h.length_le; omega
          · exact h
        obtain ⟨r1, _, r3⟩ := HRX7.out.take hp
        have HR1 := Sb.hide r1
        obtain ⟨nx, hnx⟩ : ∃ n, n = OX.length := ⟨_, rfl⟩
        obtain ⟨ny, hny⟩ : ∃ n, n = OY.length := ⟨_, rfl⟩
        rw [← hnx] at hgt kx ⊢
        rw [← hny] at hgt ky r3 HR1 HRY ⊢
        have HL : Hid (OY.length ≤ 9223372036854775806) := by unfold Hid; omega
        have i1 : (ny : Int) < (nx : Int) := by omega
        have i2 : (ny : Int) ≤ (nx : Int) := by omega
        have i3 : (ny : Int) ≤ (xc : Int) := by omega
        have i4 : (0 : Int) ≤ (ny : Int) := by omega
        clear hnx hny r1 hp
        go_wp2_with fail
        refine (sameEv_any _ _ OY _ HRY HR1 HL.out).mono ?_
        rintro e w8 ⟨rfl, d8, rfl⟩
        go_wp2
        go_ret
        exact ⟨rfl, below_drewN HB7.out _⟩
      · have hp : OX <+: OY := by
          rcases HT.out with h | h
          · exact h
          · have e := h.eq_of_length (by have := h.length_le; omega)
            rw [e]
            exact List.prefix_refl _
        obtain ⟨r1, _, r3⟩ := HRY.out.take hp
        have HR1 := Sb.hide r1
        obtain ⟨nx, hnx⟩ : ∃ n, n = OX.length := ⟨_, rfl⟩
        obtain ⟨ny, hny⟩ : ∃ n, n = OY.length := ⟨_, rfl⟩
        rw [← hnx] at hgt kx r3 HR1 HRX7 ⊢
        rw [← hny] at hgt ky ⊢
        have HL : Hid (OX.length ≤ 9223372036854775806) := by unfold Hid; omega
        have i1 : ¬ (ny : Int) < (nx : Int) := by omega
        have i2 : (nx : Int) ≤ (ny : Int) := by omega
        have i3 : (nx : Int) ≤ (yc : Int) := by omega
        have i4 : (0 : Int) ≤ (nx : Int) := by omega
        clear hnx hny r1 hp
        go_wp2_with fail
        refine (sameEv_any _ _ OX _ HRX7 HR1 HL.out).mono ?_
        rintro e w8 ⟨rfl, d8, rfl⟩
        go_wp2
        go_ret
        exact ⟨rfl, below_drewN HB7.out _⟩
    · have e1 : (E != 0) = false := by simpa using h1
      have e2 : (F != 0) = true := by simpa using h2
      clear h1 h2
      go_wp2
      go_ret
      exact ⟨rfl, HB3.out⟩
  · have e1 : (E != 0) = true := by simpa using h1
    clear h1
    go_wp2
    go_ret
    exact ⟨rfl, HB3.out⟩
end Go.Proofs.YtnahadibllkhlaaGreat.Vw

/- Worlds to be read; the walks of Same, SameAll, SameEnds, and Same of worlds. -/
namespace Go.Proofs.YtnahadibllkhlaaGreat.Vw
open Go.RowKit Vf Vm

/-- Words that can be read. -/
def RI (w : World) (v : Value) (l : List Int) : Prop := ∃ a c, v = .slice a l.length c ∧ l.length ≤ c ∧ ∀ (i : Nat) x, l[i]? = some x → ∃ b off, a = some ⟨b, off, none⟩ ∧ w.cell? ⟨b, off + i, none⟩ = some (.int .i64 x)
/-- Rows of words that can be read. -/
def RS (w : World) (v : Value) (ls : List (List Int)) : Prop := ∃ a c, v = .slice a ls.length c ∧ ∀ (i : Nat) l, ls[i]? = some l → ∃ b off u, a = some ⟨b, off, none⟩ ∧ w.cell? ⟨b, off + i, none⟩ = some u ∧ RI w u l
theorem own_reads {w : World} {B n : Nat} {e : TypeId} {v : Value} {ws : List Int} (h : w.ownsRow B e 1 v n (ints ws)) : RI w v ws := by
  have hl : ws.length = n := by have := h.1; simpa using this
  subst hl
  rcases h.2 with ⟨rfl, h0⟩ | ⟨g, cap, cur, rfl, _, _, hc, _⟩
  · refine ⟨none, 0, by rw [h0], by omega, fun i x hx => ?_⟩
    have := (List.getElem?_eq_some_iff.1 hx).1
    omega
  · refine ⟨_, cap, rfl, hc, fun i x hx => ?_⟩
    obtain ⟨g', e', hc'⟩ := own_cell h (k := i) (u := .int .i64 x) (by rw [List.getElem?_map, hx]; rfl)
    cases e'
    exact ⟨g, 0, rfl, by rw [Nat.zero_add]; exact hc'⟩
theorem RI.below {w w' : World} {v : Value} {l : List Int} (h : RI w v l) (hb : Below w.heap.size w w') : RI w' v l := by
  obtain ⟨a, c, e, hc, hr⟩ := h
  refine ⟨a, c, e, hc, fun i x hx => ?_⟩
  obtain ⟨b, off, e2, hcell⟩ := hr i x hx
  exact ⟨b, off, e2, (cell_eq (hb.block b (World.block_lt_of_cell? w _ hcell)) _).trans hcell⟩
theorem RS.below {w w' : World} {v : Value} {ls : List (List Int)} (h : RS w v ls) (hb : Below w.heap.size w w') : RS w' v ls := by
  obtain ⟨a, c, e, hr⟩ := h
  refine ⟨a, c, e, fun i x hx => ?_⟩
  obtain ⟨b, off, u, e2, hcell, hi⟩ := hr i x hx
  exact ⟨b, off, u, e2, (cell_eq (hb.block b (World.block_lt_of_cell? w _ hcell)) _).trans hcell, hi.below hb⟩
set_option maxHeartbeats 400000 in
theorem same_any (v1 v2 : Value) (l : List Int) (w : World) (h1 : Hid (RI w v1 l)) (h2 : Hid (RI w v2 l)) (hn : l.length ≤ 9223372036854775806) :
    Calls Tryz.prog 12 #[v1, v2] w fun e w' => e = .returned (.bool true) ∧ ∃ d, w' = w.drewN d := by
  obtain ⟨a1, c1, rfl, _, r1⟩ := h1.out
  obtain ⟨a2, c2, rfl, _, r2⟩ := h2.out
  have HR1 := Sb.hide r1
  have HR2 := Sb.hide r2
  clear r1 r2 h1 h2
  have eq0 : ((l.length : Int) != (l.length : Int)) = false := by simp
  go_enter Tryz.func12, Tryz.ntmps12
  go_wp2
  go_loopw [13] (fun i wr => ∃ k d : Nat, k ≤ l.length ∧ i = .int .i64 k ∧ wr = w.drewN d) (fun i _ => l.length - (intOf i).toNat)
  case atStart => exact ⟨0, 0, Nat.zero_le _, rfl, rfl⟩
  case round =>
    obtain ⟨k, d, hk, rfl, rfl⟩ := hrel
    by_cases hlt : k < l.length
    · obtain ⟨x, hx⟩ : ∃ x, l[k]? = some x := ⟨_, List.getElem?_eq_getElem hlt⟩
      obtain ⟨b1, o1, rfl, x1⟩ := HR1.out k x hx
      obtain ⟨b2, o2, rfl, x2⟩ := HR2.out k x hx
      have eqx : (x != x) = false := by simp
      have b0 : (0 : Int) ≤ (k : Int) := by omega
      have b1 : (k : Int) < (l.length : Int) := by omega
      clear hx
      go_wp2
      go_quiet (fail)
      go_wp2
      go_roundw
      case rel => exact ⟨k + 1, _, by omega, by go_num, rfl⟩
      case measure => simp [intOf]; omega
    · go_wp2
      go_ret
      exact ⟨rfl, d, rfl⟩

set_option maxRecDepth 100000 in
set_option maxHeartbeats 1000000 in
theorem sameAll_any (v1 v2 : Value) (ls : List (List Int)) (w : World) (h1 : Hid (RS w v1 ls)) (h2 : Hid (RS w v2 ls)) (hn : ls.length ≤ 9223372036854775806) (hm : Hid (∀ l ∈ ls, l.length ≤ 9223372036854775806)) :
    Calls Tryz.prog 11 #[v1, v2] w fun e w' => e = .returned (.bool true) ∧ Below w.heap.size w w' := by
  obtain ⟨a1, c1, rfl, r1⟩ := h1.out
  obtain ⟨a2, c2, rfl, r2⟩ := h2.out
  have HR1 := Sb.hide r1
  have HR2 := Sb.hide r2
  clear r1 r2 h1 h2
  have eq0 : ((ls.length : Int) != (ls.length : Int)) = false := by simp
  go_enter Tryz.func11, Tryz.ntmps11
  go_wp2
  go_loopw [13] (fun i wr => ∃ k : Nat, k ≤ ls.length ∧ i = .int .i64 k ∧ Below w.heap.size w wr) (fun i _ => ls.length - (intOf i).toNat)
  case atStart => exact ⟨0, Nat.zero_le _, rfl, .refl _ _⟩
  case round =>
    obtain ⟨k, hk, rfl, hb⟩ := hrel
    have HB := Sb.hide hb
    clear hb
    by_cases hlt : k < ls.length
    · obtain ⟨l, hl⟩ : ∃ x, ls[k]? = some x := ⟨_, List.getElem?_eq_getElem hlt⟩
      obtain ⟨b1, o1, u1, rfl, x1, q1⟩ := HR1.out k l hl
      obtain ⟨b2, o2, u2, rfl, x2, q2⟩ := HR2.out k l hl
      have HQ : Hid (∀ W, Below w.heap.size w W → RI W u1 l ∧ RI W u2 l) := fun W hW => ⟨q1.below hW, q2.below hW⟩
      have hz1 := World.block_lt_of_cell? w _ x1
      have hz2 := World.block_lt_of_cell? w _ x2
      have HX : Hid (∀ W, Below w.heap.size w W → W.cell? ⟨b1, o1 + k, none⟩ = some u1 ∧ W.cell? ⟨b2, o2 + k, none⟩ = some u2) := fun W hW => ⟨(cell_eq (hW.block b1 hz1) _).trans x1, (cell_eq (hW.block b2 hz2) _).trans x2⟩
      obtain ⟨y1, y2⟩ := HX.out _ HB.out
      have hll := hm.out l (List.mem_of_getElem? hl)
      have i0 : (0 : Int) ≤ (k : Int) := by omega
      have i1 : (k : Int) < (ls.length : Int) := by omega
      clear hl q1 q2 x1 x2
      go_wp2
      go_region_held3 (fun w' => w'.cell? ⟨b1, o1 + k, none⟩ = some u1 ∧ w'.cell? ⟨b2, o2 + k, none⟩ = some u2) (go_keep) ((go_at_call 12; refine (same_any u1 u2 l _ (Sb.hide (HQ.out _ HB.out.drew).1) (Sb.hide (HQ.out _ HB.out.drew).2) hll).mono ?_; rintro e w' ⟨rfl, d2, rfl⟩; have HB2 : Hid (Below w.heap.size w ((wr.drew).drewN d2)) := (by exact below_drewN HB.out.drew d2); have y1 := (HX.out _ HB2.out).1; have y2 := (HX.out _ HB2.out).2))
      go_wp2
      go_roundw
      case rel => exact ⟨k + 1, by omega, by go_num, below_drewN HB.out _⟩
      case measure => simp [intOf]; omega
    · go_wp2
      go_ret
      exact ⟨rfl, HB.out⟩

/-- A world's end, to be read. -/
structure WRd (w : World) (m : Md) (ts : List Tk) (x : List Bq) (vE vB : Value) : Prop where
  ends : ∃ a c, vE = .slice a ts.length c ∧ ∀ (i : Nat) t, ts[i]? = some t → ∃ b off vo, a = some ⟨b, off, none⟩ ∧ w.cell? ⟨b, off + i * 4, none⟩ = some (.int .i64 (stat mbX m t x).1) ∧ w.cell? ⟨b, off + i * 4 + 1, none⟩ = some (.int .i64 (stat mbX m t x).2) ∧ w.cell? ⟨b, off + i * 4 + 2, none⟩ = some (.int .i64 t.trap) ∧ w.cell? ⟨b, off + i * 4 + 3, none⟩ = some vo ∧ RI w vo t.out
  boxes : RS w vB (x.map (·.ws))
theorem WRd.below {w w' : World} {m : Md} {ts : List Tk} {x : List Bq} {vE vB : Value} (h : WRd w m ts x vE vB) (hb : Below w.heap.size w w') : WRd w' m ts x vE vB := by
  obtain ⟨a, c, e, hr⟩ := h.ends
  refine ⟨⟨a, c, e, fun i t ht => ?_⟩, h.boxes.below hb⟩
  obtain ⟨b, off, vo, e2, h0, h1, h2, h3, h4⟩ := hr i t ht
  have hk := cell_eq (hb.block b (World.block_lt_of_cell? w _ h0))
  exact ⟨b, off, vo, e2, (hk _).trans h0, (hk _).trans h1, (hk _).trans h2, (hk _).trans h3, h4.below hb⟩
theorem enCells_len (m : Md) (W : Wd) (ov : Nat → Value) : ∀ n, (enCells m W ov n).length = n * 4
  | 0 => rfl
  | n + 1 => by rw [enCells_succ, List.length_append, enCells_len m W ov n]; simp [enc]; omega
theorem enCells_at (m : Md) (W : Wd) (ov : Nat → Value) : ∀ (n i j : Nat), i < n → j < 4 → (enCells m W ov n)[i * 4 + j]? = (enc m W ov i)[j]?
  | n + 1, i, j, hi, hj => by
    rw [enCells_succ]
    by_cases e : i = n
    · subst e
      rw [List.getElem?_append_right (by rw [enCells_len]; omega), enCells_len]
      congr 1
      omega
    · rw [List.getElem?_append_left (by rw [enCells_len]; omega)]
      exact enCells_at m W ov n i j (by omega) hj
theorem EnIn.reads {m : Md} {W : Wd} {C : Nat} {w : World} {vE vB : Value} {nb : Nat} {ov bv : Nat → Value} (h : EnIn m W C w vE vB W.ts.length nb ov bv) (hx : W.x.length = nb) : WRd w m W.ts W.x vE vB := by
  obtain ⟨ea, ec, rfl⟩ := own_slice h.ends
  obtain ⟨ba, bc, rfl⟩ := own_slice h.bxs
  refine ⟨⟨ea, ec, rfl, fun i t ht => ?_⟩, ⟨ba, bc, by simp [hx], fun i l hl => ?_⟩⟩
  · have hi := (List.getElem?_eq_some_iff.1 ht).1
    have etk : W.tk (i : Int) = t := by simp [Wd.tk, ht]
    have ho := h.outs i hi
    rw [etk] at ho
    obtain ⟨g, rfl, c0⟩ := own_cellN h.ends (enCells_at m W ov W.ts.length i 0 hi (by omega))
    obtain ⟨g1, e1, c1⟩ := own_cellN h.ends (enCells_at m W ov W.ts.length i 1 hi (by omega))
    cases e1
    obtain ⟨g1, e1, c2⟩ := own_cellN h.ends (enCells_at m W ov W.ts.length i 2 hi (by omega))
    cases e1
    obtain ⟨g1, e1, c3⟩ := own_cellN h.ends (enCells_at m W ov W.ts.length i 3 hi (by omega))
    cases e1
    rw [etk] at c0 c1 c2
    simp only [Nat.add_zero] at c0 c1 c2 c3 ⊢
    exact ⟨g, 0, ov i, rfl, by simpa using c0, by simpa using c1, by simpa using c2, by simpa using c3, own_reads ho⟩
  · rw [List.getElem?_map] at hl
    cases hq : W.x[i]? with
    | none => rw [hq] at hl; cases hl
    | some q =>
      rw [hq] at hl
      cases hl
      have hi := (List.getElem?_eq_some_iff.1 hq).1
      obtain ⟨g, e, hc⟩ := own_cell h.bxs (k := i) (u := bv i) (by simp [svs, show i < nb by omega])
      exact ⟨g, 0, bv i, e, by rw [Nat.zero_add]; exact hc, own_reads (h.words i q (by omega) hq)⟩
end Go.Proofs.YtnahadibllkhlaaGreat.Vw

/- For TraceWorld: a task's events, gone through. -/
namespace Go.Proofs.YtnahadibllkhlaaGreat.Vw
open Go.RowKit Vf Vm

abbrev enO (s b t : Int) (vo : Value) : Obj := .cells #[.int .i64 s, .int .i64 b, .int .i64 t, vo] 50 (0, 0)
/-- What a task has put out with its first j events. -/
def outs (log : List Ev) (j : Nat) : List Int := ((log.take j).filter fun e => decide (e.kind = 1)).map (·.v)
theorem outs_succ {log : List Ev} {j : Nat} {e : Ev} (h : log[j]? = some e) : outs log (j + 1) = outs log j ++ if e.kind = 1 then [e.v] else [] := by
  unfold outs
  rw [List.take_add_one, h, List.filter_append, List.map_append]
  congr 1
  by_cases k : e.kind = 1
  · simp [k]
  · simp [k]
theorem outs_len (log : List Ev) (j : Nat) : (outs log j).length ≤ j := by
  unfold outs
  rw [List.length_map]
  refine Nat.le_trans (List.length_filter_le _ _) ?_
  simp
  omega
def ev0 : Ev := ⟨0, 0, 0⟩
/-- The last one of the first j events. -/
def lastE (log : List Ev) : Nat → Ev
  | 0 => ev0
  | j + 1 => (log[j]?).getD ev0
def lastN (o : Nat) : Nat → Int
  | 0 => 0
  | _ + 1 => o
/-- What holds at the head of the inner loop. -/
structure TwAt (Wb : World) (o : Nat) (log : List Ev) (vy : Value) (en : Obj) (Lb C : Nat) (j : Nat) (vo : Value) (wr : World) : Prop where
  le : j ≤ log.length
  below : Below Wb.heap.size Wb wr
  row : wr.ownsRow Wb.heap.size 2 1 vo (outs log j).length (ints (outs log j))
  last : wr.heap[Lb]? = some (evO (lastN o j) (lastE log j))
  ends : wr.heap[Wb.heap.size]? = some en
  evs : wr.ownsRow C 43 4 vy log.length (evCells (log.map fun e => (o, e)))
/-- How a task stands, by its last event. -/
theorem jn_last {t : Tk} (h : Jn t) (m : Md) (x : List Bq) : ((stat mbX m t x).1 = 4 ↔ (lastE t.log t.log.length).kind = 4) ∧ ((stat mbX m t x).1 = 5 ↔ (lastE t.log t.log.length).kind = 5) ∧ ((stat mbX m t x).1 = 5 → (lastE t.log t.log.length).v = t.trap) := by
  have last : ∀ (l : List Ev) (e : Ev), lastE (l ++ [e]) (l ++ [e]).length = e := fun l e => by
    rw [List.length_append]
    simp [lastE]
  rcases h.st with ⟨h0, hp⟩ | ⟨h0, l, e, hp⟩ | ⟨h0, l, e, hp⟩
  · have hs : (stat mbX m t x).1 = 1 ∨ (stat mbX m t x).1 = 2 ∨ (stat mbX m t x).1 = 3 := by
      unfold stat
      rw [if_neg (by omega)]
      split
      · exact .inr (.inl rfl)
      · split
        · exact .inr (.inr rfl)
        · exact .inl rfl
    have hk : (lastE t.log t.log.length).kind ≠ 4 ∧ (lastE t.log t.log.length).kind ≠ 5 := by
      cases hl : t.log.length with
      | zero => simp [lastE, ev0]
      | succ j =>
        obtain ⟨e, he⟩ : ∃ e, t.log[j]? = some e := ⟨_, List.getElem?_eq_getElem (by omega)⟩
        simp only [lastE, he, Option.getD_some]
        exact hp e (List.mem_of_getElem? he)
    omega
  · have hs : (stat mbX m t x).1 = 4 := by unfold stat; rw [if_pos (by omega)]; exact h0
    rw [e, last, hs]
    simp
  · have hs : (stat mbX m t x).1 = 5 := by unfold stat; rw [if_pos (by omega)]; exact h0
    rw [e, last, hs]
    simp
/-- Ahead of its last event a task is not at its end. -/
theorem jn_mid {t : Tk} (h : Jn t) {j : Nat} (hj : j < t.log.length) : (lastE t.log j).kind ≠ 4 ∧ (lastE t.log j).kind ≠ 5 := by
  cases j with
  | zero => simp [lastE, ev0]
  | succ j =>
    obtain ⟨e, he⟩ : ∃ e, t.log[j]? = some e := ⟨_, List.getElem?_eq_getElem (by omega)⟩
    simp only [lastE, he, Option.getD_some]
    rcases h.st with ⟨h0, hp⟩ | ⟨h0, l, el, hp⟩ | ⟨h0, l, el, hp⟩
    · exact hp e (List.mem_of_getElem? he)
    · rw [el] at he hj
      simp at hj
      rw [List.getElem?_append_left (by omega)] at he
      exact hp e (List.mem_of_getElem? he)
    · rw [el] at he hj
      simp at hj
      rw [List.getElem?_append_left (by omega)] at he
      exact hp e (List.mem_of_getElem? he)
theorem jn_outs {t : Tk} (h : Jn t) : outs t.log t.log.length = t.out := by
  unfold outs
  rw [List.take_length]
  exact h.out.symm
theorem ev_four {w : World} {b : Nat} {o : Int} {e : Ev} (h : w.heap[b]? = some (evO o e)) : w.cell? ⟨b, 0, none⟩ = some (.int .i64 o) ∧ w.cell? ⟨b, 1, none⟩ = some (.int .i64 e.kind) ∧ w.cell? ⟨b, 2, none⟩ = some (.int .i64 e.box) ∧ w.cell? ⟨b, 3, none⟩ = some (.int .i64 e.v) ∧ ∀ j, w.frozen? ⟨b, j, none⟩ = false := by simp [World.cell?, World.frozen?, h]
theorem en_four {w : World} {b : Nat} {s q t : Int} {vo : Value} (h : w.heap[b]? = some (enO s q t vo)) : w.cell? ⟨b, 0, none⟩ = some (.int .i64 s) ∧ w.cell? ⟨b, 1, none⟩ = some (.int .i64 q) ∧ w.cell? ⟨b, 2, none⟩ = some (.int .i64 t) ∧ w.cell? ⟨b, 3, none⟩ = some vo := by simp [World.cell?, h]
abbrev fillE (w : World) (b : Nat) (o : Int) (e : Ev) : World := (((w.setCell ⟨b, 0, none⟩ (.int .i64 o)).setCell ⟨b, 1, none⟩ (.int .i64 e.kind)).setCell ⟨b, 2, none⟩ (.int .i64 e.box)).setCell ⟨b, 3, none⟩ (.int .i64 e.v)
theorem fillE_at {w : World} {b : Nat} {o o' : Int} {e e' : Ev} (h : w.heap[b]? = some (evO o' e')) : (fillE w b o e).heap[b]? = some (evO o e) := by
  simp only [World.setCell, Array.getElem?_modify, if_true, h, Option.map_some]
  rfl
theorem fillE_ne {w : World} {b b' : Nat} {o : Int} {e : Ev} (hn : b' ≠ b) : (fillE w b o e).heap[b']? = w.heap[b']? := by
  rw [Below.heap_setCell _ ⟨b, 3, none⟩ _ _ hn, Below.heap_setCell _ ⟨b, 2, none⟩ _ _ hn, Below.heap_setCell _ ⟨b, 1, none⟩ _ _ hn, Below.heap_setCell _ ⟨b, 0, none⟩ _ _ hn]
theorem fillE_below {w0 w : World} {B b : Nat} {o : Int} {e : Ev} (h : Below B w0 w) (hB : B ≤ b) : Below B w0 (fillE w b o e) :=
  (((h.setCell (p := ⟨b, 0, none⟩) hB _).setCell (p := ⟨b, 1, none⟩) hB _).setCell (p := ⟨b, 2, none⟩) hB _).setCell (p := ⟨b, 3, none⟩) hB _
/-- An event more. -/
theorem TwAt.more {Wb : World} {o : Nat} {log : List Ev} {vy : Value} {en : Obj} {Lb C j : Nat} {vo : Value} {wr : World} (h : TwAt Wb o log vy en Lb C j vo wr) (hC : Wb.heap.size < Lb ∧ Lb < C) (e : Ev) (ob : Obj) :
    (fillE (wr.alloc ob) Lb o e).heap[Lb]? = some (evO o e) ∧ (fillE (wr.alloc ob) Lb o e).heap[Wb.heap.size]? = some en ∧ Below Wb.heap.size Wb (fillE (wr.alloc ob) Lb o e) ∧ (fillE (wr.alloc ob) Lb o e).ownsRow Wb.heap.size 2 1 vo (outs log j).length (ints (outs log j)) ∧ (fillE (wr.alloc ob) Lb o e).ownsRow C 43 4 vy log.length (evCells (log.map fun e => (o, e))) ∧ (fillE (wr.alloc ob) Lb o e).heap[wr.heap.size]? = some ob ∧ wr.heap.size < (fillE (wr.alloc ob) Lb o e).heap.size := by
  have hz := lt_of_block h.last
  have hz0 := lt_of_block h.ends
  have al : ∀ b, b < wr.heap.size → (wr.alloc ob).heap[b]? = wr.heap[b]? := fun b hb => Below.heap_alloc _ _ _ hb
  refine ⟨fillE_at ((al _ hz).trans h.last), (fillE_ne (by omega)).trans ((al _ hz0).trans h.ends), fillE_below (h.below.alloc h.below.size _) (by omega), own_keep h.row (fun b hb => ?_), own_keep h.evs (fun b hb => ?_), (fillE_ne (by omega)).trans (heap_alloc_new _ _), by simp [World.setCell]⟩
  · refine (fillE_ne (fun e2 => ?_)).trans (al b (h.row.lt b hb).2)
    exact ty_ne h.row h.last (by decide) (by rw [hb, e2])
  · exact (fillE_ne (by have := (h.evs.lt b hb).1; omega)).trans (al b (h.evs.lt b hb).2)
/-- What is put out grows. -/
theorem TwAt.put {Wb : World} {o : Nat} {log : List Ev} {vy : Value} {en : Obj} {Lb C j : Nat} {vo : Value} {W8 w9 : World} {e : Ev} {g cap : Nat} {ob : Obj} (he : log[j]? = some e) (hk : e.kind = 1) (h0 : W8.heap[Lb]? = some (evO o e)) (h1 : W8.heap[Wb.heap.size]? = some en) (hen : ∀ cur, en ≠ .cells cur 2 (0, 0)) (h2 : Below Wb.heap.size Wb W8) (h3 : W8.ownsRow Wb.heap.size 2 1 vo (outs log j).length (ints (outs log j))) (h4 : W8.ownsRow C 43 4 vy log.length (evCells (log.map fun e => (o, e))))
    (hown : w9.ownsRow Wb.heap.size 2 1 (.slice (some ⟨g, 0, none⟩) ((outs log j).length + 1) cap) ((outs log j).length + 1) (ints (outs log j) ++ [.int .i64 e.v])) (hg : (W8.alloc ob).grownBy w9 vo.ownBlock) : TwAt Wb o log vy en Lb C (j + 1) (.slice (some ⟨g, 0, none⟩) ((outs log j).length + 1) cap) w9 := by
  have hj := (List.getElem?_eq_some_iff.1 he).1
  have st : ∀ (b : Nat) (ob' : Obj), W8.heap[b]? = some ob' → (∀ cur, ob' ≠ .cells cur 2 (0, 0)) → w9.heap[b]? = some ob' := fun b ob' hb hne => by
    have hz := lt_of_block hb
    refine ((hg.block b (by simp; omega) (fun e2 => ?_)).trans (Below.heap_alloc _ _ _ hz)).trans hb
    obtain ⟨cur, hc⟩ := own_ty h3 e2.symm
    rw [hb] at hc
    exact hne cur (Option.some.inj hc)
  have hos : outs log (j + 1) = outs log j ++ [e.v] := by rw [outs_succ he, if_pos hk]
  refine ⟨hj, (h2.alloc h2.size _).grown hg (by have := h2.size; simp; omega) (fun b hb => (h3.lt b hb).1), ?_, ?_, st _ _ h1 hen, own_keep h4 (fun b hb => ?_)⟩
  · rw [hos, List.length_append, show ints (outs log j ++ [e.v]) = ints (outs log j) ++ [.int .i64 e.v] by simp [ints]]
    exact hown
  · simp only [lastN, lastE, he, Option.getD_some]
    exact st _ _ h0 (fun cur => by simp)
  · obtain ⟨cur, hc⟩ := own_ty h4 hb
    rw [hc]
    exact st _ _ hc (fun cur => by simp)
theorem TwAt.skip {Wb : World} {o : Nat} {log : List Ev} {vy : Value} {en : Obj} {Lb C j : Nat} {vo : Value} {W8 : World} {e : Ev} (he : log[j]? = some e) (hk : e.kind ≠ 1) (h0 : W8.heap[Lb]? = some (evO o e)) (h1 : W8.heap[Wb.heap.size]? = some en) (h2 : Below Wb.heap.size Wb W8) (h3 : W8.ownsRow Wb.heap.size 2 1 vo (outs log j).length (ints (outs log j))) (h4 : W8.ownsRow C 43 4 vy log.length (evCells (log.map fun e => (o, e)))) : TwAt Wb o log vy en Lb C (j + 1) vo W8 := by
  have hos : outs log (j + 1) = outs log j := by rw [outs_succ he, if_neg hk, List.append_nil]
  refine ⟨(List.getElem?_eq_some_iff.1 he).1, h2, by rw [hos]; exact h3, ?_, h1, h4⟩
  simp only [lastN, lastE, he, Option.getD_some]
  exact h0
end Go.Proofs.YtnahadibllkhlaaGreat.Vw

