/- Rows to be read; the walks of Same, SameAll, Begins, SameReport. -/
import Derived.Test.YtnfbfdajdflfgaaGreatM49
namespace Go.Proofs.YtnfbfdajdflfgaaGreat.Vw
open Go.RowKit Vf Vm

/-- Words that can be read. -/
def RI (w : World) (v : Value) (l : List Int) : Prop := ∃ a c, v = .slice a l.length c ∧ l.length ≤ c ∧ ∀ (i : Nat) x, l[i]? = some x → ∃ b off, a = some ⟨b, off, none⟩ ∧ w.cell? ⟨b, off + i, none⟩ = some (.int .i64 x)
/-- Rows of words that can be read. -/
def RS (w : World) (v : Value) (ls : List (List Int)) : Prop := ∃ a c, v = .slice a ls.length c ∧ ∀ (i : Nat) l, ls[i]? = some l → ∃ b off u, a = some ⟨b, off, none⟩ ∧ w.cell? ⟨b, off + i, none⟩ = some u ∧ RI w u l
theorem own_reads {w : World} {B n : Nat} {e : TypeId} {v : Value} {ws : List Int} (h : w.ownsRow B e 1 v n (ints ws)) : RI w v ws := by
  have hl : ws.length = n := by have := h.1; simpa using this
  subst hl
  rcases h.2 with ⟨rfl, h0⟩ | ⟨g, cap, cur, rfl, _, _, hc, _⟩
  · refine ⟨none, 0, by rw [h0], by omega, fun i x hx => ?_⟩
    have := (List.getElem?_eq_some_iff.1 hx).1
    omega
  · refine ⟨_, cap, rfl, hc, fun i x hx => ?_⟩
    obtain ⟨g', e', hc'⟩ := own_cell h (k := i) (u := .int .i64 x) (by rw [List.getElem?_map, hx]; rfl)
    cases e'
    exact ⟨g, 0, rfl, by rw [Nat.zero_add]; exact hc'⟩
theorem RI.below {w w' : World} {v : Value} {l : List Int} (h : RI w v l) (hb : Below w.heap.size w w') : RI w' v l := by
  obtain ⟨a, c, e, hc, hr⟩ := h
  refine ⟨a, c, e, hc, fun i x hx => ?_⟩
  obtain ⟨b, off, e2, hcell⟩ := hr i x hx
  exact ⟨b, off, e2, (cell_eq (hb.block b (World.block_lt_of_cell? w _ hcell)) _).trans hcell⟩
theorem RS.below {w w' : World} {v : Value} {ls : List (List Int)} (h : RS w v ls) (hb : Below w.heap.size w w') : RS w' v ls := by
  obtain ⟨a, c, e, hr⟩ := h
  refine ⟨a, c, e, fun i x hx => ?_⟩
  obtain ⟨b, off, u, e2, hcell, hi⟩ := hr i x hx
  exact ⟨b, off, u, e2, (cell_eq (hb.block b (World.block_lt_of_cell? w _ hcell)) _).trans hcell, hi.below hb⟩
/-- A report, to be read. -/
structure RpRd (w : World) (t : Tk) (x : List Lst) (vO vS vT : Value) : Prop where
  out : RI w vO t.out
  sent : RS w vS (x.map (·.sent))
  took : RI w vT (x.map fun q => (q.took : Int))
theorem RpRd.below {w w' : World} {t : Tk} {x : List Lst} {vO vS vT : Value} (h : RpRd w t x vO vS vT) (hb : Below w.heap.size w w') : RpRd w' t x vO vS vT := ⟨h.out.below hb, h.sent.below hb, h.took.below hb⟩
theorem RpIn.reads {w : World} {t : Tk} {x : List Lst} {vO vS vT : Value} (h : RpIn w t x vO vS vT) : RpRd w t x vO vS vT := by
  obtain ⟨sv, s1, s2⟩ := h.sent
  refine ⟨own_reads h.out, ?_, own_reads (B := 0) (e := 3) (n := x.length) ?_⟩
  · obtain ⟨a, c, rfl⟩ := own_slice s1
    refine ⟨a, c, by simp, fun i l hl => ?_⟩
    rw [List.getElem?_map] at hl
    cases hq : x[i]? with
    | none => rw [hq] at hl; cases hl
    | some q =>
      rw [hq] at hl
      cases hl
      have hi := (List.getElem?_eq_some_iff.1 hq).1
      obtain ⟨g, e, hc⟩ := own_cell s1 (k := i) (u := sv i) (by simp [svs, hi])
      exact ⟨g, 0, sv i, e, by rw [Nat.zero_add]; exact hc, own_reads (s2 i q hq)⟩
  · have := h.took
    unfold tks at this
    rw [List.take_length] at this
    simpa [ints, Function.comp_def] using this

set_option maxHeartbeats 400000 in
theorem same_any (v1 v2 : Value) (l : List Int) (w : World) (h1 : Hid (RI w v1 l)) (h2 : Hid (RI w v2 l)) (hn : l.length ≤ 9223372036854775806) :
    Calls Tryz.prog 15 #[v1, v2] w fun e w' => e = .returned (.bool true) ∧ ∃ d, w' = w.drewN d := by
  obtain ⟨a1, c1, rfl, _, r1⟩ := h1.out
  obtain ⟨a2, c2, rfl, _, r2⟩ := h2.out
  have HR1 := Sb.hide r1
  have HR2 := Sb.hide r2
  clear r1 r2 h1 h2
  have eq0 : ((l.length : Int) != (l.length : Int)) = false := by simp
  go_enter Tryz.func15, Tryz.ntmps15
  go_wp2
  go_loopw [13] (fun i wr => ∃ k d : Nat, k ≤ l.length ∧ i = .int .i64 k ∧ wr = w.drewN d) (fun i _ => l.length - (intOf i).toNat)
  case atStart => exact ⟨0, 0, Nat.zero_le _, rfl, rfl⟩
  case round =>
    obtain ⟨k, d, hk, rfl, rfl⟩ := hrel
    by_cases hlt : k < l.length
    · obtain ⟨x, hx⟩ : ∃ x, l[k]? = some x := ⟨_, List.getElem?_eq_getElem hlt⟩
      obtain ⟨b1, o1, rfl, x1⟩ := HR1.out k x hx
      obtain ⟨b2, o2, rfl, x2⟩ := HR2.out k x hx
      have eqx : (x != x) = false := by simp
      have b0 : (0 : Int) ≤ (k : Int) := by omega
      have b1 : (k : Int) < (l.length : Int) := by omega
      clear hx
      go_wp2
      go_quiet (fail)
      go_wp2
      go_roundw
      case rel => exact ⟨k + 1, _, by omega, by go_num, rfl⟩
      case measure => simp [intOf]; omega
    · go_wp2
      go_ret
      exact ⟨rfl, d, rfl⟩

end Go.Proofs.YtnfbfdajdflfgaaGreat.Vw

/- What Solo answers, as a report. -/
namespace Go.Proofs.YtnfbfdajdflfgaaGreat.Vw
open Go.RowKit Vf Vm

/-- What a report says. -/
structure SoOk (w : World) (m : Md) (task most : Int) (fs : List (List Int)) (s q tr st : Nat) (vO vS vT : Value) : Prop where
  stat : (s, q) = stat lsX m (soloR m task most fs).2.1 (soloR m task most fs).2.2
  trap : tr = (soloR m task most fs).2.1.trap
  steps : st = (soloR m task most fs).1
  rd : RpRd w (soloR m task most fs).2.1 (soloR m task most fs).2.2 vO vS vT
  li : ∃ K, Known m K ∧ LI m K fs (soloR m task most fs).1 (soloR m task most fs).2.1 (soloR m task most fs).2.2
theorem SoOk.below {w w' : World} {m : Md} {task most : Int} {fs : List (List Int)} {s q tr st : Nat} {vO vS vT : Value} (h : SoOk w m task most fs s q tr st vO vS vT) (hb : Below w.heap.size w w') : SoOk w' m task most fs s q tr st vO vS vT := ⟨h.stat, h.trap, h.steps, h.rd.below hb, h.li⟩

theorem solo_some (m : Md) (ab au : Option Addr) (cb cu B : Nat) (fs : List (List Int)) (a : Option Addr) (cap : Nat) (fa : Nat → Option Addr) (fc : Nat → Nat) (w : World) (hmd : Hid (ModIn B w m ab au)) (hfd : Hid (FdIn B w fs a fa fc)) (hB : B ≤ w.heap.size) (task most : Int) (E : Int) (hE : Hid (E = soloE m task most fs)) :
    Calls Tryz.prog 5 #[mdV m ab au cb cu, .int .i64 task, .slice a fs.length cap, .int .i64 most] w fun e w' => ∃ s q tr st oa on oc sa sn sc ta tn tc, e = .returned (.tuple #[repV s q tr (.slice oa on oc) (.slice sa sn sc) (.slice ta tn tc) st, .int .i64 E]) ∧ Below w.heap.size w w' ∧ (E = 0 → SoOk w' m task most fs s q tr st (.slice oa on oc) (.slice sa sn sc) (.slice ta tn tc)) := by
  refine (solo_any m ab au cb cu B fs a cap fa fc w hmd hfd hB task most E hE).mono ?_
  rintro e w' ⟨hb, hr⟩
  rcases hr with ⟨h0, rfl⟩ | ⟨h0, vO, vS, vT, rfl, hR, hK⟩
  · exact ⟨0, 0, 0, 0, none, 0, 0, none, 0, 0, none, 0, 0, rfl, hb, fun e => absurd e h0⟩
  · have hrd := hR.reads
    obtain ⟨oa, oc, e1, _⟩ := hrd.out
    obtain ⟨sa, sc, e2, _⟩ := hrd.sent
    obtain ⟨ta, tc, e3, _⟩ := hrd.took
    subst e1 e2 e3 h0
    exact ⟨_, _, _, _, oa, _, oc, sa, _, sc, ta, _, tc, rfl, hb, fun _ => ⟨rfl, rfl, rfl, hrd, hK⟩⟩

/-- How much there is at most. -/
theorem SoOk.few {w : World} {m : Md} {task most : Int} {fs : List (List Int)} {s q tr st : Nat} {vO vS vT : Value} (h : SoOk w m task most fs s q tr st vO vS vT) (hE : soloE m task most fs = 0) : (soloR m task most fs).2.1.out.length ≤ 5000 ∧ (soloR m task most fs).2.2.length ≤ 30 ∧ (∀ q ∈ (soloR m task most fs).2.2, q.sent.length ≤ 5000) ∧ st ≤ 5000 := by
  obtain ⟨hv, t0, t1, m0, m1, hl, hw⟩ := soloE_zero hE
  obtain ⟨⟨_, _⟩, hb⟩ := known_of hv
  obtain ⟨K, _, hI⟩ := h.li
  have hst : (soloR m task most fs).1 ≤ most.toNat := go_le _ _ _
  have h1 := hI.out
  have h2 := hI.len
  refine ⟨by omega, by omega, fun q hq => ?_, by rw [h.steps]; omega⟩
  obtain ⟨i, hi⟩ := List.getElem?_of_mem hq
  have := (hI.lists i q hi).2.2.1
  omega

/-- Two reports, one of which says no less. -/
theorem RS.at {w : World} {v : Value} {x : List Lst} (h : RS w v (x.map (·.sent))) : ∃ a c, v = .slice a x.length c ∧ ∀ (i : Nat) q, x[i]? = some q → ∃ b off u, a = some ⟨b, off, none⟩ ∧ b < w.heap.size ∧ w.cell? ⟨b, off + i, none⟩ = some u ∧ RI w u q.sent := by
  obtain ⟨a, c, e, hr⟩ := h
  refine ⟨a, c, by simpa using e, fun i q hq => ?_⟩
  obtain ⟨b, off, u, e2, hc, hi⟩ := hr i q.sent (by rw [List.getElem?_map, hq]; rfl)
  exact ⟨b, off, u, e2, World.block_lt_of_cell? w _ hc, hc, hi⟩

end Go.Proofs.YtnfbfdajdflfgaaGreat.Vw

