/- What Solo answers, as a report. -/
import Derived.Test.YtnfbfdajdflfgaaM50
namespace Go.Proofs.Ytnfbfdajdflfgaa.Vw
open Go.RowKit Vf Vm

/-- What a report says. -/
structure SoOk (w : World) (m : Md) (task most : Int) (fs : List (List Int)) (s q tr st : Nat) (vO vS vT : Value) : Prop where
  stat : (s, q) = stat lsX m (soloR m task most fs).2.1 (soloR m task most fs).2.2
  trap : tr = (soloR m task most fs).2.1.trap
  steps : st = (soloR m task most fs).1
  rd : RpRd w (soloR m task most fs).2.1 (soloR m task most fs).2.2 vO vS vT
  li : ∃ K, Known m K ∧ LI m K fs (soloR m task most fs).1 (soloR m task most fs).2.1 (soloR m task most fs).2.2
theorem SoOk.below {w w' : World} {m : Md} {task most : Int} {fs : List (List Int)} {s q tr st : Nat} {vO vS vT : Value} (h : SoOk w m task most fs s q tr st vO vS vT) (hb : Below w.heap.size w w') : SoOk w' m task most fs s q tr st vO vS vT := ⟨h.stat, h.trap, h.steps, h.rd.below hb, h.li⟩

theorem solo_some (m : Md) (ab au : Option Addr) (cb cu B : Nat) (fs : List (List Int)) (a : Option Addr) (cap : Nat) (fa : Nat → Option Addr) (fc : Nat → Nat) (w : World) (hmd : Hid (ModIn B w m ab au)) (hfd : Hid (FdIn B w fs a fa fc)) (hB : B ≤ w.heap.size) (task most : Int) (E : Int) (hE : Hid (E = soloE m task most fs)) :
    Calls Try.prog 7 #[mdV m ab au cb cu, .int .i64 task, .slice a fs.length cap, .int .i64 most] w fun e w' => ∃ s q tr st oa on oc sa sn sc ta tn tc, e = .returned (.tuple #[repV s q tr (.slice oa on oc) (.slice sa sn sc) (.slice ta tn tc) st, .int .i64 E]) ∧ Below w.heap.size w w' ∧ (E = 0 → SoOk w' m task most fs s q tr st (.slice oa on oc) (.slice sa sn sc) (.slice ta tn tc)) := by
  refine (solo_any m ab au cb cu B fs a cap fa fc w hmd hfd hB task most E hE).mono ?_
  rintro e w' ⟨hb, hr⟩
  rcases hr with ⟨h0, rfl⟩ | ⟨h0, vO, vS, vT, rfl, hR, hK⟩
  · exact ⟨0, 0, 0, 0, none, 0, 0, none, 0, 0, none, 0, 0, rfl, hb, fun e => absurd e h0⟩
  · have hrd := hR.reads
    obtain ⟨oa, oc, e1, _⟩ := hrd.out
    obtain ⟨sa, sc, e2, _⟩ := hrd.sent
    obtain ⟨ta, tc, e3, _⟩ := hrd.took
    subst e1 e2 e3 h0
    exact ⟨_, _, _, _, oa, _, oc, sa, _, sc, ta, _, tc, rfl, hb, fun _ => ⟨rfl, rfl, rfl, hrd, hK⟩⟩

/-- How much there is at most. -/
theorem SoOk.few {w : World} {m : Md} {task most : Int} {fs : List (List Int)} {s q tr st : Nat} {vO vS vT : Value} (h : SoOk w m task most fs s q tr st vO vS vT) (hE : soloE m task most fs = 0) : (soloR m task most fs).2.1.out.length ≤ 5000 ∧ (soloR m task most fs).2.2.length ≤ 30 ∧ (∀ q ∈ (soloR m task most fs).2.2, q.sent.length ≤ 5000) ∧ st ≤ 5000 := by
  obtain ⟨hv, t0, t1, m0, m1, hl, hw⟩ := soloE_zero hE
  obtain ⟨⟨_, _⟩, hb⟩ := known_of hv
  obtain ⟨K, _, hI⟩ := h.li
  have hst : (soloR m task most fs).1 ≤ most.toNat := go_le _ _ _
  have h1 := hI.out
  have h2 := hI.len
  refine ⟨by omega, by omega, fun q hq => ?_, by rw [h.steps]; omega⟩
  obtain ⟨i, hi⟩ := List.getElem?_of_mem hq
  have := (hI.lists i q hi).2.2.1
  omega

/-- Two reports, one of which says no less. -/
theorem RS.at {w : World} {v : Value} {x : List Lst} (h : RS w v (x.map (·.sent))) : ∃ a c, v = .slice a x.length c ∧ ∀ (i : Nat) q, x[i]? = some q → ∃ b off u, a = some ⟨b, off, none⟩ ∧ b < w.heap.size ∧ w.cell? ⟨b, off + i, none⟩ = some u ∧ RI w u q.sent := by
  obtain ⟨a, c, e, hr⟩ := h
  refine ⟨a, c, by simpa using e, fun i q hq => ?_⟩
  obtain ⟨b, off, u, e2, hc, hi⟩ := hr i q.sent (by rw [List.getElem?_map, hq]; rfl)
  exact ⟨b, off, u, e2, World.block_lt_of_cell? w _ hc, hc, hi⟩

end Go.Proofs.Ytnfbfdajdflfgaa.Vw

/- The walk of alive: a closed module. -/
namespace Go.Proofs.Ytnfbfdajdflfgaa.Vw
open Go.RowKit Vf Vm

abbrev acO : Obj := .cells #[.int .i64 1, .int .i64 0, .int .i64 7, .int .i64 28, .int .i64 0, .int .i64 0, .int .i64 25, .int .i64 0, .int .i64 0] 47 (0, 0)
abbrev auO (c : Nat) : Obj := .cells #[.int .i64 4, .int .i64 0, .slice none 0 0, .int .i64 0, .int .i64 0, .slice (some ⟨c, 0, none⟩) 3 3] 31 (0, 0)
def am : Md := ⟨[], [⟨4, 0, [], 0, 0, [⟨1, 0, 7⟩, ⟨28, 0, 0⟩, ⟨25, 0, 0⟩]⟩]⟩
theorem am_in {B c u : Nat} {w : World} (hc : w.heap[c]? = some acO) (hu : w.heap[u]? = some (auO c)) (hB : w.heap.size ≤ B) : ModIn B w am none (some ⟨u, 0, none⟩) := by
  have hcl := lt_of_block hc
  have hul := lt_of_block hu
  refine ⟨by simp [am], fun i x hx => by simp [am] at hx, fun i x hx => ?_⟩
  match i, hx with
  | 0, hx =>
    simp [am] at hx
    subst hx
    refine ⟨u, 0, none, 0, some ⟨c, 0, none⟩, 3, rfl, by omega, ⟨⟨(by decide : I64 4), (by decide : I64 0), (by decide : I64 0), (by decide : I64 0)⟩, by simp, by simp, fun j y hy => by simp at hy, fun j y hy => ?_⟩, by simp [World.cell?, hu], by simp [World.cell?, hu], by simp [World.cell?, hu], by simp [World.cell?, hu], by simp [World.cell?, hu], by simp [World.cell?, hu]⟩
    match j, hy with
    | 0, hy =>
      simp at hy
      subst hy
      exact ⟨by decide, by decide, by decide, c, 0, rfl, by omega, by simp [World.cell?, hc], by simp [World.cell?, hc], by simp [World.cell?, hc]⟩
    | 1, hy =>
      simp at hy
      subst hy
      exact ⟨by decide, by decide, by decide, c, 0, rfl, by omega, by simp [World.cell?, hc], by simp [World.cell?, hc], by simp [World.cell?, hc]⟩
    | 2, hy =>
      simp at hy
      subst hy
      exact ⟨by decide, by decide, by decide, c, 0, rfl, by omega, by simp [World.cell?, hc], by simp [World.cell?, hc], by simp [World.cell?, hc]⟩
    | j + 3, hy => simp at hy
  | i + 1, hx => simp [am] at hx
theorem am_ok : soloE am 0 9 [] = 0 := by decide +kernel
theorem am_steps : (soloR am 0 9 []).1 = 3 := by decide +kernel
theorem am_stat : (stat lsX am (soloR am 0 9 []).2.1 (soloR am 0 9 []).2.2).1 = 4 := by decide +kernel
theorem am_out : (soloR am 0 9 []).2.1.out = [7] := by decide +kernel
theorem fd_nil (B : Nat) (w : World) : FdIn B w [] none (fun _ => none) (fun _ => 0) := ⟨by simp, fun i f hf => by simp at hf, fun i f hf => by simp at hf⟩

set_option maxRecDepth 100000 in
set_option maxHeartbeats 1000000 in
theorem alive_any (w : World) : Calls Try.prog 5 #[] w fun e w' => e = .returned (.bool true) ∧ Below w.heap.size w w' := by
  obtain ⟨W3, hW3⟩ : ∃ W3 : World, ((w.alloc acO).alloc (auO w.heap.size)).alloc (.cells #[.slice none 0 0, .slice (some ⟨w.heap.size + 1, 0, none⟩) 1 1] 25) = W3 := ⟨_, rfl⟩
  have HC3 : Hid (W3.heap[w.heap.size]? = some acO) := by
    rw [← hW3]
    exact (Below.heap_alloc _ _ _ (by simp; omega)).trans ((Below.heap_alloc _ _ _ (by simp)).trans (heap_alloc_new w _))
  have HU3 : Hid (W3.heap[w.heap.size + 1]? = some (auO w.heap.size)) := by
    rw [← hW3]
    have e : (w.alloc acO).heap.size = w.heap.size + 1 := by simp
    refine (Below.heap_alloc _ _ _ (by simp)).trans ?_
    rw [← e]
    exact heap_alloc_new _ _
  have HB3 : Hid (Below w.heap.size w W3) := by rw [← hW3]; exact (((Below.refl _ w).alloc (Nat.le_refl _) _).alloc (by simp) _).alloc (by simp; omega) _
  have HW3 := Sb.hide hW3
  clear hW3
  go_enter Try.func5, Try.ntmps5
  go_wp2_with fail
  rw [HW3.out]
  refine (solo_any am none (some ⟨w.heap.size + 1, 0, none⟩) 0 1 W3.heap.size [] none 0 (fun _ => none) (fun _ => 0) W3 (Sb.hide (am_in HC3.out HU3.out (Nat.le_refl _))) (Sb.hide (fd_nil _ _)) (Nat.le_refl _) 0 9 0 (Sb.hide am_ok.symm)).mono ?_
  rintro e w4 ⟨hb4, hr⟩
  rcases hr with ⟨h0, _⟩ | ⟨_, vO, vS, vT, rfl, hR, _⟩
  · exact absurd rfl h0
  rw [am_steps, am_stat]
  have hrd := hR.reads.out
  rw [am_out] at hrd
  obtain ⟨oa, oc, rfl, _, hrd⟩ := hrd
  obtain ⟨ob, oo, rfl, hoc⟩ := hrd 0 7 rfl
  obtain ⟨sa, sc, hsv⟩ := hR.reads.sent
  obtain ⟨ta, tc, htv, _⟩ := hR.reads.took
  obtain ⟨rfl, _⟩ := hsv
  subst htv
  have HB4 : Hid (Below w.heap.size w w4) := HB3.out.trans (hb4.mono HB3.out.size)
  have hoz := World.block_lt_of_cell? w4 _ hoc
  simp only [Nat.add_zero] at hoc
  clear hb4 hR hrd
  go_wp2
  go_ret
  exact ⟨rfl, HB4.out.alloc HB4.out.size _⟩
end Go.Proofs.Ytnfbfdajdflfgaa.Vw

