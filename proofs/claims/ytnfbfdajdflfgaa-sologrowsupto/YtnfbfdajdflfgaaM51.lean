/- The walk of alive: a closed module. -/
import Derived.Test.YtnfbfdajdflfgaaM50
namespace Go.Proofs.Ytnfbfdajdflfgaa.Vw
open Go.RowKit Vf Vm

abbrev acO : Obj := .cells #[.int .i64 1, .int .i64 0, .int .i64 7, .int .i64 28, .int .i64 0, .int .i64 0, .int .i64 25, .int .i64 0, .int .i64 0] 47 (0, 0)
abbrev auO (c : Nat) : Obj := .cells #[.int .i64 4, .int .i64 0, .slice none 0 0, .int .i64 0, .int .i64 0, .slice (some ⟨c, 0, none⟩) 3 3] 31 (0, 0)
def am : Md := ⟨[], [⟨4, 0, [], 0, 0, [⟨1, 0, 7⟩, ⟨28, 0, 0⟩, ⟨25, 0, 0⟩]⟩]⟩
theorem am_in {B c u : Nat} {w : World} (hc : w.heap[c]? = some acO) (hu : w.heap[u]? = some (auO c)) (hB : w.heap.size ≤ B) : ModIn B w am none (some ⟨u, 0, none⟩) := by
  have hcl := lt_of_block hc
  have hul := lt_of_block hu
  refine ⟨by simp [am], fun i x hx => by simp [am] at hx, fun i x hx => ?_⟩
  match i, hx with
  | 0, hx =>
    simp [am] at hx
    subst hx
    refine ⟨u, 0, none, 0, some ⟨c, 0, none⟩, 3, rfl, by omega, ⟨⟨(by decide : I64 4), (by decide : I64 0), (by decide : I64 0), (by decide : I64 0)⟩, by simp, by simp, fun j y hy => by simp at hy, fun j y hy => ?_⟩, by simp [World.cell?, hu], by simp [World.cell?, hu], by simp [World.cell?, hu], by simp [World.cell?, hu], by simp [World.cell?, hu], by simp [World.cell?, hu]⟩
    match j, hy with
    | 0, hy =>
      simp at hy
      subst hy
      exact ⟨by decide, by decide, by decide, c, 0, rfl, by omega, by simp [World.cell?, hc], by simp [World.cell?, hc], by simp [World.cell?, hc]⟩
    | 1, hy =>
      simp at hy
      subst hy
      exact ⟨by decide, by decide, by decide, c, 0, rfl, by omega, by simp [World.cell?, hc], by simp [World.cell?, hc], by simp [World.cell?, hc]⟩
    | 2, hy =>
      simp at hy
      subst hy
      exact ⟨by decide, by decide, by decide, c, 0, rfl, by omega, by simp [World.cell?, hc], by simp [World.cell?, hc], by simp [World.cell?, hc]⟩
    | j + 3, hy => simp at hy
  | i + 1, hx => simp [am] at hx
theorem am_ok : soloE am 0 9 [] = 0 := by decide +kernel
theorem am_steps : (soloR am 0 9 []).1 = 3 := by decide +kernel
theorem am_stat : (stat lsX am (soloR am 0 9 []).2.1 (soloR am 0 9 []).2.2).1 = 4 := by decide +kernel
theorem am_out : (soloR am 0 9 []).2.1.out = [7] := by decide +kernel
theorem fd_nil (B : Nat) (w : World) : FdIn B w [] none (fun _ => none) (fun _ => 0) := ⟨by simp, fun i f hf => by simp at hf, fun i f hf => by simp at hf⟩

set_option maxRecDepth 100000 in
set_option maxHeartbeats 1000000 in
theorem alive_any (w : World) : Calls Try.prog 5 #[] w fun e w' => e = .returned (.bool true) ∧ Below w.heap.size w w' := by
  obtain ⟨W3, hW3⟩ : ∃ W3 : World, ((w.alloc acO).alloc (auO w.heap.size)).alloc (.cells #[.slice none 0 0, .slice (some ⟨w.heap.size + 1, 0, none⟩) 1 1] 25) = W3 := ⟨_, rfl⟩
  have HC3 : Hid (W3.heap[w.heap.size]? = some acO) := by
    rw [← hW3]
    exact (Below.heap_alloc _ _ _ (by simp; omega)).trans ((Below.heap_alloc _ _ _ (by simp)).trans (heap_alloc_new w _))
  have HU3 : Hid (W3.heap[w.heap.size + 1]? = some (auO w.heap.size)) := by
    rw [← hW3]
    have e : (w.alloc acO).heap.size = w.heap.size + 1 := by simp
    refine (Below.heap_alloc _ _ _ (by simp)).trans ?_
    rw [← e]
    exact heap_alloc_new _ _
  have HB3 : Hid (Below w.heap.size w W3) := by rw [← hW3]; exact (((Below.refl _ w).alloc (Nat.le_refl _) _).alloc (by simp) _).alloc (by simp; omega) _
  have HW3 := Sb.hide hW3
  clear hW3
  go_enter Try.func5, Try.ntmps5
  go_wp2_with fail
  rw [HW3.out]
  refine (solo_any am none (some ⟨w.heap.size + 1, 0, none⟩) 0 1 W3.heap.size [] none 0 (fun _ => none) (fun _ => 0) W3 (Sb.hide (am_in HC3.out HU3.out (Nat.le_refl _))) (Sb.hide (fd_nil _ _)) (Nat.le_refl _) 0 9 0 (Sb.hide am_ok.symm)).mono ?_
  rintro e w4 ⟨hb4, hr⟩
  rcases hr with ⟨h0, _⟩ | ⟨_, vO, vS, vT, rfl, hR, _⟩
  · exact absurd rfl h0
  rw [am_steps, am_stat]
  have hrd := hR.reads.out
  rw [am_out] at hrd
  obtain ⟨oa, oc, rfl, _, hrd⟩ := hrd
  obtain ⟨ob, oo, rfl, hoc⟩ := hrd 0 7 rfl
  obtain ⟨sa, sc, hsv⟩ := hR.reads.sent
  obtain ⟨ta, tc, htv, _⟩ := hR.reads.took
  obtain ⟨rfl, _⟩ := hsv
  subst htv
  have HB4 : Hid (Below w.heap.size w w4) := HB3.out.trans (hb4.mono HB3.out.size)
  have hoz := World.block_lt_of_cell? w4 _ hoc
  simp only [Nat.add_zero] at hoc
  clear hb4 hR hrd
  go_wp2
  go_ret
  exact ⟨rfl, HB4.out.alloc HB4.out.size _⟩
end Go.Proofs.Ytnfbfdajdflfgaa.Vw

/- The walk of Begins. -/
namespace Go.Proofs.Ytnfbfdajdflfgaa.Vw
open Go.RowKit Vf Vm

set_option maxHeartbeats 400000 in
theorem begins_any (v1 v2 : Value) (l l' : List Int) (w : World) (h1 : Hid (RI w v1 l)) (h2 : Hid (RI w v2 l')) (hn : l'.length ≤ 9223372036854775806) (hp : Hid (l <+: l')) :
    Calls Try.prog 8 #[v1, v2] w fun e w' => e = .returned (.bool true) ∧ ∃ d, w' = w.drewN d := by
  have hle := hp.out.length_le
  obtain ⟨a1, c1, rfl, hc1, r1⟩ := h1.out
  obtain ⟨a2, c2, rfl, hc2, r2⟩ := h2.out
  have HI2 : Hid (RI w (.slice a2 l.length c2) l) := ⟨a2, c2, rfl, by omega, fun i x hx => r2 i x (by
    obtain ⟨r, hr⟩ := hp.out
    rw [← hr, List.getElem?_append_left (List.getElem?_eq_some_iff.1 hx).1]
    exact hx)⟩
  clear r1 r2
  obtain ⟨n, hn1⟩ : ∃ n, n = l.length := ⟨_, rfl⟩
  obtain ⟨n', hn2⟩ : ∃ n, n = l'.length := ⟨_, rfl⟩
  have HN1 := Sb.hide hn1
  rw [← hn1] at h1 HI2 hle ⊢
  rw [← hn2] at hn hle hc2 ⊢
  have HN : Hid (l.length ≤ 9223372036854775806) := by unfold Hid; omega
  clear hn1 hn2 hc1
  have i1 : (n : Int) ≤ (n' : Int) := by omega
  have i2 : (n : Int) ≤ (c2 : Int) := by omega
  have i3 : (0 : Int) ≤ (n : Int) := by omega
  go_enter Try.func8, Try.ntmps8
  go_wp2_with fail

  refine (same_any _ _ l _ h1 HI2 HN.out).mono ?_
  rintro e w' ⟨rfl, d, rfl⟩
  go_wp2
  go_ret
  exact ⟨rfl, d, rfl⟩
end Go.Proofs.Ytnfbfdajdflfgaa.Vw

