/- The walks of small and alive. -/
import Derived.Test.YtbkimpimoclobaaM38
import Derived.Test.YtbkimpimoclobaaM39
namespace Go.Proofs.Ytbkimpimoclobaa
open Go.RowKit

abbrev codO (op : Int) : Obj := .cells #[.int .i64 1, .int .i64 0, .int .i64 1, .int .i64 op, .int .i64 0, .int .i64 0, .int .i64 25, .int .i64 0, .int .i64 0] 41 (0, 0)
abbrev smO (c : Nat) : Obj := .cells #[.int .i64 4, .int .i64 0, .slice none 0 0, .int .i64 0, .int .i64 0, .slice (some ⟨c, 0, none⟩) 3 3] 35 (0, 0)
/-- What small lays down. -/
structure SmIn (c u : Nat) (w : World) : Prop where
  cod : w.heap[c]? = some (codO 28)
  un : w.heap[u]? = some (smO c)

set_option maxRecDepth 100000 in
set_option maxHeartbeats 1000000 in
theorem small_any (w : World) : Calls Try.prog 9 #[] w fun e w' => e = .returned (.agg #[.slice none 0 0, .slice (some ⟨w.heap.size + 1 + 1, 0, none⟩) 1 1]) ∧ w.grownBy w' none ∧ SmIn (w.heap.size + 1) (w.heap.size + 1 + 1) w' := by
  go_enter Try.func9, Try.ntmps9
  go_wp2
  refine bodyPost_ret (v := .agg #[.slice none 0 0, .slice (some ⟨w.heap.size + 1 + 1, 0, none⟩) 1 1]) (by simp [results, Try.results9, go_sem]) rfl ?_
  obtain ⟨t0, t1, t2, t3⟩ := three_new w (.cells #[.slice none 0 0, .slice (some ⟨w.heap.size + 1 + 1, 0, none⟩) 1 1] 25) (codO 28) (smO (w.heap.size + 1))
  exact ⟨rfl, t0, t2, t3⟩

def mo (op : Int) : Vf.Md := ⟨[], [⟨4, 0, [], 0, 0, [⟨1, 0, 1⟩, ⟨op, 0, 0⟩, ⟨25, 0, 0⟩]⟩]⟩
theorem mo_in {B c u : Nat} {w : World} {op : Int} (hop : I64 op) (hc : w.heap[c]? = some (codO op)) (hu : w.heap[u]? = some (smO c)) (hB : w.heap.size ≤ B) : ModIn B w (mo op) none (some ⟨u, 0, none⟩) := by
  have hcl := lt_of_block hc
  have hul := lt_of_block hu
  refine ⟨by simp [mo], fun i x hx => by simp [mo] at hx, fun i x hx => ?_⟩
  match i, hx with
  | 0, hx =>
    simp [mo] at hx
    subst hx
    refine ⟨u, 0, none, 0, some ⟨c, 0, none⟩, 3, rfl, by omega, ⟨⟨(by decide : I64 4), (by decide : I64 0), (by decide : I64 0), (by decide : I64 0)⟩, by simp, by simp, fun j y hy => by simp at hy, fun j y hy => ?_⟩, by simp [World.cell?, hu], by simp [World.cell?, hu], by simp [World.cell?, hu], by simp [World.cell?, hu], by simp [World.cell?, hu], by simp [World.cell?, hu]⟩
    match j, hy with
    | 0, hy =>
      simp at hy
      subst hy
      exact ⟨by decide, by decide, by decide, c, 0, rfl, by omega, by simp [World.cell?, hc], by simp [World.cell?, hc], by simp [World.cell?, hc]⟩
    | 1, hy =>
      simp at hy
      subst hy
      exact ⟨hop, (by decide : I64 0), (by decide : I64 0), c, 0, rfl, by omega, by simp [World.cell?, hc], by simp [World.cell?, hc], by simp [World.cell?, hc]⟩
    | 2, hy =>
      simp at hy
      subst hy
      exact ⟨by decide, by decide, by decide, c, 0, rfl, by omega, by simp [World.cell?, hc], by simp [World.cell?, hc], by simp [World.cell?, hc]⟩
    | j + 3, hy => simp at hy
  | i + 1, hx => simp [mo] at hx
theorem mo_right : Vf.verify (mo 28) = (0, 0, 0) := by decide +kernel
theorem mo_wrong : Vf.verify (mo 7) = (9, 0, 1) := by decide +kernel

theorem cod_set {w : World} {c : Nat} (h : w.heap[c]? = some (codO 28)) : (w.setCell ⟨c, 3, none⟩ (.int .i64 7)).heap[c]? = some (codO 7) := by
  simp only [World.setCell, Array.getElem?_modify, if_true, h, Option.map_some]
  rfl

set_option maxRecDepth 100000 in
set_option maxHeartbeats 2000000 in
theorem alive_any (w : World) : Calls Try.prog 8 #[] w fun e w' => e = .returned (.bool true) ∧ w.grownBy w' none := by
  go_enter Try.func8, Try.ntmps8
  go_wp2_with fail
  refine (small_any _).mono ?_
  rintro e w1 ⟨rfl, hg1, hs1⟩
  have hu1 : w1.cell? ⟨w.heap.size + 1 + 1, 5, none⟩ = some (.slice (some ⟨w.heap.size + 1, 0, none⟩) 3 3) := by simp [World.cell?, hs1.un]
  have hc1 : w1.cell? ⟨w.heap.size + 1, 3, none⟩ = some (.int .i64 28) := by simp [World.cell?, hs1.cod]
  have hf1 : w1.frozen? ⟨w.heap.size + 1, 3, none⟩ = false := by simp [World.frozen?, hs1.cod]
  have hz1 := lt_of_block hs1.un
  have hz1' : w.heap.size + 1 < w1.heap.size := by omega
  have HG1 := hide hg1
  have HS1 := hide hs1
  clear hg1 hs1
  obtain ⟨mbO, hmb⟩ : ∃ o : Obj, o = .cells #[.slice none 0 0, .slice (some ⟨w.heap.size + 1 + 1, 0, none⟩) 1 1] 25 := ⟨_, rfl⟩
  obtain ⟨W2, hW2⟩ : ∃ W2 : World, (w1.setCell ⟨w.heap.size + 1, 3, none⟩ (.int .i64 7)).alloc (.cells #[.slice none 0 0, .slice (some ⟨w.heap.size + 1 + 1, 0, none⟩) 1 1] 25) = W2 := ⟨_, rfl⟩
  have HG2 : Hid (w.grownBy W2 none) := by rw [← hW2]; exact grown0_new (grown0_setN HG1.out (by omega) _ _) _
  have hsz : (w1.setCell ⟨w.heap.size + 1, 3, none⟩ (.int .i64 7)).heap.size = w1.heap.size := by simp [World.setCell]
  have HC2 : Hid (W2.heap[w.heap.size + 1]? = some (codO 7)) := by rw [← hW2]; exact (Below.heap_alloc _ _ _ (by rw [hsz]; omega)).trans (cod_set HS1.out.cod)
  have HU2 : Hid (W2.heap[w.heap.size + 1 + 1]? = some (smO (w.heap.size + 1))) := by rw [← hW2]; exact (Below.heap_alloc _ _ _ (by rw [hsz]; omega)).trans ((Below.heap_setCell _ ⟨w.heap.size + 1, 3, none⟩ _ _ (by show w.heap.size + 1 + 1 ≠ w.heap.size + 1; omega)).trans HS1.out.un)
  have HB2 : Hid (W2.heap[w1.heap.size]? = some (.cells #[.slice none 0 0, .slice (some ⟨w.heap.size + 1 + 1, 0, none⟩) 1 1] 25 (0, 0))) := by rw [← hW2, ← hsz]; exact heap_alloc_new _ _
  have HW2 := hide hW2
  clear hW2 hmb hsz
  go_wp2_with fail
  rw [HW2.out]
  refine (small_any _).mono ?_
  rintro e w3 ⟨rfl, hg3, hs3⟩
  have HG3 : Hid (W2.grownBy w3 none) := hg3
  have HM3 : Hid (ModIn w3.heap.size w3 (mo 28) none (some ⟨W2.heap.size + 1 + 1, 0, none⟩)) := mo_in (by decide) hs3.cod hs3.un (Nat.le_refl _)
  clear hg3 hs3 hu1 hc1 hf1
  go_wp2_with fail
  refine (verify_any (mo 28) none (some ⟨W2.heap.size + 1 + 1, 0, none⟩) 0 1 w3.heap.size _ HM3 (Nat.le_refl _) (0, 0, 0) (hide mo_right.symm)).mono ?_
  rintro e w4 ⟨rfl, hg4⟩
  have HG4 : Hid (W2.grownBy w4 none) := grown0_tr' HG3.out hg4
  have hb4 : w4.heap[w1.heap.size]? = some (.cells #[.slice none 0 0, .slice (some ⟨w.heap.size + 1 + 1, 0, none⟩) 1 1] 25 (0, 0)) := (kept0 HG4.out (lt_of_block HB2.out)).trans HB2.out
  have m0 : w4.cell? ⟨w1.heap.size, 0, none⟩ = some (.slice none 0 0) := by simp [World.cell?, hb4]
  have m1 : w4.cell? ⟨w1.heap.size, 1, none⟩ = some (.slice (some ⟨w.heap.size + 1 + 1, 0, none⟩) 1 1) := by simp [World.cell?, hb4]
  have HM4 : Hid (ModIn w4.heap.size w4 (mo 7) none (some ⟨w.heap.size + 1 + 1, 0, none⟩)) := mo_in (by decide) ((kept0 HG4.out (lt_of_block HC2.out)).trans HC2.out) ((kept0 HG4.out (lt_of_block HU2.out)).trans HU2.out) (Nat.le_refl _)
  have q1 := eq_where 0 0 0 0 0 0 w4
  clear hg4 hb4
  go_wp2_with fail
  refine (verify_any (mo 7) none (some ⟨w.heap.size + 1 + 1, 0, none⟩) 0 1 w4.heap.size _ HM4 (Nat.le_refl _) (9, 0, 1) (hide mo_wrong.symm)).mono ?_
  rintro e w5 ⟨rfl, hg5⟩
  have q2 := eq_where 9 0 1 9 0 1 w5
  have HG5 : Hid (w.grownBy w5 none) := grown0_tr' HG2.out (grown0_tr' HG4.out hg5)
  clear hg5 m0 m1 q1
  go_wp2
  go_ret
  exact ⟨rfl, HG5.out⟩

end Go.Proofs.Ytbkimpimoclobaa

