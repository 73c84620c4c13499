/- The law: both Prints and both Wrongs answer the same. -/
import Derived.Test.YtbbklahhnepiaaaDoorPt13
import Derived.Test.YtbbklahhnepiaaaDoorTx6
namespace Go.Proofs.YtbbklahhnepiaaaDoor
open Go.RowKit

set_option maxRecDepth 100000 in
set_option maxHeartbeats 1000000 in
theorem print_wrong (l : List Sy.Df) (a : Option Addr) (c : Nat) (er : Int) (num : Nat) (w : World) (hX : Hid (DfsIn w.heap.size w l a)) (HW : Hid (Sy.wrongL l = (er, num))) (hne : Hid (er ≠ 0)) :
    Calls Tryd.prog 4 #[.slice a l.length c] w fun e w' => e = .returned (.tuple #[.string ⟨#[]⟩, .agg #[.int .i64 er, .int .i64 num]]) ∧ Below w.heap.size w w' := by
  have e0 : (er != 0) = true := by have := hne.out; simp; exact this
  go_enter Tryd.func4, Tryd.ntmps4
  go_wp2_with fail
  refine (wrong_any l a c _ ((hX.out.same (same_bel (bel_one w Z2) (Nat.le_refl _))).wide (by simp))).mono ?_
  rintro e w1 ⟨rfl, hb1⟩
  rw [HW.out]
  have HB1 : Hid (Below w.heap.size w w1) := bel_next (bel_one w Z2) hb1 (by simp)
  have hz := hb1.size
  simp at hz
  obtain ⟨Z, hZ⟩ : ∃ Z, Z = w1.alloc (.cells #[.int .i64 er, .int .i64 num] 25) := ⟨_, rfl⟩
  have hZ0 : Z.heap[w.heap.size]? = some Z2 := by rw [hZ, Below.heap_alloc _ _ _ (by omega)]; exact (hb1.block w.heap.size (by simp)).trans (heap_alloc_new w Z2)
  obtain ⟨c0, c1, f0, f1⟩ := two_cell hZ0
  have g0 : Z.cell? ⟨w1.heap.size, 0, none⟩ = some (.int .i64 er) := by rw [hZ, World.cell?_alloc_mark]; rfl
  have g1 : Z.cell? ⟨w1.heap.size, 1, none⟩ = some (.int .i64 num) := by rw [hZ, World.cell?_alloc_mark]; rfl
  have HZb : Hid (Below w.heap.size w Z) := by rw [hZ]; exact HB1.out.alloc (by omega) _
  have HZe : Hid (w1.alloc (.cells #[.int .i64 er, .int .i64 num] 25) = Z) := hZ.symm
  clear hb1 hZ hZ0
  go_upto_region 3 with fail
  rw [HZe.out]
  go_region
  all_goals go_wp2
  all_goals refine bodyPost_ret (v := .tuple #[.string ⟨#[]⟩, .agg #[.int .i64 er, .int .i64 num]]) (by simp [results, Tryd.results4, go_sem, c0, c1]) rfl ⟨rfl, ?_⟩
  all_goals exact ((HZb.out.setCell (p := ⟨w.heap.size, 0, none⟩) (Nat.le_refl _) _).setCell (p := ⟨w.heap.size, 1, none⟩) (Nat.le_refl _) _).drew

set_option maxRecDepth 100000 in
set_option maxHeartbeats 1000000 in
theorem rprint_wrong (l : List Sy.Df) (a : Option Addr) (c : Nat) (er : Int) (num : Nat) (w : World) (hX : Hid (DfsIn w.heap.size w l a)) (HW : Hid (Sy.wrongL l = (er, num))) (hne : Hid (er ≠ 0)) :
    Calls Tryd.prog 5 #[.slice a l.length c] w fun e w' => e = .returned (.tuple #[.string ⟨#[]⟩, .agg #[.int .i64 er, .int .i64 num]]) ∧ Below w.heap.size w w' := by
  have e0 : (er != 0) = true := by have := hne.out; simp; exact this
  go_enter Tryd.func5, Tryd.ntmps5
  go_wp2_with fail
  refine (rwrong_any l a c _ ((hX.out.same (same_bel (bel_one w Z2) (Nat.le_refl _))).wide (by simp))).mono ?_
  rintro e w1 ⟨rfl, hb1⟩
  rw [HW.out]
  have HB1 : Hid (Below w.heap.size w w1) := bel_next (bel_one w Z2) hb1 (by simp)
  have hz := hb1.size
  simp at hz
  obtain ⟨Z, hZ⟩ : ∃ Z, Z = w1.alloc (.cells #[.int .i64 er, .int .i64 num] 25) := ⟨_, rfl⟩
  have hZ0 : Z.heap[w.heap.size]? = some Z2 := by rw [hZ, Below.heap_alloc _ _ _ (by omega)]; exact (hb1.block w.heap.size (by simp)).trans (heap_alloc_new w Z2)
  obtain ⟨c0, c1, f0, f1⟩ := two_cell hZ0
  have g0 : Z.cell? ⟨w1.heap.size, 0, none⟩ = some (.int .i64 er) := by rw [hZ, World.cell?_alloc_mark]; rfl
  have g1 : Z.cell? ⟨w1.heap.size, 1, none⟩ = some (.int .i64 num) := by rw [hZ, World.cell?_alloc_mark]; rfl
  have HZb : Hid (Below w.heap.size w Z) := by rw [hZ]; exact HB1.out.alloc (by omega) _
  have HZe : Hid (w1.alloc (.cells #[.int .i64 er, .int .i64 num] 25) = Z) := hZ.symm
  clear hb1 hZ hZ0
  go_upto_region 3 with fail
  rw [HZe.out]
  go_region
  all_goals go_wp2
  all_goals refine bodyPost_ret (v := .tuple #[.string ⟨#[]⟩, .agg #[.int .i64 er, .int .i64 num]]) (by simp [results, Tryd.results5, go_sem, c0, c1]) rfl ⟨rfl, ?_⟩
  all_goals exact ((HZb.out.setCell (p := ⟨w.heap.size, 0, none⟩) (Nat.le_refl _) _).setCell (p := ⟨w.heap.size, 1, none⟩) (Nat.le_refl _) _).drew

/-- Both answer the same, from wherever they are called. -/
theorem both_print (l : List Sy.Df) (a : Option Addr) (c : Nat) (w : World) (hX : DfsIn w.heap.size w l a) (HG : Gens l) (htab : TabW w) (hTK : TabV w 0) :
    ∃ (r : ByteArray) (er : Int) (num : Nat), (∀ u : World, Below w.heap.size w u → Calls Tryd.prog 4 #[.slice a l.length c] u fun e w' => e = .returned (.tuple #[.string r, .agg #[.int .i64 er, .int .i64 num]]) ∧ Below u.heap.size u w') ∧
      (∀ u : World, Below w.heap.size w u → Calls Tryd.prog 5 #[.slice a l.length c] u fun e w' => e = .returned (.tuple #[.string r, .agg #[.int .i64 er, .int .i64 num]]) ∧ Below u.heap.size u w') := by
  have hin : ∀ u : World, Below w.heap.size w u → DfsIn u.heap.size u l a := fun u hu => (hX.same (same_bel hu (Nat.le_refl _))).wide hu.size
  by_cases h0 : (Sy.wrongL l).1 = 0
  · have hW : Sy.wrongL l = (0, 0) := Prod.ext h0 (wrongL_zero l h0)
    obtain ⟨r, er, hr⟩ : ∃ (r : ByteArray) (er : Int), (r, er) = if 6000 < (joinT (Sy.progT l)).size then ((⟨#[]⟩ : ByteArray), 4) else (joinT (Sy.progT l), 0) := ⟨_, _, rfl⟩
    exact ⟨r, er, 0, fun u hu => print_right l a c r er u (hin u hu) hW (htab.below hu) (hTK.keep hu hTK.lt) hr, fun u hu => rprint_right l a c r er u (hin u hu) hW HG (htab.below hu) hr⟩
  · exact ⟨⟨#[]⟩, (Sy.wrongL l).1, (Sy.wrongL l).2, fun u hu => print_wrong l a c _ _ u (hin u hu) rfl h0, fun u hu => rprint_wrong l a c _ _ u (hin u hu) rfl h0⟩

set_option maxRecDepth 100000 in
set_option maxHeartbeats 2000000 in
theorem law_any (l : List Sy.Df) (a : Option Addr) (c : Nat) (w : World) (hX : Hid (DfsIn w.heap.size w l a)) (HG : Hid (Gens l)) (htab : Hid (TabW w)) (hTK : Hid (TabV w 0)) :
    Calls Tryd.prog 3 #[.slice a l.length c] w fun e w' => e = .returned (.bool true) ∧ Below w.heap.size w w' := by
  obtain ⟨r, er, num, h1, h2⟩ := both_print l a c w hX.out HG.out htab.out hTK.out
  have H1 : Hid (∀ u : World, Below w.heap.size w u → Calls Tryd.prog 4 #[.slice a l.length c] u fun e w' => e = .returned (.tuple #[.string r, .agg #[.int .i64 er, .int .i64 num]]) ∧ Below u.heap.size u w') := h1
  have H2 : Hid (∀ u : World, Below w.heap.size w u → Calls Tryd.prog 5 #[.slice a l.length c] u fun e w' => e = .returned (.tuple #[.string r, .agg #[.int .i64 er, .int .i64 num]]) ∧ Below u.heap.size u w') := h2
  clear h1 h2
  go_enter Tryd.func3, Tryd.ntmps3
  go_wp2_with fail
  refine (H1.out _ (Below.refl _ w)).mono ?_
  rintro e w1 ⟨rfl, hb1⟩
  have HB1 : Hid (Below w.heap.size w w1) := hb1
  obtain ⟨A1, hA1⟩ : ∃ A1, A1 = w1.alloc (.cells #[.int .i64 er, .int .i64 num] 25) := ⟨_, rfl⟩
  have hA1z : A1.heap.size = w1.heap.size + 1 := by rw [hA1]; simp
  have p0 : A1.cell? ⟨w1.heap.size, 0, none⟩ = some (.int .i64 er) := by rw [hA1, World.cell?_alloc_mark]; rfl
  have p1 : A1.cell? ⟨w1.heap.size, 1, none⟩ = some (.int .i64 num) := by rw [hA1, World.cell?_alloc_mark]; rfl
  have HA1 : Hid (Below w.heap.size w A1) := by rw [hA1]; exact hb1.alloc hb1.size _
  have HA1e : Hid (w1.alloc (.cells #[.int .i64 er, .int .i64 num] 25) = A1) := hA1.symm
  clear hb1 hA1
  go_wp2_with fail
  rw [HA1e.out]
  refine (H2.out _ HA1.out).mono ?_
  rintro e w2 ⟨rfl, hb2⟩
  have p0a := bcell (o := 0) hb2 (by omega) p0
  have p1a := bcell (o := 1) hb2 (by omega) p1
  have hz2 := hb2.size
  have HB2 : Hid (Below w.heap.size w w2) := bel_next HA1.out hb2 HA1.out.size
  obtain ⟨A2, hA2⟩ : ∃ A2, A2 = w2.alloc (.cells #[.int .i64 er, .int .i64 num] 25) := ⟨_, rfl⟩
  have hA2z : A2.heap.size = w2.heap.size + 1 := by rw [hA2]; simp
  have y0 : A2.cell? ⟨w2.heap.size, 0, none⟩ = some (.int .i64 er) := by rw [hA2, World.cell?_alloc_mark]; rfl
  have y1 : A2.cell? ⟨w2.heap.size, 1, none⟩ = some (.int .i64 num) := by rw [hA2, World.cell?_alloc_mark]; rfl
  have p0b : A2.cell? ⟨w1.heap.size, 0, none⟩ = some (.int .i64 er) := by rw [hA2]; exact bcell (o := 0) (bel_one w2 _) (by omega) p0a
  have p1b : A2.cell? ⟨w1.heap.size, 1, none⟩ = some (.int .i64 num) := by rw [hA2]; exact bcell (o := 1) (bel_one w2 _) (by omega) p1a
  have HA2 : Hid (Below w.heap.size w A2) := by rw [hA2]; exact HB2.out.alloc HB2.out.size _
  have HA2e : Hid (w2.alloc (.cells #[.int .i64 er, .int .i64 num] 25) = A2) := hA2.symm
  clear hb2 hA2 p0 p1 p0a p1a
  go_wp2_with fail
  rw [HA2e.out]
  refine (wrong_any l a c A2 ((hX.out.same (same_bel HA2.out (Nat.le_refl _))).wide HA2.out.size)).mono ?_
  rintro e w3 ⟨rfl, hb3⟩
  have p0c := bcell (o := 0) hb3 (by omega) p0b
  have p1c := bcell (o := 1) hb3 (by omega) p1b
  have y0c := bcell (o := 0) hb3 (by omega) y0
  have y1c := bcell (o := 1) hb3 (by omega) y1
  have hz3 := hb3.size
  have HB3 : Hid (Below w.heap.size w w3) := bel_next HA2.out hb3 HA2.out.size
  obtain ⟨e1, he1⟩ : ∃ e1, e1 = (Sy.wrongL l).1 := ⟨_, rfl⟩
  obtain ⟨n1, hn1⟩ : ∃ n1, n1 = (Sy.wrongL l).2 := ⟨_, rfl⟩
  have HE1 : Hid (e1 = (Sy.wrongL l).1) := he1
  have HN1 : Hid (n1 = (Sy.wrongL l).2) := hn1
  rw [← he1, ← hn1]
  clear hb3 he1 hn1 p0b p1b y0 y1
  go_wp2_with fail
  refine (rwrong_any l a c w3 ((hX.out.same (same_bel HB3.out (Nat.le_refl _))).wide HB3.out.size)).mono ?_
  rintro e w4 ⟨he, hb4⟩
  rw [← HE1.out, ← HN1.out] at he
  subst he
  have p0d := bcell (o := 0) hb4 (by omega) p0c
  have p1d := bcell (o := 1) hb4 (by omega) p1c
  have y0d := bcell (o := 0) hb4 (by omega) y0c
  have y1d := bcell (o := 1) hb4 (by omega) y1c
  have HB4 : Hid (Below w.heap.size w w4) := bel_next HB3.out hb4 HB3.out.size
  clear hb4 p0c p1c y0c y1c
  go_wp2
  go_ret
  exact ⟨rfl, HB4.out⟩

end Go.Proofs.YtbbklahhnepiaaaDoor
