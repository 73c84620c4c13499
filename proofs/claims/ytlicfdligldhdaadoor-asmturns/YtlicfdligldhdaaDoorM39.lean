/- The walk of AsmTurns. -/
import Derived.Test.YtlicfdligldhdaaDoorM25
import Derived.Test.YtlicfdligldhdaaDoorM32
import Derived.Test.YtlicfdligldhdaaDoorM37
import Derived.Test.YtlicfdligldhdaaDoorM38
namespace Go.Proofs.YtlicfdligldhdaaDoor.Aw
open Go.RowKit As

theorem gv_wide {B C : Nat} {w : World} (h : GV B w) (hB : B ≤ C) : GV C w := ⟨h.max, h.sp, h.pow, h.syn, h.rng, by have := h.base; omega⟩
theorem code_ge (u : Vf.Un) : u.code.length ≤ (linesU u).length := by simp [linesU]
theorem mem_ge {us : List Vf.Un} {u : Vf.Un} (h : u ∈ us) : (linesU u).length ≤ (us.flatMap linesU).length := by
  induction us with
  | nil => cases h
  | cons v us ih =>
    show _ ≤ (linesU v ++ us.flatMap linesU).length
    rw [List.length_append]
    rcases List.mem_cons.1 h with rfl | h
    · omega
    · have := ih h; omega
theorem print_few {m : Vf.Md} {s : By} (h : printA m = ((0, 0, 0), s)) : m.units.length ≤ 60000 ∧ ∀ u ∈ m.units, u.code.length ≤ 60000 ∧ ∀ i ∈ u.code, (wordOf i.op).isSome = true := by
  obtain ⟨h1, h2, h3⟩ := print_ok h
  have h4 := text_ge (lines m)
  have h5 := lines_ge m.units
  rw [← h2] at h4
  unfold lines at h4
  rw [List.length_append] at h4
  refine ⟨by omega, fun u hu => ⟨?_, (h1 u hu).2⟩⟩
  have := mem_ge hu
  have := code_ge u
  omega
set_option maxHeartbeats 4000000 in
set_option maxRecDepth 100000 in
theorem turns_any (B : Nat) (m : Vf.Md) (ab au : Option Addr) (cb cu : Nat) (s : By) (w : World) (hB : Hid (B ≤ w.heap.size)) (hg : Hid (GV B w)) (hin : Hid (ModIn B w m ab au)) :
    Calls Tryd.prog 3 #[mdV m ab au cb cu, sv s] w fun e w' => e = .returned (.bool true) ∧ Below w.heap.size w w' := by
  obtain ⟨V, hV⟩ : ∃ V, V = w.alloc (mdO m ab au cb cu) := ⟨_, rfl⟩
  have HBV : Hid (Below w.heap.size w V) := by rw [hV]; exact (Below.refl _ _).alloc (Nat.le_refl _) _
  have HMD : Hid (V.heap[w.heap.size]? = some (mdO m ab au cb cu)) := by rw [hV]; exact heap_alloc_new _ _
  have HV : Hid (w.alloc (mdO m ab au cb cu) = V) := hV.symm
  clear hV
  obtain ⟨N, hN⟩ : ∃ N, N = w.heap.size := ⟨_, rfl⟩
  have HLOW : Hid (∀ (W : World), Below w.heap.size w W → B ≤ W.heap.size ∧ GV B W ∧ ModIn B W m ab au) := fun W h => ⟨Nat.le_trans hB.out h.size, hg.out.below h hB.out, hin.out.low (fun k hk => h.block k (by have := hB.out; omega))⟩
  go_enter Tryd.func3, Tryd.ntmps3
  go_wp2_with fail
  rw [HV.out]
  rw [← hN] at HMD ⊢
  clear hN
  refine (alive_any B V (hide (HLOW.out _ HBV.out).1) (hide (HLOW.out _ HBV.out).2.1)).mono ?_
  rintro e w1 ⟨rfl, hb1⟩
  have HMD1 := hide ((hb1.block _ (lt_of_block HMD.out)).trans HMD.out)
  have HB1 := hide (below_on HBV.out hb1)
  obtain ⟨m0, m1⟩ := md_cells HMD1.out
  clear hb1 HMD HV HBV
  obtain ⟨r, hr⟩ : ∃ r, r = printP m := ⟨_, rfl⟩
  have HR := hide hr
  clear hr
  go_wp2_with fail
  refine (print_any B m ab au cb cu w1 (hide (HLOW.out _ HB1.out).1) (hide (HLOW.out _ HB1.out).2.1) (hide (HLOW.out _ HB1.out).2.2) r HR).mono ?_
  rintro e w2 ⟨rfl, hb2⟩
  have HMD2 := hide ((hb2.block _ (lt_of_block HMD1.out)).trans HMD1.out)
  have HB2 := hide (below_on HB1.out hb2)
  clear hb2 HMD1 HB1 m0 m1
  by_cases h0 : r.1.1 = 0
  · have hz : r.1 = (0, 0, 0) := by rw [HR.out] at h0 ⊢; exact printP_num h0
    obtain ⟨r1, t⟩ := r
    obtain rfl : r1 = (0, 0, 0) := hz
    have HT : Hid (readA t = ((0, 0), bare m)) := turns (num_mod hin.out) (printP_ok HR.out.symm)
    have HFW := hide (print_few (printP_ok HR.out.symm))
    clear h0 HR
    obtain ⟨W2, hW2⟩ : ∃ W2, W2 = w2.alloc (.cells #[.int .i64 0, .int .i64 0, .int .i64 0] 29) := ⟨_, rfl⟩
    have hbW2 : Below w2.heap.size w2 W2 := by rw [hW2]; exact (Below.refl _ _).alloc (Nat.le_refl _) _
    have HMD3 := hide ((hbW2.block _ (lt_of_block HMD2.out)).trans HMD2.out)
    have HB3 := hide (below_on HB2.out hbW2)
    have HW2 : Hid (w2.alloc (.cells #[.int .i64 0, .int .i64 0, .int .i64 0] 29) = W2) := hW2.symm
    clear hW2 hbW2 HMD2 HB2
    have hrd := read_any B t W2 (hide (HLOW.out _ HB3.out).1) (hide (HLOW.out _ HB3.out).2.1)
    unfold ReadV at hrd
    rw [HT.out] at hrd
    have HRD := hide hrd
    clear hrd HT
    go_wp2_with fail
    rw [HW2.out]
    refine HRD.out.mono ?_
    rintro e w3 ⟨nb, cnb, nu, cnu, rfl, hM, hb3⟩
    have HMD4 := hide ((hb3.block _ (lt_of_block HMD3.out)).trans HMD3.out)
    have HB4 := hide (below_on HB3.out hb3)
    have HM := hide hM
    clear hb3 HMD3 HB3 HRD HW2 hM
    obtain ⟨W4, hW4⟩ : ∃ W4, W4 = (w3.alloc (mdO (bare m) nb nu cnb cnu)).alloc (.cells #[.int .i64 0, .int .i64 0] 33) := ⟨_, rfl⟩
    have hbW4 : Below w3.heap.size w3 W4 := by rw [hW4]; exact two_below _ _ _
    have hM5 : W4.heap[w3.heap.size]? = some (mdO (bare m) nb nu cnb cnu) := by rw [hW4]; exact two_old _ _ _
    have hF5 : W4.heap[w3.heap.size + 1]? = some (.cells #[.int .i64 0, .int .i64 0] 33 (0, 0)) := by rw [hW4]; exact two_new _ _ _
    have hMD5 := (hbW4.block _ (lt_of_block HMD4.out)).trans HMD4.out
    have HB5 := hide (below_on HB4.out hbW4)
    have HMN : Hid (ModIn W4.heap.size W4 (bare m) nb nu) := md_on HM.out hbW4
    obtain ⟨a0, a1⟩ := md_cells hMD5
    obtain ⟨b0, b1⟩ := md_cells hM5
    have f0 := fault_cellJ hF5
    have hNl := lt_of_block hMD5
    have hMl := lt_of_block hM5
    have hFl := lt_of_block hF5
    have HW4 := hide hW4.symm
    have HD4 : Hid (Below W4.heap.size W4 (World.drew W4)) := ⟨rfl, rfl, rfl, Nat.le_refl _, fun _ _ => rfl⟩
    have HBA : Hid (∀ X : World, Below W4.heap.size W4 X → Calls Tryd.prog 9 #[.agg #[.slice ab m.boxes.length cb, .slice au m.units.length cu]] X fun e w' => ∃ ab' cb' au' cu', e = .returned (.agg #[.slice ab' (bare m).boxes.length cb', .slice au' (bare m).units.length cu']) ∧ ModIn w'.heap.size w' (bare m) ab' au' ∧ Below X.heap.size X w') := fun X hX => by
      obtain ⟨h1, _, h2⟩ := HLOW.out _ (below_on HB5.out hX)
      exact bare_any B m ab au cb cu X (hide h1) (hide h2) HFW.out.1 (hide HFW.out.2)
    clear hW4 hbW4 hM5 hF5 hMD5 HB4 HMD4 HM
    go_upto_region 6 with fail
    rw [HW4.out]
    clear HW4
    generalize w3.heap.size = M at *
    go_region_held3 (fun w' => w'.cell? ⟨N, 0, none⟩ = some (.slice ab m.boxes.length cb) ∧ w'.cell? ⟨N, 1, none⟩ = some (.slice au m.units.length cu) ∧ w'.cell? ⟨M, 0, none⟩ = some (.slice nb (bare m).boxes.length cnb) ∧ w'.cell? ⟨M, 1, none⟩ = some (.slice nu (bare m).units.length cnu) ∧ w'.cell? ⟨M + 1, 0, none⟩ = some (.int .i64 0)) (go_keep) (first | (go_at_call 8; have hx1 := HX1.out; refine (same_any (bare m) nb nu qb qu cnb cnu cqb cqu _ (hide (md_on HMN.out hx1)) HMQ).mono ?_; rintro e w6 ⟨rfl, hb6⟩; have HX2 : Hid (Below W4.heap.size W4 w6) := below_on hx1 hb6; clear hb6 hx1; have k0 := (HX2.out.cell (p := ⟨N, 0, none⟩) hNl).trans a0; have k1 := (HX2.out.cell (p := ⟨N, 1, none⟩) hNl).trans a1; have k2 := (HX2.out.cell (p := ⟨M, 0, none⟩) hMl).trans b0; have k3 := (HX2.out.cell (p := ⟨M, 1, none⟩) hMl).trans b1; have k4 := (HX2.out.cell (p := ⟨M + 1, 0, none⟩) hFl).trans f0) | (go_at_call 9; refine (HBA.out _ HD4.out).mono ?_; rintro e w5 ⟨qb, cqb, qu, cqu, rfl, hMQ, hb5⟩; have HX1 : Hid (Below W4.heap.size W4 w5) := below_on HD4.out hb5; have HMQ := hide hMQ; clear hb5 hMQ; have k0 := (HX1.out.cell (p := ⟨N, 0, none⟩) hNl).trans a0; have k1 := (HX1.out.cell (p := ⟨N, 1, none⟩) hNl).trans a1; have k2 := (HX1.out.cell (p := ⟨M, 0, none⟩) hMl).trans b0; have k3 := (HX1.out.cell (p := ⟨M, 1, none⟩) hMl).trans b1; have k4 := (HX1.out.cell (p := ⟨M + 1, 0, none⟩) hFl).trans f0))
    have HBE := hide (below_on HB5.out HX2.out)
    clear a0 a1 b0 b1 f0 HBA HMN HX1 HX2
    have hrd := read_any B s w6 (hide (HLOW.out _ HBE.out).1) (hide (HLOW.out _ HBE.out).2.1)
    unfold ReadV at hrd
    obtain ⟨⟨⟨es, ls⟩, m2⟩, hrs⟩ : ∃ r, r = readA s := ⟨_, rfl⟩
    rw [← hrs] at hrd
    have HRD := hide hrd
    have HRS := hide hrs
    clear hrd hrs
    go_wp2_with fail
    refine HRD.out.mono ?_
    rintro e w6 ⟨sb, csb, su, csu, rfl, hMs, hb6⟩
    have HB6 := hide (below_on HBE.out hb6)
    have HMS := hide hMs
    clear hb6 hMs HRD
    obtain ⟨W6, hW6⟩ : ∃ W6, W6 = (w6.alloc (mdO m2 sb su csb csu)).alloc (.cells #[.int .i64 es, .int .i64 ls] 33) := ⟨_, rfl⟩
    have hbW6 : Below w6.heap.size w6 W6 := by rw [hW6]; exact two_below _ _ _
    have hM6 : W6.heap[w6.heap.size]? = some (mdO m2 sb su csb csu) := by rw [hW6]; exact two_old _ _ _
    have hF6 : W6.heap[w6.heap.size + 1]? = some (.cells #[.int .i64 es, .int .i64 ls] 33 (0, 0)) := by rw [hW6]; exact two_new _ _ _
    have HMS6 := hide (md_on HMS.out hbW6)
    have HB7 := hide (below_on HB6.out hbW6)
    have HW6 := hide hW6.symm
    obtain ⟨b0, b1⟩ := md_cells hM6
    have f0 := fault_cellJ hF6
    clear hW6 hbW6 hM6 hF6 HMS HB6
    go_upto_region 9 with fail
    rw [HW6.out]
    clear HW6
    generalize w6.heap.size = M6 at *
    by_cases hes : es = 0
    · have e3 : ((es : Int) != 0) = false := by simp; omega
      have hrz := read_nz HRS.out.symm hes
      obtain ⟨hpA, _, _⟩ := turns_back hrz
      have HP2 : Hid (((0, 0, 0), s) = printP m2) := (printP_of hpA).symm
      have HPC := hide (print_any W6.heap.size m2 sb su csb csu W6 (hide (Nat.le_refl _)) (hide (gv_wide (HLOW.out _ HB7.out).2.1 (HLOW.out _ HB7.out).1)) HMS6 ((0, 0, 0), s) HP2)
      clear hes hrz hpA
      go_wp2_with fail
      refine HPC.out.mono ?_
      rintro e w8 ⟨rfl, hb8⟩
      have HB8 := hide (below_on HB7.out hb8)
      clear hb8 HPC
      have HEND : Hid (Below w.heap.size w (w8.alloc (.cells #[.int .i64 0, .int .i64 0, .int .i64 0] 29))) := HB8.out.alloc HB8.out.size _
      go_wp2
      go_ret
      exact ⟨rfl, HEND.out⟩
    · have e3 : ((es : Int) != 0) = true := by simp; omega
      clear hes
      go_wp2
      go_ret
      exact ⟨rfl, HB7.out⟩
  · have hne : ((r.1.1 : Int) == 0) = false := by simp; omega
    obtain ⟨W3, hW3⟩ : ∃ W3, W3 = w2.alloc (.cells #[.int .i64 r.1.1, .int .i64 r.1.2.1, .int .i64 r.1.2.2] 29) := ⟨_, rfl⟩
    have HB3 : Hid (Below w.heap.size w W3) := by rw [hW3]; exact HB2.out.alloc HB2.out.size _
    have HW3 := hide hW3.symm
    clear h0 hW3
    go_upto_region 8 with fail
    rw [HW3.out]
    clear HW3
    have hrd := read_any B s W3 (hide (HLOW.out _ HB3.out).1) (hide (HLOW.out _ HB3.out).2.1)
    unfold ReadV at hrd
    obtain ⟨⟨⟨es, ls⟩, m2⟩, hrs⟩ : ∃ r, r = readA s := ⟨_, rfl⟩
    rw [← hrs] at hrd
    have HRD := hide hrd
    have HRS := hide hrs
    clear hrd hrs
    go_wp2_with fail
    refine HRD.out.mono ?_
    rintro e w6 ⟨sb, csb, su, csu, rfl, hMs, hb6⟩
    have HB6 := hide (below_on HB3.out hb6)
    have HMS := hide hMs
    clear hb6 hMs HRD
    obtain ⟨W6, hW6⟩ : ∃ W6, W6 = (w6.alloc (mdO m2 sb su csb csu)).alloc (.cells #[.int .i64 es, .int .i64 ls] 33) := ⟨_, rfl⟩
    have hbW6 : Below w6.heap.size w6 W6 := by rw [hW6]; exact two_below _ _ _
    have hM6 : W6.heap[w6.heap.size]? = some (mdO m2 sb su csb csu) := by rw [hW6]; exact two_old _ _ _
    have hF6 : W6.heap[w6.heap.size + 1]? = some (.cells #[.int .i64 es, .int .i64 ls] 33 (0, 0)) := by rw [hW6]; exact two_new _ _ _
    have HMS6 := hide (md_on HMS.out hbW6)
    have HB7 := hide (below_on HB6.out hbW6)
    have HW6 := hide hW6.symm
    obtain ⟨b0, b1⟩ := md_cells hM6
    have f0 := fault_cellJ hF6
    clear hW6 hbW6 hM6 hF6 HMS HB6
    go_upto_region 9 with fail
    rw [HW6.out]
    clear HW6
    generalize w6.heap.size = M6 at *
    by_cases hes : es = 0
    · have e3 : ((es : Int) != 0) = false := by simp; omega
      have hrz := read_nz HRS.out.symm hes
      obtain ⟨hpA, _, _⟩ := turns_back hrz
      have HP2 : Hid (((0, 0, 0), s) = printP m2) := (printP_of hpA).symm
      have HPC := hide (print_any W6.heap.size m2 sb su csb csu W6 (hide (Nat.le_refl _)) (hide (gv_wide (HLOW.out _ HB7.out).2.1 (HLOW.out _ HB7.out).1)) HMS6 ((0, 0, 0), s) HP2)
      clear hes hrz hpA
      go_wp2_with fail
      refine HPC.out.mono ?_
      rintro e w8 ⟨rfl, hb8⟩
      have HB8 := hide (below_on HB7.out hb8)
      clear hb8 HPC
      have HEND : Hid (Below w.heap.size w (w8.alloc (.cells #[.int .i64 0, .int .i64 0, .int .i64 0] 29))) := HB8.out.alloc HB8.out.size _
      go_wp2
      go_ret
      exact ⟨rfl, HEND.out⟩
    · have e3 : ((es : Int) != 0) = true := by simp; omega
      clear hes
      go_wp2
      go_ret
      exact ⟨rfl, HB7.out⟩
end Go.Proofs.YtlicfdligldhdaaDoor.Aw

