/- The walk of asm.Print: WHAT Print ANSWERS. -/
import Derived.Test.YtbdcmkmeljddmaaGreatDoorM15
import Derived.Laws.IdiomStrings
import Derived.Lib.BufferRead
namespace Go.Proofs.YtbdcmkmeljddmaaGreatDoor.Aw
open Go.RowKit As

theorem conv_own {w : World} {B : Nat} {v : Value} {xs : By} (h : w.ownsRow B 5 1 v xs.length (Lib.byteCells xs)) : (convert 48 9 v).run Tryz.prog w = .ok (sv xs) w := by
  rcases h.2 with ⟨rfl, h0⟩ | ⟨g, cap, cur, rfl, _, hg, _, _, _, ht⟩
  · obtain rfl : xs = [] := List.length_eq_zero_iff.1 h0
    exact Lib.run_convert_nil_bytes w _ _ 5 0 Tryz.underlying48 Tryz.underlying5 Tryz.underlying9
  · rw [Nat.mul_one] at ht
    exact run_convert_bytes_back w _ _ 5 _ cap xs Tryz.underlying48 Tryz.underlying5 Tryz.underlying9 (Lib.bytes_of_row hg ht)

def printP (m : Vf.Md) : (Nat × Nat × Nat) × By :=
  if 60000 < (text (m.boxes.map bxL)).length then ((4, 0, 0), []) else prt (text (m.boxes.map bxL)) 0 m.units
theorem prt_unit (acc : By) (k : Nat) (u : Vf.Un) (us : List Vf.Un) : prt acc k (u :: us) = if (unitR acc k u).1 = 0 then prt (acc ++ text (linesU u)) (k + 1) us else (unitR acc k u, []) := by
  conv => lhs; unfold prt
  unfold unitR
  by_cases h : (headW u.kind).isSome = true
  · rw [if_pos h, if_pos h]
    cases badI u.code 0 with
    | some j => rfl
    | none =>
      simp only
      by_cases hl : 60000 < (acc ++ text (linesU u)).length
      · rw [if_pos hl, if_pos hl]; rfl
      · rw [if_neg hl, if_neg hl]; rfl
  · rw [if_neg h, if_neg h]; rfl
theorem unitR_few {acc : By} {k : Nat} {u : Vf.Un} (h : (unitR acc k u).1 = 0) : (acc ++ text (linesU u)).length ≤ 60000 := by
  unfold unitR at h
  split at h
  · split at h
    · cases h
    · split at h
      · cases h
      · rename_i h1; exact Nat.le_of_not_lt h1
  · cases h
theorem unitR_ok {acc : By} {k : Nat} {u : Vf.Un} (h : (unitR acc k u).1 = 0) : unitR acc k u = (0, 0, 0) := by
  unfold unitR at h ⊢
  split at h
  · rename_i h1
    rw [if_pos h1]
    split at h
    · cases h
    · split at h
      · cases h
      · rename_i h2 h3; rw [if_neg h3]
  · cases h

/-- Units so far. -/
structure PrAt (B S U J N M : Nat) (o : Obj) (m : Vf.Md) (w : World) (k : Nat) (W : World) : Prop where
  le : k ≤ m.units.length
  kp : Kp B w W
  md : W.heap[N]? = some o
  wh : W.heap[M]? = some (.cells #[.int .i64 0, .int .i64 0, .int .i64 0] 29 (0, 0))
  wr : ∃ acc, WR W B S U J acc ∧ acc.length ≤ 60000 ∧ printP m = prt acc k (m.units.drop k)

abbrev mdV (m : Vf.Md) (ab au : Option Addr) (cb cu : Nat) : Value := .agg #[.slice ab m.boxes.length cb, .slice au m.units.length cu]

set_option maxHeartbeats 4000000 in
theorem print_any (B : Nat) (m : Vf.Md) (ab au : Option Addr) (cb cu : Nat) (w : World) (hB : Hid (B ≤ w.heap.size)) (hg : Hid (GV B w)) (hin : Hid (ModIn B w m ab au)) (r : (Nat × Nat × Nat) × By) (hr : Hid (r = printP m)) :
    Calls Tryz.prog 5 #[mdV m ab au cb cu] w fun e w' => e = .returned (.tuple #[sv r.2, .agg #[.int .i64 r.1.1, .int .i64 r.1.2.1, .int .i64 r.1.2.2]]) ∧ Below w.heap.size w w' := by
  obtain ⟨V, hV⟩ : ∃ V, V = (w.alloc (mdO m ab au cb cu)).alloc (.cells #[.int .i64 0, .int .i64 0, .int .i64 0] 29) := ⟨_, rfl⟩
  have HBV : Hid (Below w.heap.size w V) := by rw [hV]; exact two_below _ _ _
  have HVS : Hid (V.heap.size = w.heap.size + 2) := by unfold Hid; rw [hV]; simp
  have HMD : Hid (V.heap[w.heap.size]? = some (mdO m ab au cb cu)) := by
    rw [hV]
    exact (Below.heap_alloc _ _ _ (by simp)).trans (heap_alloc_new _ _)
  have HWH : Hid (V.heap[w.heap.size + 1]? = some (.cells #[.int .i64 0, .int .i64 0, .int .i64 0] 29 (0, 0))) := by rw [hV]; exact two_new _ _ _
  have hfew := hin.out.few
  obtain ⟨N, hN⟩ : ∃ N, N = w.heap.size := ⟨_, rfl⟩
  have HNw := hide hN
  go_enter Tryz.func5, Tryz.ntmps5
  go_wp2_with fail
  rw [← hV]
  rw [← hN] at HMD HWH ⊢
  clear hV hN
  refine (newWriter_any B V (hide (hg.out.below HBV.out hB.out)) (hide (Nat.le_trans hB.out HBV.out.size))).mono ?_
  rintro e w1 ⟨S, U, J, rfl, hW1, hb1⟩
  have HMD1 := hide ((hb1.block _ (lt_of_block HMD.out)).trans HMD.out)
  have HWH1 := hide ((hb1.block _ (lt_of_block HWH.out)).trans HWH.out)
  have HB1 := hide (below_on HBV.out hb1)
  obtain ⟨C, hC⟩ : ∃ C, C = V.heap.size := ⟨_, rfl⟩
  have HC1 := hide (Nat.le_trans (Nat.le_of_eq hC) hb1.size)
  have HC0 : Hid (C = w.heap.size + 2) := hC.trans HVS.out
  rw [← hC] at hW1
  have HW1 := hide hW1
  clear hW1 hb1 HMD HWH HBV HVS hC
  have HLW : Hid (Low B w w1) := fun k hk => HB1.out.block k (by have := hB.out; omega)
  have HG1 : Hid (GV B w1) := hg.out.low HLW.out
  have HGC : Hid (GV C w1) := ⟨HG1.out.max, HG1.out.sp, HG1.out.pow, HG1.out.syn, HG1.out.rng, by have := HG1.out.base; have := hB.out; have := HC0.out; omega⟩
  have HIN1 : Hid (ModIn C w1 m ab au) := by
    have h1 := hin.out.low HLW.out
    have hle : B ≤ C := by have := hB.out; have := HC0.out; omega
    refine ⟨h1.few, fun i x hx => ?_, fun i x hx => ?_⟩
    · obtain ⟨a, b, c, d, e, f, g⟩ := h1.boxes i x hx
      exact ⟨a, b, c, d, e, by omega, g⟩
    · obtain ⟨b, off, al, cl, ac, cc, e, hb, hu, g⟩ := h1.units i x hx
      refine ⟨b, off, al, cl, ac, cc, e, by omega, ⟨hu.nums, hu.few, hu.caps, fun i x hx => ?_, fun i x hx => ?_⟩, g⟩
      · obtain ⟨a, b, c, d, f, g⟩ := hu.locals i x hx
        exact ⟨a, b, c, d, by omega, g⟩
      · obtain ⟨a1, a2, a3, b, c, d, f, g⟩ := hu.code i x hx
        exact ⟨a1, a2, a3, b, c, d, by omega, g⟩
  obtain ⟨m0, m1⟩ := md_cells HMD1.out
  go_wp2_with fail
  refine (boxes_any C S U J m.boxes ab cb hfew.1 [] w1 HGC (hide HIN1.out.boxes) HW1 (wBoxes [] m.boxes) (hide rfl)).mono ?_
  rintro e w2 ⟨rfl, hw2⟩
  have HLK : Hid (Lk (text (m.boxes.map bxL)) (wBoxes [] m.boxes)) := by have := wBoxes_lk m.boxes (T := []) (xs := []) (.inl rfl); unfold Hid; simpa using this
  have HK2 := hide hw2.kp
  have HW2 := hide hw2.wr
  have HMD2 := hide (hw2.kp.blk _ _ _ _ HMD1.out (by decide) (by decide))
  have HWH2 := hide (hw2.kp.blk _ _ _ _ HWH1.out (by decide) (by decide))
  have HB2 : Hid (Below w.heap.size w w2) := HB1.out.trans (hw2.kp.below.mono (by have := HC0.out; omega))
  clear hw2 m0 m1 HMD1 HWH1 HW1 HB1
  generalize hzs : wBoxes [] m.boxes = zs at HLK HW2
  clear hzs
  go_wp2_with fail
  refine (full_any C S U J zs _ HW2 (full zs) (hide rfl)).mono ?_
  rintro e w3 ⟨rfl, rfl⟩
  cases hfz : full zs with
  | true =>
    have hful := HLK.out.isFull
    rw [hfz] at hful
    have hr2 : r = ((4, 0, 0), []) := by rw [hr.out]; unfold printP; rw [if_pos (by simpa using hful.symm)]
    subst hr2
    obtain ⟨q0, q1, q2, g0, g1, g2⟩ := wh_cells HWH2.out
    clear hfz hful
    go_wp2
    exact bodyPost_ret (v := .tuple #[sv [], .agg #[.int .i64 4, .int .i64 0, .int .i64 0]]) (by simp [results, Tryz.results5, go_sem, q0, q1, q2]) rfl ⟨rfl, ((HB2.out.setCell (p := ⟨N + 1, 0, none⟩) (by show _ ≤ N + 1; have := HNw.out; omega) _).setCell (p := ⟨N + 1, 1, none⟩) (by show _ ≤ N + 1; have := HNw.out; omega) _).setCell (p := ⟨N + 1, 2, none⟩) (by show _ ≤ N + 1; have := HNw.out; omega) _⟩
  | false =>
    have hful := HLK.out.isFull
    rw [hfz] at hful
    have HP : Hid (printP m = prt zs 0 m.units) := by
      unfold Hid printP
      rw [if_neg (by simpa using hful.symm), HLK.out.eq hfz]
    have HA0 : Hid (PrAt C S U J N (N + 1) (mdO m ab au cb cu) m w3 0 w3) := ⟨Nat.zero_le _, Kp.refl _ _, HMD2.out, HWH2.out, zs, HW2.out, full_no hfz, by simpa using HP.out⟩
    have HG3 : Hid (GV C w3) := HGC.out.kp HK2.out
    have HIN3 : Hid (ModIn C w3 m ab au) := HIN1.out.low HK2.out.below.block
    obtain ⟨m0, m1⟩ := md_cells HMD2.out
    clear hfz hful HK2 HW2 HLK HP HIN1 HGC HG1
    go_wp2
    clear m0 m1
    go_loopw [19] (fun i wr => ∃ k : Nat, i = .int .i64 k ∧ PrAt C S U J N (N + 1) (mdO m ab au cb cu) m w3 k wr) (fun i _ => m.units.length - (intOf i).toNat)
    case atStart => exact ⟨0, rfl, HA0.out⟩
    case round =>
      obtain ⟨k, rfl, hA⟩ := hrel
      have HA := hide hA
      have hk := hA.le
      clear hA HA0
      have hlen := hfew.2
      by_cases hlt : k < m.units.length
      · obtain ⟨u, hu⟩ : ∃ u, m.units[k]? = some u := ⟨_, List.getElem?_eq_getElem hlt⟩
        obtain ⟨b, off, al, cl, ac, cc, he, _, hun, d0, d1, d2, d3, d4, d5⟩ := HIN3.out.units.low HA.out.kp.below.block k u hu
        have HX := hide hu
        have HUN := hide hun
        clear hu hun
        subst he
        obtain ⟨acc, hwr, hxl, hpr⟩ := HA.out.wr
        have HW := hide hwr
        have HXL := hide hxl
        have HPR : Hid (printP m = prt acc k (u :: m.units.drop (k + 1))) := by
          unfold Hid
          obtain ⟨hk', rfl⟩ := List.getElem?_eq_some_iff.1 HX.out
          rw [← List.drop_eq_getElem_cons hk']
          exact hpr
        clear hwr hxl hpr
        obtain ⟨V2, hV2⟩ : ∃ V2, V2 = wr.alloc (unO u al ac cl cc) := ⟨_, rfl⟩
        have HBV : Hid (Below wr.heap.size wr V2) := by rw [hV2]; exact (Below.refl _ _).alloc (Nat.le_refl _) _
        have HIN2 : Hid (V2.heap[wr.heap.size]? = some (unO u al ac cl cc)) := by rw [hV2]; exact heap_alloc_new _ _
        have HW2 := hide (HW.out.new HBV.out)
        have HK2 : Hid (Kp C w3 V2) := HA.out.kp.trans (Kp.new HBV.out HW.out.ge)
        have HMD4 := hide ((HBV.out.block _ (lt_of_block HA.out.md)).trans HA.out.md)
        have HWH4 := hide ((HBV.out.block _ (lt_of_block HA.out.wh)).trans HA.out.wh)
        have HUN2 : Hid (UnIn C V2 u al ac cl cc) := HUN.out.low (fun j hj => HBV.out.block j (by have := HW.out.ge; omega))
        obtain ⟨c0, c1, c2, c3, c4, c5⟩ := un_cells HIN2.out
        obtain ⟨rr, hrr⟩ : ∃ rr, rr = unitR acc k u := ⟨_, rfl⟩
        have HRR := hide hrr
        go_wp2_with fail
        rw [← hV2]
        generalize wr.heap.size = M at HIN2 c0 c1 c2 c3 c4 c5 HBV ⊢
        clear hV2 d0 d1 d2 d3 d4 d5 hrr HBV
        refine (unit_any C S U J k (by omega) u al ac cl cc acc V2 (hide (HG3.out.kp HK2.out)) HUN2 HW2 HXL rr HRR).mono ?_
        rintro e w4 ⟨rfl, hk4, hok⟩
        clear c0 c1 c2 c3 c4 c5
        have HOK := hide hok
        have HK4 := hide (HK2.out.trans hk4)
        have HMD5 := hide (hk4.blk _ _ _ _ HMD4.out (by decide) (by decide))
        have HWH5 := hide (hk4.blk _ _ _ _ HWH4.out (by decide) (by decide))
        clear hk4 hok HMD4 HWH4 HK2 HW2 HIN2 HUN2
        by_cases h0 : rr.1 = 0
        · have e0 : rr = (0, 0, 0) := by rw [HRR.out] at h0 ⊢; exact unitR_ok h0
          have HWR := hide (HOK.out h0)
          have HFW : Hid ((acc ++ text (linesU u)).length ≤ 60000) := by rw [HRR.out] at h0; exact unitR_few h0
          have HPR2 : Hid (printP m = prt (acc ++ text (linesU u)) (k + 1) (m.units.drop (k + 1))) := by unfold Hid; rw [HPR.out, prt_unit, ← HRR.out, if_pos h0]
          subst e0
          clear h0 HOK
          have HA4 : Hid (PrAt C S U J N (N + 1) (mdO m ab (some ⟨b, off, none⟩) cb cu) m w3 (k + 1) (w4.alloc (.cells #[.int .i64 0, .int .i64 0, .int .i64 0] 29))) := ⟨hlt, HK4.out.alloc HWR.out.ge _, (Below.heap_alloc _ _ _ (lt_of_block HMD5.out)).trans HMD5.out, (Below.heap_alloc _ _ _ (lt_of_block HWH5.out)).trans HWH5.out, _, HWR.out.alloc _, HFW.out, HPR2.out⟩
          go_wp2
          go_roundw
          case rel => exact ⟨k + 1, by go_num, HA4.out⟩
          case measure => simp [intOf]; omega
        · have hr2 : r = (rr, []) := by rw [hr.out, HPR.out, prt_unit, ← HRR.out, if_neg h0]
          subst hr2
          obtain ⟨V5, hV5⟩ : ∃ V5, V5 = w4.alloc (.cells #[.int .i64 rr.1, .int .i64 rr.2.1, .int .i64 rr.2.2] 29) := ⟨_, rfl⟩
          have hne : ((rr.1 : Int) == 0) = false := by simp; omega
          have HWH6 : Hid (V5.heap[N + 1]? = some (.cells #[.int .i64 0, .int .i64 0, .int .i64 0] 29 (0, 0))) := by rw [hV5]; exact (Below.heap_alloc _ _ _ (lt_of_block HWH5.out)).trans HWH5.out
          have HB6 : Hid (Below w.heap.size w V5) := by
            rw [hV5]
            refine (HB2.out.trans (HK4.out.below.mono (by have := HC0.out; omega))).alloc ?_ _
            have := HB2.out.size
            have := HK4.out.size
            omega
          obtain ⟨n0, n1, n2⟩ : V5.cell? ⟨w4.heap.size, 0, none⟩ = some (.int .i64 rr.1) ∧ V5.cell? ⟨w4.heap.size, 1, none⟩ = some (.int .i64 rr.2.1) ∧ V5.cell? ⟨w4.heap.size, 2, none⟩ = some (.int .i64 rr.2.2) := by
            have hb : V5.heap[w4.heap.size]? = some (.cells #[.int .i64 rr.1, .int .i64 rr.2.1, .int .i64 rr.2.2] 29 (0, 0)) := by rw [hV5]; exact heap_alloc_new _ _
            simp [World.cell?, hb]
          obtain ⟨q0, q1, q2, g0, g1, g2⟩ := wh_cells HWH6.out
          clear h0
          go_wp2
          rw [← hV5]
          clear hV5
          go_region
          go_wp2
          exact bodyPost_ret (v := .tuple #[sv [], .agg #[.int .i64 rr.1, .int .i64 rr.2.1, .int .i64 rr.2.2]]) (by simp [results, Tryz.results5, go_sem, q0, q1, q2]) rfl ⟨rfl, Below.drew (((HB6.out.setCell (p := ⟨N + 1, 0, none⟩) (by show _ ≤ N + 1; have := HNw.out; omega) _).setCell (p := ⟨N + 1, 1, none⟩) (by show _ ≤ N + 1; have := HNw.out; omega) _).setCell (p := ⟨N + 1, 2, none⟩) (by show _ ≤ N + 1; have := HNw.out; omega) _)⟩
      · obtain rfl : k = m.units.length := by omega
        obtain ⟨acc, hwr, hxl, hpr⟩ := HA.out.wr
        have hr2 : r = ((0, 0, 0), acc) := by
          rw [hr.out, hpr, List.drop_length]
          unfold prt
          rw [if_neg (by omega)]
        subst hr2
        obtain ⟨v, hS, hown⟩ := hwr.row
        obtain ⟨s0, _⟩ := wr_cells hS
        have hcv := conv_own hown
        have HB6 : Hid (Below w.heap.size w wr) := HB2.out.trans (HA.out.kp.below.mono (by have := HC0.out; omega))
        obtain ⟨q0, q1, q2, g0, g1, g2⟩ := wh_cells HA.out.wh
        clear hwr hxl hpr hS hown
        go_wp2
        exact bodyPost_ret (v := .tuple #[sv acc, .agg #[.int .i64 0, .int .i64 0, .int .i64 0]]) (by simp [results, Tryz.results5, go_sem, q0, q1, q2]) rfl ⟨rfl, ((HB6.out.setCell (p := ⟨N + 1, 0, none⟩) (by show _ ≤ N + 1; have := HNw.out; omega) _).setCell (p := ⟨N + 1, 1, none⟩) (by show _ ≤ N + 1; have := HNw.out; omega) _).setCell (p := ⟨N + 1, 2, none⟩) (by show _ ≤ N + 1; have := HNw.out; omega) _⟩

end Go.Proofs.YtbdcmkmeljddmaaGreatDoor.Aw

/- The listing, plainly: what Print answers, held against what the laws need; numbers of a module in memory. -/
namespace Go.Proofs.YtbdcmkmeljddmaaGreatDoor.Aw
open Go.RowKit As

theorem printP_ok {m : Vf.Md} {s : By} (h : printP m = ((0, 0, 0), s)) : printA m = ((0, 0, 0), s) := by
  unfold printP at h
  split at h
  · cases h
  · exact h
theorem num_mod {B : Nat} {w : World} {m : Vf.Md} {ab au : Option Addr} (h : ModIn B w m ab au) : NumM m := by
  refine ⟨fun b hb => ?_, fun u hu => ?_⟩
  · obtain ⟨i, hi⟩ := List.mem_iff_getElem?.1 hb
    obtain ⟨h1, h2, _⟩ := h.boxes i b hi
    exact ⟨i64_of h1, i64_of h2⟩
  · obtain ⟨i, hi⟩ := List.mem_iff_getElem?.1 hu
    obtain ⟨_, _, _, _, _, _, _, _, hun, _⟩ := h.units i u hi
    refine ⟨fun n hn => ?_, fun c hc => ?_⟩
    · simp only [List.mem_cons] at hn
      rcases hn with rfl | rfl | rfl | hn
      · exact i64_of hun.nums.2.1
      · exact i64_of hun.nums.2.2.1
      · exact i64_of hun.nums.2.2.2
      · obtain ⟨j, hj⟩ := List.mem_iff_getElem?.1 hn
        exact i64_of (hun.locals j n hj).1
    · obtain ⟨j, hj⟩ := List.mem_iff_getElem?.1 hc
      obtain ⟨_, h2, h3, _⟩ := hun.code j c hj
      exact ⟨i64_of h2, i64_of h3⟩
theorem prt_num : ∀ (us : List Vf.Un) (acc : By) (k : Nat) (a b : Nat) (s : By), prt acc k us = ((0, a, b), s) → a = 0 ∧ b = 0
  | [], acc, k, a, b, s, h => by
    unfold prt at h
    split at h
    · cases h
    · cases h; exact ⟨rfl, rfl⟩
  | u :: us, acc, k, a, b, s, h => by
    rw [prt_unit] at h
    split at h
    · exact prt_num us _ _ a b s h
    · rename_i hn
      have : (unitR acc k u).1 = 0 := by rw [(Prod.mk.inj h).1]
      exact absurd this hn
theorem printP_num {m : Vf.Md} (h : (printP m).1.1 = 0) : (printP m).1 = (0, 0, 0) := by
  unfold printP at h ⊢
  split at h
  · cases h
  · rename_i hn
    rw [if_neg hn]
    cases hp : prt (text (m.boxes.map bxL)) 0 m.units with
    | mk r s =>
      obtain ⟨e, a, b⟩ := r
      rw [hp] at h
      have h' : e = 0 := h
      subst h'
      obtain ⟨rfl, rfl⟩ := prt_num _ _ _ _ _ _ hp
      rfl

end Go.Proofs.YtbdcmkmeljddmaaGreatDoor.Aw

