/- The walk of ref6.Same, of two that are alike. -/
import Derived.Test.YtalofknphhjhnaaM32
import Derived.Test.YtalofknphhjhnaaM31
import Derived.Test.YtalofknphhjhnaaM33
namespace Go.Proofs.Ytalofknphhjhnaa.Ow
open Go.RowKit Vf Vm Ot

theorem md_wide {B C : Nat} {w : World} {m : Vf.Md} {ab au : Option Addr} (h : ModIn B w m ab au) (hB : B ≤ C) : ModIn C w m ab au := by
  refine ⟨h.few, fun i x hx => ?_, fun i x hx => ?_⟩
  · obtain ⟨a, b, c, d, e, f, g⟩ := h.boxes i x hx
    exact ⟨a, b, c, d, e, by omega, g⟩
  · obtain ⟨b, off, al, cl, ac, cc, e, hb, hu, g⟩ := h.units i x hx
    exact ⟨b, off, al, cl, ac, cc, e, by omega, un_wideO hu hB, g⟩
theorem md_on {w w' : World} {m : Vf.Md} {ab au : Option Addr} (h : ModIn w.heap.size w m ab au) (hb : Below w.heap.size w w') : ModIn w'.heap.size w' m ab au := md_wide (h.low hb.block) hb.size
set_option maxHeartbeats 400000 in
theorem sameInts_any (B : Nat) (l : List Int) (a1 a2 : Option Addr) (c1 c2 : Nat) (w : World) (h1 : Hid (IntsIn B w l a1)) (h2 : Hid (IntsIn B w l a2)) (hn : l.length ≤ 9223372036854775807) :
    Calls Try.prog 21 #[.slice a1 l.length c1, .slice a2 l.length c2] w fun e w' => e = .returned (.bool true) ∧ ∃ d, w' = w.drewN d := by
  have eq0 : ((l.length : Int) != (l.length : Int)) = false := by simp
  go_enter Try.func21, Try.ntmps21
  go_wp2
  go_loopw [13] (fun i wr => ∃ k d : Nat, k ≤ l.length ∧ i = .int .i64 k ∧ wr = w.drewN d) (fun i _ => l.length - (intOf i).toNat)
  case atStart => exact ⟨0, 0, Nat.zero_le _, rfl, rfl⟩
  case round =>
    obtain ⟨k, d, hk, rfl, rfl⟩ := hrel
    by_cases hlt : k < l.length
    · obtain ⟨x, hx⟩ : ∃ x, l[k]? = some x := ⟨_, List.getElem?_eq_getElem hlt⟩
      obtain ⟨_, b1, o1, rfl, _, x1⟩ := h1.out k x hx
      obtain ⟨_, b2, o2, rfl, _, x2⟩ := h2.out k x hx
      have eqx : (x != x) = false := by simp
      have b0 : (0 : Int) ≤ (k : Int) := by omega
      have b1 : (k : Int) < (l.length : Int) := by omega
      clear hx
      go_wp2
      go_quiet (fail)
      go_wp2
      go_roundw
      case rel => exact ⟨k + 1, _, by omega, by go_num, rfl⟩
      case measure => simp [intOf]; omega
    · go_wp2
      go_ret
      exact ⟨rfl, d, rfl⟩

theorem box_eq (x y : Int) (w : World) : Sem.run Try.prog (binOp BinOp.neq 44 (.agg #[.int .i64 x, .int .i64 y]) (.agg #[.int .i64 x, .int .i64 y])) w = .ok (.bool false) w := by
  simp [go_sem]
theorem ins_eq (x y z : Int) (w : World) : Sem.run Try.prog (binOp BinOp.neq 41 (.agg #[.int .i64 x, .int .i64 y, .int .i64 z]) (.agg #[.int .i64 x, .int .i64 y, .int .i64 z])) w = .ok (.bool false) w := by
  simp [go_sem]


set_option maxRecDepth 100000 in
set_option maxHeartbeats 4000000 in
theorem same_any (m : Vf.Md) (ab au ab' au' : Option Addr) (cb cu cb' cu' : Nat) (w : World) (h1 : Hid (ModIn w.heap.size w m ab au)) (h2 : Hid (ModIn w.heap.size w m ab' au')) :
    Calls Try.prog 9 #[.agg #[.slice ab m.boxes.length cb, .slice au m.units.length cu], .agg #[.slice ab' m.boxes.length cb', .slice au' m.units.length cu']] w fun e w' => e = .returned (.bool true) ∧ Below w.heap.size w w' := by
  obtain ⟨hl1, hl2⟩ := h1.out.few
  have eqb : ((m.boxes.length : Int) != (m.boxes.length : Int)) = false := by simp
  have equ : ((m.units.length : Int) != (m.units.length : Int)) = false := by simp
  obtain ⟨W0, hW0⟩ : ∃ W0, W0 = (w.alloc (modO m ab au cb cu)).alloc (modO m ab' au' cb' cu') := ⟨_, rfl⟩
  have H0s : W0.heap.size = w.heap.size + 2 := by rw [hW0]; simp
  have HB0 : Hid (Below w.heap.size w W0) := by rw [hW0]; exact ((Below.refl _ w).alloc (Nat.le_refl _) _).alloc (by simp) _
  have HN0 : Hid (W0.heap[w.heap.size]? = some (modO m ab au cb cu)) := by rw [hW0]; exact oldO _ _ _
  have HN1 : Hid (W0.heap[w.heap.size + 1]? = some (modO m ab' au' cb' cu')) := by rw [hW0]; exact newO _ _ _
  have HW0 := hide hW0
  have HZ0 := hide H0s
  clear hW0 H0s
  go_enter Try.func9, Try.ntmps9
  go_wp2
  go_loopw [29] (fun i wr => ∃ k d : Nat, k ≤ m.boxes.length ∧ i = .int .i64 k ∧ wr = W0.drewN d) (fun i _ => m.boxes.length - (intOf i).toNat)
  case atStart => exact ⟨0, 0, Nat.zero_le _, rfl, by rw [HW0.out]; rfl⟩
  case round =>
    obtain ⟨k, d, hk, rfl, rfl⟩ := hrel
    obtain ⟨c0, c1⟩ := Aw.md_cells HN0.out
    obtain ⟨c2, c3⟩ := Aw.md_cells HN1.out
    by_cases hlt : k < m.boxes.length
    · obtain ⟨x, hx⟩ : ∃ x, m.boxes[k]? = some x := ⟨_, List.getElem?_eq_getElem hlt⟩
      obtain ⟨_, _, b1, o1, rfl, _, x1, y1⟩ := (md_on h1.out HB0.out).boxes k x hx
      obtain ⟨_, _, b2, o2, rfl, _, x2, y2⟩ := (md_on h2.out HB0.out).boxes k x hx
      have be := box_eq x.ty x.cap
      have b0 : (0 : Int) ≤ (k : Int) := by omega
      have b1 : (k : Int) < (m.boxes.length : Int) := by omega
      clear hx
      go_wp2
      go_quiet (fail)
      go_wp2
      go_roundw
      case rel => exact ⟨k + 1, _, by omega, by go_num, rfl⟩
      case measure => simp [intOf]; omega
    · go_wp2
      clear c0 c1 c2 c3
      go_loopw [47] (fun i wr => ∃ k : Nat, k ≤ m.units.length ∧ i = .int .i64 k ∧ Below W0.heap.size W0 wr) (fun i _ => m.units.length - (intOf i).toNat)
      case atStart => exact ⟨0, Nat.zero_le _, rfl, drewN_below (Below.refl _ _) _⟩
      case round =>
        obtain ⟨k, hk, rfl, hB⟩ := hrel
        have HB : Hid (Below W0.heap.size W0 wr) := hB
        have HBw : Hid (Below w.heap.size w wr) := HB0.out.trans (hB.mono (by rw [HZ0.out]; omega))
        have hM0 : wr.heap[w.heap.size]? = some (modO m ab au cb cu) := (hB.block _ (by rw [HZ0.out]; omega)).trans HN0.out
        have hM1 : wr.heap[w.heap.size + 1]? = some (modO m ab' au' cb' cu') := (hB.block _ (by rw [HZ0.out]; omega)).trans HN1.out
        have hszr : w.heap.size + 1 < wr.heap.size := lt_of_block hM1
        obtain ⟨c0, c1⟩ := Aw.md_cells hM0
        obtain ⟨c2, c3⟩ := Aw.md_cells hM1
        clear hB hM0 hM1
        by_cases hlt : k < m.units.length
        · obtain ⟨u, hu⟩ : ∃ u, m.units[k]? = some u := ⟨_, List.getElem?_eq_getElem hlt⟩
          obtain ⟨b1, o1, al, cl, ac, cc, rfl, st1, hU1, x0, x1, x2, x3, x4, x5⟩ := (md_on h1.out HBw.out).units k u hu
          obtain ⟨b2, o2, al', cl', ac', cc', rfl, st2, hU2, y0, y1, y2, y3, y4, y5⟩ := (md_on h2.out HBw.out).units k u hu
          have HU1 := hide hU1
          have HU2 := hide hU2
          have n0 : (0 : Int) ≤ (k : Int) := by omega
          have n1 : (k : Int) < (m.units.length : Int) := by omega
          have hb1 : b1 < wr.heap.size := st1
          have hb2 : b2 < wr.heap.size := st2
          have hb1' : b1 < wr.heap.size + 1 := by omega
          have hb2' : b2 < wr.heap.size + 1 := by omega
          have hw0 : w.heap.size < wr.heap.size := by omega
          have hw0' : w.heap.size < wr.heap.size + 1 := by omega
          have hw1' : w.heap.size + 1 < wr.heap.size + 1 := by omega
          clear hu hU1 hU2 st1 st2
          go_wp2
          go_region
          · skip
            obtain ⟨W1, hW1⟩ : ∃ W1, W1 = ((wr.alloc (Aw.unO u al ac cl cc)).alloc (Aw.unO u al' ac' cl' cc')).drew := ⟨_, rfl⟩
            have HB1 : Hid (Below wr.heap.size wr W1) := by rw [hW1]; exact Below.drew (((Below.refl _ wr).alloc (Nat.le_refl _) _).alloc (by simp) _)
            have hX : W1.heap[wr.heap.size]? = some (Aw.unO u al ac cl cc) := by rw [hW1]; exact oldO _ _ _
            have hY : W1.heap[(wr.heap.size + 1)]? = some (Aw.unO u al' ac' cl' cc') := by rw [hW1]; exact newO _ _ _
            rw [← hW1]
            clear hW1
            have HX := hide hX
            have HY := hide hY
            have HV1 := hide (un_onO HU1.out HB1.out)
            have HV2 := hide (un_onO HU2.out HB1.out)
            have HBW : Hid (Below W0.heap.size W0 W1) := HB.out.trans (HB1.out.mono HB.out.size)
            obtain ⟨hll, hlc⟩ := HV1.out.few
            obtain ⟨p0, p1, p2, p3, p4, p5⟩ := Aw.un_cells hX
            obtain ⟨q0, q1, q2, q3, q4, q5⟩ := Aw.un_cells hY
            have k1 : (u.kind != u.kind) = false := by simp
            have k2 : (u.params != u.params) = false := by simp
            have k3 : (u.result != u.result) = false := by simp
            have k4 : (u.takes != u.takes) = false := by simp
            have k5 : ((u.code.length : Int) != (u.code.length : Int)) = false := by simp
            clear hX hY x0 x1 x2 x3 x4 x5 y0 y1 y2 y3 y4 y5 HB HBw c0 c1 c2 c3 HU1 HU2 HB1 hb1 hb2 hb1' hb2' hw0 hw0' hw1' hszr
            generalize wr.heap.size = P at *
            generalize (wr.heap.size + 1) = Q at *
            go_wp2_with fail
            refine (sameInts_any W1.heap.size u.locals al al' cl cl' _ (hide HV1.out.locals) (hide HV2.out.locals) hll).mono ?_
            rintro e w2 ⟨rfl, d2, rfl⟩
            go_wp2
            go_loopw [106] (fun i wr3 => ∃ j d : Nat, j ≤ u.code.length ∧ i = .int .i64 j ∧ wr3 = W1.drewN d) (fun i _ => u.code.length - (intOf i).toNat)
            case atStart => exact ⟨0, d2, Nat.zero_le _, rfl, rfl⟩
            case round =>
              obtain ⟨j, d, hj, rfl, rfl⟩ := hrel
              by_cases hjl : j < u.code.length
              · obtain ⟨x, hx⟩ : ∃ x, u.code[j]? = some x := ⟨_, List.getElem?_eq_getElem hjl⟩
                obtain ⟨_, _, _, g1, r1, hac, _, x0, x1, x2⟩ := HV1.out.code j x hx
                obtain ⟨_, _, _, g2, r2, hac', _, y0, y1, y2⟩ := HV2.out.code j x hx
                subst hac hac'
                have ie := ins_eq x.op x.a x.n
                have m0 : (0 : Int) ≤ (j : Int) := by omega
                have m1 : (j : Int) < (u.code.length : Int) := by omega
                clear hx
                go_wp2
                go_quiet (fail)
                go_wp2
                go_roundw
                case rel => exact ⟨j + 1, _, by omega, by go_num, rfl⟩
                case measure => simp [intOf]; omega
              · go_wp2
                go_roundw
                case rel => exact ⟨k + 1, by omega, by go_num, (HBW.out.trans ⟨rfl, rfl, rfl, Nat.le_refl _, fun _ _ => rfl⟩)⟩
                case measure => simp [intOf]; omega
          · skip
            obtain ⟨W1, hW1⟩ : ∃ W1, W1 = ((wr.alloc (Aw.unO u al' ac' cl' cc')).alloc (Aw.unO u al ac cl cc)).drew := ⟨_, rfl⟩
            have HB1 : Hid (Below wr.heap.size wr W1) := by rw [hW1]; exact Below.drew (((Below.refl _ wr).alloc (Nat.le_refl _) _).alloc (by simp) _)
            have hX : W1.heap[(wr.heap.size + 1)]? = some (Aw.unO u al ac cl cc) := by rw [hW1]; exact newO _ _ _
            have hY : W1.heap[wr.heap.size]? = some (Aw.unO u al' ac' cl' cc') := by rw [hW1]; exact oldO _ _ _
            rw [← hW1]
            clear hW1
            have HX := hide hX
            have HY := hide hY
            have HV1 := hide (un_onO HU1.out HB1.out)
            have HV2 := hide (un_onO HU2.out HB1.out)
            have HBW : Hid (Below W0.heap.size W0 W1) := HB.out.trans (HB1.out.mono HB.out.size)
            obtain ⟨hll, hlc⟩ := HV1.out.few
            obtain ⟨p0, p1, p2, p3, p4, p5⟩ := Aw.un_cells hX
            obtain ⟨q0, q1, q2, q3, q4, q5⟩ := Aw.un_cells hY
            have k1 : (u.kind != u.kind) = false := by simp
            have k2 : (u.params != u.params) = false := by simp
            have k3 : (u.result != u.result) = false := by simp
            have k4 : (u.takes != u.takes) = false := by simp
            have k5 : ((u.code.length : Int) != (u.code.length : Int)) = false := by simp
            clear hX hY x0 x1 x2 x3 x4 x5 y0 y1 y2 y3 y4 y5 HB HBw c0 c1 c2 c3 HU1 HU2 HB1 hb1 hb2 hb1' hb2' hw0 hw0' hw1' hszr
            generalize (wr.heap.size + 1) = P at *
            generalize wr.heap.size = Q at *
            go_wp2_with fail
            refine (sameInts_any W1.heap.size u.locals al al' cl cl' _ (hide HV1.out.locals) (hide HV2.out.locals) hll).mono ?_
            rintro e w2 ⟨rfl, d2, rfl⟩
            go_wp2
            go_loopw [106] (fun i wr3 => ∃ j d : Nat, j ≤ u.code.length ∧ i = .int .i64 j ∧ wr3 = W1.drewN d) (fun i _ => u.code.length - (intOf i).toNat)
            case atStart => exact ⟨0, d2, Nat.zero_le _, rfl, rfl⟩
            case round =>
              obtain ⟨j, d, hj, rfl, rfl⟩ := hrel
              by_cases hjl : j < u.code.length
              · obtain ⟨x, hx⟩ : ∃ x, u.code[j]? = some x := ⟨_, List.getElem?_eq_getElem hjl⟩
                obtain ⟨_, _, _, g1, r1, hac, _, x0, x1, x2⟩ := HV1.out.code j x hx
                obtain ⟨_, _, _, g2, r2, hac', _, y0, y1, y2⟩ := HV2.out.code j x hx
                subst hac hac'
                have ie := ins_eq x.op x.a x.n
                have m0 : (0 : Int) ≤ (j : Int) := by omega
                have m1 : (j : Int) < (u.code.length : Int) := by omega
                clear hx
                go_wp2
                go_quiet (fail)
                go_wp2
                go_roundw
                case rel => exact ⟨j + 1, _, by omega, by go_num, rfl⟩
                case measure => simp [intOf]; omega
              · go_wp2
                go_roundw
                case rel => exact ⟨k + 1, by omega, by go_num, (HBW.out.trans ⟨rfl, rfl, rfl, Nat.le_refl _, fun _ _ => rfl⟩)⟩
                case measure => simp [intOf]; omega
        · go_wp2
          go_ret
          exact ⟨rfl, HBw.out⟩

end Go.Proofs.Ytalofknphhjhnaa.Ow

/- The walk of OptKeeps. -/
namespace Go.Proofs.Ytalofknphhjhnaa.Ow
open Go.RowKit Vf Vm Ot

theorem bare_short (m : Md) : bareM (shortM m) = bareM m := by
  unfold bareM shortM
  simp only [List.map_map]
  congr 1
theorem units_few {m : Md} (h : verify m = (0, 0, 0)) : m.units.length ≤ 30 := by
  have hlk := right_iff.1 h
  exact (rt_of (hlk 0 (by omega)) (hlk 1 (by omega)) (hlk 2 (by omega))).1.units

set_option maxHeartbeats 2000000 in
set_option maxRecDepth 100000 in
theorem keeps_any (m : Md) (ab au : Option Addr) (cb cu : Nat) (w : World) (hin : ModIn w.heap.size w m ab au) :
    Calls Try.prog 5 #[modV m ab au cb cu] w fun e w' => e = .returned (.bool true) ∧ Below w.heap.size w w' := by
  have HIN := hide hin
  clear hin
  have HLOW : Hid (∀ W : World, Below w.heap.size w W → w.heap.size ≤ W.heap.size ∧ ModIn w.heap.size W m ab au) := fun W h => ⟨h.size, HIN.out.low h.block⟩
  obtain ⟨V, hV⟩ : ∃ V, V = w.alloc (modO m ab au cb cu) := ⟨_, rfl⟩
  have HBV : Hid (Below w.heap.size w V) := by rw [hV]; exact one_below _ _
  have HN0 : Hid (V.heap[w.heap.size]? = some (modO m ab au cb cu)) := by rw [hV]; exact heap_alloc_new _ _
  have HV := hide hV.symm
  clear hV
  go_enter Try.func5, Try.ntmps5
  go_wp2_with fail
  rw [HV.out]
  clear HV
  refine (alive_any V).mono ?_
  rintro e w1 ⟨rfl, hb1⟩
  have HB1 : Hid (Below w.heap.size w w1) := below_onO HBV.out hb1
  have HN1 := hide (keepB hb1 HN0.out)
  clear hb1 HBV HN0
  obtain ⟨a0, a1, _, _⟩ := two_cells HN1.out
  have hmd := module_any w.heap.size m ab au cb cu w1 (hide (HLOW.out _ HB1.out).1) (hide (HLOW.out _ HB1.out).2)
  unfold ModV at hmd
  obtain ⟨r, hr⟩ : ∃ r, r = verify m := ⟨_, rfl⟩
  obtain ⟨n, hn⟩ : ∃ n, n = made m := ⟨_, rfl⟩
  rw [← hr, ← hn] at hmd
  have HMD := hide hmd
  have HR := hide hr
  have HN := hide hn
  clear hmd hr hn
  go_wp2_with fail
  refine HMD.out.mono ?_
  rintro e w2 ⟨nb, cnb, nu, cnu, rfl, hM, hb2⟩
  obtain ⟨W2, hW2⟩ : ∃ W2, W2 = (w2.alloc (modO n nb nu cnb cnu)).alloc (.cells #[.int .i64 r.1, .int .i64 r.2.1, .int .i64 r.2.2] 29) := ⟨_, rfl⟩
  have hbW : Below w2.heap.size w2 W2 := by rw [hW2]; exact two_belowO _ _ _
  have HB2 : Hid (Below w.heap.size w W2) := below_onO (below_onO HB1.out hb2) hbW
  have HA : Hid (W2.heap[w.heap.size]? = some (modO m ab au cb cu)) := keepB hbW (keepB hb2 HN1.out)
  have HNN : Hid (W2.heap[w2.heap.size]? = some (modO n nb nu cnb cnu)) := by rw [hW2]; exact oldO _ _ _
  have HWW : Hid (W2.heap[w2.heap.size + 1]? = some (.cells #[.int .i64 r.1, .int .i64 r.2.1, .int .i64 r.2.2] 29 (0, 0))) := by rw [hW2]; exact newO _ _ _
  have HMN : Hid (ModIn w2.heap.size W2 n nb nu) := hM.low hbW.block
  have HZ2 := hide hbW.size
  have HW2 := hide hW2.symm
  clear hW2 hbW hb2 hM HMD a0 a1 HN1
  go_upto_region 4 with fail
  rw [HW2.out]
  clear HW2
  generalize hQ : w2.heap.size = Q at *
  generalize hNN : w.heap.size = N at *
  have hAl := lt_of_block HA.out
  have hNl := lt_of_block HNN.out
  obtain ⟨a0, a1, _, _⟩ := two_cells HA.out
  obtain ⟨n0, n1, _, _⟩ := two_cells HNN.out
  obtain ⟨w0, w1', w2', _, _, _⟩ := three_cells HWW.out
  by_cases h0 : r.1 = 0
  · have e1 : (r.1 != 0) = false := by simpa using h0
    have hz : verify m = (0, 0, 0) := verify_zero (by rw [← HR.out]; exact h0)
    have hns : n = shortM m := by rw [HN.out]; unfold made; rw [hz]; rfl
    have hm30 := units_few hz
    have hn30 : n.units.length ≤ 30 := by rw [hns]; show (m.units.map shortU).length ≤ 30; simpa using hm30
    have HBB : Hid (bareM n = bareM m) := by unfold Hid; rw [hns, bare_short]
    have HD : Hid (Below W2.heap.size W2 W2.drew) := Below.drew (Below.refl _ _)
    have HKC : Hid (∀ X : World, Below W2.heap.size W2 X → X.cell? ⟨N, 0, none⟩ = some (.slice ab m.boxes.length cb) ∧ X.cell? ⟨N, 1, none⟩ = some (.slice au m.units.length cu) ∧ X.cell? ⟨Q, 0, none⟩ = some (.slice nb n.boxes.length cnb) ∧ X.cell? ⟨Q, 1, none⟩ = some (.slice nu n.units.length cnu)) := fun X h => ⟨(h.cell (p := ⟨N, 0, none⟩) hAl).trans a0, (h.cell (p := ⟨N, 1, none⟩) hAl).trans a1, (h.cell (p := ⟨Q, 0, none⟩) hNl).trans n0, (h.cell (p := ⟨Q, 1, none⟩) hNl).trans n1⟩
    have HC1 : Hid (∀ X : World, Below W2.heap.size W2 X → Calls Try.prog 10 #[modV m ab au cb cu] X fun e w' => ∃ ab' cb' au' cu', e = .returned (modV (bareM m) ab' au' cb' cu') ∧ ModIn w'.heap.size w' (bareM m) ab' au' ∧ Below X.heap.size X w') := fun X h => bare_any N m ab au cb cu X (hide (Nat.le_trans (Nat.le_of_lt hAl) h.size)) (hide ((HLOW.out _ HB2.out).2.low (fun k hk => h.block k (by omega)))) hm30
    have HC2 : Hid (∀ X : World, Below W2.heap.size W2 X → Calls Try.prog 10 #[modV n nb nu cnb cnu] X fun e w' => ∃ ab' cb' au' cu', e = .returned (modV (bareM n) ab' au' cb' cu') ∧ ModIn w'.heap.size w' (bareM n) ab' au' ∧ Below X.heap.size X w') := fun X h => bare_any Q n nb nu cnb cnu X (hide (Nat.le_trans HZ2.out h.size)) (hide (HMN.out.low (fun k hk => h.block k (by have := HZ2.out; omega)))) hn30
    clear h0 hz hns hm30 hn30
    go_wp2
    go_region_held3 (fun w' => w'.cell? ⟨N, 0, none⟩ = some (.slice ab m.boxes.length cb) ∧ w'.cell? ⟨N, 1, none⟩ = some (.slice au m.units.length cu) ∧ w'.cell? ⟨Q, 0, none⟩ = some (.slice nb n.boxes.length cnb) ∧ w'.cell? ⟨Q, 1, none⟩ = some (.slice nu n.units.length cnu)) (go_keep) (first | (go_at_call 9; have hx2 := HX2.out; refine HSM.out.mono ?_; rintro e w5 ⟨rfl, hb5⟩; have HX3 : Hid (Below W2.heap.size W2 w5) := below_onO hx2 hb5; clear hb5 hx2; have k0 := (HKC.out _ HX3.out).1; have k1 := (HKC.out _ HX3.out).2.1; have k2 := (HKC.out _ HX3.out).2.2.1; have k3 := (HKC.out _ HX3.out).2.2.2) | (go_at_call 10; have hx1 := HX1.out; refine (HC2.out _ hx1).mono ?_; rintro e w4 ⟨nb', cnb', nu', cnu', rfl, hM4, hb4⟩; have HX2 : Hid (Below W2.heap.size W2 w4) := below_onO hx1 hb4; have HSM := hide (same_any (bareM m) mb' mu' nb' nu' cmb' cmu' cnb' cnu' w4 (hide (md_on HM3.out hb4)) (hide (by rw [← HBB.out]; exact hM4))); rw [HBB.out]; clear hb4 hx1 hM4; have k0 := (HKC.out _ HX2.out).1; have k1 := (HKC.out _ HX2.out).2.1; have k2 := (HKC.out _ HX2.out).2.2.1; have k3 := (HKC.out _ HX2.out).2.2.2) | (go_at_call 10; refine (HC1.out _ HD.out).mono ?_; rintro e w3 ⟨mb', cmb', mu', cmu', rfl, hM3, hb3⟩; have HX1 : Hid (Below W2.heap.size W2 w3) := below_onO HD.out hb3; have HM3 := hide hM3; clear hb3 hM3; have k0 := (HKC.out _ HX1.out).1; have k1 := (HKC.out _ HX1.out).2.1; have k2 := (HKC.out _ HX1.out).2.2.1; have k3 := (HKC.out _ HX1.out).2.2.2))
    go_wp2
    go_ret
    exact ⟨rfl, by rw [hNN]; exact HB2.out.trans (HX3.out.mono (Nat.le_of_lt hAl))⟩
  · have e1 : (r.1 != 0) = true := by simpa using h0
    clear h0
    go_wp2
    go_ret
    exact ⟨rfl, by rw [hNN]; exact HB2.out⟩
end Go.Proofs.Ytalofknphhjhnaa.Ow

