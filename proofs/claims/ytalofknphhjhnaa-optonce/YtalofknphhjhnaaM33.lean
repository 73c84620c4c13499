/- The walk of yieldlaw14's alive. -/
import Derived.Test.YtalofknphhjhnaaM32
import Derived.Test.YtalofknphhjhnaaM31
namespace Go.Proofs.Ytalofknphhjhnaa.Ow
open Go.RowKit Vf Vm Ot

abbrev codeO : Obj := .cells #[.int .i64 1, .int .i64 0, .int .i64 1, .int .i64 1, .int .i64 0, .int .i64 2, .int .i64 8, .int .i64 0, .int .i64 0, .int .i64 28, .int .i64 0, .int .i64 0, .int .i64 25, .int .i64 0, .int .i64 0] 41 (0, 0)
abbrev unitO (g : Nat) : Obj := .cells #[.int .i64 4, .int .i64 0, .slice none 0 0, .int .i64 0, .int .i64 0, .slice (some ⟨g, 0, none⟩) 5 5] 38 (0, 0)
theorem small_in (w : World) : ModIn ((w.alloc codeO).alloc (unitO w.heap.size)).heap.size ((w.alloc codeO).alloc (unitO w.heap.size)) smallM none (some ⟨w.heap.size + 1, 0, none⟩) := by
  have hc : ((w.alloc codeO).alloc (unitO w.heap.size)).heap[w.heap.size]? = some codeO := oldO _ _ _
  have hu : ((w.alloc codeO).alloc (unitO w.heap.size)).heap[w.heap.size + 1]? = some (unitO w.heap.size) := newO _ _ _
  have hz : ((w.alloc codeO).alloc (unitO w.heap.size)).heap.size = w.heap.size + 2 := by simp
  generalize (w.alloc codeO).alloc (unitO w.heap.size) = W at *
  refine ⟨⟨by simp [smallM], by simp [smallM]⟩, fun i x hx => by simp [smallM] at hx, fun i u hi => ?_⟩
  have hi0 : i = 0 := by
    have := (List.getElem?_eq_some_iff.1 hi).1
    simp [smallM] at this
    exact this
  subst hi0
  simp [smallM] at hi
  subst hi
  refine ⟨w.heap.size + 1, 0, none, 0, some ⟨w.heap.size, 0, none⟩, 5, rfl, by omega, ⟨⟨by constructor <;> decide, by constructor <;> decide, by constructor <;> decide, by constructor <;> decide⟩, ⟨by simp, by simp [smallC]⟩, ⟨by simp, by simp [smallC]⟩, fun i x hx => (by simp at hx), fun i x hx => ?_⟩, ?_, ?_, ?_, ?_, ?_, ?_⟩
  · have hi5 : i = 0 ∨ i = 1 ∨ i = 2 ∨ i = 3 ∨ i = 4 := by
      have := (List.getElem?_eq_some_iff.1 hx).1
      simp [smallC] at this
      omega
    rcases hi5 with rfl | rfl | rfl | rfl | rfl
    all_goals (
      simp [smallC] at hx
      subst hx
      refine ⟨by constructor <;> decide, by constructor <;> decide, by constructor <;> decide, w.heap.size, 0, rfl, by omega, ?_, ?_, ?_⟩ <;> simp [World.cell?, hc])
  all_goals simp [World.cell?, hu, smallC]
theorem small_made : made smallM = ⟨[], [⟨4, 0, [], 0, 0, [⟨1, 0, 3⟩, ⟨28, 0, 0⟩, ⟨25, 0, 0⟩]⟩]⟩ := by
  unfold made
  rw [small_verify, if_pos rfl]
  unfold shortM smallM
  simp only [List.map_cons, List.map_nil, shortU, small_short]

set_option maxHeartbeats 1000000 in
set_option maxRecDepth 100000 in
theorem alive_any (w : World) : Calls Try.prog 6 #[] w fun e w' => e = .returned (.bool true) ∧ Below w.heap.size w w' := by
  have hm := module_any ((w.alloc codeO).alloc (unitO w.heap.size)).heap.size smallM none (some ⟨w.heap.size + 1, 0, none⟩) 0 1 ((w.alloc codeO).alloc (unitO w.heap.size)) (hide (Nat.le_refl _)) (hide (small_in w))
  unfold ModV at hm
  rw [small_made, small_verify] at hm
  have HM := hide hm
  clear hm
  go_enter Try.func6, Try.ntmps6
  go_wp2_with fail
  refine HM.out.mono ?_
  rintro e w1 ⟨ab, cb, au, cu, rfl, hM, hb⟩
  obtain ⟨b, off, al, cl, ac, cc, rfl, hbl, hU, _, _, _, _, _, c5⟩ := hM.units 0 ⟨4, 0, [], 0, 0, [⟨1, 0, 3⟩, ⟨28, 0, 0⟩, ⟨25, 0, 0⟩]⟩ rfl
  obtain ⟨_, _, _, b2, off2, rfl, hb2l, _, _, d2⟩ := hU.code 0 ⟨1, 0, 3⟩ rfl
  have c5' : w1.cell? ⟨b, off + 5, none⟩ = some (.slice (some ⟨b2, off2, none⟩) 3 cc) := c5
  have d2' : w1.cell? ⟨b2, off2 + 2, none⟩ = some (.int .i64 3) := d2
  have HB : Hid (Below w.heap.size w w1) := below_onO (two_belowO _ _ _) hb
  clear hM hU c5 d2 hb HM
  go_wp2
  go_ret
  exact ⟨rfl, (HB.out.alloc HB.out.size _).alloc (by have := HB.out.size; simp; omega) _⟩
end Go.Proofs.Ytalofknphhjhnaa.Ow

/- The walk of ref6.Same, of two that are alike. -/
namespace Go.Proofs.Ytalofknphhjhnaa.Ow
open Go.RowKit Vf Vm Ot

theorem md_wide {B C : Nat} {w : World} {m : Vf.Md} {ab au : Option Addr} (h : ModIn B w m ab au) (hB : B ≤ C) : ModIn C w m ab au := by
  refine ⟨h.few, fun i x hx => ?_, fun i x hx => ?_⟩
  · obtain ⟨a, b, c, d, e, f, g⟩ := h.boxes i x hx
    exact ⟨a, b, c, d, e, by omega, g⟩
  · obtain ⟨b, off, al, cl, ac, cc, e, hb, hu, g⟩ := h.units i x hx
    exact ⟨b, off, al, cl, ac, cc, e, by omega, un_wideO hu hB, g⟩
theorem md_on {w w' : World} {m : Vf.Md} {ab au : Option Addr} (h : ModIn w.heap.size w m ab au) (hb : Below w.heap.size w w') : ModIn w'.heap.size w' m ab au := md_wide (h.low hb.block) hb.size
set_option maxHeartbeats 400000 in
theorem sameInts_any (B : Nat) (l : List Int) (a1 a2 : Option Addr) (c1 c2 : Nat) (w : World) (h1 : Hid (IntsIn B w l a1)) (h2 : Hid (IntsIn B w l a2)) (hn : l.length ≤ 9223372036854775807) :
    Calls Try.prog 21 #[.slice a1 l.length c1, .slice a2 l.length c2] w fun e w' => e = .returned (.bool true) ∧ ∃ d, w' = w.drewN d := by
  have eq0 : ((l.length : Int) != (l.length : Int)) = false := by simp
  go_enter Try.func21, Try.ntmps21
  go_wp2
  go_loopw [13] (fun i wr => ∃ k d : Nat, k ≤ l.length ∧ i = .int .i64 k ∧ wr = w.drewN d) (fun i _ => l.length - (intOf i).toNat)
  case atStart => exact ⟨0, 0, Nat.zero_le _, rfl, rfl⟩
  case round =>
    obtain ⟨k, d, hk, rfl, rfl⟩ := hrel
    by_cases hlt : k < l.length
    · obtain ⟨x, hx⟩ : ∃ x, l[k]? = some x := ⟨_, List.getElem?_eq_getElem hlt⟩
      obtain ⟨_, b1, o1, rfl, _, x1⟩ := h1.out k x hx
      obtain ⟨_, b2, o2, rfl, _, x2⟩ := h2.out k x hx
      have eqx : (x != x) = false := by simp
      have b0 : (0 : Int) ≤ (k : Int) := by omega
      have b1 : (k : Int) < (l.length : Int) := by omega
      clear hx
      go_wp2
      go_quiet (fail)
      go_wp2
      go_roundw
      case rel => exact ⟨k + 1, _, by omega, by go_num, rfl⟩
      case measure => simp [intOf]; omega
    · go_wp2
      go_ret
      exact ⟨rfl, d, rfl⟩

theorem box_eq (x y : Int) (w : World) : Sem.run Try.prog (binOp BinOp.neq 44 (.agg #[.int .i64 x, .int .i64 y]) (.agg #[.int .i64 x, .int .i64 y])) w = .ok (.bool false) w := by
  simp [go_sem]
theorem ins_eq (x y z : Int) (w : World) : Sem.run Try.prog (binOp BinOp.neq 41 (.agg #[.int .i64 x, .int .i64 y, .int .i64 z]) (.agg #[.int .i64 x, .int .i64 y, .int .i64 z])) w = .ok (.bool false) w := by
  simp [go_sem]


set_option maxRecDepth 100000 in
set_option maxHeartbeats 4000000 in
theorem same_any (m : Vf.Md) (ab au ab' au' : Option Addr) (cb cu cb' cu' : Nat) (w : World) (h1 : Hid (ModIn w.heap.size w m ab au)) (h2 : Hid (ModIn w.heap.size w m ab' au')) :
    Calls Try.prog 9 #[.agg #[.slice ab m.boxes.length cb, .slice au m.units.length cu], .agg #[.slice ab' m.boxes.length cb', .slice au' m.units.length cu']] w fun e w' => e = .returned (.bool true) ∧ Below w.heap.size w w' := by
  obtain ⟨hl1, hl2⟩ := h1.out.few
  have eqb : ((m.boxes.length : Int) != (m.boxes.length : Int)) = false := by simp
  have equ : ((m.units.length : Int) != (m.units.length : Int)) = false := by simp
  obtain ⟨W0, hW0⟩ : ∃ W0, W0 = (w.alloc (modO m ab au cb cu)).alloc (modO m ab' au' cb' cu') := ⟨_, rfl⟩
  have H0s : W0.heap.size = w.heap.size + 2 := by rw [hW0]; simp
  have HB0 : Hid (Below w.heap.size w W0) := by rw [hW0]; exact ((Below.refl _ w).alloc (Nat.le_refl _) _).alloc (by simp) _
  have HN0 : Hid (W0.heap[w.heap.size]? = some (modO m ab au cb cu)) := by rw [hW0]; exact oldO _ _ _
  have HN1 : Hid (W0.heap[w.heap.size + 1]? = some (modO m ab' au' cb' cu')) := by rw [hW0]; exact newO _ _ _
  have HW0 := hide hW0
  have HZ0 := hide H0s
  clear hW0 H0s
  go_enter Try.func9, Try.ntmps9
  go_wp2
  go_loopw [29] (fun i wr => ∃ k d : Nat, k ≤ m.boxes.length ∧ i = .int .i64 k ∧ wr = W0.drewN d) (fun i _ => m.boxes.length - (intOf i).toNat)
  case atStart => exact ⟨0, 0, Nat.zero_le _, rfl, by rw [HW0.out]; rfl⟩
  case round =>
    obtain ⟨k, d, hk, rfl, rfl⟩ := hrel
    obtain ⟨c0, c1⟩ := Aw.md_cells HN0.out
    obtain ⟨c2, c3⟩ := Aw.md_cells HN1.out
    by_cases hlt : k < m.boxes.length
    · obtain ⟨x, hx⟩ : ∃ x, m.boxes[k]? = some x := ⟨_, List.getElem?_eq_getElem hlt⟩
      obtain ⟨_, _, b1, o1, rfl, _, x1, y1⟩ := (md_on h1.out HB0.out).boxes k x hx
      obtain ⟨_, _, b2, o2, rfl, _, x2, y2⟩ := (md_on h2.out HB0.out).boxes k x hx
      have be := box_eq x.ty x.cap
      have b0 : (0 : Int) ≤ (k : Int) := by omega
      have b1 : (k : Int) < (m.boxes.length : Int) := by omega
      clear hx
      go_wp2
      go_quiet (fail)
      go_wp2
      go_roundw
      case rel => exact ⟨k + 1, _, by omega, by go_num, rfl⟩
      case measure => simp [intOf]; omega
    · go_wp2
      clear c0 c1 c2 c3
      go_loopw [47] (fun i wr => ∃ k : Nat, k ≤ m.units.length ∧ i = .int .i64 k ∧ Below W0.heap.size W0 wr) (fun i _ => m.units.length - (intOf i).toNat)
      case atStart => exact ⟨0, Nat.zero_le _, rfl, drewN_below (Below.refl _ _) _⟩
      case round =>
        obtain ⟨k, hk, rfl, hB⟩ := hrel
        have HB : Hid (Below W0.heap.size W0 wr) := hB
        have HBw : Hid (Below w.heap.size w wr) := HB0.out.trans (hB.mono (by rw [HZ0.out]; omega))
        have hM0 : wr.heap[w.heap.size]? = some (modO m ab au cb cu) := (hB.block _ (by rw [HZ0.out]; omega)).trans HN0.out
        have hM1 : wr.heap[w.heap.size + 1]? = some (modO m ab' au' cb' cu') := (hB.block _ (by rw [HZ0.out]; omega)).trans HN1.out
        have hszr : w.heap.size + 1 < wr.heap.size := lt_of_block hM1
        obtain ⟨c0, c1⟩ := Aw.md_cells hM0
        obtain ⟨c2, c3⟩ := Aw.md_cells hM1
        clear hB hM0 hM1
        by_cases hlt : k < m.units.length
        · obtain ⟨u, hu⟩ : ∃ u, m.units[k]? = some u := ⟨_, List.getElem?_eq_getElem hlt⟩
          obtain ⟨b1, o1, al, cl, ac, cc, rfl, st1, hU1, x0, x1, x2, x3, x4, x5⟩ := (md_on h1.out HBw.out).units k u hu
          obtain ⟨b2, o2, al', cl', ac', cc', rfl, st2, hU2, y0, y1, y2, y3, y4, y5⟩ := (md_on h2.out HBw.out).units k u hu
          have HU1 := hide hU1
          have HU2 := hide hU2
          have n0 : (0 : Int) ≤ (k : Int) := by omega
          have n1 : (k : Int) < (m.units.length : Int) := by omega
          have hb1 : b1 < wr.heap.size := st1
          have hb2 : b2 < wr.heap.size := st2
          have hb1' : b1 < wr.heap.size + 1 := by omega
          have hb2' : b2 < wr.heap.size + 1 := by omega
          have hw0 : w.heap.size < wr.heap.size := by omega
          have hw0' : w.heap.size < wr.heap.size + 1 := by omega
          have hw1' : w.heap.size + 1 < wr.heap.size + 1 := by omega
          clear hu hU1 hU2 st1 st2
          go_wp2
          go_region
          · skip
            obtain ⟨W1, hW1⟩ : ∃ W1, W1 = ((wr.alloc (Aw.unO u al ac cl cc)).alloc (Aw.unO u al' ac' cl' cc')).drew := ⟨_, rfl⟩
            have HB1 : Hid (Below wr.heap.size wr W1) := by rw [hW1]; exact Below.drew (((Below.refl _ wr).alloc (Nat.le_refl _) _).alloc (by simp) _)
            have hX : W1.heap[wr.heap.size]? = some (Aw.unO u al ac cl cc) := by rw [hW1]; exact oldO _ _ _
            have hY : W1.heap[(wr.heap.size + 1)]? = some (Aw.unO u al' ac' cl' cc') := by rw [hW1]; exact newO _ _ _
            rw [← hW1]
            clear hW1
            have HX := hide hX
            have HY := hide hY
            have HV1 := hide (un_onO HU1.out HB1.out)
            have HV2 := hide (un_onO HU2.out HB1.out)
            have HBW : Hid (Below W0.heap.size W0 W1) := HB.out.trans (HB1.out.mono HB.out.size)
            obtain ⟨hll, hlc⟩ := HV1.out.few
            obtain ⟨p0, p1, p2, p3, p4, p5⟩ := Aw.un_cells hX
            obtain ⟨q0, q1, q2, q3, q4, q5⟩ := Aw.un_cells hY
            have k1 : (u.kind != u.kind) = false := by simp
            have k2 : (u.params != u.params) = false := by simp
            have k3 : (u.result != u.result) = false := by simp
            have k4 : (u.takes != u.takes) = false := by simp
            have k5 : ((u.code.length : Int) != (u.code.length : Int)) = false := by simp
            clear hX hY x0 x1 x2 x3 x4 x5 y0 y1 y2 y3 y4 y5 HB HBw c0 c1 c2 c3 HU1 HU2 HB1 hb1 hb2 hb1' hb2' hw0 hw0' hw1' hszr
            generalize wr.heap.size = P at *
            generalize (wr.heap.size + 1) = Q at *
            go_wp2_with fail
            refine (sameInts_any W1.heap.size u.locals al al' cl cl' _ (hide HV1.out.locals) (hide HV2.out.locals) hll).mono ?_
            rintro e w2 ⟨rfl, d2, rfl⟩
            go_wp2
            go_loopw [106] (fun i wr3 => ∃ j d : Nat, j ≤ u.code.length ∧ i = .int .i64 j ∧ wr3 = W1.drewN d) (fun i _ => u.code.length - (intOf i).toNat)
            case atStart => exact ⟨0, d2, Nat.zero_le _, rfl, rfl⟩
            case round =>
              obtain ⟨j, d, hj, rfl, rfl⟩ := hrel
              by_cases hjl : j < u.code.length
              · obtain ⟨x, hx⟩ : ∃ x, u.code[j]? = some x := ⟨_, List.getElem?_eq_getElem hjl⟩
                obtain ⟨_, _, _, g1, r1, hac, _, x0, x1, x2⟩ := HV1.out.code j x hx
                obtain ⟨_, _, _, g2, r2, hac', _, y0, y1, y2⟩ := HV2.out.code j x hx
                subst hac hac'
                have ie := ins_eq x.op x.a x.n
                have m0 : (0 : Int) ≤ (j : Int) := by omega
                have m1 : (j : Int) < (u.code.length : Int) := by omega
                clear hx
                go_wp2
                go_quiet (fail)
                go_wp2
                go_roundw
                case rel => exact ⟨j + 1, _, by omega, by go_num, rfl⟩
                case measure => simp [intOf]; omega
              · go_wp2
                go_roundw
                case rel => exact ⟨k + 1, by omega, by go_num, (HBW.out.trans ⟨rfl, rfl, rfl, Nat.le_refl _, fun _ _ => rfl⟩)⟩
                case measure => simp [intOf]; omega
          · skip
            obtain ⟨W1, hW1⟩ : ∃ W1, W1 = ((wr.alloc (Aw.unO u al' ac' cl' cc')).alloc (Aw.unO u al ac cl cc)).drew := ⟨_, rfl⟩
            have HB1 : Hid (Below wr.heap.size wr W1) := by rw [hW1]; exact Below.drew (((Below.refl _ wr).alloc (Nat.le_refl _) _).alloc (by simp) _)
            have hX : W1.heap[(wr.heap.size + 1)]? = some (Aw.unO u al ac cl cc) := by rw [hW1]; exact newO _ _ _
            have hY : W1.heap[wr.heap.size]? = some (Aw.unO u al' ac' cl' cc') := by rw [hW1]; exact oldO _ _ _
            rw [← hW1]
            clear hW1
            have HX := hide hX
            have HY := hide hY
            have HV1 := hide (un_onO HU1.out HB1.out)
            have HV2 := hide (un_onO HU2.out HB1.out)
            have HBW : Hid (Below W0.heap.size W0 W1) := HB.out.trans (HB1.out.mono HB.out.size)
            obtain ⟨hll, hlc⟩ := HV1.out.few
            obtain ⟨p0, p1, p2, p3, p4, p5⟩ := Aw.un_cells hX
            obtain ⟨q0, q1, q2, q3, q4, q5⟩ := Aw.un_cells hY
            have k1 : (u.kind != u.kind) = false := by simp
            have k2 : (u.params != u.params) = false := by simp
            have k3 : (u.result != u.result) = false := by simp
            have k4 : (u.takes != u.takes) = false := by simp
            have k5 : ((u.code.length : Int) != (u.code.length : Int)) = false := by simp
            clear hX hY x0 x1 x2 x3 x4 x5 y0 y1 y2 y3 y4 y5 HB HBw c0 c1 c2 c3 HU1 HU2 HB1 hb1 hb2 hb1' hb2' hw0 hw0' hw1' hszr
            generalize (wr.heap.size + 1) = P at *
            generalize wr.heap.size = Q at *
            go_wp2_with fail
            refine (sameInts_any W1.heap.size u.locals al al' cl cl' _ (hide HV1.out.locals) (hide HV2.out.locals) hll).mono ?_
            rintro e w2 ⟨rfl, d2, rfl⟩
            go_wp2
            go_loopw [106] (fun i wr3 => ∃ j d : Nat, j ≤ u.code.length ∧ i = .int .i64 j ∧ wr3 = W1.drewN d) (fun i _ => u.code.length - (intOf i).toNat)
            case atStart => exact ⟨0, d2, Nat.zero_le _, rfl, rfl⟩
            case round =>
              obtain ⟨j, d, hj, rfl, rfl⟩ := hrel
              by_cases hjl : j < u.code.length
              · obtain ⟨x, hx⟩ : ∃ x, u.code[j]? = some x := ⟨_, List.getElem?_eq_getElem hjl⟩
                obtain ⟨_, _, _, g1, r1, hac, _, x0, x1, x2⟩ := HV1.out.code j x hx
                obtain ⟨_, _, _, g2, r2, hac', _, y0, y1, y2⟩ := HV2.out.code j x hx
                subst hac hac'
                have ie := ins_eq x.op x.a x.n
                have m0 : (0 : Int) ≤ (j : Int) := by omega
                have m1 : (j : Int) < (u.code.length : Int) := by omega
                clear hx
                go_wp2
                go_quiet (fail)
                go_wp2
                go_roundw
                case rel => exact ⟨j + 1, _, by omega, by go_num, rfl⟩
                case measure => simp [intOf]; omega
              · go_wp2
                go_roundw
                case rel => exact ⟨k + 1, by omega, by go_num, (HBW.out.trans ⟨rfl, rfl, rfl, Nat.le_refl _, fun _ _ => rfl⟩)⟩
                case measure => simp [intOf]; omega
        · go_wp2
          go_ret
          exact ⟨rfl, HBw.out⟩

end Go.Proofs.Ytalofknphhjhnaa.Ow

