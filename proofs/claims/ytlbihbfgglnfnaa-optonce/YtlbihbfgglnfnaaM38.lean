/- The walk of ref6.Same, of two that are alike. -/
import Derived.Test.YtlbihbfgglnfnaaM36
import Derived.Test.YtlbihbfgglnfnaaM35
import Derived.Test.YtlbihbfgglnfnaaM37
namespace Go.Proofs.Ytlbihbfgglnfnaa.Ow
open Go.RowKit Vf Vm Ot

theorem md_wide {B C : Nat} {w : World} {m : Vf.Md} {ab au : Option Addr} (h : ModIn B w m ab au) (hB : B ≤ C) : ModIn C w m ab au := by
  refine ⟨h.few, fun i x hx => ?_, fun i x hx => ?_⟩
  · obtain ⟨a, b, c, d, e, f, g⟩ := h.boxes i x hx
    exact ⟨a, b, c, d, e, by omega, g⟩
  · obtain ⟨b, off, al, cl, ac, cc, e, hb, hu, g⟩ := h.units i x hx
    exact ⟨b, off, al, cl, ac, cc, e, by omega, un_wideO hu hB, g⟩
theorem md_on {w w' : World} {m : Vf.Md} {ab au : Option Addr} (h : ModIn w.heap.size w m ab au) (hb : Below w.heap.size w w') : ModIn w'.heap.size w' m ab au := md_wide (h.low hb.block) hb.size
set_option maxHeartbeats 400000 in
theorem sameInts_any (B : Nat) (l : List Int) (a1 a2 : Option Addr) (c1 c2 : Nat) (w : World) (h1 : Hid (IntsIn B w l a1)) (h2 : Hid (IntsIn B w l a2)) (hn : l.length ≤ 9223372036854775807) :
    Calls Try.prog 21 #[.slice a1 l.length c1, .slice a2 l.length c2] w fun e w' => e = .returned (.bool true) ∧ ∃ d, w' = w.drewN d := by
  have eq0 : ((l.length : Int) != (l.length : Int)) = false := by simp
  go_enter Try.func21, Try.ntmps21
  go_wp2
  go_loopw [13] (fun i wr => ∃ k d : Nat, k ≤ l.length ∧ i = .int .i64 k ∧ wr = w.drewN d) (fun i _ => l.length - (intOf i).toNat)
  case atStart => exact ⟨0, 0, Nat.zero_le _, rfl, rfl⟩
  case round =>
    obtain ⟨k, d, hk, rfl, rfl⟩ := hrel
    by_cases hlt : k < l.length
    · obtain ⟨x, hx⟩ : ∃ x, l[k]? = some x := ⟨_, List.getElem?_eq_getElem hlt⟩
      obtain ⟨_, b1, o1, rfl, _, x1⟩ := h1.out k x hx
      obtain ⟨_, b2, o2, rfl, _, x2⟩ := h2.out k x hx
      have eqx : (x != x) = false := by simp
      have b0 : (0 : Int) ≤ (k : Int) := by omega
      have b1 : (k : Int) < (l.length : Int) := by omega
      clear hx
      go_wp2
      go_quiet (fail)
      go_wp2
      go_roundw
      case rel => exact ⟨k + 1, _, by omega, by go_num, rfl⟩
      case measure => simp [intOf]; omega
    · go_wp2
      go_ret
      exact ⟨rfl, d, rfl⟩

theorem box_eq (x y : Int) (w : World) : Sem.run Try.prog (binOp BinOp.neq 44 (.agg #[.int .i64 x, .int .i64 y]) (.agg #[.int .i64 x, .int .i64 y])) w = .ok (.bool false) w := by
  simp [go_sem]
theorem ins_eq (x y z : Int) (w : World) : Sem.run Try.prog (binOp BinOp.neq 41 (.agg #[.int .i64 x, .int .i64 y, .int .i64 z]) (.agg #[.int .i64 x, .int .i64 y, .int .i64 z])) w = .ok (.bool false) w := by
  simp [go_sem]


set_option maxRecDepth 100000 in
set_option maxHeartbeats 4000000 in
theorem same_any (m : Vf.Md) (ab au ab' au' : Option Addr) (cb cu cb' cu' : Nat) (w : World) (h1 : Hid (ModIn w.heap.size w m ab au)) (h2 : Hid (ModIn w.heap.size w m ab' au')) :
    Calls Try.prog 9 #[.agg #[.slice ab m.boxes.length cb, .slice au m.units.length cu], .agg #[.slice ab' m.boxes.length cb', .slice au' m.units.length cu']] w fun e w' => e = .returned (.bool true) ∧ Below w.heap.size w w' := by
  obtain ⟨hl1, hl2⟩ := h1.out.few
  have eqb : ((m.boxes.length : Int) != (m.boxes.length : Int)) = false := by simp
  have equ : ((m.units.length : Int) != (m.units.length : Int)) = false := by simp
  obtain ⟨W0, hW0⟩ : ∃ W0, W0 = (w.alloc (modO m ab au cb cu)).alloc (modO m ab' au' cb' cu') := ⟨_, rfl⟩
  have H0s : W0.heap.size = w.heap.size + 2 := by rw [hW0]; simp
  have HB0 : Hid (Below w.heap.size w W0) := by rw [hW0]; exact ((Below.refl _ w).alloc (Nat.le_refl _) _).alloc (by simp) _
  have HN0 : Hid (W0.heap[w.heap.size]? = some (modO m ab au cb cu)) := by rw [hW0]; exact oldO _ _ _
  have HN1 : Hid (W0.heap[w.heap.size + 1]? = some (modO m ab' au' cb' cu')) := by rw [hW0]; exact newO _ _ _
  have HW0 := hide hW0
  have HZ0 := hide H0s
  clear hW0 H0s
  go_enter Try.func9, Try.ntmps9
  go_wp2
  go_loopw [29] (fun i wr => ∃ k d : Nat, k ≤ m.boxes.length ∧ i = .int .i64 k ∧ wr = W0.drewN d) (fun i _ => m.boxes.length - (intOf i).toNat)
  case atStart => exact ⟨0, 0, Nat.zero_le _, rfl, by rw [HW0.out]; rfl⟩
  case round =>
    obtain ⟨k, d, hk, rfl, rfl⟩ := hrel
    obtain ⟨c0, c1⟩ := Aw.md_cells HN0.out
    obtain ⟨c2, c3⟩ := Aw.md_cells HN1.out
    by_cases hlt : k < m.boxes.length
    · obtain ⟨x, hx⟩ : ∃ x, m.boxes[k]? = some x := ⟨_, List.getElem?_eq_getElem hlt⟩
      obtain ⟨_, _, b1, o1, rfl, _, x1, y1⟩ := (md_on h1.out HB0.out).boxes k x hx
      obtain ⟨_, _, b2, o2, rfl, _, x2, y2⟩ := (md_on h2.out HB0.out).boxes k x hx
      have be := box_eq x.ty x.cap
      have b0 : (0 : Int) ≤ (k : Int) := by omega
      have b1 : (k : Int) < (m.boxes.length : Int) := by omega
      clear hx
      go_wp2
      go_quiet (fail)
      go_wp2
      go_roundw
      case rel => exact ⟨k + 1, _, by omega, by go_num, rfl⟩
      case measure => simp [intOf]; omega
    · go_wp2
      clear c0 c1 c2 c3
      go_loopw [47] (fun i wr => ∃ k : Nat, k ≤ m.units.length ∧ i = .int .i64 k ∧ Below W0.heap.size W0 wr) (fun i _ => m.units.length - (intOf i).toNat)
      case atStart => exact ⟨0, Nat.zero_le _, rfl, drewN_below (Below.refl _ _) _⟩
      case round =>
        obtain ⟨k, hk, rfl, hB⟩ := hrel
        have HB : Hid (Below W0.heap.size W0 wr) := hB
        have HBw : Hid (Below w.heap.size w wr) := HB0.out.trans (hB.mono (by rw [HZ0.out]; omega))
        have hM0 : wr.heap[w.heap.size]? = some (modO m ab au cb cu) := (hB.block _ (by rw [HZ0.out]; omega)).trans HN0.out
        have hM1 : wr.heap[w.heap.size + 1]? = some (modO m ab' au' cb' cu') := (hB.block _ (by rw [HZ0.out]; omega)).trans HN1.out
        have hszr : w.heap.size + 1 < wr.heap.size := lt_of_block hM1
        obtain ⟨c0, c1⟩ := Aw.md_cells hM0
        obtain ⟨c2, c3⟩ := Aw.md_cells hM1
        clear hB hM0 hM1
        by_cases hlt : k < m.units.length
        · obtain ⟨u, hu⟩ : ∃ u, m.units[k]? = some u := ⟨_, List.getElem?_eq_getElem hlt⟩
          obtain ⟨b1, o1, al, cl, ac, cc, rfl, st1, hU1, x0, x1, x2, x3, x4, x5⟩ := (md_on h1.out HBw.out).units k u hu
          obtain ⟨b2, o2, al', cl', ac', cc', rfl, st2, hU2, y0, y1, y2, y3, y4, y5⟩ := (md_on h2.out HBw.out).units k u hu
          have HU1 := hide hU1
          have HU2 := hide hU2
          have n0 : (0 : Int) ≤ (k : Int) := by omega
          have n1 : (k : Int) < (m.units.length : Int) := by omega
          have hb1 : b1 < wr.heap.size := st1
          have hb2 : b2 < wr.heap.size := st2
          have hb1' : b1 < wr.heap.size + 1 := by omega
          have hb2' : b2 < wr.heap.size + 1 := by omega
          have hw0 : w.heap.size < wr.heap.size := by omega
          have hw0' : w.heap.size < wr.heap.size + 1 := by omega
          have hw1' : w.heap.size + 1 < wr.heap.size + 1 := by omega
          clear hu hU1 hU2 st1 st2
          go_wp2
          go_region
          · skip
            obtain ⟨W1, hW1⟩ : ∃ W1, W1 = ((wr.alloc (Aw.unO u al ac cl cc)).alloc (Aw.unO u al' ac' cl' cc')).drew := ⟨_, rfl⟩
            have HB1 : Hid (Below wr.heap.size wr W1) := by rw [hW1]; exact Below.drew (((Below.refl _ wr).alloc (Nat.le_refl _) _).alloc (by simp) _)
            have hX : W1.heap[wr.heap.size]? = some (Aw.unO u al ac cl cc) := by rw [hW1]; exact oldO _ _ _
            have hY : W1.heap[(wr.heap.size + 1)]? = some (Aw.unO u al' ac' cl' cc') := by rw [hW1]; exact newO _ _ _
            rw [← hW1]
            clear hW1
            have HX := hide hX
            have HY := hide hY
            have HV1 := hide (un_onO HU1.out HB1.out)
            have HV2 := hide (un_onO HU2.out HB1.out)
            have HBW : Hid (Below W0.heap.size W0 W1) := HB.out.trans (HB1.out.mono HB.out.size)
            obtain ⟨hll, hlc⟩ := HV1.out.few
            obtain ⟨p0, p1, p2, p3, p4, p5⟩ := Aw.un_cells hX
            obtain ⟨q0, q1, q2, q3, q4, q5⟩ := Aw.un_cells hY
            have k1 : (u.kind != u.kind) = false := by simp
            have k2 : (u.params != u.params) = false := by simp
            have k3 : (u.result != u.result) = false := by simp
            have k4 : (u.takes != u.takes) = false := by simp
            have k5 : ((u.code.length : Int) != (u.code.length : Int)) = false := by simp
            clear hX hY x0 x1 x2 x3 x4 x5 y0 y1 y2 y3 y4 y5 HB HBw c0 c1 c2 c3 HU1 HU2 HB1 hb1 hb2 hb1' hb2' hw0 hw0' hw1' hszr
            generalize wr.heap.size = P at *
            generalize (wr.heap.size + 1) = Q at *
            go_wp2_with fail
            refine (sameInts_any W1.heap.size u.locals al al' cl cl' _ (hide HV1.out.locals) (hide HV2.out.locals) hll).mono ?_
            rintro e w2 ⟨rfl, d2, rfl⟩
            go_wp2
            go_loopw [106] (fun i wr3 => ∃ j d : Nat, j ≤ u.code.length ∧ i = .int .i64 j ∧ wr3 = W1.drewN d) (fun i _ => u.code.length - (intOf i).toNat)
            case atStart => exact ⟨0, d2, Nat.zero_le _, rfl, rfl⟩
            case round =>
              obtain ⟨j, d, hj, rfl, rfl⟩ := hrel
              by_cases hjl : j < u.code.length
              · obtain ⟨x, hx⟩ : ∃ x, u.code[j]? = some x := ⟨_, List.getElem?_eq_getElem hjl⟩
                obtain ⟨_, _, _, g1, r1, hac, _, x0, x1, x2⟩ := HV1.out.code j x hx
                obtain ⟨_, _, _, g2, r2, hac', _, y0, y1, y2⟩ := HV2.out.code j x hx
                subst hac hac'
                have ie := ins_eq x.op x.a x.n
                have m0 : (0 : Int) ≤ (j : Int) := by omega
                have m1 : (j : Int) < (u.code.length : Int) := by omega
                clear hx
                go_wp2
                go_quiet (fail)
                go_wp2
                go_roundw
                case rel => exact ⟨j + 1, _, by omega, by go_num, rfl⟩
                case measure => simp [intOf]; omega
              · go_wp2
                go_roundw
                case rel => exact ⟨k + 1, by omega, by go_num, (HBW.out.trans ⟨rfl, rfl, rfl, Nat.le_refl _, fun _ _ => rfl⟩)⟩
                case measure => simp [intOf]; omega
          · skip
            obtain ⟨W1, hW1⟩ : ∃ W1, W1 = ((wr.alloc (Aw.unO u al' ac' cl' cc')).alloc (Aw.unO u al ac cl cc)).drew := ⟨_, rfl⟩
            have HB1 : Hid (Below wr.heap.size wr W1) := by rw [hW1]; exact Below.drew (((Below.refl _ wr).alloc (Nat.le_refl _) _).alloc (by simp) _)
            have hX : W1.heap[(wr.heap.size + 1)]? = some (Aw.unO u al ac cl cc) := by rw [hW1]; exact newO _ _ _
            have hY : W1.heap[wr.heap.size]? = some (Aw.unO u al' ac' cl' cc') := by rw [hW1]; exact oldO _ _ _
            rw [← hW1]
            clear hW1
            have HX := hide hX
            have HY := hide hY
            have HV1 := hide (un_onO HU1.out HB1.out)
            have HV2 := hide (un_onO HU2.out HB1.out)
            have HBW : Hid (Below W0.heap.size W0 W1) := HB.out.trans (HB1.out.mono HB.out.size)
            obtain ⟨hll, hlc⟩ := HV1.out.few
            obtain ⟨p0, p1, p2, p3, p4, p5⟩ := Aw.un_cells hX
            obtain ⟨q0, q1, q2, q3, q4, q5⟩ := Aw.un_cells hY
            have k1 : (u.kind != u.kind) = false := by simp
            have k2 : (u.params != u.params) = false := by simp
            have k3 : (u.result != u.result) = false := by simp
            have k4 : (u.takes != u.takes) = false := by simp
            have k5 : ((u.code.length : Int) != (u.code.length : Int)) = false := by simp
            clear hX hY x0 x1 x2 x3 x4 x5 y0 y1 y2 y3 y4 y5 HB HBw c0 c1 c2 c3 HU1 HU2 HB1 hb1 hb2 hb1' hb2' hw0 hw0' hw1' hszr
            generalize (wr.heap.size + 1) = P at *
            generalize wr.heap.size = Q at *
            go_wp2_with fail
            refine (sameInts_any W1.heap.size u.locals al al' cl cl' _ (hide HV1.out.locals) (hide HV2.out.locals) hll).mono ?_
            rintro e w2 ⟨rfl, d2, rfl⟩
            go_wp2
            go_loopw [106] (fun i wr3 => ∃ j d : Nat, j ≤ u.code.length ∧ i = .int .i64 j ∧ wr3 = W1.drewN d) (fun i _ => u.code.length - (intOf i).toNat)
            case atStart => exact ⟨0, d2, Nat.zero_le _, rfl, rfl⟩
            case round =>
              obtain ⟨j, d, hj, rfl, rfl⟩ := hrel
              by_cases hjl : j < u.code.length
              · obtain ⟨x, hx⟩ : ∃ x, u.code[j]? = some x := ⟨_, List.getElem?_eq_getElem hjl⟩
                obtain ⟨_, _, _, g1, r1, hac, _, x0, x1, x2⟩ := HV1.out.code j x hx
                obtain ⟨_, _, _, g2, r2, hac', _, y0, y1, y2⟩ := HV2.out.code j x hx
                subst hac hac'
                have ie := ins_eq x.op x.a x.n
                have m0 : (0 : Int) ≤ (j : Int) := by omega
                have m1 : (j : Int) < (u.code.length : Int) := by omega
                clear hx
                go_wp2
                go_quiet (fail)
                go_wp2
                go_roundw
                case rel => exact ⟨j + 1, _, by omega, by go_num, rfl⟩
                case measure => simp [intOf]; omega
              · go_wp2
                go_roundw
                case rel => exact ⟨k + 1, by omega, by go_num, (HBW.out.trans ⟨rfl, rfl, rfl, Nat.le_refl _, fun _ _ => rfl⟩)⟩
                case measure => simp [intOf]; omega
        · go_wp2
          go_ret
          exact ⟨rfl, HBw.out⟩

end Go.Proofs.Ytlbihbfgglnfnaa.Ow

/- The walk of OptOnce. -/
namespace Go.Proofs.Ytlbihbfgglnfnaa.Ow
open Go.RowKit Vf Vm Ot

/-- A cell that is set to what it holds stays. -/
theorem setCell_same {w : World} {b o : Nat} {v : Value} (h : w.cell? ⟨b, o, none⟩ = some v) : w.setCell ⟨b, o, none⟩ v = w := by
  obtain ⟨heap, tape, drawn, os, output⟩ := w
  simp only [World.setCell]
  congr 1
  apply Array.ext_getElem?
  intro k
  rw [Array.getElem?_modify]
  split
  · rename_i e
    have e' : b = k := e
    subst e'
    simp only [World.cell?] at h
    cases hb : heap[b]? with
    | none => rfl
    | some ob =>
      rw [hb] at h
      cases ob with
      | cells cs t fr =>
        simp only [Option.map_some, Option.some.injEq]
        have h' : cs[o]? = some v := h
        congr 1
        simp only [Option.isSome_none, Bool.false_eq_true, if_false]
        apply Array.ext_getElem?
        intro j
        rw [Array.getElem?_setIfInBounds]
        split
        · rename_i ej
          have ej' : o = j := ej
          subst ej'
          split
          · exact h'.symm
          · rename_i hlt
            rw [Array.getElem?_eq_none (by omega)]
        · rfl
      | _ => first | rfl | simp at h
  · rfl
theorem md_onO {w w' : World} {B : Nat} {m : Md} {ab au : Option Addr} (h : ModIn B w m ab au) (hB : B ≤ w.heap.size) (hb : Below w.heap.size w w') : ModIn w'.heap.size w' m ab au := md_wide (h.low (fun k hk => hb.block k (by omega))) (Nat.le_trans hB hb.size)

set_option maxHeartbeats 2000000 in
set_option maxRecDepth 100000 in
theorem once_any (m : Md) (ab au : Option Addr) (cb cu : Nat) (w : World) (hin : ModIn w.heap.size w m ab au) :
    Calls Try.prog 4 #[modV m ab au cb cu] w fun e w' => e = .returned (.bool true) ∧ Below w.heap.size w w' := by
  have HIN := hide hin
  clear hin
  have HLOW : Hid (∀ W : World, Below w.heap.size w W → w.heap.size ≤ W.heap.size ∧ ModIn w.heap.size W m ab au) := fun W h => ⟨h.size, HIN.out.low h.block⟩
  obtain ⟨V, hV⟩ : ∃ V, V = w.alloc (modO m ab au cb cu) := ⟨_, rfl⟩
  have HBV : Hid (Below w.heap.size w V) := by rw [hV]; exact one_below _ _
  have HN0 : Hid (V.heap[w.heap.size]? = some (modO m ab au cb cu)) := by rw [hV]; exact heap_alloc_new _ _
  have HV := hide hV.symm
  clear hV
  go_enter Try.func4, Try.ntmps4
  go_wp2_with fail
  rw [HV.out]
  clear HV
  refine (alive_any V).mono ?_
  rintro e w1 ⟨rfl, hb1⟩
  have HB1 : Hid (Below w.heap.size w w1) := below_onO HBV.out hb1
  have HN1 := hide (keepB hb1 HN0.out)
  clear hb1 HBV HN0
  obtain ⟨a0, a1, _, _⟩ := two_cells HN1.out
  have hmd := module_any w.heap.size m ab au cb cu w1 (hide (HLOW.out _ HB1.out).1) (hide (HLOW.out _ HB1.out).2)
  unfold ModV at hmd
  obtain ⟨r, hr⟩ : ∃ r, r = verify m := ⟨_, rfl⟩
  obtain ⟨n, hn⟩ : ∃ n, n = made m := ⟨_, rfl⟩
  rw [← hr, ← hn] at hmd
  have HMD := hide hmd
  have HR := hide hr
  have HN := hide hn
  clear hmd hr hn
  go_wp2_with fail
  refine HMD.out.mono ?_
  rintro e w2 ⟨nb, cnb, nu, cnu, rfl, hM, hb2⟩
  obtain ⟨W2, hW2⟩ : ∃ W2, W2 = (w2.alloc (modO n nb nu cnb cnu)).alloc (.cells #[.int .i64 r.1, .int .i64 r.2.1, .int .i64 r.2.2] 29) := ⟨_, rfl⟩
  have hbW : Below w2.heap.size w2 W2 := by rw [hW2]; exact two_belowO _ _ _
  have HB2 : Hid (Below w.heap.size w W2) := below_onO (below_onO HB1.out hb2) hbW
  have HA : Hid (W2.heap[w.heap.size]? = some (modO m ab au cb cu)) := keepB hbW (keepB hb2 HN1.out)
  have HNN : Hid (W2.heap[w2.heap.size]? = some (modO n nb nu cnb cnu)) := by rw [hW2]; exact oldO _ _ _
  have HWW : Hid (W2.heap[w2.heap.size + 1]? = some (.cells #[.int .i64 r.1, .int .i64 r.2.1, .int .i64 r.2.2] 29 (0, 0))) := by rw [hW2]; exact newO _ _ _
  have HMN : Hid (ModIn w2.heap.size W2 n nb nu) := hM.low hbW.block
  have HZ2 := hide hbW.size
  have HW2 := hide hW2.symm
  clear hW2 hbW hb2 hM HMD a0 a1 HN1
  go_upto_region 4 with fail
  rw [HW2.out]
  clear HW2
  generalize hQ : w2.heap.size = Q at *
  generalize hNN : w.heap.size = N at *
  have hAl := lt_of_block HA.out
  have hNl := lt_of_block HNN.out
  obtain ⟨a0, a1, _, _⟩ := two_cells HA.out
  obtain ⟨n0, n1, _, _⟩ := two_cells HNN.out
  obtain ⟨w0, w1', w2', _, _, _⟩ := three_cells HWW.out
  by_cases h0 : r.1 = 0
  · have e1 : (r.1 != 0) = false := by simpa using h0
    have hz : verify m = (0, 0, 0) := verify_zero (by rw [← HR.out]; exact h0)
    have hrz : r = (0, 0, 0) := HR.out.trans hz
    have hns : n = shortM m := by rw [HN.out]; unfold made; rw [hz]; rfl
    have hvn : verify n = (0, 0, 0) := by rw [hns]; exact short_right hz
    have hmn : made n = n := by unfold made; rw [hvn, if_pos rfl, hns, short_once hz]
    have hmod := module_any Q n nb nu cnb cnu W2 (hide HZ2.out) HMN
    unfold ModV at hmod
    rw [hmn, hvn] at hmod
    have HMO := hide hmod
    have HNS := hide hns
    have HJ : Hid (∀ u ∈ m.units, 0 < u.code.length) := fun u hu => (right_jumps hz hu).2.1
    subst hrz
    clear h0 hz hns hvn hmn hmod HR HN
    go_wp2_with fail
    refine HMO.out.mono ?_
    rintro e w3 ⟨ob, cob, ou, cou, rfl, hMo, hb3⟩
    obtain ⟨W3, hW3⟩ : ∃ W3, W3 = w3.alloc (modO n ob ou cob cou) := ⟨_, rfl⟩
    have hbW3 : Below w3.heap.size w3 W3 := by rw [hW3]; exact one_below _ _
    have hb23 : Below W2.heap.size W2 W3 := below_onO hb3 hbW3
    have hP5 : W3.heap[w3.heap.size]? = some (modO n ob ou cob cou) := by rw [hW3]; exact heap_alloc_new _ _
    have HWW3 := hide (keepB hb23 HWW.out)
    have HA3 := hide (keepB hb23 HA.out)
    have HN3 := hide (keepB hb23 HNN.out)
    have HMN3 : Hid (ModIn W3.heap.size W3 n nb nu) := md_onO HMN.out HZ2.out hb23
    have HMO3 : Hid (ModIn W3.heap.size W3 n ob ou) := md_onO hMo (Nat.le_refl _) hbW3
    have HB3 : Hid (Below N w W3) := HB2.out.trans (hb23.mono (Nat.le_of_lt hAl))
    have HP5 := hide hP5
    have hw3 := keepB hb3 HWW.out
    have hQ3 : Q + 1 < w3.heap.size := lt_of_block hw3
    have hQn : ¬ w3.heap.size = Q + 1 := by omega
    obtain ⟨t0, t1, t2, f0, f1, f2⟩ := three_cells hw3
    have hs0 := setCell_same t0
    have hs1 := setCell_same t1
    have hs2 := setCell_same t2
    have HS := hide (And.intro hs0 (And.intro hs1 hs2))
    have HW3 := hide hW3.symm
    clear hW3 hbW3 hb23 hP5 hMo hb3 HMO hs0 hs1 hs2 a0 a1 n0 n1 w0 w1' w2' hw3
    go_upto_region 7 with fail
    rw [HS.out.1, HS.out.2.1, HS.out.2.2, HW3.out]
    clear HW3 HS t0 t1 t2 f0 f1 f2
    generalize hP5 : w3.heap.size = P5 at *
    have HSM := hide (same_any n nb nu ob ou cnb cnu cob cou W3 HMN3 HMO3)
    obtain ⟨a0, a1, _, _⟩ := two_cells HA3.out
    obtain ⟨n0, n1, _, _⟩ := two_cells HN3.out
    obtain ⟨o0, o1, _, _⟩ := two_cells HP5.out
    obtain ⟨w0, w1', w2', _, _, _⟩ := three_cells HWW3.out
    obtain ⟨nl, hnl⟩ : ∃ nl, nl = m.units.length := ⟨_, rfl⟩
    have hln : n.units.length = nl := by rw [HNS.out, hnl]; show (m.units.map shortU).length = _; simp
    obtain ⟨bl, hbl⟩ : ∃ bl, bl = n.boxes.length := ⟨_, rfl⟩
    rw [← hnl] at a1
    rw [hln] at n1 o1
    rw [← hbl] at n0 o0
    have HNL := hide hnl
    have HSM2 : Hid (Calls Try.prog 9 #[.agg #[.slice nb bl cnb, .slice nu nl cnu], .agg #[.slice ob bl cob, .slice ou nl cou]] W3 fun e w' => e = .returned (.bool true) ∧ Below W3.heap.size W3 w') := by
      rw [← hln, hbl]
      exact HSM.out
    have HLN := hide hln
    clear hnl hbl HSM hln
    have eqn : ((nl : Int) != (nl : Int)) = false := by simp
    have nl2 : (nl : Int) ≤ 9223372036854775807 := by have := HIN.out.few.2; have := HNL.out; omega
    go_wp2_with fail
    refine HSM2.out.mono ?_
    rintro e w4 ⟨rfl, hb4⟩
    have HB4 : Hid (Below N w w4) := HB3.out.trans (hb4.mono (by have := lt_of_block HA3.out; omega))
    have HA4 := hide (keepB hb4 HA3.out)
    have HN4 := hide (keepB hb4 HN3.out)
    have HMN4 : Hid (ModIn w4.heap.size w4 n nb nu) := md_onO HMN3.out (Nat.le_refl _) hb4
    clear hb4 HSM2 a0 a1 n0 n1 o0 o1 w0 w1' w2'
    obtain ⟨a0, a1, _, _⟩ := two_cells HA4.out
    obtain ⟨n0, n1, _, _⟩ := two_cells HN4.out
    rw [← HNL.out] at a1
    rw [HLN.out] at n1
    go_wp2
    clear a0 a1 n0 n1
    go_loopw [43] (fun i wr => ∃ k d : Nat, k ≤ nl ∧ i = .int .i64 k ∧ wr = w4.drewN d) (fun i _ => nl - (intOf i).toNat)
    case atStart => exact ⟨0, 0, Nat.zero_le _, rfl, rfl⟩
    case round =>
      obtain ⟨k, d, hk, rfl, rfl⟩ := hrel
      obtain ⟨a0, a1, _, _⟩ := two_cells HA4.out
      obtain ⟨n0, n1, _, _⟩ := two_cells HN4.out
      rw [← HNL.out] at a1
      rw [HLN.out] at n1
      by_cases hlt : k < nl
      · obtain ⟨u, hu⟩ : ∃ u, m.units[k]? = some u := ⟨_, List.getElem?_eq_getElem (by rw [← HNL.out]; exact hlt)⟩
        have hnu : n.units[k]? = some (shortU u) := by rw [HNS.out]; show (m.units.map shortU)[k]? = _; rw [List.getElem?_map, hu]; rfl
        obtain ⟨b, off, al, cl, ac, cc, hau, hb, hU, x0, x1, x2, x3, x4, x5⟩ := (HLOW.out _ HB4.out).2.units k u hu
        obtain ⟨b', off', al', cl', ac', cc', hnu', hb', hU', z0, z1, z2, z3, z4, z5⟩ := HMN4.out.units k (shortU u) hnu
        subst hau hnu'
        have hsl := short_len u.code.length u.code
        have hpos := hsl.2 (HJ.out u (List.mem_of_getElem? hu))
        obtain ⟨lc, hlc⟩ : ∃ lc, lc = u.code.length := ⟨_, rfl⟩
        obtain ⟨ls, hls⟩ : ∃ ls, ls = (shortU u).code.length := ⟨_, rfl⟩
        rw [← hlc] at x5
        rw [← hls] at z5
        have e5 : ¬ (lc : Int) < (ls : Int) := by
          have : ls ≤ lc := by rw [hlc, hls]; exact hsl.1
          omega
        have e5n : ¬ lc < ls := by omega
        have e5d : decide (lc < ls) = false := by simpa using e5n
        have e6 : ((ls : Int) == 0) = false := by
          have : 0 < ls := by rw [hls]; exact hpos
          simp
          omega
        have k0 : (0 : Int) ≤ (k : Int) := by omega
        have k1 : (k : Int) < (nl : Int) := by omega
        have k2 : (k : Int) < 9223372036854775807 := by omega
        clear hu hnu hU hU' hsl hpos hlc hls x0 x1 x2 x3 x4 z0 z1 z2 z3 z4
        go_wp2
        go_quiet (fail)
        go_wp2
        go_roundw
        case rel => exact ⟨k + 1, _, by omega, by go_num, rfl⟩
        case measure => simp [intOf]; omega
      · go_wp2
        go_ret
        exact ⟨rfl, by rw [hNN]; exact drewN_below HB4.out _⟩
  · have e1 : (r.1 != 0) = true := by simpa using h0
    clear h0
    go_wp2
    go_ret
    exact ⟨rfl, by rw [hNN]; exact HB2.out⟩
end Go.Proofs.Ytlbihbfgglnfnaa.Ow

