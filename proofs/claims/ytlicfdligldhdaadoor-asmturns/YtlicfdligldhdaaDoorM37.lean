/- The walk of the document's Bare. -/
import Derived.Test.YtlicfdligldhdaaDoorM36
namespace Go.Proofs.YtlicfdligldhdaaDoor.Aw
open Go.RowKit As

abbrev modO (m : Vf.Md) (ab au : Option Addr) (cb cu : Nat) : Obj := .cells #[.slice ab m.boxes.length cb, .slice au m.units.length cu] 25 (0, 0)
abbrev modZ : Obj := .cells #[.slice none 0 0, .slice none 0 0] 25 (0, 0)
theorem three_belowB (w : World) (o p q : Obj) : Below w.heap.size w (((w.alloc o).alloc p).alloc q) := (two_below w o p).alloc (by simp; omega) _
theorem new2B (w : World) (o p q : Obj) : (((w.alloc o).alloc p).alloc q).heap[w.heap.size + 1 + 1]? = some q := by
  have := heap_alloc_new ((w.alloc o).alloc p) q
  rw [show ((w.alloc o).alloc p).heap.size = w.heap.size + 1 + 1 by simp] at this
  exact this
theorem two_cellsB {w : World} {k : Nat} {x y : Value} {t : TypeId} (h : w.heap[k]? = some (.cells #[x, y] t (0, 0))) : w.cell? ⟨k, 0, none⟩ = some x ∧ w.cell? ⟨k, 1, none⟩ = some y ∧ w.frozen? ⟨k, 0, none⟩ = false ∧ w.frozen? ⟨k, 1, none⟩ = false := by simp [World.cell?, World.frozen?, h]
theorem three_cellsB {w : World} {k : Nat} {x y z : Value} {t : TypeId} (h : w.heap[k]? = some (.cells #[x, y, z] t (0, 0))) : w.cell? ⟨k, 0, none⟩ = some x ∧ w.cell? ⟨k, 1, none⟩ = some y ∧ w.cell? ⟨k, 2, none⟩ = some z := by simp [World.cell?, h]
theorem six_cellsB {w : World} {k : Nat} {a b c d e f : Value} {t : TypeId} (h : w.heap[k]? = some (.cells #[a, b, c, d, e, f] t (0, 0))) : w.cell? ⟨k, 0, none⟩ = some a ∧ w.cell? ⟨k, 1, none⟩ = some b ∧ w.cell? ⟨k, 2, none⟩ = some c ∧ w.cell? ⟨k, 3, none⟩ = some d ∧ w.cell? ⟨k, 4, none⟩ = some e ∧ w.cell? ⟨k, 5, none⟩ = some f ∧ w.frozen? ⟨k, 5, none⟩ = false := by simp [World.cell?, World.frozen?, h]
theorem set_five {w : World} {k : Nat} {a b c d e f : Value} {t : TypeId} (h : w.heap[k]? = some (.cells #[a, b, c, d, e, f] t (0, 0))) (y : Value) : (w.setCell ⟨k, 5, none⟩ y).heap[k]? = some (.cells #[a, b, c, d, e, y] t (0, 0)) := by
  simp only [World.setCell, Array.getElem?_modify, if_true, h, Option.map_some]
  rfl
theorem set_two1B {w : World} {k : Nat} {a b : Value} {t : TypeId} (h : w.heap[k]? = some (.cells #[a, b] t (0, 0))) (y : Value) : (w.setCell ⟨k, 1, none⟩ y).heap[k]? = some (.cells #[a, y] t (0, 0)) := by
  simp only [World.setCell, Array.getElem?_modify, if_true, h, Option.map_some]
  rfl
theorem uv_oneB (x : UV) : ∀ v ∈ uvC x, v.oneCell' = true := by
  intro v hv
  simp at hv
  rcases hv with rfl | rfl | rfl | rfl | rfl | rfl <;> rfl
theorem ins_oneB (c : Vf.Ins) : ∀ v ∈ inC c, v.oneCell' = true := by
  intro v hv
  simp at hv
  rcases hv with rfl | rfl | rfl <;> rfl
/-- Nothing but one block has turned. -/
structure PchB (N : Nat) (w w' : World) : Prop where
  os : w'.os = w.os
  tape : w'.tape = w.tape
  output : w'.output = w.output
  size : w.heap.size ≤ w'.heap.size
  block : ∀ k, k < w.heap.size → k ≠ N → w'.heap[k]? = w.heap[k]?

set_option maxHeartbeats 4000000 in
set_option maxRecDepth 100000 in
theorem bare_any (B : Nat) (m : Vf.Md) (ab au : Option Addr) (cb cu : Nat) (w : World) (hB : Hid (B ≤ w.heap.size)) (hin : Hid (ModIn B w m ab au)) (hu60 : m.units.length ≤ 60000) (hc60 : Hid (∀ u ∈ m.units, u.code.length ≤ 60000 ∧ ∀ i ∈ u.code, (wordOf i.op).isSome = true)) :
    Calls Tryd.prog 9 #[.agg #[.slice ab m.boxes.length cb, .slice au m.units.length cu]] w fun e w' => ∃ ab' cb' au' cu', e = .returned (.agg #[.slice ab' (bare m).boxes.length cb', .slice au' (bare m).units.length cu']) ∧ ModIn w'.heap.size w' (bare m) ab' au' ∧ Below w.heap.size w w' := by
  have HLOW : Hid (∀ W : World, Below w.heap.size w W → B ≤ W.heap.size ∧ ModIn B W m ab au) := fun W h => ⟨Nat.le_trans hB.out h.size, hin.out.low (fun k hk => h.block k (by have := hB.out; omega))⟩
  obtain ⟨V, hV⟩ : ∃ V, V = ((w.alloc (modO m ab au cb cu)).alloc modZ).alloc (.cells #[.slice ab m.boxes.length cb, .slice none 0 0] 25) := ⟨_, rfl⟩
  have hbV : Below w.heap.size w V := by rw [hV]; exact three_belowB _ _ _ _
  have hN0 : V.heap[w.heap.size]? = some (modO m ab au cb cu) := by rw [hV, Below.heap_alloc _ _ _ (by simp; omega)]; exact two_old _ _ _
  have hN1 : V.heap[w.heap.size + 1]? = some modZ := by rw [hV, Below.heap_alloc _ _ _ (by simp)]; exact two_new _ _ _
  have hN2 : V.heap[w.heap.size + 1 + 1]? = some (.cells #[.slice ab m.boxes.length cb, .slice none 0 0] 25 (0, 0)) := by rw [hV]; exact new2B _ _ _ _
  have hzV : V.heap.size = w.heap.size + 3 := by rw [hV]; simp
  have HV := hide hV.symm
  have HBV := hide hbV
  have HN0 := hide hN0
  have HN1 := hide hN1
  have HN2 := hide hN2
  have HZV := hide hzV
  obtain ⟨nu, hnu⟩ : ∃ nu, nu = m.units.length := ⟨_, rfl⟩
  have HNU := hide hnu
  have nu1 : (nu : Int) ≤ 60000 := by omega
  clear hV hbV hN0 hN1 hN2 hzV hnu
  go_enter Tryd.func9, Tryd.ntmps9
  go_upto_region 2 with fail
  rw [HV.out]
  clear HV
  generalize hNN : w.heap.size = N at *
  obtain ⟨a0, a1, _, _⟩ := two_cellsB HN0.out
  rw [← HNU.out] at a1
  go_wp2
  clear a0 a1
  go_loopw [18] (fun i wr => ∃ (k : Nat) (us : List UV) (v : Value), k ≤ nu ∧ i = .int .i64 k ∧ us.map (·.u) = (m.units.take k).map bareU ∧ UsB B V.heap.size us v wr ∧ wr.heap[N + 1 + 1]? = some (.cells #[.slice ab m.boxes.length cb, v] 25 (0, 0)) ∧ PchB (N + 1 + 1) V wr) (fun i _ => nu - (intOf i).toNat)
  case atStart => exact ⟨0, [], .slice none 0 0, Nat.zero_le _, rfl, rfl, ⟨own_nilB _ _ _ _, fun x hx => by cases hx⟩, HN2.out, ⟨rfl, rfl, rfl, Nat.le_refl _, fun _ _ _ => rfl⟩⟩
  case round =>
    obtain ⟨k, us, v, hk, rfl, hus, hUs, h5, hPc⟩ := hrel
    have HUS := hide hus
    have HUA := hide hUs
    have H5 := hide h5
    have HPC := hide hPc
    have hul : us.length = k := by
      have := congrArg List.length hus
      simp at this
      have := HNU.out
      omega
    have HUL := hide hul
    have hBN : B ≤ N := hB.out
    have HBR : Hid (Below N w wr) := ⟨hPc.os.trans HBV.out.os, hPc.tape.trans HBV.out.tape, hPc.output.trans HBV.out.output, Nat.le_trans HBV.out.size hPc.size, fun j hj => (hPc.block j (by have := HZV.out; omega) (by omega)).trans (HBV.out.block j hj)⟩
    have hzr : N + 3 ≤ wr.heap.size := by have := HZV.out; have := hPc.size; omega
    clear hus hUs h5 hPc hul
    by_cases hlt : k < nu
    · obtain ⟨u, hu⟩ : ∃ u, m.units[k]? = some u := ⟨_, List.getElem?_eq_getElem (by rw [← HNU.out]; exact hlt)⟩
      obtain ⟨hB2, hMr⟩ := HLOW.out _ HBR.out
      obtain ⟨b, off, al, cl, ac, cc, hau, hb, hU, x0, x1, x2, x3, x4, x5⟩ := hMr.units k u hu
      subst hau
      obtain ⟨hcl, hcw⟩ := hc60.out u (List.mem_of_getElem? hu)
      have HCW := hide hcw
      have HU := hide hU
      have HUU := hide hu
      have k0 : (0 : Int) ≤ (k : Int) := by omega
      have k1 : (k : Int) < (nu : Int) := by omega
      have hbl : b < wr.heap.size := by omega
      obtain ⟨X, hX⟩ : ∃ X, X = wr.alloc (.cells #[.int .i64 u.kind, .int .i64 u.params, .slice al u.locals.length cl, .int .i64 u.result, .int .i64 u.takes, .slice ac u.code.length cc] 43) := ⟨_, rfl⟩
      have hbX : Below wr.heap.size wr X := by rw [hX]; exact one_belowB _ _
      have hqX : X.heap[wr.heap.size]? = some (.cells #[.int .i64 u.kind, .int .i64 u.params, .slice al u.locals.length cl, .int .i64 u.result, .int .i64 u.takes, .slice ac u.code.length cc] 43 (0, 0)) := by rw [hX]; exact heap_alloc_new _ _
      have hzX : X.heap.size = wr.heap.size + 1 := by rw [hX]; simp
      have HX := hide hX.symm
      have HBX := hide hbX
      have HQX := hide hqX
      have HCX : Hid (CodeIn B X u.code ac) := HU.out.code.low (fun k hk => hbX.block k (by omega))
      obtain ⟨nc, hnc⟩ : ∃ nc, nc = u.code.length := ⟨_, rfl⟩
      have HNC := hide hnc
      have nc1 : (nc : Int) ≤ 60000 := by omega
      clear hu hU hMr hX hbX hqX hcw hnc
      go_upto_region 6 with fail
      rw [HX.out]
      clear HX x0 x1 x2 x3 x4 x5
      generalize hQ : wr.heap.size = Q at *
      obtain ⟨z0, z1, z2, z3, z4, z5, _⟩ := six_cellsB HQX.out
      rw [← HNC.out] at z5
      have hQX : Q < X.heap.size := by omega
      have HUO : Hid (∀ W : World, Below Q X W → UsB B V.heap.size us v W ∧ W.heap[N + 1 + 1]? = some (.cells #[.slice ab m.boxes.length cb, v] 25 (0, 0)) ∧ PchB (N + 1 + 1) V W ∧ IntsIn B W u.locals al) := fun W h => by
        have hb := HBX.out.trans h
        have h5l := lt_of_block H5.out
        refine ⟨HUA.out.on (by omega) (by rw [hQ]; exact hb), (hb.block _ (by omega)).trans H5.out, ⟨hb.os.trans HPC.out.os, hb.tape.trans HPC.out.tape, hb.output.trans HPC.out.output, Nat.le_trans HPC.out.size hb.size, fun j h1 h2 => (hb.block j (by have := HPC.out.size; omega)).trans (HPC.out.block j h1 h2)⟩, HU.out.locals.low (fun k hk => hb.block k (by omega))⟩
      have HVQ : Hid (V.heap.size ≤ Q) := by unfold Hid; have := HPC.out.size; omega
      go_wp2
      clear z0 z1 z2 z3 z4 z5
      go_loopw [6, 25] (fun v i wi => ∃ j : Nat, j ≤ nc ∧ i = .int .i64 j ∧ CoB X ((u.code.take j).map bareI) v wi) (fun _ i _ => nc - (intOf i).toNat)
      case atStart => exact ⟨0, Nat.zero_le _, rfl, ⟨own_nilB _ _ _ _, Below.refl _ _⟩⟩
      case round =>
        obtain ⟨j, hj, rfl, hCo⟩ := hrel
        have HCO := hide hCo
        clear hCo
        by_cases hjl : j < nc
        · obtain ⟨c0, hc0⟩ : ∃ c, u.code[j]? = some c := ⟨_, List.getElem?_eq_getElem (by rw [← HNC.out]; exact hjl)⟩
          obtain ⟨hi1, hi2, hi3, bc, oc, hac, hbc, y0, y1, y2⟩ := (HCX.out.low (fun k hk => HCO.out.below.block k (by omega)) : CodeIn B wr u.code ac) j c0 hc0
          subst hac
          obtain ⟨hbI, ho1, ho2⟩ := bareI_has (HCW.out c0 (List.mem_of_getElem? hc0))
          have j0 : (0 : Int) ≤ (j : Int) := by omega
          have j1 : (j : Int) < (nc : Int) := by omega
          have hzx := HCO.out.below.size
          have hbcl : bc < wr.heap.size := by omega
          have HTK : Hid ((u.code.take (j + 1)).map bareI = (u.code.take j).map bareI ++ [bareI c0]) := by unfold Hid; rw [List.take_add_one, hc0]; simp
          have HBI := hide hbI
          have HI := hide (And.intro hi1 (And.intro hi2 hi3))
          obtain ⟨W1, hW1⟩ : ∃ W1, W1 = wr.alloc (insO c0) := ⟨_, rfl⟩
          have hb1 : Below wr.heap.size wr W1 := by rw [hW1]; exact one_belowB _ _
          have hq1 : W1.heap[wr.heap.size]? = some (insO c0) := by rw [hW1]; exact heap_alloc_new _ _
          have HW1 := hide hW1.symm
          have HB1 := hide hb1
          have HQ1 := hide hq1
          obtain ⟨rr, hrr⟩ : ∃ rr, rr = hasOf c0.op := ⟨_, rfl⟩
          have HRR := hide hrr
          have hlt2 : ((u.code.take j).map bareI).length = j := by simp; have := HNC.out; omega
          have HL2 := hide hlt2
          clear hc0 hbI hi1 hi2 hi3 hW1 hb1 hq1 hrr hlt2
          go_upto_region 9 with fail
          rw [HW1.out]
          clear HW1 y0 y1 y2
          obtain ⟨p0, p1, p2⟩ := three_cellsB HQ1.out
          go_wp2_with fail
          refine (word_any c0.op ho1 ho2 W1 rr HRR).mono ?_
          rintro e w2 ⟨sw, rfl, hb2⟩
          have HB2 : Hid (Below wr.heap.size wr w2) := below_on HB1.out hb2
          have HQ2 := hide (keepBB hb2 HQ1.out)
          have hq2l : wr.heap.size < w2.heap.size := lt_of_block HQ2.out
          have hq2n : ¬ w2.heap.size = wr.heap.size := by omega
          clear hb2 p0 p1 p2
          obtain ⟨p0, p1, p2⟩ := three_cellsB HQ2.out
          obtain ⟨i0, hi, hz0, hz1, hz2⟩ := info_partsB Tryd.infoinstr
          obtain ⟨c, hc⟩ : ∃ c, c = bareI c0 := ⟨_, rfl⟩
          obtain ⟨W4, hW4⟩ : ∃ W4, W4 = w2.alloc (insO c) := ⟨_, rfl⟩
          obtain ⟨W5, hW5⟩ : ∃ W5, W5 = W4.alloc (insO c) := ⟨_, rfl⟩
          have hz4 : W4.heap.size = w2.heap.size + 1 := by rw [hW4]; simp
          have HZ4 := hide hz4
          have HB5 : Hid (Below wr.heap.size wr W5) := by rw [hW5, hW4]; exact below_on HB2.out (two_below _ _ _)
          have HO5 : Hid (W5.ownsRow X.heap.size 45 3 u6 ((u.code.take j).map bareI).length (((u.code.take j).map bareI).flatMap inC)) := own_keep HCO.out.own (fun k hk => by obtain ⟨_, cs, h1⟩ := own_tyB HCO.out.own k hk; exact HB5.out.block k (lt_of_block h1))
          have HNW : Hid (∀ jj u', (inC c)[jj]? = some u' → W5.cell? ((⟨W4.heap.size, 0, none⟩ : Addr).add jj) = some u') := fun jj u' hu' => by
            rw [add_at, Nat.zero_add]
            have h8 : W5.heap[W4.heap.size]? = some (.cells (inC c).toArray 45 (0, 0)) := by rw [hW5]; exact heap_alloc_new _ _
            simp only [World.cell?, h8]
            simpa using hu'
          have HW5 : Hid ((w2.alloc (insO c)).alloc (insO c) = W5) := by unfold Hid; rw [hW5, hW4]
          have HXZ : Hid (X.heap.size ≤ W5.heap.size) := Nat.le_trans hzx HB5.out.size
          rw [HZ4.out] at HNW
          have HCE := hide hc
          clear hW4 hW5 hz4 hc HZ4
          rcases has_three c0.op with hh | hh | hh
          · skip
            obtain rfl : rr = 0 := HRR.out.trans hh
            have hcc : c = ⟨c0.op, 0, 0⟩ := by rw [HCE.out, HBI.out, hh]; rfl
            subst hcc
            have HCE2 : Hid (bareI c0 = ⟨c0.op, 0, 0⟩) := HCE.out.symm
            clear HCE HBI HRR hh
            dsimp only
            go_wp2_with (at_builtin; rw [HW5.out]; refine wpList_append_src rfl _ _ 41 rfl X.heap.size 45 i0 _ 3 24 Tryd.underlying41 hi hz0 hz1 hz2 rfl (by decide) u6 _ _ rfl HO5.out (some ⟨w2.heap.size + 1, 0, none⟩) 1 1 (inC ⟨c0.op, 0, 0⟩) rfl (fun e => by cases e) rfl (fun ad e => by cases e; exact HNW.out) (ins_oneB _) (by have := HL2.out; unfold maxLen; omega) (by have := HL2.out; omega) HXZ.out ?_; intro v' w6 hown hgr; have HCO6 := hide (HCO.out.more HB5.out hown hgr); clear hown hgr)
            go_roundw
            case rel => exact ⟨j + 1, by omega, by go_num, by rw [HTK.out, HCE2.out]; exact HCO6.out⟩
            case measure => simp [intOf]; omega
          · skip
            obtain rfl : rr = 1 := HRR.out.trans hh
            have hcc : c = ⟨c0.op, c0.a, 0⟩ := by rw [HCE.out, HBI.out, hh]; rfl
            subst hcc
            have HCE2 : Hid (bareI c0 = ⟨c0.op, c0.a, 0⟩) := HCE.out.symm
            clear HCE HBI HRR hh
            dsimp only
            go_wp2_with (at_builtin; rw [HW5.out]; refine wpList_append_src rfl _ _ 41 rfl X.heap.size 45 i0 _ 3 24 Tryd.underlying41 hi hz0 hz1 hz2 rfl (by decide) u6 _ _ rfl HO5.out (some ⟨w2.heap.size + 1, 0, none⟩) 1 1 (inC ⟨c0.op, c0.a, 0⟩) rfl (fun e => by cases e) rfl (fun ad e => by cases e; exact HNW.out) (ins_oneB _) (by have := HL2.out; unfold maxLen; omega) (by have := HL2.out; omega) HXZ.out ?_; intro v' w6 hown hgr; have HCO6 := hide (HCO.out.more HB5.out hown hgr); clear hown hgr)
            go_roundw
            case rel => exact ⟨j + 1, by omega, by go_num, by rw [HTK.out, HCE2.out]; exact HCO6.out⟩
            case measure => simp [intOf]; omega
          · skip
            obtain rfl : rr = 2 := HRR.out.trans hh
            have hcc : c = ⟨c0.op, 0, c0.n⟩ := by rw [HCE.out, HBI.out, hh]; rfl
            subst hcc
            have HCE2 : Hid (bareI c0 = ⟨c0.op, 0, c0.n⟩) := HCE.out.symm
            clear HCE HBI HRR hh
            dsimp only
            go_wp2_with (at_builtin; rw [HW5.out]; refine wpList_append_src rfl _ _ 41 rfl X.heap.size 45 i0 _ 3 24 Tryd.underlying41 hi hz0 hz1 hz2 rfl (by decide) u6 _ _ rfl HO5.out (some ⟨w2.heap.size + 1, 0, none⟩) 1 1 (inC ⟨c0.op, 0, c0.n⟩) rfl (fun e => by cases e) rfl (fun ad e => by cases e; exact HNW.out) (ins_oneB _) (by have := HL2.out; unfold maxLen; omega) (by have := HL2.out; omega) HXZ.out ?_; intro v' w6 hown hgr; have HCO6 := hide (HCO.out.more HB5.out hown hgr); clear hown hgr)
            go_roundw
            case rel => exact ⟨j + 1, by omega, by go_num, by rw [HTK.out, HCE2.out]; exact HCO6.out⟩
            case measure => simp [intOf]; omega
        · obtain rfl : j = nc := by omega
          have htk : (u.code.take j).map bareI = u.code.map bareI := by rw [HNC.out, List.take_length]
          have hlen : (u.code.map bareI).length = j := by rw [List.length_map, HNC.out]
          have hown := HCO.out.own
          rw [htk, hlen] at hown
          obtain ⟨ac', cc', hv, hcc, hty, hr⟩ := own_outB hown
          have hcode : CodeIn wr.heap.size wr (u.code.map bareI) ac' := by
            by_cases h0 : 0 < j
            · obtain ⟨g, cur, rfl, _, hh, ht⟩ := hr h0
              refine code_row hh (by rw [hlen]; exact ht) (fun c hc => ?_)
              obtain ⟨c0, hc0, rfl⟩ := List.mem_map.1 hc
              obtain ⟨i, hi⟩ := List.getElem?_of_mem hc0
              obtain ⟨hi1, hi2, hi3, _⟩ := HCX.out i c0 hi
              have z : I64 0 := by constructor <;> decide
              rw [(bareI_has (HCW.out c0 hc0)).1]
              split
              · exact ⟨hi1, z, z⟩
              split
              · exact ⟨hi1, hi2, z⟩
              · exact ⟨hi1, z, hi3⟩
            · have : u.code.map bareI = [] := List.eq_nil_of_length_eq_zero (by omega)
              rw [this]
              exact fun i x hx => by simp at hx
          subst hv
          have hbw : Below Q X wr := HCO.out.below.mono (Nat.le_of_lt hQX)
          obtain ⟨hU0, _, _, hL0⟩ := HUO.out wr hbw
          have hqw := keepBB HCO.out.below HQX.out
          obtain ⟨W4, hW4⟩ : ∃ W4, W4 = wr.setCell ⟨Q, 5, none⟩ (.slice ac' j cc') := ⟨_, rfl⟩
          have hb4 : Below Q X W4 := by rw [hW4]; exact hbw.setCell (p := ⟨Q, 5, none⟩) (Nat.le_refl _) _
          have hq4 : W4.heap[Q]? = some (.cells #[.int .i64 u.kind, .int .i64 u.params, .slice al u.locals.length cl, .int .i64 u.result, .int .i64 u.takes, .slice ac' j cc'] 43 (0, 0)) := by rw [hW4]; exact set_five hqw _
          have hg4 : wr.grownBy W4 (some Q) := by rw [hW4]; exact gg_setB (World.grownBy.refl _ _) ⟨Q, 5, none⟩ rfl _
          have hzw : B ≤ wr.heap.size := by have := HCO.out.below.size; omega
          have hx0 : UnB B wr ⟨bareU u, al, ac', cl, cc'⟩ := ⟨HU.out.nums, ⟨HU.out.few.1, by show (u.code.map bareI).length ≤ _; omega⟩, ⟨HU.out.caps.1, by show (u.code.map bareI).length ≤ cc'; omega⟩, hL0, hcode, hty⟩
          have hx4 : UnB B W4 ⟨bareU u, al, ac', cl, cc'⟩ := hx0.grown hg4 hzw (fun k hk => by cases hk; exact ⟨by omega, _, _, hqw, by decide⟩)
          obtain ⟨hU4, h54, hP4, _⟩ := HUO.out W4 hb4
          have HU4 := hide hU4
          have H54 := hide h54
          have HP4 := hide hP4
          have HX4 := hide hx4
          have HQ4 := hide hq4
          have HW4 := hide hW4.symm
          have HZ4 : Hid (Q < W4.heap.size) := lt_of_block hq4
          obtain ⟨z0, z1, z2, z3, z4, z5, f5⟩ := six_cellsB hqw
          clear hown hr hty hcode hbw hU0 hL0 hqw hW4 hb4 hq4 hg4 hx0 hx4 hU4 h54 hP4 htk
          go_upto_region 18 with fail
          rw [HW4.out]
          clear HW4 z0 z1 z2 z3 z4 z5 f5
          obtain ⟨z0, z1, z2, z3, z4, z5, _⟩ := six_cellsB HQ4.out
          obtain ⟨d0, d1, d2, d3⟩ := two_cellsB H54.out
          obtain ⟨i0, hi, hz0, hz1, hz2⟩ := info_partsB Tryd.infounit
          obtain ⟨x, hx⟩ : ∃ x : UV, x = ⟨bareU u, al, ac', cl, cc'⟩ := ⟨_, rfl⟩
          have hxc : uvC x = [.int .i64 u.kind, .int .i64 u.params, .slice al u.locals.length cl, .int .i64 u.result, .int .i64 u.takes, .slice ac' j cc'] := by rw [hx]; show [_, _, _, _, _, Value.slice ac' (u.code.map bareI).length cc'] = _; rw [hlen]; rfl
          obtain ⟨W5, hW5⟩ : ∃ W5, W5 = W4.alloc (.cells #[.int .i64 u.kind, .int .i64 u.params, .slice al u.locals.length cl, .int .i64 u.result, .int .i64 u.takes, .slice ac' j cc'] 43) := ⟨_, rfl⟩
          have hb5 : Below W4.heap.size W4 W5 := by rw [hW5]; exact one_belowB _ _
          have hBW4 : B ≤ W4.heap.size := by have := HZ4.out; omega
          have HUA5 := hide (HU4.out.on hBW4 hb5)
          have HXX : Hid (UnB B W5 x) := by unfold Hid; rw [hx]; exact HX4.out.on hBW4 hb5
          have HN5' : Hid (W5.heap[N + 1 + 1]? = some (.cells #[.slice ab m.boxes.length cb, v] 25 (0, 0))) := keepBB hb5 H54.out
          have HNW5 : Hid (∀ jj u', (uvC x)[jj]? = some u' → W5.cell? ((⟨W4.heap.size, 0, none⟩ : Addr).add jj) = some u') := fun jj u' hu' => by
            rw [add_at, Nat.zero_add]
            have h8 : W5.heap[W4.heap.size]? = some (.cells (uvC x).toArray 43 (0, 0)) := by rw [hW5, hxc]; exact heap_alloc_new _ _
            simp only [World.cell?, h8]
            simpa using hu'
          have HP5 : Hid (PchB (N + 1 + 1) V W5) := ⟨hb5.os.trans HP4.out.os, hb5.tape.trans HP4.out.tape, hb5.output.trans HP4.out.output, Nat.le_trans HP4.out.size hb5.size, fun jj h1 h2 => (hb5.block jj (Nat.lt_of_lt_of_le h1 HP4.out.size)).trans (HP4.out.block jj h1 h2)⟩
          have HW5 := hide hW5.symm
          have hlen2 : us.length + 1 ≤ 60001 := by have := HUL.out; omega
          have HUS2 : Hid ((us ++ [x]).map (·.u) = (m.units.take (k + 1)).map bareU) := by
            unfold Hid
            rw [List.map_append, HUS.out, List.take_add_one, HUU.out, hx]
            simp
          have hzV : N + 1 + 1 < V.heap.size := by have := HZV.out; omega
          have hBV : B ≤ V.heap.size := by omega
          clear hW5 hb5 hx hxc
          go_wp2_with (at_builtin; rw [HW5.out]; refine wpList_append_src rfl _ _ 23 rfl V.heap.size 43 i0 _ 6 80 Tryd.underlying23 hi hz0 hz1 hz2 rfl (by decide) v us.length (uvs us) rfl HUA5.out.own (some ⟨W4.heap.size, 0, none⟩) 1 1 (uvC x) rfl (fun e => by cases e) rfl (fun ad e => by cases e; exact HNW5.out) (uv_oneB x) (by unfold maxLen; omega) (by omega) HP5.out.size ?_; intro v' w6 hown hgr; obtain ⟨a6, c6, hv6, _, _, _⟩ := own_outB hown; subst hv6; have h56 : w6.heap[N + 1 + 1]? = some (.cells #[.slice ab m.boxes.length cb, v] 25 (0, 0)) := (hgr.block (N + 1 + 1) (lt_of_block HN5'.out) (fun e => by have := (own_tyB HUA5.out.own (N + 1 + 1) e.symm).1; omega)).trans HN5'.out; obtain ⟨g0, g1, g2, g3⟩ := two_cellsB h56; have H56 := hide h56; have HOWN := hide hown; have HGR := hide hgr; clear hown hgr h56)
          have HMO7 := hide (HUA5.out.more (p := .slice a6 (us.length + 1) c6) HXX.out HOWN.out HGR.out hBV HP5.out.size hzV (by omega) H56.out)
          have HP7 : Hid (PchB (N + 1 + 1) V (w6.setCell ⟨N + 1 + 1, 1, none⟩ (.slice a6 (us.length + 1) c6))) := ⟨HGR.out.os.trans HP5.out.os, HGR.out.tape.trans HP5.out.tape, HGR.out.output.trans HP5.out.output, by simp; exact Nat.le_trans HP5.out.size HGR.out.size, fun jj h1 h2 => (Below.heap_setCell _ ⟨N + 1 + 1, 1, none⟩ _ _ h2).trans ((HGR.out.block jj (Nat.lt_of_lt_of_le h1 HP5.out.size) (fun e => by have := (own_tyB HUA5.out.own jj e.symm).1; omega)).trans (HP5.out.block jj h1 h2))⟩
          go_roundw
          case rel => exact ⟨k + 1, us ++ [x], .slice a6 (us.length + 1) c6, by omega, by go_num, HUS2.out, HMO7.out, set_two1B H56.out _, HP7.out⟩
          case measure => simp [intOf]; omega
    · obtain rfl : k = nu := by omega
      have hr1 : wr.heap[N + 1]? = some modZ := (HPC.out.block (N + 1) (by have := HZV.out; omega) (by omega)).trans HN1.out
      obtain ⟨d0, d1, _, _⟩ := two_cellsB H5.out
      obtain ⟨x0, x1, y0, y1⟩ := two_cellsB hr1
      obtain ⟨au', cu', hv, _⟩ := HUA.out.units (by omega)
      subst hv
      have HEND : Hid (∀ a b, ModIn ((wr.setCell ⟨N + 1, 0, none⟩ a).setCell ⟨N + 1, 1, none⟩ b).heap.size ((wr.setCell ⟨N + 1, 0, none⟩ a).setCell ⟨N + 1, 1, none⟩ b) (bare m) ab au') := fun a b => by
        have g1 : wr.grownBy ((wr.setCell ⟨N + 1, 0, none⟩ a).setCell ⟨N + 1, 1, none⟩ b) (some (N + 1)) := gg_setB (gg_setB (World.grownBy.refl _ _) ⟨N + 1, 0, none⟩ rfl _) ⟨N + 1, 1, none⟩ rfl _
        have m1 := HUA.out.keep g1 (by have := HZV.out; omega) (by omega) (by omega) hr1 (by decide)
        obtain ⟨au2, cu2, e2, hM2⟩ := m1.units (by simp; omega)
        cases e2
        have e3 : us.map (·.u) = m.units.map bareU := by rw [HUS.out, HNU.out, List.take_length]
        rw [e3] at hM2
        obtain ⟨_, hMr⟩ := HLOW.out _ HBR.out
        refine ⟨⟨hMr.few.1, by show (m.units.map bareU).length ≤ _; simp; omega⟩, fun i x hx => ?_, hM2⟩
        obtain ⟨h1, h2, bb, o, e, hb, c0, c1⟩ := hMr.boxes i x hx
        have hk : ((wr.setCell ⟨N + 1, 0, none⟩ a).setCell ⟨N + 1, 1, none⟩ b).heap[bb]? = wr.heap[bb]? := (Below.heap_setCell _ ⟨N + 1, 1, none⟩ _ _ (by show bb ≠ N + 1; omega)).trans (Below.heap_setCell _ ⟨N + 1, 0, none⟩ _ _ (by show bb ≠ N + 1; omega))
        exact ⟨h1, h2, bb, o, e, by simp; omega, (cell_eq hk _).trans c0, (cell_eq hk _).trans c1⟩
      have HLE : Hid ((bare m).units.length = us.length) := by
        show (m.units.map bareU).length = _
        rw [List.length_map, HUL.out, HNU.out]
      have HF : Hid (∀ a b, Below N w ((wr.setCell ⟨N + 1, 0, none⟩ a).setCell ⟨N + 1, 1, none⟩ b)) := fun a b => (HBR.out.setCell (p := ⟨N + 1, 0, none⟩) (by show N ≤ N + 1; omega) a).setCell (p := ⟨N + 1, 1, none⟩) (by show N ≤ N + 1; omega) b
      obtain ⟨ul, hul⟩ : ∃ ul, ul = us.length := ⟨_, rfl⟩
      rw [← hul] at d1
      have HUE := hide hul
      clear hul hr1 hlt
      go_wp2
      exact bodyPost_ret (v := .agg #[.slice ab m.boxes.length cb, .slice au' ul cu']) (by simp [results, Tryd.results9, go_sem, x0, x1]) rfl ⟨ab, cb, au', cu', by rw [HLE.out, ← HUE.out]; rfl, HEND.out _ _, by rw [hNN]; exact HF.out _ _⟩
end Go.Proofs.YtlicfdligldhdaaDoor.Aw

