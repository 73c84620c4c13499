/- The walk of yieldlaw14's alive. -/
import Derived.Test.YtalofknphhjhnaaM32
namespace Go.Proofs.Ytalofknphhjhnaa.Ow
open Go.RowKit Vf Vm Ot

abbrev codeO : Obj := .cells #[.int .i64 1, .int .i64 0, .int .i64 1, .int .i64 1, .int .i64 0, .int .i64 2, .int .i64 8, .int .i64 0, .int .i64 0, .int .i64 28, .int .i64 0, .int .i64 0, .int .i64 25, .int .i64 0, .int .i64 0] 41 (0, 0)
abbrev unitO (g : Nat) : Obj := .cells #[.int .i64 4, .int .i64 0, .slice none 0 0, .int .i64 0, .int .i64 0, .slice (some ⟨g, 0, none⟩) 5 5] 38 (0, 0)
theorem small_in (w : World) : ModIn ((w.alloc codeO).alloc (unitO w.heap.size)).heap.size ((w.alloc codeO).alloc (unitO w.heap.size)) smallM none (some ⟨w.heap.size + 1, 0, none⟩) := by
  have hc : ((w.alloc codeO).alloc (unitO w.heap.size)).heap[w.heap.size]? = some codeO := oldO _ _ _
  have hu : ((w.alloc codeO).alloc (unitO w.heap.size)).heap[w.heap.size + 1]? = some (unitO w.heap.size) := newO _ _ _
  have hz : ((w.alloc codeO).alloc (unitO w.heap.size)).heap.size = w.heap.size + 2 := by simp
  generalize (w.alloc codeO).alloc (unitO w.heap.size) = W at *
  refine ⟨⟨by simp [smallM], by simp [smallM]⟩, fun i x hx => by simp [smallM] at hx, fun i u hi => ?_⟩
  have hi0 : i = 0 := by
    have := (List.getElem?_eq_some_iff.1 hi).1
    simp [smallM] at this
    exact this
  subst hi0
  simp [smallM] at hi
  subst hi
  refine ⟨w.heap.size + 1, 0, none, 0, some ⟨w.heap.size, 0, none⟩, 5, rfl, by omega, ⟨⟨by constructor <;> decide, by constructor <;> decide, by constructor <;> decide, by constructor <;> decide⟩, ⟨by simp, by simp [smallC]⟩, ⟨by simp, by simp [smallC]⟩, fun i x hx => (by simp at hx), fun i x hx => ?_⟩, ?_, ?_, ?_, ?_, ?_, ?_⟩
  · have hi5 : i = 0 ∨ i = 1 ∨ i = 2 ∨ i = 3 ∨ i = 4 := by
      have := (List.getElem?_eq_some_iff.1 hx).1
      simp [smallC] at this
      omega
    rcases hi5 with rfl | rfl | rfl | rfl | rfl
    all_goals (
      simp [smallC] at hx
      subst hx
      refine ⟨by constructor <;> decide, by constructor <;> decide, by constructor <;> decide, w.heap.size, 0, rfl, by omega, ?_, ?_, ?_⟩ <;> simp [World.cell?, hc])
  all_goals simp [World.cell?, hu, smallC]
theorem small_made : made smallM = ⟨[], [⟨4, 0, [], 0, 0, [⟨1, 0, 3⟩, ⟨28, 0, 0⟩, ⟨25, 0, 0⟩]⟩]⟩ := by
  unfold made
  rw [small_verify, if_pos rfl]
  unfold shortM smallM
  simp only [List.map_cons, List.map_nil, shortU, small_short]

set_option maxHeartbeats 1000000 in
set_option maxRecDepth 100000 in
theorem alive_any (w : World) : Calls Try.prog 6 #[] w fun e w' => e = .returned (.bool true) ∧ Below w.heap.size w w' := by
  have hm := module_any ((w.alloc codeO).alloc (unitO w.heap.size)).heap.size smallM none (some ⟨w.heap.size + 1, 0, none⟩) 0 1 ((w.alloc codeO).alloc (unitO w.heap.size)) (hide (Nat.le_refl _)) (hide (small_in w))
  unfold ModV at hm
  rw [small_made, small_verify] at hm
  have HM := hide hm
  clear hm
  go_enter Try.func6, Try.ntmps6
  go_wp2_with fail
  refine HM.out.mono ?_
  rintro e w1 ⟨ab, cb, au, cu, rfl, hM, hb⟩
  obtain ⟨b, off, al, cl, ac, cc, rfl, hbl, hU, _, _, _, _, _, c5⟩ := hM.units 0 ⟨4, 0, [], 0, 0, [⟨1, 0, 3⟩, ⟨28, 0, 0⟩, ⟨25, 0, 0⟩]⟩ rfl
  obtain ⟨_, _, _, b2, off2, rfl, hb2l, _, _, d2⟩ := hU.code 0 ⟨1, 0, 3⟩ rfl
  have c5' : w1.cell? ⟨b, off + 5, none⟩ = some (.slice (some ⟨b2, off2, none⟩) 3 cc) := c5
  have d2' : w1.cell? ⟨b2, off2 + 2, none⟩ = some (.int .i64 3) := d2
  have HB : Hid (Below w.heap.size w w1) := below_onO (two_belowO _ _ _) hb
  clear hM hU c5 d2 hb HM
  go_wp2
  go_ret
  exact ⟨rfl, (HB.out.alloc HB.out.size _).alloc (by have := HB.out.size; simp; omega) _⟩
end Go.Proofs.Ytalofknphhjhnaa.Ow

/- The walk of OptKeeps' own closure: a module without its code. -/
namespace Go.Proofs.Ytalofknphhjhnaa.Ow
open Go.RowKit Vf Vm Ot

def bareU (u : Un) : Un := { u with code := [] }
def bareM (m : Md) : Md := ⟨m.boxes, m.units.map bareU⟩
/-- Rows of the caller's, below B. -/
structure UsAt (B C : Nat) (us : List UV) (v : Value) (w : World) : Prop where
  own : w.ownsRow C 38 6 v us.length (uvs us)
  each : ∀ x ∈ us, UnIn B w x.u x.al x.ac x.cl x.cc
theorem UsAt.on {B C : Nat} {us : List UV} {v : Value} {w w' : World} (h : UsAt B C us v w) (hB : B ≤ w.heap.size) (hb : Below w.heap.size w w') : UsAt B C us v w' := ⟨own_on h.own hb, fun x hx => (h.each x hx).low (fun k hk => hb.block k (by omega))⟩
theorem UsAt.more {B C : Nat} {us : List UV} {v v' : Value} {x : UV} {W5 w6 : World} (h : UsAt B C us v W5) (hx : UnIn B W5 x.u x.al x.ac x.cl x.cc) (hown : w6.ownsRow C 38 6 v' (us.length + 1) (uvs us ++ uvC x)) (hgr : W5.grownBy w6 v.ownBlock) (hBC : B ≤ C) (hCW : C ≤ W5.heap.size) : UsAt B C (us ++ [x]) v' w6 := by
  have key : Low B W5 w6 := fun k hk => hgr.block k (by omega) (fun e => by have := (h.own.lt k e.symm).1; omega)
  refine ⟨?_, fun y hy => ?_⟩
  · have e : uvs (us ++ [x]) = uvs us ++ uvC x := by simp [uvs]
    rw [e, List.length_append]
    exact hown
  · rcases List.mem_append.1 hy with hy | hy
    · exact (h.each y hy).low key
    · simp at hy
      subst hy
      exact hx.low key
theorem UsAt.set {B C N5 : Nat} {us : List UV} {v : Value} {w : World} (h : UsAt B C us v w) (hB : B ≤ N5) (hC : N5 < C) (o : Nat) (p : Value) : UsAt B C us v (w.setCell ⟨N5, o, none⟩ p) := by
  refine ⟨⟨h.own.1, ?_⟩, fun x hx => (h.each x hx).low (fun k hk => Below.heap_setCell _ ⟨N5, o, none⟩ _ _ (by show k ≠ N5; omega))⟩
  rcases h.own.2 with h1 | ⟨g, cap, cur, h1, h2, h3, h4⟩
  · exact .inl h1
  · exact .inr ⟨g, cap, cur, h1, h2, (Below.heap_setCell _ ⟨N5, o, none⟩ _ _ (by show g ≠ N5; omega)).trans h3, h4⟩
theorem UsAt.units {B C : Nat} {us : List UV} {v : Value} {w : World} (h : UsAt B C us v w) (hB : B ≤ w.heap.size) : ∃ au cu, v = .slice au us.length cu ∧ UnitsIn w.heap.size w (us.map (·.u)) au := by
  obtain ⟨au, cu, rfl, hc, hr⟩ := own_out h.own
  refine ⟨au, cu, rfl, ?_⟩
  by_cases h0 : 0 < us.length
  · obtain ⟨g, cap, e, _, _, _, hU⟩ := us_own h.own h0 (fun i x hx => un_wideO (h.each x (List.mem_of_getElem? hx)) hB)
    cases e
    exact hU.units (Nat.le_refl _)
  · obtain rfl : us = [] := List.eq_nil_of_length_eq_zero (by omega)
    exact fun i x hx => by simp at hx

set_option maxHeartbeats 2000000 in
set_option maxRecDepth 100000 in
theorem bare_any (B : Nat) (m : Md) (ab au : Option Addr) (cb cu : Nat) (w : World) (hB : Hid (B ≤ w.heap.size)) (hin : Hid (ModIn B w m ab au)) (hu30 : m.units.length ≤ 30) :
    Calls Try.prog 10 #[modV m ab au cb cu] w fun e w' => ∃ ab' cb' au' cu', e = .returned (modV (bareM m) ab' au' cb' cu') ∧ ModIn w'.heap.size w' (bareM m) ab' au' ∧ Below w.heap.size w w' := by
  have HLOW : Hid (∀ W : World, Below w.heap.size w W → B ≤ W.heap.size ∧ ModIn B W m ab au) := fun W h => ⟨Nat.le_trans hB.out h.size, hin.out.low (fun k hk => h.block k (by have := hB.out; omega))⟩
  obtain ⟨V, hV⟩ : ∃ V, V = ((w.alloc (modO m ab au cb cu)).alloc modZ).alloc (.cells #[.slice ab m.boxes.length cb, .slice none 0 0] 25) := ⟨_, rfl⟩
  have hbV : Below w.heap.size w V := by rw [hV]; exact three_belowO _ _ _ _
  have hN0 : V.heap[w.heap.size]? = some (modO m ab au cb cu) := by rw [hV, Below.heap_alloc _ _ _ (by simp; omega)]; exact oldO _ _ _
  have hN1 : V.heap[w.heap.size + 1]? = some modZ := by rw [hV, Below.heap_alloc _ _ _ (by simp)]; exact newO _ _ _
  have hN2 : V.heap[w.heap.size + 1 + 1]? = some (.cells #[.slice ab m.boxes.length cb, .slice none 0 0] 25 (0, 0)) := by rw [hV]; exact new2 _ _ _ _
  have hzV : V.heap.size = w.heap.size + 3 := by rw [hV]; simp
  have HV := hide hV.symm
  have HBV := hide hbV
  have HN0 := hide hN0
  have HN1 := hide hN1
  have HN2 := hide hN2
  have HZV := hide hzV
  obtain ⟨nu, hnu⟩ : ∃ nu, nu = m.units.length := ⟨_, rfl⟩
  have HNU := hide hnu
  have nu1 : (nu : Int) ≤ 30 := by omega
  clear hV hbV hN0 hN1 hN2 hzV hnu
  go_enter Try.func10, Try.ntmps10
  go_upto_region 2 with fail
  rw [HV.out]
  clear HV
  generalize hNN : w.heap.size = N at *
  obtain ⟨a0, a1, _, _⟩ := two_cells HN0.out
  rw [← HNU.out] at a1
  go_wp2
  clear a0 a1
  go_loopw [12] (fun i wr => ∃ (k : Nat) (us : List UV) (v : Value), k ≤ nu ∧ i = .int .i64 k ∧ us.map (·.u) = (m.units.take k).map bareU ∧ UsAt B V.heap.size us v wr ∧ wr.heap[N + 1 + 1]? = some (.cells #[.slice ab m.boxes.length cb, v] 25 (0, 0)) ∧ Pch (fun j => j = N + 1 + 1) V wr) (fun i _ => nu - (intOf i).toNat)
  case atStart => exact ⟨0, [], .slice none 0 0, Nat.zero_le _, rfl, rfl, ⟨own_nil _ _ _ _, fun x hx => by cases hx⟩, HN2.out, Pch.refl _ _⟩
  case round =>
    obtain ⟨k, us, v, hk, rfl, hus, hUs, h5, hPc⟩ := hrel
    have HUS := hide hus
    have HUA := hide hUs
    have H5 := hide h5
    have HPC := hide hPc
    have hul : us.length = k := by
      have := congrArg List.length hus
      simp at this
      have := HNU.out
      omega
    have HUL := hide hul
    have hBN : B ≤ N := hB.out
    have HBR : Hid (Below N w wr) := ⟨hPc.os.trans HBV.out.os, hPc.tape.trans HBV.out.tape, hPc.output.trans HBV.out.output, Nat.le_trans HBV.out.size hPc.size, fun j hj => (hPc.block j (by have := HZV.out; omega) (by omega)).trans (HBV.out.block j hj)⟩
    have hzr : N + 3 ≤ wr.heap.size := by have := HZV.out; have := hPc.size; omega
    clear hus hUs h5 hPc hul
    by_cases hlt : k < nu
    · obtain ⟨u, hu⟩ : ∃ u, m.units[k]? = some u := ⟨_, List.getElem?_eq_getElem (by rw [← HNU.out]; exact hlt)⟩
      obtain ⟨hB2, hMr⟩ := HLOW.out _ HBR.out
      obtain ⟨b, off, al, cl, ac, cc, hau, hb, hU, x0, x1, x2, x3, x4, x5⟩ := hMr.units k u hu
      subst hau
      have HU := hide hU
      have HUU := hide hu
      have k0 : (0 : Int) ≤ (k : Int) := by omega
      have k1 : (k : Int) < (nu : Int) := by omega
      have hbl : b < wr.heap.size := by omega
      clear hu hU hMr
      obtain ⟨W4, hW4⟩ : ∃ W4, W4 = wr.alloc (.cells #[.int .i64 u.kind, .int .i64 u.params, .slice al u.locals.length cl, .int .i64 u.result, .int .i64 u.takes, .slice none 0 0] 38) := ⟨_, rfl⟩
      have hb4 : Below wr.heap.size wr W4 := by rw [hW4]; exact one_below _ _
      have hq4 : W4.heap[wr.heap.size]? = some (.cells #[.int .i64 u.kind, .int .i64 u.params, .slice al u.locals.length cl, .int .i64 u.result, .int .i64 u.takes, .slice none 0 0] 38 (0, 0)) := by rw [hW4]; exact heap_alloc_new _ _
      have hx : UnIn B wr (bareU u) al none cl 0 := ⟨HU.out.nums, ⟨HU.out.few.1, by simp [bareU]⟩, ⟨HU.out.caps.1, by simp [bareU]⟩, HU.out.locals, fun i x hx => by simp [bareU] at hx⟩
      have HW4 := hide hW4.symm
      have HB4 := hide hb4
      have H54 := hide (keepB hb4 H5.out)
      have HQ4 := hide hq4
      have HXW := hide hx
      clear hW4 hb4 hq4 hx
      go_upto_region 6 with fail
      rw [HW4.out]
      clear HW4 x0 x1 x2 x3 x4 x5
      obtain ⟨y0, y1, y2, y3, y4, y5, _, _⟩ := six_cells HQ4.out
      obtain ⟨d0, d1, d2, d3⟩ := two_cells H54.out
      obtain ⟨i0, hi, hz0, hz1, hz2⟩ := info_partsO Try.infounit
      obtain ⟨x, hx⟩ : ∃ x : UV, x = ⟨bareU u, al, none, cl, 0⟩ := ⟨_, rfl⟩
      obtain ⟨W5, hW5⟩ : ∃ W5, W5 = W4.alloc (.cells #[.int .i64 u.kind, .int .i64 u.params, .slice al u.locals.length cl, .int .i64 u.result, .int .i64 u.takes, .slice none 0 0] 38) := ⟨_, rfl⟩
      have hb5 : Below wr.heap.size wr W5 := by rw [hW5]; exact below_onO HB4.out (one_below _ _)
      have HUA5 := hide (HUA.out.on hB2 hb5)
      have HXX : Hid (UnIn B W5 x.u x.al x.ac x.cl x.cc) := by unfold Hid; rw [hx]; exact HXW.out.low (fun k hk => hb5.block k (by omega))
      have HN5' : Hid (W5.heap[N + 1 + 1]? = some (.cells #[.slice ab m.boxes.length cb, v] 25 (0, 0))) := keepB hb5 H5.out
      have HNW5 : Hid (∀ j u', (uvC x)[j]? = some u' → W5.cell? ((⟨W4.heap.size, 0, none⟩ : Addr).add j) = some u') := fun j u' hu' => by
        rw [add_at, Nat.zero_add]
        have h8 : W5.heap[W4.heap.size]? = some (.cells (uvC x).toArray 38 (0, 0)) := by rw [hW5, hx]; exact heap_alloc_new _ _
        simp only [World.cell?, h8]
        simpa using hu'
      have HPC5 : Hid (Pch (fun j => j = N + 1 + 1) V W5) := HPC.out.trans (.of hb5)
      have HW5 := hide hW5.symm
      have hlen : us.length + 1 ≤ 31 := by have := HUL.out; omega
      have HUS2 : Hid ((us ++ [x]).map (·.u) = (m.units.take (k + 1)).map bareU) := by
        unfold Hid
        rw [List.map_append, HUS.out, List.take_add_one, HUU.out, hx]
        simp
      have hzV : N + 1 + 1 < V.heap.size := by have := HZV.out; omega
      clear hW5 hb5 hx
      go_wp2_with (at_builtin; rw [HW5.out]; refine wpList_append_src rfl _ _ 23 rfl V.heap.size 38 i0 _ 6 80 Try.underlying23 hi hz0 hz1 hz2 rfl (by decide) v us.length (uvs us) rfl HUA5.out.own (some ⟨W4.heap.size, 0, none⟩) 1 1 (uvC x) rfl (fun e => by cases e) rfl (fun ad e => by cases e; exact HNW5.out) (uv_one x) (by unfold maxLen; omega) (by omega) (by have := HPC5.out.size; exact this) ?_; intro v' w6 hown hgr; obtain ⟨a6, c6, hv6, _, _⟩ := own_out hown; subst hv6; have h56 : w6.heap[N + 1 + 1]? = some (.cells #[.slice ab m.boxes.length cb, v] 25 (0, 0)) := (hgr.block (N + 1 + 1) (lt_of_block HN5'.out) (fun e => by have := (HUA5.out.own.lt (N + 1 + 1) e.symm).1; omega)).trans HN5'.out; obtain ⟨g0, g1, g2, g3⟩ := two_cells h56; have H56 := hide h56; have HOWN := hide hown; have HGR := hide hgr; clear hown hgr h56)
      have HMO7 : Hid (UsAt B V.heap.size (us ++ [x]) (.slice a6 (us.length + 1) c6) (w6.setCell ⟨N + 1 + 1, 1, none⟩ (.slice a6 (us.length + 1) c6))) := (HUA5.out.more HXX.out HOWN.out HGR.out (by omega) HPC5.out.size).set (by omega) hzV _ _
      have HP7 : Hid (Pch (fun j => j = N + 1 + 1) V (w6.setCell ⟨N + 1 + 1, 1, none⟩ (.slice a6 (us.length + 1) c6))) := by
        have h6 : Pch (fun j => j = N + 1 + 1) V w6 := ⟨HGR.out.os.trans HPC5.out.os, HGR.out.tape.trans HPC5.out.tape, HGR.out.output.trans HPC5.out.output, Nat.le_trans HPC5.out.size HGR.out.size, fun j h1 h2 => (HGR.out.block j (Nat.lt_of_lt_of_le h1 HPC5.out.size) (fun e => by have := (HUA5.out.own.lt j e.symm).1; omega)).trans (HPC5.out.block j h1 h2)⟩
        exact h6.set ⟨N + 1 + 1, 1, none⟩ rfl _
      go_roundw
      case rel => exact ⟨k + 1, us ++ [x], .slice a6 (us.length + 1) c6, by omega, by go_num, HUS2.out, HMO7.out, set_two1 H56.out _, HP7.out⟩
      case measure => simp [intOf]; omega
    · obtain rfl : k = nu := by omega
      have hr1 : wr.heap[N + 1]? = some modZ := (HPC.out.block (N + 1) (by have := HZV.out; omega) (by omega)).trans HN1.out
      obtain ⟨d0, d1, _, _⟩ := two_cells H5.out
      obtain ⟨x0, x1, y0, y1⟩ := two_cells hr1
      obtain ⟨au', cu', hv, _⟩ := HUA.out.units (by omega)
      subst hv
      have HEND : Hid (∀ a b, ModIn ((wr.setCell ⟨N + 1, 0, none⟩ a).setCell ⟨N + 1, 1, none⟩ b).heap.size ((wr.setCell ⟨N + 1, 0, none⟩ a).setCell ⟨N + 1, 1, none⟩ b) (bareM m) ab au') := fun a b => by
        have m1 := (HUA.out.set (N5 := N + 1) (by omega) (by have := HZV.out; omega) 0 a).set (N5 := N + 1) (by omega) (by have := HZV.out; omega) 1 b
        obtain ⟨au2, cu2, e2, hM2⟩ := m1.units (by simp; omega)
        cases e2
        have e3 : us.map (·.u) = m.units.map bareU := by rw [HUS.out, HNU.out, List.take_length]
        rw [e3] at hM2
        obtain ⟨_, hMr⟩ := HLOW.out _ HBR.out
        refine ⟨⟨hMr.few.1, by show (m.units.map bareU).length ≤ _; simp; omega⟩, fun i x hx => ?_, hM2⟩
        obtain ⟨h1, h2, bb, o, e, hb, c0, c1⟩ := hMr.boxes i x hx
        have hk : ((wr.setCell ⟨N + 1, 0, none⟩ a).setCell ⟨N + 1, 1, none⟩ b).heap[bb]? = wr.heap[bb]? := (Below.heap_setCell _ ⟨N + 1, 1, none⟩ _ _ (by show bb ≠ N + 1; omega)).trans (Below.heap_setCell _ ⟨N + 1, 0, none⟩ _ _ (by show bb ≠ N + 1; omega))
        exact ⟨h1, h2, bb, o, e, by simp; omega, (cell_eq hk _).trans c0, (cell_eq hk _).trans c1⟩
      have HLE : Hid ((bareM m).units.length = us.length) := by
        show (m.units.map bareU).length = _
        rw [List.length_map, HUL.out, HNU.out]
      have HF : Hid (∀ a b, Below N w ((wr.setCell ⟨N + 1, 0, none⟩ a).setCell ⟨N + 1, 1, none⟩ b)) := fun a b => (HBR.out.setCell (p := ⟨N + 1, 0, none⟩) (by show N ≤ N + 1; omega) a).setCell (p := ⟨N + 1, 1, none⟩) (by show N ≤ N + 1; omega) b
      obtain ⟨ul, hul⟩ : ∃ ul, ul = us.length := ⟨_, rfl⟩
      rw [← hul] at d1
      have HUE := hide hul
      clear hul hr1 hlt
      go_wp2
      exact bodyPost_ret (v := .agg #[.slice ab m.boxes.length cb, .slice au' ul cu']) (by simp [results, Try.results10, go_sem, x0, x1]) rfl ⟨ab, cb, au', cu', by simp only [modV]; rw [HLE.out, ← HUE.out]; rfl, HEND.out _ _, by rw [hNN]; exact HF.out _ _⟩
end Go.Proofs.Ytalofknphhjhnaa.Ow

