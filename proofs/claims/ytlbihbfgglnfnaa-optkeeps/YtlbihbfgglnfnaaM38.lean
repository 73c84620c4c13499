/- The walk of OptKeeps' own closure: a module without its code. -/
import Derived.Test.YtlbihbfgglnfnaaM37
import Derived.Test.YtlbihbfgglnfnaaM36
import Derived.Test.YtlbihbfgglnfnaaM35
namespace Go.Proofs.Ytlbihbfgglnfnaa.Ow
open Go.RowKit Vf Vm Ot

def bareU (u : Un) : Un := { u with code := [] }
def bareM (m : Md) : Md := ⟨m.boxes, m.units.map bareU⟩
/-- Rows of the caller's, below B. -/
structure UsAt (B C : Nat) (us : List UV) (v : Value) (w : World) : Prop where
  own : w.ownsRow C 38 6 v us.length (uvs us)
  each : ∀ x ∈ us, UnIn B w x.u x.al x.ac x.cl x.cc
theorem UsAt.on {B C : Nat} {us : List UV} {v : Value} {w w' : World} (h : UsAt B C us v w) (hB : B ≤ w.heap.size) (hb : Below w.heap.size w w') : UsAt B C us v w' := ⟨own_on h.own hb, fun x hx => (h.each x hx).low (fun k hk => hb.block k (by omega))⟩
theorem UsAt.more {B C : Nat} {us : List UV} {v v' : Value} {x : UV} {W5 w6 : World} (h : UsAt B C us v W5) (hx : UnIn B W5 x.u x.al x.ac x.cl x.cc) (hown : w6.ownsRow C 38 6 v' (us.length + 1) (uvs us ++ uvC x)) (hgr : W5.grownBy w6 v.ownBlock) (hBC : B ≤ C) (hCW : C ≤ W5.heap.size) : UsAt B C (us ++ [x]) v' w6 := by
  have key : Low B W5 w6 := fun k hk => hgr.block k (by omega) (fun e => by have := (h.own.lt k e.symm).1; omega)
  refine ⟨?_, fun y hy => ?_⟩
  · have e : uvs (us ++ [x]) = uvs us ++ uvC x := by simp [uvs]
    rw [e, List.length_append]
    exact hown
  · rcases List.mem_append.1 hy with hy | hy
    · exact (h.each y hy).low key
    · simp at hy
      subst hy
      exact hx.low key
theorem UsAt.set {B C N5 : Nat} {us : List UV} {v : Value} {w : World} (h : UsAt B C us v w) (hB : B ≤ N5) (hC : N5 < C) (o : Nat) (p : Value) : UsAt B C us v (w.setCell ⟨N5, o, none⟩ p) := by
  refine ⟨⟨h.own.1, ?_⟩, fun x hx => (h.each x hx).low (fun k hk => Below.heap_setCell _ ⟨N5, o, none⟩ _ _ (by show k ≠ N5; omega))⟩
  rcases h.own.2 with h1 | ⟨g, cap, cur, h1, h2, h3, h4⟩
  · exact .inl h1
  · exact .inr ⟨g, cap, cur, h1, h2, (Below.heap_setCell _ ⟨N5, o, none⟩ _ _ (by show g ≠ N5; omega)).trans h3, h4⟩
theorem UsAt.units {B C : Nat} {us : List UV} {v : Value} {w : World} (h : UsAt B C us v w) (hB : B ≤ w.heap.size) : ∃ au cu, v = .slice au us.length cu ∧ UnitsIn w.heap.size w (us.map (·.u)) au := by
  obtain ⟨au, cu, rfl, hc, hr⟩ := own_out h.own
  refine ⟨au, cu, rfl, ?_⟩
  by_cases h0 : 0 < us.length
  · obtain ⟨g, cap, e, _, _, _, hU⟩ := us_own h.own h0 (fun i x hx => un_wideO (h.each x (List.mem_of_getElem? hx)) hB)
    cases e
    exact hU.units (Nat.le_refl _)
  · obtain rfl : us = [] := List.eq_nil_of_length_eq_zero (by omega)
    exact fun i x hx => by simp at hx

set_option maxHeartbeats 2000000 in
set_option maxRecDepth 100000 in
theorem bare_any (B : Nat) (m : Md) (ab au : Option Addr) (cb cu : Nat) (w : World) (hB : Hid (B ≤ w.heap.size)) (hin : Hid (ModIn B w m ab au)) (hu30 : m.units.length ≤ 30) :
    Calls Try.prog 10 #[modV m ab au cb cu] w fun e w' => ∃ ab' cb' au' cu', e = .returned (modV (bareM m) ab' au' cb' cu') ∧ ModIn w'.heap.size w' (bareM m) ab' au' ∧ Below w.heap.size w w' := by
  have HLOW : Hid (∀ W : World, Below w.heap.size w W → B ≤ W.heap.size ∧ ModIn B W m ab au) := fun W h => ⟨Nat.le_trans hB.out h.size, hin.out.low (fun k hk => h.block k (by have := hB.out; omega))⟩
  obtain ⟨V, hV⟩ : ∃ V, V = ((w.alloc (modO m ab au cb cu)).alloc modZ).alloc (.cells #[.slice ab m.boxes.length cb, .slice none 0 0] 25) := ⟨_, rfl⟩
  have hbV : Below w.heap.size w V := by rw [hV]; exact three_belowO _ _ _ _
  have hN0 : V.heap[w.heap.size]? = some (modO m ab au cb cu) := by rw [hV, Below.heap_alloc _ _ _ (by simp; omega)]; exact oldO _ _ _
  have hN1 : V.heap[w.heap.size + 1]? = some modZ := by rw [hV, Below.heap_alloc _ _ _ (by simp)]; exact newO _ _ _
  have hN2 : V.heap[w.heap.size + 1 + 1]? = some (.cells #[.slice ab m.boxes.length cb, .slice none 0 0] 25 (0, 0)) := by rw [hV]; exact new2 _ _ _ _
  have hzV : V.heap.size = w.heap.size + 3 := by rw [hV]; simp
  have HV := hide hV.symm
  have HBV := hide hbV
  have HN0 := hide hN0
  have HN1 := hide hN1
  have HN2 := hide hN2
  have HZV := hide hzV
  obtain ⟨nu, hnu⟩ : ∃ nu, nu = m.units.length := ⟨_, rfl⟩
  have HNU := hide hnu
  have nu1 : (nu : Int) ≤ 30 := by omega
  clear hV hbV hN0 hN1 hN2 hzV hnu
  go_enter Try.func10, Try.ntmps10
  go_upto_region 2 with fail
  rw [HV.out]
  clear HV
  generalize hNN : w.heap.size = N at *
  obtain ⟨a0, a1, _, _⟩ := two_cells HN0.out
  rw [← HNU.out] at a1
  go_wp2
  clear a0 a1
  go_loopw [12] (fun i wr => ∃ (k : Nat) (us : List UV) (v : Value), k ≤ nu ∧ i = .int .i64 k ∧ us.map (·.u) = (m.units.take k).map bareU ∧ UsAt B V.heap.size us v wr ∧ wr.heap[N + 1 + 1]? = some (.cells #[.slice ab m.boxes.length cb, v] 25 (0, 0)) ∧ Pch (fun j => j = N + 1 + 1) V wr) (fun i _ => nu - (intOf i).toNat)
  case atStart => exact ⟨0, [], .slice none 0 0, Nat.zero_le _, rfl, rfl, ⟨own_nil _ _ _ _, fun x hx => by cases hx⟩, HN2.out, Pch.refl _ _⟩
  case round =>
    obtain ⟨k, us, v, hk, rfl, hus, hUs, h5, hPc⟩ := hrel
    have HUS := hide hus
    have HUA := hide hUs
    have H5 := hide h5
    have HPC := hide hPc
    have hul : us.length = k := by
      have := congrArg List.length hus
      simp at this
      have := HNU.out
      omega
    have HUL := hide hul
    have hBN : B ≤ N := hB.out
    have HBR : Hid (Below N w wr) := ⟨hPc.os.trans HBV.out.os, hPc.tape.trans HBV.out.tape, hPc.output.trans HBV.out.output, Nat.le_trans HBV.out.size hPc.size, fun j hj => (hPc.block j (by have := HZV.out; omega) (by omega)).trans (HBV.out.block j hj)⟩
    have hzr : N + 3 ≤ wr.heap.size := by have := HZV.out; have := hPc.size; omega
    clear hus hUs h5 hPc hul
    by_cases hlt : k < nu
    · obtain ⟨u, hu⟩ : ∃ u, m.units[k]? = some u := ⟨_, List.getElem?_eq_getElem (by rw [← HNU.out]; exact hlt)⟩
      obtain ⟨hB2, hMr⟩ := HLOW.out _ HBR.out
      obtain ⟨b, off, al, cl, ac, cc, hau, hb, hU, x0, x1, x2, x3, x4, x5⟩ := hMr.units k u hu
      subst hau
      have HU := hide hU
      have HUU := hide hu
      have k0 : (0 : Int) ≤ (k : Int) := by omega
      have k1 : (k : Int) < (nu : Int) := by omega
      have hbl : b < wr.heap.size := by omega
      clear hu hU hMr
      obtain ⟨W4, hW4⟩ : ∃ W4, W4 = wr.alloc (.cells #[.int .i64 u.kind, .int .i64 u.params, .slice al u.locals.length cl, .int .i64 u.result, .int .i64 u.takes, .slice none 0 0] 38) := ⟨_, rfl⟩
      have hb4 : Below wr.heap.size wr W4 := by rw [hW4]; exact one_below _ _
      have hq4 : W4.heap[wr.heap.size]? = some (.cells #[.int .i64 u.kind, .int .i64 u.params, .slice al u.locals.length cl, .int .i64 u.result, .int .i64 u.takes, .slice none 0 0] 38 (0, 0)) := by rw [hW4]; exact heap_alloc_new _ _
      have hx : UnIn B wr (bareU u) al none cl 0 := ⟨HU.out.nums, ⟨HU.out.few.1, by simp [bareU]⟩, ⟨HU.out.caps.1, by simp [bareU]⟩, HU.out.locals, fun i x hx => by simp [bareU] at hx⟩
      have HW4 := hide hW4.symm
      have HB4 := hide hb4
      have H54 := hide (keepB hb4 H5.out)
      have HQ4 := hide hq4
      have HXW := hide hx
      clear hW4 hb4 hq4 hx
      go_upto_region 6 with fail
      rw [HW4.out]
      clear HW4 x0 x1 x2 x3 x4 x5
      obtain ⟨y0, y1, y2, y3, y4, y5, _, _⟩ := six_cells HQ4.out
      obtain ⟨d0, d1, d2, d3⟩ := two_cells H54.out
      obtain ⟨i0, hi, hz0, hz1, hz2⟩ := info_partsO Try.infounit
      obtain ⟨x, hx⟩ : ∃ x : UV, x = ⟨bareU u, al, none, cl, 0⟩ := ⟨_, rfl⟩
      obtain ⟨W5, hW5⟩ : ∃ W5, W5 = W4.alloc (.cells #[.int .i64 u.kind, .int .i64 u.params, .slice al u.locals.length cl, .int .i64 u.result, .int .i64 u.takes, .slice none 0 0] 38) := ⟨_, rfl⟩
      have hb5 : Below wr.heap.size wr W5 := by rw [hW5]; exact below_onO HB4.out (one_below _ _)
      have HUA5 := hide (HUA.out.on hB2 hb5)
      have HXX : Hid (UnIn B W5 x.u x.al x.ac x.cl x.cc) := by unfold Hid; rw [hx]; exact HXW.out.low (fun k hk => hb5.block k (by omega))
      have HN5' : Hid (W5.heap[N + 1 + 1]? = some (.cells #[.slice ab m.boxes.length cb, v] 25 (0, 0))) := keepB hb5 H5.out
      have HNW5 : Hid (∀ j u', (uvC x)[j]? = some u' → W5.cell? ((⟨W4.heap.size, 0, none⟩ : Addr).add j) = some u') := fun j u' hu' => by
        rw [add_at, Nat.zero_add]
        have h8 : W5.heap[W4.heap.size]? = some (.cells (uvC x).toArray 38 (0, 0)) := by rw [hW5, hx]; exact heap_alloc_new _ _
        simp only [World.cell?, h8]
        simpa using hu'
      have HPC5 : Hid (Pch (fun j => j = N + 1 + 1) V W5) := HPC.out.trans (.of hb5)
      have HW5 := hide hW5.symm
      have hlen : us.length + 1 ≤ 31 := by have := HUL.out; omega
      have HUS2 : Hid ((us ++ [x]).map (·.u) = (m.units.take (k + 1)).map bareU) := by
        unfold Hid
        rw [List.map_append, HUS.out, List.take_add_one, HUU.out, hx]
        simp
      have hzV : N + 1 + 1 < V.heap.size := by have := HZV.out; omega
      clear hW5 hb5 hx
      go_wp2_with (at_builtin; rw [HW5.out]; refine wpList_append_src rfl _ _ 23 rfl V.heap.size 38 i0 _ 6 80 Try.underlying23 hi hz0 hz1 hz2 rfl (by decide) v us.length (uvs us) rfl HUA5.out.own (some ⟨W4.heap.size, 0, none⟩) 1 1 (uvC x) rfl (fun e => by cases e) rfl (fun ad e => by cases e; exact HNW5.out) (uv_one x) (by unfold maxLen; omega) (by omega) (by have := HPC5.out.size; exact this) ?_; intro v' w6 hown hgr; obtain ⟨a6, c6, hv6, _, _⟩ := own_out hown; subst hv6; have h56 : w6.heap[N + 1 + 1]? = some (.cells #[.slice ab m.boxes.length cb, v] 25 (0, 0)) := (hgr.block (N + 1 + 1) (lt_of_block HN5'.out) (fun e => by have := (HUA5.out.own.lt (N + 1 + 1) e.symm).1; omega)).trans HN5'.out; obtain ⟨g0, g1, g2, g3⟩ := two_cells h56; have H56 := hide h56; have HOWN := hide hown; have HGR := hide hgr; clear hown hgr h56)
      have HMO7 : Hid (UsAt B V.heap.size (us ++ [x]) (.slice a6 (us.length + 1) c6) (w6.setCell ⟨N + 1 + 1, 1, none⟩ (.slice a6 (us.length + 1) c6))) := (HUA5.out.more HXX.out HOWN.out HGR.out (by omega) HPC5.out.size).set (by omega) hzV _ _
      have HP7 : Hid (Pch (fun j => j = N + 1 + 1) V (w6.setCell ⟨N + 1 + 1, 1, none⟩ (.slice a6 (us.length + 1) c6))) := by
        have h6 : Pch (fun j => j = N + 1 + 1) V w6 := ⟨HGR.out.os.trans HPC5.out.os, HGR.out.tape.trans HPC5.out.tape, HGR.out.output.trans HPC5.out.output, Nat.le_trans HPC5.out.size HGR.out.size, fun j h1 h2 => (HGR.out.block j (Nat.lt_of_lt_of_le h1 HPC5.out.size) (fun e => by have := (HUA5.out.own.lt j e.symm).1; omega)).trans (HPC5.out.block j h1 h2)⟩
        exact h6.set ⟨N + 1 + 1, 1, none⟩ rfl _
      go_roundw
      case rel => exact ⟨k + 1, us ++ [x], .slice a6 (us.length + 1) c6, by omega, by go_num, HUS2.out, HMO7.out, set_two1 H56.out _, HP7.out⟩
      case measure => simp [intOf]; omega
    · obtain rfl : k = nu := by omega
      have hr1 : wr.heap[N + 1]? = some modZ := (HPC.out.block (N + 1) (by have := HZV.out; omega) (by omega)).trans HN1.out
      obtain ⟨d0, d1, _, _⟩ := two_cells H5.out
      obtain ⟨x0, x1, y0, y1⟩ := two_cells hr1
      obtain ⟨au', cu', hv, _⟩ := HUA.out.units (by omega)
      subst hv
      have HEND : Hid (∀ a b, ModIn ((wr.setCell ⟨N + 1, 0, none⟩ a).setCell ⟨N + 1, 1, none⟩ b).heap.size ((wr.setCell ⟨N + 1, 0, none⟩ a).setCell ⟨N + 1, 1, none⟩ b) (bareM m) ab au') := fun a b => by
        have m1 := (HUA.out.set (N5 := N + 1) (by omega) (by have := HZV.out; omega) 0 a).set (N5 := N + 1) (by omega) (by have := HZV.out; omega) 1 b
        obtain ⟨au2, cu2, e2, hM2⟩ := m1.units (by simp; omega)
        cases e2
        have e3 : us.map (·.u) = m.units.map bareU := by rw [HUS.out, HNU.out, List.take_length]
        rw [e3] at hM2
        obtain ⟨_, hMr⟩ := HLOW.out _ HBR.out
        refine ⟨⟨hMr.few.1, by show (m.units.map bareU).length ≤ _; simp; omega⟩, fun i x hx => ?_, hM2⟩
        obtain ⟨h1, h2, bb, o, e, hb, c0, c1⟩ := hMr.boxes i x hx
        have hk : ((wr.setCell ⟨N + 1, 0, none⟩ a).setCell ⟨N + 1, 1, none⟩ b).heap[bb]? = wr.heap[bb]? := (Below.heap_setCell _ ⟨N + 1, 1, none⟩ _ _ (by show bb ≠ N + 1; omega)).trans (Below.heap_setCell _ ⟨N + 1, 0, none⟩ _ _ (by show bb ≠ N + 1; omega))
        exact ⟨h1, h2, bb, o, e, by simp; omega, (cell_eq hk _).trans c0, (cell_eq hk _).trans c1⟩
      have HLE : Hid ((bareM m).units.length = us.length) := by
        show (m.units.map bareU).length = _
        rw [List.length_map, HUL.out, HNU.out]
      have HF : Hid (∀ a b, Below N w ((wr.setCell ⟨N + 1, 0, none⟩ a).setCell ⟨N + 1, 1, none⟩ b)) := fun a b => (HBR.out.setCell (p := ⟨N + 1, 0, none⟩) (by show N ≤ N + 1; omega) a).setCell (p := ⟨N + 1, 1, none⟩) (by show N ≤ N + 1; omega) b
      obtain ⟨ul, hul⟩ : ∃ ul, ul = us.length := ⟨_, rfl⟩
      rw [← hul] at d1
      have HUE := hide hul
      clear hul hr1 hlt
      go_wp2
      exact bodyPost_ret (v := .agg #[.slice ab m.boxes.length cb, .slice au' ul cu']) (by simp [results, Try.results10, go_sem, x0, x1]) rfl ⟨ab, cb, au', cu', by simp only [modV]; rw [HLE.out, ← HUE.out]; rfl, HEND.out _ _, by rw [hNN]; exact HF.out _ _⟩
end Go.Proofs.Ytlbihbfgglnfnaa.Ow

/- The walk of ref6.Same, of two that are alike. -/
namespace Go.Proofs.Ytlbihbfgglnfnaa.Ow
open Go.RowKit Vf Vm Ot

theorem md_wide {B C : Nat} {w : World} {m : Vf.Md} {ab au : Option Addr} (h : ModIn B w m ab au) (hB : B ≤ C) : ModIn C w m ab au := by
  refine ⟨h.few, fun i x hx => ?_, fun i x hx => ?_⟩
  · obtain ⟨a, b, c, d, e, f, g⟩ := h.boxes i x hx
    exact ⟨a, b, c, d, e, by omega, g⟩
  · obtain ⟨b, off, al, cl, ac, cc, e, hb, hu, g⟩ := h.units i x hx
    exact ⟨b, off, al, cl, ac, cc, e, by omega, un_wideO hu hB, g⟩
theorem md_on {w w' : World} {m : Vf.Md} {ab au : Option Addr} (h : ModIn w.heap.size w m ab au) (hb : Below w.heap.size w w') : ModIn w'.heap.size w' m ab au := md_wide (h.low hb.block) hb.size
set_option maxHeartbeats 400000 in
theorem sameInts_any (B : Nat) (l : List Int) (a1 a2 : Option Addr) (c1 c2 : Nat) (w : World) (h1 : Hid (IntsIn B w l a1)) (h2 : Hid (IntsIn B w l a2)) (hn : l.length ≤ 9223372036854775807) :
    Calls Try.prog 21 #[.slice a1 l.length c1, .slice a2 l.length c2] w fun e w' => e = .returned (.bool true) ∧ ∃ d, w' = w.drewN d := by
  have eq0 : ((l.length : Int) != (l.length : Int)) = false := by simp
  go_enter Try.func21, Try.ntmps21
  go_wp2
  go_loopw [13] (fun i wr => ∃ k d : Nat, k ≤ l.length ∧ i = .int .i64 k ∧ wr = w.drewN d) (fun i _ => l.length - (intOf i).toNat)
  case atStart => exact ⟨0, 0, Nat.zero_le _, rfl, rfl⟩
  case round =>
    obtain ⟨k, d, hk, rfl, rfl⟩ := hrel
    by_cases hlt : k < l.length
    · obtain ⟨x, hx⟩ : ∃ x, l[k]? = some x := ⟨_, List.getElem?_eq_getElem hlt⟩
      obtain ⟨_, b1, o1, rfl, _, x1⟩ := h1.out k x hx
      obtain ⟨_, b2, o2, rfl, _, x2⟩ := h2.out k x hx
      have eqx : (x != x) = false := by simp
      have b0 : (0 : Int) ≤ (k : Int) := by omega
      have b1 : (k : Int) < (l.length : Int) := by omega
      clear hx
      go_wp2
      go_quiet (fail)
      go_wp2
      go_roundw
      case rel => exact ⟨k + 1, _, by omega, by go_num, rfl⟩
      case measure => simp [intOf]; omega
    · go_wp2
      go_ret
      exact ⟨rfl, d, rfl⟩

theorem box_eq (x y : Int) (w : World) : Sem.run Try.prog (binOp BinOp.neq 44 (.agg #[.int .i64 x, .int .i64 y]) (.agg #[.int .i64 x, .int .i64 y])) w = .ok (.bool false) w := by
  simp [go_sem]
theorem ins_eq (x y z : Int) (w : World) : Sem.run Try.prog (binOp BinOp.neq 41 (.agg #[.int .i64 x, .int .i64 y, .int .i64 z]) (.agg #[.int .i64 x, .int .i64 y, .int .i64 z])) w = .ok (.bool false) w := by
  simp [go_sem]


set_option maxRecDepth 100000 in
set_option maxHeartbeats 4000000 in
theorem same_any (m : Vf.Md) (ab au ab' au' : Option Addr) (cb cu cb' cu' : Nat) (w : World) (h1 : Hid (ModIn w.heap.size w m ab au)) (h2 : Hid (ModIn w.heap.size w m ab' au')) :
    Calls Try.prog 9 #[.agg #[.slice ab m.boxes.length cb, .slice au m.units.length cu], .agg #[.slice ab' m.boxes.length cb', .slice au' m.units.length cu']] w fun e w' => e = .returned (.bool true) ∧ Below w.heap.size w w' := by
  obtain ⟨hl1, hl2⟩ := h1.out.few
  have eqb : ((m.boxes.length : Int) != (m.boxes.length : Int)) = false := by simp
  have equ : ((m.units.length : Int) != (m.units.length : Int)) = false := by simp
  obtain ⟨W0, hW0⟩ : ∃ W0, W0 = (w.alloc (modO m ab au cb cu)).alloc (modO m ab' au' cb' cu') := ⟨_, rfl⟩
  have H0s : W0.heap.size = w.heap.size + 2 := by rw [hW0]; simp
  have HB0 : Hid (Below w.heap.size w W0) := by rw [hW0]; exact ((Below.refl _ w).alloc (Nat.le_refl _) _).alloc (by simp) _
  have HN0 : Hid (W0.heap[w.heap.size]? = some (modO m ab au cb cu)) := by rw [hW0]; exact oldO _ _ _
  have HN1 : Hid (W0.heap[w.heap.size + 1]? = some (modO m ab' au' cb' cu')) := by rw [hW0]; exact newO _ _ _
  have HW0 := hide hW0
  have HZ0 := hide H0s
  clear hW0 H0s
  go_enter Try.func9, Try.ntmps9
  go_wp2
  go_loopw [29] (fun i wr => ∃ k d : Nat, k ≤ m.boxes.length ∧ i = .int .i64 k ∧ wr = W0.drewN d) (fun i _ => m.boxes.length - (intOf i).toNat)
  case atStart => exact ⟨0, 0, Nat.zero_le _, rfl, by rw [HW0.out]; rfl⟩
  case round =>
    obtain ⟨k, d, hk, rfl, rfl⟩ := hrel
    obtain ⟨c0, c1⟩ := Aw.md_cells HN0.out
    obtain ⟨c2, c3⟩ := Aw.md_cells HN1.out
    by_cases hlt : k < m.boxes.length
    · obtain ⟨x, hx⟩ : ∃ x, m.boxes[k]? = some x := ⟨_, List.getElem?_eq_getElem hlt⟩
      obtain ⟨_, _, b1, o1, rfl, _, x1, y1⟩ := (md_on h1.out HB0.out).boxes k x hx
      obtain ⟨_, _, b2, o2, rfl, _, x2, y2⟩ := (md_on h2.out HB0.out).boxes k x hx
      have be := box_eq x.ty x.cap
      have b0 : (0 : Int) ≤ (k : Int) := by omega
      have b1 : (k : Int) < (m.boxes.length : Int) := by omega
      clear hx
      go_wp2
      go_quiet (fail)
      go_wp2
      go_roundw
      case rel => exact ⟨k + 1, _, by omega, by go_num, rfl⟩
      case measure => simp [intOf]; omega
    · go_wp2
      clear c0 c1 c2 c3
      go_loopw [47] (fun i wr => ∃ k : Nat, k ≤ m.units.length ∧ i = .int .i64 k ∧ Below W0.heap.size W0 wr) (fun i _ => m.units.length - (intOf i).toNat)
      case atStart => exact ⟨0, Nat.zero_le _, rfl, drewN_below (Below.refl _ _) _⟩
      case round =>
        obtain ⟨k, hk, rfl, hB⟩ := hrel
        have HB : Hid (Below W0.heap.size W0 wr) := hB
        have HBw : Hid (Below w.heap.size w wr) := HB0.out.trans (hB.mono (by rw [HZ0.out]; omega))
        have hM0 : wr.heap[w.heap.size]? = some (modO m ab au cb cu) := (hB.block _ (by rw [HZ0.out]; omega)).trans HN0.out
        have hM1 : wr.heap[w.heap.size + 1]? = some (modO m ab' au' cb' cu') := (hB.block _ (by rw [HZ0.out]; omega)).trans HN1.out
        have hszr : w.heap.size + 1 < wr.heap.size := lt_of_block hM1
        obtain ⟨c0, c1⟩ := Aw.md_cells hM0
        obtain ⟨c2, c3⟩ := Aw.md_cells hM1
        clear hB hM0 hM1
        by_cases hlt : k < m.units.length
        · obtain ⟨u, hu⟩ : ∃ u, m.units[k]? = some u := ⟨_, List.getElem?_eq_getElem hlt⟩
          obtain ⟨b1, o1, al, cl, ac, cc, rfl, st1, hU1, x0, x1, x2, x3, x4, x5⟩ := (md_on h1.out HBw.out).units k u hu
          obtain ⟨b2, o2, al', cl', ac', cc', rfl, st2, hU2, y0, y1, y2, y3, y4, y5⟩ := (md_on h2.out HBw.out).units k u hu
          have HU1 := hide hU1
          have HU2 := hide hU2
          have n0 : (0 : Int) ≤ (k : Int) := by omega
          have n1 : (k : Int) < (m.units.length : Int) := by omega
          have hb1 : b1 < wr.heap.size := st1
          have hb2 : b2 < wr.heap.size := st2
          have hb1' : b1 < wr.heap.size + 1 := by omega
          have hb2' : b2 < wr.heap.size + 1 := by omega
          have hw0 : w.heap.size < wr.heap.size := by omega
          have hw0' : w.heap.size < wr.heap.size + 1 := by omega
          have hw1' : w.heap.size + 1 < wr.heap.size + 1 := by omega
          clear hu hU1 hU2 st1 st2
          go_wp2
          go_region
          · skip
            obtain ⟨W1, hW1⟩ : ∃ W1, W1 = ((wr.alloc (Aw.unO u al ac cl cc)).alloc (Aw.unO u al' ac' cl' cc')).drew := ⟨_, rfl⟩
            have HB1 : Hid (Below wr.heap.size wr W1) := by rw [hW1]; exact Below.drew (((Below.refl _ wr).alloc (Nat.le_refl _) _).alloc (by simp) _)
            have hX : W1.heap[wr.heap.size]? = some (Aw.unO u al ac cl cc) := by rw [hW1]; exact oldO _ _ _
            have hY : W1.heap[(wr.heap.size + 1)]? = some (Aw.unO u al' ac' cl' cc') := by rw [hW1]; exact newO _ _ _
            rw [← hW1]
            clear hW1
            have HX := hide hX
            have HY := hide hY
            have HV1 := hide (un_onO HU1.out HB1.out)
            have HV2 := hide (un_onO HU2.out HB1.out)
            have HBW : Hid (Below W0.heap.size W0 W1) := HB.out.trans (HB1.out.mono HB.out.size)
            obtain ⟨hll, hlc⟩ := HV1.out.few
            obtain ⟨p0, p1, p2, p3, p4, p5⟩ := Aw.un_cells hX
            obtain ⟨q0, q1, q2, q3, q4, q5⟩ := Aw.un_cells hY
            have k1 : (u.kind != u.kind) = false := by simp
            have k2 : (u.params != u.params) = false := by simp
            have k3 : (u.result != u.result) = false := by simp
            have k4 : (u.takes != u.takes) = false := by simp
            have k5 : ((u.code.length : Int) != (u.code.length : Int)) = false := by simp
            clear hX hY x0 x1 x2 x3 x4 x5 y0 y1 y2 y3 y4 y5 HB HBw c0 c1 c2 c3 HU1 HU2 HB1 hb1 hb2 hb1' hb2' hw0 hw0' hw1' hszr
            generalize wr.heap.size = P at *
            generalize (wr.heap.size + 1) = Q at *
            go_wp2_with fail
            refine (sameInts_any W1.heap.size u.locals al al' cl cl' _ (hide HV1.out.locals) (hide HV2.out.locals) hll).mono ?_
            rintro e w2 ⟨rfl, d2, rfl⟩
            go_wp2
            go_loopw [106] (fun i wr3 => ∃ j d : Nat, j ≤ u.code.length ∧ i = .int .i64 j ∧ wr3 = W1.drewN d) (fun i _ => u.code.length - (intOf i).toNat)
            case atStart => exact ⟨0, d2, Nat.zero_le _, rfl, rfl⟩
            case round =>
              obtain ⟨j, d, hj, rfl, rfl⟩ := hrel
              by_cases hjl : j < u.code.length
              · obtain ⟨x, hx⟩ : ∃ x, u.code[j]? = some x := ⟨_, List.getElem?_eq_getElem hjl⟩
                obtain ⟨_, _, _, g1, r1, hac, _, x0, x1, x2⟩ := HV1.out.code j x hx
                obtain ⟨_, _, _, g2, r2, hac', _, y0, y1, y2⟩ := HV2.out.code j x hx
                subst hac hac'
                have ie := ins_eq x.op x.a x.n
                have m0 : (0 : Int) ≤ (j : Int) := by omega
                have m1 : (j : Int) < (u.code.length : Int) := by omega
                clear hx
                go_wp2
                go_quiet (fail)
                go_wp2
                go_roundw
                case rel => exact ⟨j + 1, _, by omega, by go_num, rfl⟩
                case measure => simp [intOf]; omega
              · go_wp2
                go_roundw
                case rel => exact ⟨k + 1, by omega, by go_num, (HBW.out.trans ⟨rfl, rfl, rfl, Nat.le_refl _, fun _ _ => rfl⟩)⟩
                case measure => simp [intOf]; omega
          · skip
            obtain ⟨W1, hW1⟩ : ∃ W1, W1 = ((wr.alloc (Aw.unO u al' ac' cl' cc')).alloc (Aw.unO u al ac cl cc)).drew := ⟨_, rfl⟩
            have HB1 : Hid (Below wr.heap.size wr W1) := by rw [hW1]; exact Below.drew (((Below.refl _ wr).alloc (Nat.le_refl _) _).alloc (by simp) _)
            have hX : W1.heap[(wr.heap.size + 1)]? = some (Aw.unO u al ac cl cc) := by rw [hW1]; exact newO _ _ _
            have hY : W1.heap[wr.heap.size]? = some (Aw.unO u al' ac' cl' cc') := by rw [hW1]; exact oldO _ _ _
            rw [← hW1]
            clear hW1
            have HX := hide hX
            have HY := hide hY
            have HV1 := hide (un_onO HU1.out HB1.out)
            have HV2 := hide (un_onO HU2.out HB1.out)
            have HBW : Hid (Below W0.heap.size W0 W1) := HB.out.trans (HB1.out.mono HB.out.size)
            obtain ⟨hll, hlc⟩ := HV1.out.few
            obtain ⟨p0, p1, p2, p3, p4, p5⟩ := Aw.un_cells hX
            obtain ⟨q0, q1, q2, q3, q4, q5⟩ := Aw.un_cells hY
            have k1 : (u.kind != u.kind) = false := by simp
            have k2 : (u.params != u.params) = false := by simp
            have k3 : (u.result != u.result) = false := by simp
            have k4 : (u.takes != u.takes) = false := by simp
            have k5 : ((u.code.length : Int) != (u.code.length : Int)) = false := by simp
            clear hX hY x0 x1 x2 x3 x4 x5 y0 y1 y2 y3 y4 y5 HB HBw c0 c1 c2 c3 HU1 HU2 HB1 hb1 hb2 hb1' hb2' hw0 hw0' hw1' hszr
            generalize (wr.heap.size + 1) = P at *
            generalize wr.heap.size = Q at *
            go_wp2_with fail
            refine (sameInts_any W1.heap.size u.locals al al' cl cl' _ (hide HV1.out.locals) (hide HV2.out.locals) hll).mono ?_
            rintro e w2 ⟨rfl, d2, rfl⟩
            go_wp2
            go_loopw [106] (fun i wr3 => ∃ j d : Nat, j ≤ u.code.length ∧ i = .int .i64 j ∧ wr3 = W1.drewN d) (fun i _ => u.code.length - (intOf i).toNat)
            case atStart => exact ⟨0, d2, Nat.zero_le _, rfl, rfl⟩
            case round =>
              obtain ⟨j, d, hj, rfl, rfl⟩ := hrel
              by_cases hjl : j < u.code.length
              · obtain ⟨x, hx⟩ : ∃ x, u.code[j]? = some x := ⟨_, List.getElem?_eq_getElem hjl⟩
                obtain ⟨_, _, _, g1, r1, hac, _, x0, x1, x2⟩ := HV1.out.code j x hx
                obtain ⟨_, _, _, g2, r2, hac', _, y0, y1, y2⟩ := HV2.out.code j x hx
                subst hac hac'
                have ie := ins_eq x.op x.a x.n
                have m0 : (0 : Int) ≤ (j : Int) := by omega
                have m1 : (j : Int) < (u.code.length : Int) := by omega
                clear hx
                go_wp2
                go_quiet (fail)
                go_wp2
                go_roundw
                case rel => exact ⟨j + 1, _, by omega, by go_num, rfl⟩
                case measure => simp [intOf]; omega
              · go_wp2
                go_roundw
                case rel => exact ⟨k + 1, by omega, by go_num, (HBW.out.trans ⟨rfl, rfl, rfl, Nat.le_refl _, fun _ _ => rfl⟩)⟩
                case measure => simp [intOf]; omega
        · go_wp2
          go_ret
          exact ⟨rfl, HBw.out⟩

end Go.Proofs.Ytlbihbfgglnfnaa.Ow

