/- The walk of gather. -/
import Derived.Test.YtalofknphhjhnaaM17
import Derived.Test.YtalofknphhjhnaaM22
import Derived.Maps.RangeWalk
namespace Go.Proofs.Ytalofknphhjhnaa
open Go.RowKit

theorem grownM_tr {a b c : World} {M : Nat} (h : a.grownBy b (some M)) (k : b.grownBy c (some M)) : a.grownBy c (some M) := grown_tr h k
theorem grownM_of0 {a b : World} {M : Nat} (h : a.grownBy b none) : a.grownBy b (some M) := ⟨h.os, h.tape, h.output, h.size, fun k hk _ => h.block k hk (by simp)⟩
theorem lowM {B M : Nat} {w w' : World} (h : w.grownBy w' (some M)) (hM : B ≤ M) (hB : B ≤ w.heap.size) : Low B w w' := fun k hk => h.block k (by omega) (by simp; omega)
theorem LkIn.keep {w w' : World} {M : Nat} {l : LL} (h : LkIn w M l) (hk : w'.heap[M]? = w.heap[M]?) : LkIn w' M l := hk.trans h
theorem LkIn.alloc {w : World} {M : Nat} {l : LL} (h : LkIn w M l) (o : Obj) : LkIn (w.alloc o) M l := h.keep (Below.heap_alloc _ _ _ (lt_of_block h))
theorem LkIn.lt {w : World} {M : Nat} {l : LL} (h : LkIn w M l) : M < w.heap.size := lt_of_block h
abbrev lkB (k : Lk) : Obj := .cells #[.int .i64 k.1, .int .i64 k.2] 78 (0, 0)

theorem gatC_next {rec' : Int → LL → LL} {cs : List Vf.Ins} {l : LL} {j : Nat} {x : Vf.Ins} (h : cs[j]? = some x) : Vf.gatC rec' (cs.take (j + 1)) l = Vf.gstep rec' x (Vf.gatC rec' (cs.take j) l) := by
  obtain ⟨hj, rfl⟩ := List.getElem?_eq_some_iff.1 h
  unfold Vf.gatC
  rw [List.take_succ_eq_append_getElem hj, List.foldl_append]
  rfl

/-- What gather does, with so much still to be found. -/
def GC (m : Vf.Md) (ab au : Option Addr) (cb cu f : Nat) : Prop :=
  ∀ (B M k : Nat) (l : LL) (w : World), Hid (ModIn B w m ab au) → B ≤ w.heap.size → B ≤ M → Hid (LkIn w M l) → Hid (Vf.Wl l) → k < m.units.length → Hid (Vf.mus l < f ∧ Vf.tot l + 4000 * Vf.mus l + 4000 ≤ 300000) →
    Calls Try.prog 31 #[mdV m ab au cb cu, .int .i64 (k : Int), .map (some M)] w fun e w' => e = .returned (.tuple #[]) ∧ LkIn w' M (Vf.gat m f (k : Int) l) ∧ w.grownBy w' (some M)

/-- At the head of gather's loop. -/
structure GaAt (m : Vf.Md) (f : Nat) (cs : List Vf.Ins) (l : LL) (W0 : World) (M j : Nat) (W : World) : Prop where
  le : j ≤ cs.length
  lk : LkIn W M (Vf.gatC (Vf.gat m f) (cs.take j) l)
  grown : W0.grownBy W (some M)

theorem lk_cell {w : World} {N : Nat} {k : Lk} (h : w.heap[N]? = some (lkB k)) : w.cell? ⟨N, 0, none⟩ = some (.int .i64 k.1) ∧ w.cell? ⟨N, 1, none⟩ = some (.int .i64 k.2) := by simp [World.cell?, h]



set_option maxRecDepth 100000 in
set_option maxHeartbeats 4000000 in
theorem gather_succ (m : Vf.Md) (ab au : Option Addr) (cb cu f : Nat) (hR : Hid (Rt m)) (hf : Hid (GC m ab au cb cu f)) : GC m ab au cb cu (f + 1) := by
  intro B M k l w hmd hB hBM hlk hwl hk hbd
  obtain ⟨u, hu⟩ : ∃ u, m.units[k]? = some u := ⟨_, List.getElem?_eq_getElem hk⟩
  obtain ⟨b, off, al, cl, ac, cc, ha, hb, hui, u0, u1, u2, u3, u4, u5⟩ := hmd.out.units k u hu
  have hun := unit_of hu
  have hco := sized_true (headE_zero (hR.out.heads k u hu).1).2.1
  have hc4 : u.code.length ≤ 4000 := hco.2.2.2.2.2
  have HFO : Hid (Vf.Forms m u) := (hR.out.heads k u hu).2
  have hmu : m.units.length ≤ 30 := hR.out.units
  have HGE : Hid (Vf.gat m (f + 1) (k : Int) l = Vf.gatC (Vf.gat m f) u.code l) := by show Vf.gatC (Vf.gat m f) (Vf.unit m (k : Int)).code l = _; rw [hun]
  have hMlt := hlk.out.lt
  have HT0 : Hid (w.grownBy (w.alloc (mdO m ab au cb cu)) (some M)) := grownM_of0 (grown0_new (World.grownBy.refl _ _) _)
  have HL0 : Hid (LkIn (w.alloc (mdO m ab au cb cu)) M l) := hlk.out.alloc _
  have HUI := hide hui
  have hk1 : (k : Int) < (m.units.length : Int) := by omega
  clear hu hui hun hco
  subst ha
  have hbl : b < w.heap.size := by omega
  rw [HGE.out]
  go_enter Try.func31, Try.ntmps31
  go_wp2
  go_loopw [17] (fun v wr => ∃ j : Nat, v = .int .i64 j ∧ GaAt m f u.code l (w.alloc (mdO m ab (some ⟨b, off, none⟩) cb cu)) M j wr) (fun v _ => u.code.length - (intOf v).toNat)
  case atStart => exact ⟨0, rfl, Nat.zero_le _, HL0.out, World.grownBy.refl _ _⟩
  case round =>
    obtain ⟨j, rfl, hA⟩ := hrel
    have HA := hide hA
    have hj := hA.le
    have HG : Hid (w.grownBy wr (some M)) := grownM_tr HT0.out HA.out.grown
    have hz := HG.out.size
    clear hA
    by_cases hlt : j < u.code.length
    · obtain ⟨x, hx⟩ : ∃ x, u.code[j]? = some x := ⟨_, List.getElem?_eq_getElem hlt⟩
      have HMr : Hid (ModIn B wr m ab (some ⟨b, off, none⟩)) := hmd.out.low (lowM HG.out hBM hB)
      obtain ⟨_, _, _, bc, oc, hac, hbc, i0, i1, i2⟩ := (HUI.out.low (lowM HG.out hBM hB)).code j x hx
      have HX := hide hx
      obtain ⟨L, hL⟩ : ∃ L, L = Vf.gatC (Vf.gat m f) (u.code.take j) l := ⟨_, rfl⟩
      have HL : Hid (LkIn wr M L) := by rw [hL]; exact HA.out.lk
      have HGD : Hid (Vf.Gd j l L) := by
        have := Vf.gatC_gd (u := u) hmu (Vf.gat_gd hR.out f) (u.code.take j) l (fun c hc => HFO.out c (List.mem_of_mem_take hc)) hwl.out
        rw [List.length_take, Nat.min_eq_left hj, ← hL] at this
        exact this
      have HNX : Hid (Vf.gatC (Vf.gat m f) (u.code.take (j + 1)) l = Vf.gstep (Vf.gat m f) x L) := by rw [hL]; exact gatC_next hx
      have HFX : Hid (Vf.formE m u x = 0) := HFO.out x (List.mem_of_getElem? hx)
      have HLT : Hid (M < wr.heap.size) := HL.out.lt
      have hmb : wr.heap[w.heap.size]? = some (mdO m ab (some ⟨b, off, none⟩) cb cu) := (HA.out.grown.block _ (by simp) (by simp; omega)).trans (heap_alloc_new _ _)
      have HMB := hide hmb
      have hwz : w.heap.size < wr.heap.size := lt_of_block hmb
      have HCT : Hid (∀ q, 0 ≤ Vf.cnt q L ∧ Vf.cnt q L ≤ 300000) := fun q => ⟨Vf.cnt_nn HGD.out.wl q, by have h1 := Vf.cnt_le_tot HGD.out.wl q; have h2 := HGD.out.tot; have h3 := hbd.out.2; omega⟩
      obtain ⟨n0, hn0⟩ : ∃ n0, n0 = Vf.cnt (x.op, x.a) L := ⟨_, rfl⟩
      have hn1 : 0 ≤ n0 := by rw [hn0]; exact (HCT.out _).1
      have hn2 : n0 ≤ 300000 := by rw [hn0]; exact (HCT.out _).2
      have HN0 := hide hn0
      clear hx hL hmb
      have HAC := hide hac
      rw [HAC.out]
      by_cases h26 : x.op = 26 ∨ x.op = 27
      · have HN2 : Hid (Vf.gatC (Vf.gat m f) (u.code.take (j + 1)) l = Vf.bump (x.op, x.a) L) := by rw [HNX.out]; unfold Vf.gstep; rw [if_pos h26]; rfl
        obtain ⟨W2, hW2⟩ : ∃ W2 : World, (wr.alloc (insO x.op x.a x.n)).alloc (lkB (x.op, x.a)) = W2 := ⟨_, rfl⟩
        have hT2 : wr.grownBy W2 none := by rw [← hW2]; exact two_new _ _ _
        have hL2 : LkIn W2 M L := by rw [← hW2]; exact (HL.out.alloc _).alloc _
        have hi2 : W2.heap[wr.heap.size]? = some (insO x.op x.a x.n) := by rw [← hW2]; exact (Below.heap_alloc _ _ _ (by simp)).trans (heap_alloc_new _ _)
        have hk2 : W2.heap[wr.heap.size + 1]? = some (lkB (x.op, x.a)) := by rw [← hW2]; exact new1 _ _ _
        obtain ⟨w3, w4, b1, b2, b3, b4, b5, b6⟩ := run_bump (w := W2.drew) (M := M) (l := L) hL2 (x.op, x.a)
        have b0 := run_lookL (w := W2.drew) (M := M) (l := L) hL2 (x.op, x.a)
        have hg4 : wr.grownBy w4 (some M) := grownM_tr (grownM_of0 hT2) (grown_drew b6)
        have hwm := HLT.out
        have hi4 : w4.heap[wr.heap.size]? = some (insO x.op x.a x.n) := ((grown_drew b6).block _ (lt_of_block hi2) (by simp; omega)).trans hi2
        have hk4 : w4.heap[wr.heap.size + 1]? = some (lkB (x.op, x.a)) := ((grown_drew b6).block _ (lt_of_block hk2) (by simp; omega)).trans hk2
        have hi3 : w3.heap[wr.heap.size]? = some (insO x.op x.a x.n) := ((grown_drew b5).block _ (lt_of_block hi2) (by simp; omega)).trans hi2
        obtain ⟨q0, q1⟩ := lk_cell hk2
        have HB4 := hide b4
        have HG4 := hide hg4
        have HI4 := hide hi4
        have HK4 := hide hk4
        have HW2 := hide hW2
        clear hW2 hT2 hL2 hi2 hk2 b4 b5 b6 hg4 hi4 hk4 hi3
        rw [← hn0] at b1 b0 b2 b3
        clear hn0 hac
        have ew : IntKind.i64.wrap (n0 + 1) = n0 + 1 := by simp [IntKind.wrap, IntKind.bits, IntKind.signed]; omega
        rcases h26 with h | h
        · have e26 : (x.op == 26) = true := by simpa using h
          clear h
          go_wp2_with fail
          rw [HW2.out]
          go_region
          all_goals
            go_wp2
            go_roundw
            case rel => exact ⟨j + 1, by go_num, hlt, by rw [HN2.out]; exact HB4.out, grownM_tr HA.out.grown HG4.out⟩
            case measure => simp [intOf]; omega
        · have e26 : (x.op == 26) = false := by simp; omega
          have e27 : (x.op == 27) = true := by simpa using h
          clear h
          go_wp2_with fail
          rw [HW2.out]
          go_region
          all_goals
            go_wp2
            go_roundw
            case rel => exact ⟨j + 1, by go_num, hlt, by rw [HN2.out]; exact HB4.out, grownM_tr HA.out.grown HG4.out⟩
            case measure => simp [intOf]; omega
      · by_cases h23 : x.op = 23 ∨ x.op = 29
        · have e26 : (x.op == 26) = false := by simp; omega
          have e27 : (x.op == 27) = false := by simp; omega
          have ew : IntKind.i64.wrap (n0 + 1) = n0 + 1 := by simp [IntKind.wrap, IntKind.bits, IntKind.signed]; omega
          have hnx := HNX.out
          unfold Vf.gstep at hnx
          rw [if_neg h26, if_pos h23, ← hn0] at hnx
          have HN2 : Hid (Vf.gatC (Vf.gat m f) (u.code.take (j + 1)) l = if n0 = 0 then Vf.gat m f x.a (Vf.bump (x.op, x.a) L) else Vf.bump (x.op, x.a) L) := hnx
          have hka : ∃ ka : Nat, x.a = ka ∧ ka < m.units.length := by
            obtain ⟨_, _, hrg⟩ := formE_zero HFX.out
            have : ∃ kd, Vf.is m kd x.a = true := by
              rcases h23 with h | h
              · refine ⟨2, ?_⟩
                rw [← hrg]
                unfold Vf.ranged
                rw [if_neg (by omega), if_neg (by omega), if_neg (by omega), if_pos h]
              · refine ⟨3, ?_⟩
                rw [← hrg]
                unfold Vf.ranged
                rw [if_neg (by omega), if_neg (by omega), if_neg (by omega), if_neg (by omega), if_pos h]
            obtain ⟨kd, this⟩ := this
            obtain ⟨y, h3, _, h4⟩ := is_some this
            exact ⟨x.a.toNat, by omega, (List.getElem?_eq_some_iff.1 h3).1⟩
          obtain ⟨ka, hxa, hka⟩ := hka
          have HUV : Hid ((x.op, x.a) ∈ Vf.univ) := by rw [hxa]; exact Vf.univ_mem h23 (by omega)
          obtain ⟨W2, hW2⟩ : ∃ W2 : World, (wr.alloc (insO x.op x.a x.n)).alloc (lkB (x.op, x.a)) = W2 := ⟨_, rfl⟩
          have hT2 : wr.grownBy W2 none := by rw [← hW2]; exact two_new _ _ _
          have hL2 : LkIn W2 M L := by rw [← hW2]; exact (HL.out.alloc _).alloc _
          have hi2 : W2.heap[wr.heap.size]? = some (insO x.op x.a x.n) := by rw [← hW2]; exact (Below.heap_alloc _ _ _ (by simp)).trans (heap_alloc_new _ _)
          have hk2 : W2.heap[wr.heap.size + 1]? = some (lkB (x.op, x.a)) := by rw [← hW2]; exact new1 _ _ _
          obtain ⟨w3, w4, b1, b2, b3, b4, b5, b6⟩ := run_bump (w := W2.drew) (M := M) (l := L) hL2 (x.op, x.a)
          have b0 := run_lookL (w := W2.drew) (M := M) (l := L) hL2 (x.op, x.a)
          have hg4 : wr.grownBy w4 (some M) := grownM_tr (grownM_of0 hT2) (grown_drew b6)
          have hwm := HLT.out
          have hi4 : w4.heap[wr.heap.size]? = some (insO x.op x.a x.n) := ((grown_drew b6).block _ (lt_of_block hi2) (by simp; omega)).trans hi2
          have hk4 : w4.heap[wr.heap.size + 1]? = some (lkB (x.op, x.a)) := ((grown_drew b6).block _ (lt_of_block hk2) (by simp; omega)).trans hk2
          have hi3 : w3.heap[wr.heap.size]? = some (insO x.op x.a x.n) := ((grown_drew b5).block _ (lt_of_block hi2) (by simp; omega)).trans hi2
          obtain ⟨q0, q1⟩ := lk_cell hk2
          have HB4 := hide b4
          have HG4 := hide hg4
          have HI4 := hide hi4
          have HK4 := hide hk4
          have HW2 := hide hW2
          clear hW2 hT2 hL2 hi2 hk2 b4 b5 b6 hg4 hi4 hk4 hi3
          rw [← hn0] at b1 b0 b2 b3
          have hbn : Vf.cnt (x.op, x.a) (Vf.bump (x.op, x.a) L) = n0 + 1 := by rw [Vf.cnt_bump, if_pos rfl, hn0]
          have bl4 := run_lookL (w := w4) (M := M) (l := Vf.bump (x.op, x.a) L) HB4.out (x.op, x.a)
          rw [hbn] at bl4
          have HXA := hide hxa
          have hac2 := hac
          clear hn0 hac hnx hxa h26 hbn
          rcases h23 with h | h
          · have e23 : (x.op == 23) = true := by simpa using h
            clear h
            go_upto_region 11 with fail
            rw [HW2.out]
            go_cut [] (fun wx => wx = w4)
            case first =>
              go_region
              all_goals
                go_wp2_with fail
                go_meet
                rfl
            case rest =>
              subst hcut
              obtain ⟨r0, r1⟩ := lk_cell HK4.out
              obtain ⟨s0, s1, s2⟩ := ins_cells HI4.out
              have hg4z := HG4.out.size
              have hmb4 : wc.heap[w.heap.size]? = some (mdO m ab (some ⟨b, off, none⟩) cb cu) := (HG4.out.block _ hwz (by simp; omega)).trans HMB.out
              obtain ⟨t0, t1⟩ := md_cells hmb4
              clear hmb4 b0 b1 b2 b3 q0 q1 i0 i1 i2
              by_cases hz0 : n0 = 0
              · have HN3 : Hid (Vf.gatC (Vf.gat m f) (u.code.take (j + 1)) l = Vf.gat m f (ka : Int) (Vf.bump (x.op, x.a) L)) := by rw [HN2.out, if_pos hz0, ← HXA.out]; rfl
                have HNW : Hid (Vf.mus (Vf.bump (x.op, x.a) L) < f ∧ Vf.tot (Vf.bump (x.op, x.a) L) + 4000 * Vf.mus (Vf.bump (x.op, x.a) L) + 4000 ≤ 300000) := by
                  have h1 := Vf.mus_new HGD.out.wl HUV.out (by rw [← HN0.out]; exact hz0)
                  have h2 := HGD.out.mus
                  have h3 := HGD.out.tot
                  have h4 := hbd.out
                  have h5 := Vf.tot_bump (x.op, x.a) L
                  exact ⟨by omega, by omega⟩
                have e1 : (n0 + 1 == 1) = true := by simp; omega
                rw [HXA.out] at s1
                clear hz0
                go_wp2_with fail
                refine (hf.out B M ka (Vf.bump (x.op, x.a) L) _ (hide (HMr.out.low (lowM HG4.out hBM (by omega)))) (by omega) hBM HB4 (hide (HGD.out.wl.bump _)) hka HNW).mono ?_
                rintro e w9 ⟨rfl, hl9, hg9⟩
                have HL9 := hide hl9
                have HG9 := hide hg9
                clear hl9 hg9 r0 r1 s0 s1 s2 t0 t1 bl4
                go_wp2
                go_roundw
                case rel => exact ⟨j + 1, by go_num, hlt, by rw [HN3.out]; exact HL9.out, grownM_tr (grownM_tr HA.out.grown HG4.out) HG9.out⟩
                case measure => simp [intOf]; omega
              · have HN3 : Hid (Vf.gatC (Vf.gat m f) (u.code.take (j + 1)) l = Vf.bump (x.op, x.a) L) := by rw [HN2.out, if_neg hz0]; rfl
                have e1 : (n0 + 1 == 1) = false := by simp; omega
                clear hz0
                go_wp2
                go_roundw
                case rel => exact ⟨j + 1, by go_num, hlt, by rw [HN3.out]; exact HB4.out, grownM_tr HA.out.grown HG4.out⟩
                case measure => simp [intOf]; omega
          · have e23 : (x.op == 23) = false := by simp; omega
            have e29 : (x.op == 29) = true := by simpa using h
            clear h
            go_upto_region 11 with fail
            rw [HW2.out]
            go_cut [] (fun wx => wx = w4)
            case first =>
              go_region
              all_goals
                go_wp2_with fail
                go_meet
                rfl
            case rest =>
              subst hcut
              obtain ⟨r0, r1⟩ := lk_cell HK4.out
              obtain ⟨s0, s1, s2⟩ := ins_cells HI4.out
              have hg4z := HG4.out.size
              have hmb4 : wc.heap[w.heap.size]? = some (mdO m ab (some ⟨b, off, none⟩) cb cu) := (HG4.out.block _ hwz (by simp; omega)).trans HMB.out
              obtain ⟨t0, t1⟩ := md_cells hmb4
              clear hmb4 b0 b1 b2 b3 q0 q1 i0 i1 i2
              by_cases hz0 : n0 = 0
              · have HN3 : Hid (Vf.gatC (Vf.gat m f) (u.code.take (j + 1)) l = Vf.gat m f (ka : Int) (Vf.bump (x.op, x.a) L)) := by rw [HN2.out, if_pos hz0, ← HXA.out]; rfl
                have HNW : Hid (Vf.mus (Vf.bump (x.op, x.a) L) < f ∧ Vf.tot (Vf.bump (x.op, x.a) L) + 4000 * Vf.mus (Vf.bump (x.op, x.a) L) + 4000 ≤ 300000) := by
                  have h1 := Vf.mus_new HGD.out.wl HUV.out (by rw [← HN0.out]; exact hz0)
                  have h2 := HGD.out.mus
                  have h3 := HGD.out.tot
                  have h4 := hbd.out
                  have h5 := Vf.tot_bump (x.op, x.a) L
                  exact ⟨by omega, by omega⟩
                have e1 : (n0 + 1 == 1) = true := by simp; omega
                rw [HXA.out] at s1
                clear hz0
                go_wp2_with fail
                refine (hf.out B M ka (Vf.bump (x.op, x.a) L) _ (hide (HMr.out.low (lowM HG4.out hBM (by omega)))) (by omega) hBM HB4 (hide (HGD.out.wl.bump _)) hka HNW).mono ?_
                rintro e w9 ⟨rfl, hl9, hg9⟩
                have HL9 := hide hl9
                have HG9 := hide hg9
                clear hl9 hg9 r0 r1 s0 s1 s2 t0 t1 bl4
                go_wp2
                go_roundw
                case rel => exact ⟨j + 1, by go_num, hlt, by rw [HN3.out]; exact HL9.out, grownM_tr (grownM_tr HA.out.grown HG4.out) HG9.out⟩
                case measure => simp [intOf]; omega
              · have HN3 : Hid (Vf.gatC (Vf.gat m f) (u.code.take (j + 1)) l = Vf.bump (x.op, x.a) L) := by rw [HN2.out, if_neg hz0]; rfl
                have e1 : (n0 + 1 == 1) = false := by simp; omega
                clear hz0
                go_wp2
                go_roundw
                case rel => exact ⟨j + 1, by go_num, hlt, by rw [HN3.out]; exact HB4.out, grownM_tr HA.out.grown HG4.out⟩
                case measure => simp [intOf]; omega
        · have HN2 : Hid (Vf.gatC (Vf.gat m f) (u.code.take (j + 1)) l = L) := by rw [HNX.out]; unfold Vf.gstep; rw [if_neg h26, if_neg h23]; rfl
          have e26 : (x.op == 26) = false := by simp; omega
          have e27 : (x.op == 27) = false := by simp; omega
          have e23 : (x.op == 23) = false := by simp; omega
          have e29 : (x.op == 29) = false := by simp; omega
          clear h26 h23 hn0 hac
          go_wp2
          go_roundw
          case rel => exact ⟨j + 1, by go_num, hlt, by rw [HN2.out]; exact (HL.out.alloc _).alloc _, grownM_tr HA.out.grown (grownM_of0 (two_new _ _ _))⟩
          case measure => simp [intOf]; omega
    · have HE : Hid (LkIn wr M (Vf.gatC (Vf.gat m f) u.code l)) := by have := HA.out.lk; rw [List.take_of_length_le (by omega)] at this; exact this
      go_wp2
      go_end0
      exact ⟨rfl, HE.out, HG.out⟩

theorem gather_zero (m : Vf.Md) (ab au : Option Addr) (cb cu : Nat) : GC m ab au cb cu 0 := fun _ _ _ _ _ _ _ _ _ _ _ h => absurd h.out.1 (Nat.not_lt_zero _)
/-- WHAT gather DOES. -/
theorem gather_any (m : Vf.Md) (ab au : Option Addr) (cb cu : Nat) (hR : Rt m) : ∀ f, GC m ab au cb cu f
  | 0 => gather_zero m ab au cb cu
  | f + 1 => gather_succ m ab au cb cu f hR (gather_any m ab au cb cu hR f)

end Go.Proofs.Ytalofknphhjhnaa

/- The walk of owners. -/
namespace Go.Proofs.Ytalofknphhjhnaa
open Go.RowKit

theorem ents_born {l : LL} {e : MapEntry} (h : e ∈ ents l 0) : ∃ i p, l[i]? = some p ∧ e = { key := lkV p.1, val := .int .i64 p.2, born := i } := by
  obtain ⟨i, hi⟩ := List.getElem?_of_mem h
  rw [ents_get] at hi
  obtain ⟨p, hp, rfl⟩ := Option.map_eq_some_iff.1 hi
  exact ⟨i, p, hp, by simp⟩
theorem born_nodup (l : LL) : ((ents l 0).map (·.born)).Nodup := by
  have : ∀ (l : LL) (i : Nat), (ents l i).map (·.born) = List.range' i l.length := by
    intro l
    induction l with
    | nil => intro i; rfl
    | cons p r ih => intro i; simp only [ents, List.map_cons, ih, List.length_cons, List.range'_succ]
  rw [this]
  exact List.nodup_range'

abbrev itO (M : Nat) (G : LL) (seen : Array Nat) : Obj := .mapIter (some M) G.length seen G.length
/-- One step of a range over links. -/
theorem rg_next {w : World} {I M : Nat} {G : LL} {seen : Array Nat} (hI : w.heap[I]? = some (itO M G seen)) (hM : LkIn w M G) (ty : TypeId) :
    ((∀ i, i < G.length → i ∈ seen.toList) ∧ (Instr.next (.pointer (some ⟨I, 0, none⟩)) false ty).run Try.prog w = .ok (.tuple #[.bool false]) w) ∨
    ∃ i p w1, G[i]? = some p ∧ i ∉ seen.toList ∧ (Instr.next (.pointer (some ⟨I, 0, none⟩)) false ty).run Try.prog w = .ok (.tuple #[.bool true, lkV p.1, .int .i64 p.2]) w1 ∧ w1.heap[I]? = some (itO M G (seen.push i)) ∧ w.grownBy w1 (some I) ∧ w1.heap.size = w.heap.size ∧ (Instr.entry (.pointer (some ⟨I, 0, none⟩))).run Try.prog w1 = .ok (.tuple #[lkV p.1, .int .i64 p.2]) w1 := by
  have hMI : M ≠ I := fun e => by
    subst e
    have := hM
    unfold LkIn at this
    rw [hI] at this
    cases this
  rcases run_next_at (P := Try.prog) w ty I M G.length G.length seen (ents G 0).toArray G.length hI hM (fun x hx => by
    obtain ⟨i, p, hp, rfl⟩ := ents_born (by simpa using hx)
    exact (List.getElem?_eq_some_iff.1 hp).1) (Nat.le_refl _) with ⟨h0, hr⟩ | ⟨e, he, w1, hw1, hr⟩
  · refine .inl ⟨fun i hi => ?_, hr⟩
    by_cases hs : i ∈ seen.toList
    · exact hs
    · exfalso
      have hx : (ents G 0)[i]? = some { key := lkV G[i].1, val := .int .i64 G[i].2, born := 0 + i } := by
        rw [ents_get, List.getElem?_eq_getElem hi]
        rfl
      have hmem : ({ key := lkV G[i].1, val := .int .i64 G[i].2, born := 0 + i } : MapEntry) ∈ leftOf (ents G 0).toArray seen := by
        unfold leftOf
        rw [Array.mem_filter]
        refine ⟨by simpa using List.mem_of_getElem? hx, ?_⟩
        simp only [Nat.zero_add]
        simpa using hs
      have := Array.size_pos_of_mem hmem
      omega
  · have he' : e ∈ leftOf (ents G 0).toArray seen := by simpa using he
    unfold leftOf at he'
    rw [Array.mem_filter] at he'
    obtain ⟨h1, h2⟩ := he'
    have h1' : e ∈ ents G 0 := by simpa using h1
    obtain ⟨i, p, hp, rfl⟩ := ents_born h1'
    have hI1 : w1.heap[I]? = some (itO M G seen) := by rcases hw1 with rfl | rfl <;> exact hI
    have hM1 : LkIn w1 M G := by rcases hw1 with rfl | rfl <;> exact hM
    have hsz : w1.heap.size = w.heap.size := by rcases hw1 with rfl | rfl <;> rfl
    have hg1 : w.grownBy w1 (some I) := by
      rcases hw1 with rfl | rfl
      · exact grown_refl _ _
      · exact grown_drew2 (grown_refl _ _)
    obtain ⟨m1, m2⟩ := MapKept.heap_set (o' := itO M G (seen.push i)) hI1
    refine .inr ⟨i, p, _, hp, by simpa using h2, hr, m1, ?_, ?_, ?_⟩
    · exact grown_tr hg1 ⟨rfl, rfl, rfl, by simp [Go.ChangeMaps.setBlock], fun k _ hne => m2 k (fun e => hne (by rw [e]))⟩
    · simp [Go.ChangeMaps.setBlock, hsz]
    · refine run_entry_at (P := Try.prog) _ I M G.length seen (ents G 0).toArray G.length { key := lkV p.1, val := .int .i64 p.2, born := i } m1 ?_ (by simpa using h1') (by simpa using born_nodup G)
      exact (m2 M hMI).trans hM1

/-- How many are still to be told. -/
def leftN (G : LL) (seen : List Nat) : Nat := (List.range G.length).countP (fun i => decide (i ∉ seen))
theorem leftN_less {G : LL} {seen : List Nat} {i : Nat} (hi : i < G.length) (hs : i ∉ seen) : leftN G (seen ++ [i]) + 1 ≤ leftN G seen := by
  refine Vf.count_lt (fun x hx => ?_) (List.mem_range.2 hi) (by simpa using hs) (by simp)
  simp at hx ⊢
  exact hx.1

/-- At the head of the inner loop. -/
def RgAt (G : LL) (f : Lk → Int) (W0 : World) (T M I gk : Nat) (W : World) : Prop :=
  ∃ seen : Array Nat, W.heap[I]? = some (itO M G seen) ∧ LkIn W M G ∧ TkIn W T (fun q => f q + told G seen.toList q) ∧ (∀ i ∈ seen.toList, i < G.length) ∧ leftN G seen.toList ≤ gk ∧ W0.grownBy W (some T)

/-- At the head of the outer loop. -/
structure OwAt (m : Vf.Md) (W0 : World) (T k : Nat) (W : World) : Prop where
  le : k ≤ m.units.length
  tk : TkIn W T (fun q => (Vf.tc m q k : Int))
  grown : W0.grownBy W (some T)

theorem TkIn.bump {w : World} {T : Nat} {f : Lk → Int} (h : TkIn w T f) (k : Lk) : ∃ w1 w2 n, (Instr.lookup 75 (.map (some T)) (lkV k) false).run Try.prog w = .ok (.int .i64 (f k)) w ∧ (Instr.mapEntry 75 (.map (some T)) (lkV k)).run Try.prog w = .ok (.tuple #[.int .i64 (f k), goInt n]) w1 ∧ (Instr.lookup 75 (.map (some T)) (lkV k) false).run Try.prog w1 = .ok (.int .i64 (f k)) w1 ∧
    (Instr.entryStore 75 (.map (some T)) (.int .i64 n) (.int .i64 (f k + 1))).run Try.prog w1 = .ok () w2 ∧ TkIn w2 T (fun q => f q + if q = k then 1 else 0) ∧ w.grownBy w1 (some T) ∧ w.grownBy w2 (some T) := by
  obtain ⟨l, h1, h2, h3⟩ := h
  obtain ⟨w1, w2, b1, b2, b3, b4, b5, b6⟩ := run_bump h1 k
  have b0 := run_lookL h1 k
  rw [h3] at b0 b1 b2 b3
  refine ⟨w1, w2, _, b0, b1, b2, b3, ⟨_, b4, h2.bump k, fun q => ?_⟩, b5, b6⟩
  show Vf.cnt q (Vf.bump k l) = f q + if q = k then 1 else 0
  rw [Vf.cnt_bump]
  by_cases e : q = k
  · subst e
    rw [if_pos rfl, if_pos rfl, h3]
  · rw [if_neg e, if_neg e, h3]
    omega
theorem run_rangeL {w : World} {M : Nat} {G : LL} (h : LkIn w M G) : (Instr.range 75 (.map (some M))).run Try.prog w = .ok (.pointer (some ⟨w.heap.size, 0, none⟩)) (w.alloc (itO M G #[])) := by
  have hg : (getObj M).run Try.prog w = .ok (.map (ents G 0).toArray G.length) w := MapKept.run_getObj_map h
  have hu := run_underlying (P := Try.prog) (w := w) Try.underlying75
  simp [Instr.range, hu, hg]
theorem TkIn.look {w : World} {T : Nat} {f : Lk → Int} (h : TkIn w T f) (k : Lk) : (Instr.lookup 75 (.map (some T)) (lkV k) false).run Try.prog w = .ok (.int .i64 (f k)) w := by
  obtain ⟨l, h1, h2, h3⟩ := h
  have b0 := run_lookL h1 k
  rw [h3] at b0
  exact b0
theorem tk_of {w : World} {T : Nat} {f g : Lk → Int} (h : TkIn w T f) (e : ∀ q, f q = g q) : TkIn w T g := by
  obtain ⟨l, h1, h2, h3⟩ := h
  exact ⟨l, h1, h2, fun q => (h3 q).trans (e q)⟩
theorem grownT {a b c : World} {T N : Nat} (h : a.grownBy b (some T)) (k : b.grownBy c (some N)) (hN : a.heap.size ≤ N ∨ N = T) : a.grownBy c (some T) := h.andThen k (fun j e => by cases e; rcases hN with h | h; exact .inl h; exact .inr (by rw [h]))
theorem grownT0 {a b c : World} {T : Nat} (h : a.grownBy b (some T)) (k : b.grownBy c none) : a.grownBy c (some T) := h.andThen k (fun j e => by cases e)

set_option maxRecDepth 100000 in
set_option maxHeartbeats 6000000 in
theorem owners_any (m : Vf.Md) (ab au : Option Addr) (cb cu B : Nat) (w : World) (hmd : Hid (ModIn B w m ab au)) (hB : B ≤ w.heap.size) (hR : Hid (Rt m)) (hnb : m.boxes.length ≤ 30) (er num : Int) (hr : Hid ((er, num) = ((Vf.ownersW m).1, ((Vf.ownersW m).2 : Int)))) :
    Calls Try.prog 20 #[mdV m ab au cb cu] w fun e w' => e = .returned (whV er 0 num) ∧ w.grownBy w' none := by
  have hmm : ∀ w : World, (Instr.makeMap 75 Option.none).run Try.prog w = .ok (.map (some w.heap.size)) (w.alloc (.map #[] 0)) := fun _ => rfl
  have hmu : m.units.length ≤ 30 := hR.out.units
  obtain ⟨W0, hW0⟩ : ∃ W0 : World, ((w.alloc (mdO m ab au cb cu)).alloc whZ).alloc (.map #[] 0) = W0 := ⟨_, rfl⟩
  obtain ⟨t0, t1, t2, t3⟩ := three_new w (mdO m ab au cb cu) whZ (.map #[] 0)
  rw [hW0] at t0 t1 t2 t3
  have HT0 := hide t0
  have HT1 := hide t1
  have HT2 := hide t2
  have HT3 : Hid (TkIn W0 (w.heap.size + 1 + 1) (fun q => (Vf.tc m q 0 : Int))) := ⟨[], t3, Vf.Wl.nil, fun q => rfl⟩
  have HW0 := hide hW0
  have hzW0 : w.heap.size + 1 + 1 < W0.heap.size := lt_of_block t3
  clear t0 t1 t2 t3 hW0
  go_enter Try.func20, Try.ntmps20
  go_wp2
  go_loopw [14] (fun v wr => ∃ k : Nat, v = .int .i64 k ∧ OwAt m W0 (w.heap.size + 1 + 1) k wr) (fun v _ => m.units.length - (intOf v).toNat)
  case atStart => exact ⟨0, rfl, Nat.zero_le _, by rw [HW0.out]; exact HT3.out, by rw [HW0.out]; exact grown_refl _ _⟩
  case round =>
    obtain ⟨k, rfl, hA⟩ := hrel
    have HA := hide hA
    have hk := hA.le
    have hgz := hA.grown.size
    have hmb : wr.heap[w.heap.size]? = some (mdO m ab au cb cu) := (HA.out.grown.block _ (lt_of_block HT1.out) (by simp; omega)).trans HT1.out
    have HMB := hide hmb
    have HWH : Hid (wr.heap[w.heap.size + 1]? = some whZ) := (HA.out.grown.block _ (lt_of_block HT2.out) (by simp)).trans HT2.out
    have HMr : Hid (ModIn B wr m ab au) := hmd.out.low (fun j hj => (HA.out.grown.block j (by omega) (by simp; omega)).trans (kept0 HT0.out (by omega)))
    have HTlt : Hid (w.heap.size + 1 + 1 < wr.heap.size) := HA.out.tk.lt
    have hTl := HTlt.out
    have hwz : w.heap.size < wr.heap.size := by omega
    have hwz1 : w.heap.size + 1 < wr.heap.size := by omega
    obtain ⟨x0, x1⟩ := md_cells hmb
    clear hA hmb
    by_cases hlt : k < m.units.length
    · obtain ⟨u, hu⟩ : ∃ u, m.units[k]? = some u := ⟨_, List.getElem?_eq_getElem hlt⟩
      obtain ⟨b, off, al, cl, ac, cc, ha, hb, hui, u0, u1, u2, u3, u4, u5⟩ := HMr.out.units k u hu
      have hk1 : (k : Int) < (m.units.length : Int) := by omega
      have HIS : Hid (Vf.is m 4 (k : Int) = (u.kind == 4)) := is_in hu
      have HAU := hide ha
      have hbw : b < wr.heap.size := by omega
      rw [ha] at x1
      clear hu hui ha
      rw [HAU.out]
      by_cases h4 : u.kind = 4
      · have e4 : (u.kind != 4) = false := by simp [h4]
        have HIS2 : Hid (Vf.is m 4 (k : Int) = true) := by rw [HIS.out, h4]; rfl
        obtain ⟨W1, hW1⟩ : ∃ W1 : World, (wr.alloc (unO u al ac cl cc)).alloc (.map #[] 0) = W1 := ⟨_, rfl⟩
        have hT1 : wr.grownBy W1 none := by rw [← hW1]; exact two_new _ _ _
        have hM1 : LkIn W1 (wr.heap.size + 1) [] := by rw [← hW1]; exact new1 _ _ _
        have HM1 : Hid (ModIn B W1 m ab (some ⟨b, off, none⟩)) := by rw [← HAU.out]; exact HMr.out.low (low0 hT1 (by omega))
        have HT1' := hide hT1
        have HL1 := hide hM1
        have HW1 := hide hW1
        clear h4 hW1 hT1 hM1
        go_wp2_with fail
        rw [HW1.out]
        refine (gather_any m ab (some ⟨b, off, none⟩) cb cu hR.out 61 B (wr.heap.size + 1) k [] _ HM1 (by have := HT1'.out.size; omega) (by omega) HL1 (hide Vf.Wl.nil) hlt (hide ⟨by rw [Vf.mus_nil]; omega, by rw [Vf.mus_nil, Vf.tot_nil]; omega⟩)).mono ?_
        rintro e w2 ⟨rfl, hL2, hg2⟩
        obtain ⟨G, hG⟩ : ∃ G, G = Vf.gat m 61 (k : Int) [] := ⟨_, rfl⟩
        rw [← hG] at hL2
        have HWG : Hid (Vf.Wl G) := by rw [hG]; exact (Vf.gat_gd hR.out 61 (k : Int) [] Vf.Wl.nil).wl
        have hrg := run_rangeL hL2
        have hwg2 : W0.grownBy w2 (some (w.heap.size + 1 + 1)) := grownT (grownT0 HA.out.grown HT1'.out) hg2 (.inl (by omega))
        have hTk2 : TkIn w2 (w.heap.size + 1 + 1) (fun q => (Vf.tc m q k : Int)) := (HA.out.tk.keep (kept0 HT1'.out hTl)).keep (hg2.block _ (by have := HT1'.out.size; omega) (by simp; omega))
        have HR0 : Hid (RgAt G (fun q => (Vf.tc m q k : Int)) W0 (w.heap.size + 1 + 1) (wr.heap.size + 1) w2.heap.size (leftN G []) (w2.alloc (itO (wr.heap.size + 1) G #[]))) :=
          ⟨#[], heap_alloc_new _ _, hL2.alloc _, tk_of (hTk2.keep (Below.heap_alloc _ _ _ hTk2.lt)) (fun q => by simp [told]), fun i hi => (by cases hi), Nat.le_refl _, grownT0 hwg2 (grown0_new (World.grownBy.refl _ _) _)⟩
        have HGE := hide hG
        have hz12 := HT1'.out.size
        have hz2 := hg2.size
        have hz3 : W1.heap.size = wr.heap.size + 1 + 1 := by rw [← HW1.out]; simp
        clear hL2 hg2 hG hwg2 hTk2 u0 u1 u2 u3 u4 u5 x0 x1
        have HTC : Hid (∀ q, (Vf.tc m q (k + 1) : Int) = (Vf.tc m q k : Int) + if (decide (1 ≤ Vf.cnt q G)) = true then 1 else 0) := fun q => by
          rw [Vf.tc_succ, HIS2.out]
          have e : Vf.comes m k q = decide (1 ≤ Vf.cnt q G) := by unfold Vf.comes; rw [HGE.out]
          rw [e]
          cases decide (1 ≤ Vf.cnt q G) <;> simp
        generalize hIe : w2.heap.size = I at *
        generalize hNe : wr.heap.size = N at *
        have hIN : N + 1 < I := by omega
        have HLN : Hid (w.heap.size + 1 + 1 < N) := hTl
        clear hIe hNe
        go_wp2_with fail
        go_loopg [] (leftN G []) (fun gk wr' => RgAt G (fun q => (Vf.tc m q k : Int)) W0 (w.heap.size + 1 + 1) (N + 1) I gk wr')
        case atStart => exact HR0.out
        case round =>
          obtain ⟨seen, hI, hM, hT, hsl, hleft, hgW⟩ := hrel
          clear HR0 hrg
          rcases rg_next hI hM 0 with ⟨hall, hnx⟩ | ⟨i, p, w1, hp, hi, hnx, hI1, hg1, hz1, hen⟩
          · have HTN : Hid (TkIn wr (w.heap.size + 1 + 1) (fun q => (Vf.tc m q (k + 1) : Int))) := tk_of hT (fun q => by rw [told_all HWG.out hall hsl, HTC.out])
            have HGN := hide hgW
            clear hI hM hT hsl hleft hgW hall
            go_wp2
            go_roundw
            case rel => exact ⟨k + 1, by go_num, hlt, HTN.out, HGN.out⟩
            case measure => simp [intOf]; omega
          · have hilt : i < G.length := (List.getElem?_eq_some_iff.1 hp).1
            have hTI : w.heap.size + 1 + 1 ≠ I := by omega
            have hT1 : TkIn w1 (w.heap.size + 1 + 1) (fun q => (Vf.tc m q k : Int) + told G seen.toList q) := hT.keep (hg1.block _ hT.lt (by simp; omega))
            have hM1 : LkIn w1 (N + 1) G := hM.keep (hg1.block _ hM.lt (by simp; omega))
            obtain ⟨W5, hW5⟩ : ∃ W5 : World, w1.alloc (lkB p.1) = W5 := ⟨_, rfl⟩
            have hT5 : TkIn W5.drew (w.heap.size + 1 + 1) (fun q => (Vf.tc m q k : Int) + told G seen.toList q) := by rw [← hW5]; exact hT1.keep (Below.heap_alloc _ _ _ hT1.lt)
            obtain ⟨w3, w4, nn, b0, b1, b2, b3, b4, b5, b6⟩ := hT5.bump p.1
            have hk5 : W5.heap[w1.heap.size]? = some (lkB p.1) := by rw [← hW5]; exact heap_alloc_new _ _
            obtain ⟨q0, q1⟩ := lk_cell hk5
            obtain ⟨n0, hn0⟩ : ∃ n0 : Int, n0 = (Vf.tc m p.1 k : Int) + told G seen.toList p.1 := ⟨_, rfl⟩
            have hn1 : 0 ≤ n0 := by rw [hn0]; unfold told; split <;> omega
            have hn2 : n0 ≤ 31 := by have := Vf.tc_le m p.1 k; rw [hn0]; unfold told; split <;> omega
            have ew : IntKind.i64.wrap (n0 + 1) = n0 + 1 := by simp [IntKind.wrap, IntKind.bits, IntKind.signed]; omega
            rw [← hn0] at b0 b1 b2 b3
            have hg5 : w1.grownBy w4 (some (w.heap.size + 1 + 1)) := by
              have h5 : w1.grownBy W5 none := by rw [← hW5]; exact grown0_new (World.grownBy.refl _ _) _
              exact grown_tr (grownM_of0 h5) (grown_drew b6)
            have HRN : Hid (RgAt G (fun q => (Vf.tc m q k : Int)) W0 (w.heap.size + 1 + 1) (N + 1) I (leftN G (seen.toList ++ [i])) w4) := by
              refine ⟨seen.push i, (hg5.block _ (lt_of_block hI1) (by simp; omega)).trans hI1, hM1.keep (hg5.block _ hM1.lt (by simp; omega)), tk_of b4 (fun q => ?_), fun x hx => ?_, by rw [Array.toList_push]; exact Nat.le_refl _, grownT (grownT hgW hg1 (.inl (by omega))) hg5 (.inr rfl)⟩
              · rw [Array.toList_push, told_more HWG.out hp hi q]
                show ((Vf.tc m q k : Int) + told G seen.toList q) + (if q = p.1 then 1 else 0) = (Vf.tc m q k : Int) + (told G seen.toList q + if q = p.1 then 1 else 0)
                omega
              · rw [Array.toList_push] at hx
                rcases List.mem_append.1 hx with h | h
                · exact hsl x h
                · simp at h; omega
            have HLS := hide (leftN_less hilt hi)
            have HLE := hide hleft
            have HW5 := hide hW5
            clear hI hM hT hsl hleft hgW hI1 hg1 hz1 hT1 hM1 hT5 hk5 hn0 b4 b5 b6 hW5 hg5 hp hi
            go_wp2_with fail
            rw [HW5.out]
            go_region
            all_goals
              go_wp2
              go_roundg (leftN G (seen.toList ++ [i]))
              case measure => have h1 := HLS.out; have h2 := HLE.out; omega
              case rel => exact HRN.out
      · have e4 : (u.kind != 4) = true := by simpa using h4
        have HTC : Hid (∀ q, Vf.tc m q (k + 1) = Vf.tc m q k) := fun q => by rw [Vf.tc_succ, HIS.out]; simp [h4]
        clear h4
        go_wp2
        go_roundw
        case rel => exact ⟨k + 1, by go_num, hlt, tk_of (HA.out.tk.keep (Below.heap_alloc _ _ _ HTlt.out)) (fun q => by rw [HTC.out]), grownT0 HA.out.grown (grown0_new (World.grownBy.refl _ _) _)⟩
        case measure => simp [intOf]; omega
    · obtain rfl : k = m.units.length := by omega
      have HTK := hide HA.out.tk
      have HGW := hide HA.out.grown
      obtain ⟨⟨z0, z1, z2⟩, y0, y1, y2⟩ := wh_cells HWH.out
      have HG : Hid (w.grownBy wr none) := ⟨HGW.out.os.trans HT0.out.os, HGW.out.tape.trans HT0.out.tape, HGW.out.output.trans HT0.out.output, Nat.le_trans HT0.out.size HGW.out.size, fun j hj _ => (HGW.out.block j (by have := HT0.out.size; omega) (by simp; omega)).trans (HT0.out.block j hj (by simp))⟩
      clear HA
      go_wp2
      go_loopw [44] (fun v wr' => ∃ n : Nat, v = .int .i64 n ∧ n ≤ m.boxes.length ∧ wr' = wr ∧ Hid ((er, num) = ((Vf.firstE (Vf.ownersE m) ((List.range m.boxes.length).drop n) n).1, ((Vf.firstE (Vf.ownersE m) ((List.range m.boxes.length).drop n) n).2 : Int)))) (fun v _ => m.boxes.length - (intOf v).toNat)
      case atStart => exact ⟨0, rfl, Nat.zero_le _, rfl, hr.out⟩
      case round =>
        obtain ⟨n, rfl, hnl, hwe, HF⟩ := hrel
        subst hwe
        by_cases hn : n < m.boxes.length
        · have hx : (List.range m.boxes.length)[n]? = some n := by rw [List.getElem?_range hn]
          have HF2 : Hid ((er, num) = if Vf.ownersE m n = 0 then ((Vf.firstE (Vf.ownersE m) ((List.range m.boxes.length).drop (n + 1)) (n + 1)).1, ((Vf.firstE (Vf.ownersE m) ((List.range m.boxes.length).drop (n + 1)) (n + 1)).2 : Int)) else (Vf.ownersE m n, (n : Int))) := by
            unfold Hid
            rw [HF.out, firstE_drop _ hx]
            split <;> rfl
          have l26 := HTK.out.look (26, (n : Int))
          have l27 := HTK.out.look (27, (n : Int))
          obtain ⟨a26, ha26⟩ : ∃ a : Nat, a = Vf.tc m (26, (n : Int)) m.units.length := ⟨_, rfl⟩
          obtain ⟨a27, ha27⟩ : ∃ a : Nat, a = Vf.tc m (27, (n : Int)) m.units.length := ⟨_, rfl⟩
          rw [← ha26] at l26
          rw [← ha27] at l27
          have HOE : Hid (Vf.ownersE m n = if 1 < a26 ∨ 1 < a27 then 8 else 0) := by unfold Hid; unfold Vf.ownersE; rw [ha26, ha27]
          clear hx ha26 ha27 HF
          by_cases h26 : 1 < a26
          · have d1 : decide (1 < a26) = true := by simpa using h26
            have HE : Hid (er = 8 ∧ num = (n : Int)) := by
              have h1 := HF2.out
              have ho : Vf.ownersE m n = 8 := by rw [HOE.out, if_pos (Or.inl h26)]
              rw [ho, if_neg (by decide)] at h1
              cases h1
              exact ⟨rfl, rfl⟩
            go_wp2
            refine bodyPost_ret (v := whV 8 0 (n : Int)) (by simp [results, Try.results20, go_sem, z0, z1, z2]) rfl ?_
            rw [HE.out.1, HE.out.2]
            exact ⟨rfl, grown0_setN (grown0_setN (grown0_setN HG.out (by omega) _ _) (by omega) _ _) (by omega) _ _⟩
          · have d1 : decide (1 < a26) = false := by simpa using h26
            by_cases h27 : 1 < a27
            · have d2 : decide (1 < a27) = true := by simpa using h27
              have HE : Hid (er = 8 ∧ num = (n : Int)) := by
                have h1 := HF2.out
                have ho : Vf.ownersE m n = 8 := by rw [HOE.out, if_pos (Or.inr h27)]
                rw [ho, if_neg (by decide)] at h1
                cases h1
                exact ⟨rfl, rfl⟩
              go_wp2
              refine bodyPost_ret (v := whV 8 0 (n : Int)) (by simp [results, Try.results20, go_sem, z0, z1, z2]) rfl ?_
              rw [HE.out.1, HE.out.2]
              exact ⟨rfl, grown0_setN (grown0_setN (grown0_setN HG.out (by omega) _ _) (by omega) _ _) (by omega) _ _⟩
            · have d2 : decide (1 < a27) = false := by simpa using h27
              have HE : Hid ((er, num) = ((Vf.firstE (Vf.ownersE m) ((List.range m.boxes.length).drop (n + 1)) (n + 1)).1, ((Vf.firstE (Vf.ownersE m) ((List.range m.boxes.length).drop (n + 1)) (n + 1)).2 : Int))) := by
                have h1 := HF2.out
                have ho : Vf.ownersE m n = 0 := by rw [HOE.out, if_neg (by rintro (h | h); exact h26 h; exact h27 h)]
                rw [ho, if_pos rfl] at h1
                exact h1
              go_wp2
              go_roundw
              case rel => exact ⟨n + 1, by go_num, hn, trivial, HE⟩
              case measure => simp [intOf]; omega
        · have HE : Hid (er = 0 ∧ num = 0) := by
            have h1 := HF.out
            rw [List.drop_eq_nil_of_le (by simp; omega)] at h1
            cases h1
            exact ⟨rfl, rfl⟩
          go_wp2
          refine bodyPost_ret (v := whV 0 0 0) (by simp [results, Try.results20, go_sem, z0, z1, z2]) rfl ?_
          rw [HE.out.1, HE.out.2]
          exact ⟨rfl, grown0_setN (grown0_setN (grown0_setN HG.out (by omega) _ _) (by omega) _ _) (by omega) _ _⟩

end Go.Proofs.Ytalofknphhjhnaa

