/- The walk of report, on. -/
import Derived.Test.YtlpgfgcfkiefnaaM28
import Derived.Test.YtlpgfgcfkiefnaaM3
import Derived.Maps.RangeWalk
namespace Go.Proofs.Ytlpgfgcfkiefnaa.Vw
open Go.RowKit Vf Vm

abbrev repV (s q tr : Nat) (vO vS vT : Value) (st : Nat) : Value := .agg #[.int .i64 s, .int .i64 q, .int .i64 tr, vO, vS, vT, .int .i64 st]



set_option maxRecDepth 100000 in
set_option maxHeartbeats 2000000 in
/-- WHAT report ANSWERS. -/
theorem report_any (Q : Nat → Nat) (nb rb off : Nat) (c : Cx) (vB ev : Value) (o T : Nat) (L : Lab) (P : Nat → Nat) (w : World) (t : Tk) (x : List Lst) (vR vO : Value) (H : Hid (St (lsE Q nb rb off) c vB ev o T L P w t x vR vO)) (hX : Hid (BoxesAt (lsE Q nb rb off) lsX c vB)) (hs : Hid (t.over = 0 → ∃ f rs u i, AtOk c t f rs u i)) (ho : t.out.length ≤ 1000000) (va : Option Addr) (vc : Nat) (hvl : Hid (w.ownsRow 0 87 1 (.slice va nb vc) nb (ptrs Q nb))) (hnb : nb ≤ 30) (hxl : x.length = nb) (steps : Nat) (sv : Nat → Value) (hsv : Hid (∀ (i : Nat) q, x[i]? = some q → ∃ af cf, LAt L w (Q i) i q af cf (sv i))) :
    Calls Try.prog 23 #[.pointer (some ⟨T, 0, none⟩), .slice va nb vc, .int .i64 steps] w fun e w' => ∃ vO vS vT, e = .returned (repV (stat lsX c.m t x).1 (stat lsX c.m t x).2 t.trap vO vS vT steps) ∧ w'.ownsRow w.heap.size 2 1 vO t.out.length (ints t.out) ∧ w'.ownsRow w.heap.size 38 1 vS nb (svs sv nb) ∧ w'.ownsRow w.heap.size 3 1 vT nb (tks x nb) ∧ Below w.heap.size w w' := by
  obtain ⟨i0, hi, hz0, hz1, hz2⟩ := info_parts Try.info38
  obtain ⟨i1, hi1, hy0, hy1, hy2⟩ := info_parts Try.info3
  obtain ⟨s, hs1⟩ : ∃ s, s = (stat lsX c.m t x).1 := ⟨_, rfl⟩
  obtain ⟨q, hq1⟩ : ∃ s, s = (stat lsX c.m t x).2 := ⟨_, rfl⟩
  rw [← hs1, ← hq1]
  have HS1 := Sb.hide hs1
  have HQ1 := Sb.hide hq1
  have HXL := Sb.hide hxl
  clear hs1 hq1 hxl
  go_enter Try.func23, Try.ntmps23
  go_wp2_with fail
  have HB0 : Hid (Below w.heap.size w (w.alloc repZ)) := (Below.refl _ w).alloc (Nat.le_refl _) _
  have HZB : Hid ((w.alloc repZ).heap[w.heap.size]? = some repZ) := heap_alloc_new w _
  have hzA : (w.alloc repZ).heap.size = w.heap.size + 1 := by simp
  generalize w.alloc repZ = W0 at *
  refine (end_any' (lsE Q nb rb off) lsX c vB ev o T L P _ t x vR vO (Sb.hide (H.out.below HB0.out)) hX hs ho).mono ?_
  rw [← HS1.out, ← HQ1.out]
  rintro e w1 ⟨v, rfl, hown1, hb1⟩
  obtain ⟨oa, oc, rfl⟩ := own_slice hown1
  have hzB := hb1.size
  have HB1 : Hid (Below w.heap.size w w1) := HB0.out.trans (hb1.mono (by omega))
  have HZ1 : Hid (w1.heap[w.heap.size]? = some repZ) := (hb1.block _ (by omega)).trans HZB.out
  have HO1 : Hid (w1.ownsRow w.heap.size 2 1 (.slice oa t.out.length oc) t.out.length (ints t.out)) := own_base hown1 (by omega)
  clear hown1 hb1
  have HST : Hid (RpAt w x sv w.heap.size (w1.heap.size + 1) s q t.trap steps t.out (.slice oa t.out.length oc) (.slice none 0 0) (.slice none 0 0) 0 0 ((w1.alloc (.cells #[.int .i64 s, .int .i64 q, .int .i64 t.trap, .slice oa t.out.length oc] 103)).alloc (repO s q t.trap (.slice oa t.out.length oc) (.slice none 0 0) (.slice none 0 0) steps))) := by
    have e1 : (w1.alloc (.cells #[.int .i64 s, .int .i64 q, .int .i64 t.trap, .slice oa t.out.length oc] 103)).heap.size = w1.heap.size + 1 := by simp
    have hbz := HB1.out.size
    refine ⟨(HB1.out.alloc hbz _).alloc (by simp; omega) _, ⟨Nat.le_refl _, by omega⟩, ?_, by omega, ?_, (HO1.out.alloc _).alloc _, ⟨rfl, .inl ⟨rfl, rfl⟩⟩, ⟨rfl, .inl ⟨rfl, rfl⟩⟩⟩
    · exact (Below.heap_alloc _ _ _ (by simp; omega)).trans ((Below.heap_alloc _ _ _ (by omega)).trans HZ1.out)
    · rw [← e1]; exact heap_alloc_new _ _
  go_wp2
  go_loopw [25] (fun v wr => ∃ k : Nat, v = .int .i64 k ∧ k ≤ nb ∧ ∃ vS vT, RpAt w x sv w.heap.size (w1.heap.size + 1) s q t.trap steps t.out (.slice oa t.out.length oc) vS vT k k wr) (fun v _ => nb - (intOf v).toNat)
  case atStart => exact ⟨0, rfl, Nat.zero_le _, _, _, HST.out⟩
  case round =>
    obtain ⟨k, rfl, hk, vS, vT, hA⟩ := hrel
    have HA := Sb.hide hA
    have hbz := hA.below.size
    have rc := (rep_cells hA.rep).1
    have rf := (rep_cells hA.rep).2
    obtain ⟨r0, r1, r2, r3, r4, r5, r6⟩ := rc
    clear hA HST
    obtain ⟨R, hR⟩ : ∃ R, R = w1.heap.size + 1 := ⟨_, rfl⟩
    have HR := Sb.hide hR
    rw [← hR] at r0 r1 r2 r3 r4 r5 r6 rf HA ⊢
    clear hR
    by_cases hlt : k < nb
    · obtain ⟨y, hy⟩ : ∃ y, x[k]? = some y := ⟨_, List.getElem?_eq_getElem (by have := HXL.out; omega)⟩
      obtain ⟨af, cf, hL⟩ := hsv.out k y hy
      obtain ⟨sa, sc, hsvk⟩ := own_slice hL.sent
      have HSVK := Sb.hide hsvk
      have hLb := (HA.out.below.block _ (lt_of_block hL.blk)).trans hL.blk
      have hQz : Q k < wr.heap.size := lt_of_block hLb
      obtain ⟨l0, l1, l2, _⟩ := ls_cells hLb
      rw [hsvk] at l2
      have HQR : Hid (Q k ≠ R) := fun e => by
        have := HA.out.rep
        rw [← e, hLb] at this
        simp at this
      have HY := Sb.hide hy
      obtain ⟨vg, hva, hvc⟩ := own_cell hvl.out (ptrs_at Q hlt)
      have hvg : vg < w.heap.size := World.block_lt_of_cell? w _ hvc
      have v0 : wr.cell? ⟨vg, k, none⟩ = some (.pointer (some ⟨Q k, 0, none⟩)) := (cell_eq (HA.out.below.block vg hvg) _).trans hvc
      have HL : Hid (∀ W, Below w.heap.size w W → W.cell? ⟨Q k, 1, none⟩ = some (.int .i64 y.took) ∧ W.cell? ⟨Q k, 2, none⟩ = some (.slice sa y.sent.length sc)) := fun W hW => by
        have hb := (hW.block _ (lt_of_block hL.blk)).trans hL.blk
        obtain ⟨_, a1, a2, _⟩ := ls_cells hb
        rw [hsvk] at a2
        exact ⟨a1, a2⟩
      have n0 : (0 : Int) ≤ (k : Int) := by omega
      have n1 : (k : Int) < (nb : Int) := by omega
      rw [hva]
      clear hva hvc hy hL hsvk hLb l0 l1
      have HOWN : Hid ((wr.drew.alloc (.cells #[.slice sa y.sent.length sc] 38)).ownsRow w.heap.size 38 1 vS k (svs sv k)) := HA.out.sent.drew.alloc _
      go_wp2_with fail
      refine wp_region_held_drew (S := fun w' => w'.cell? ⟨Q k, 2, none⟩ = some (.slice sa y.sent.length sc)) (by kernel_rfl) (by exact l2) (fun hHeld => ?_)
      refine wpAnyH_take (i := 0) (oi := _) (v := ?_) rfl (by kernel_rfl) (by kernel_rfl) (by kernel_rfl) (fun _ _ _ h => h) (Or.inl ⟨by rfl, ?_⟩) (by assumption) ?_
      rotate_left
      · intro w hSw
        (try dsimp only at hSw)
        go_simp
        (try with_reducible rfl)
      (try simp only [Act.put])
      refine wpAnyH_take (i := 2) (oi := _) (v := ?_) rfl (by kernel_rfl) (by kernel_rfl) (by kernel_rfl) (fun _ _ _ h => h) (Or.inl ⟨by rfl, ?_⟩) (by assumption) ?_
      rotate_left
      · intro w hSw
        (try dsimp only at hSw)
        go_simp
        (try with_reducible rfl)
      (try simp only [Act.put])
      refine wpAnyH_take (i := 3) (oi := _) (v := ?_) rfl (by kernel_rfl) (by kernel_rfl) (by kernel_rfl) (fun _ _ _ h => h) (Or.inl ⟨by rfl, ?_⟩) (by assumption) ?_
      rotate_left
      · intro w hSw
        (try dsimp only at hSw)
        go_simp
        (try with_reducible rfl)
      (try simp only [Act.put])
      refine wpAnyH_take (i := 4) (oi := _) (v := ?_) rfl (by kernel_rfl) (by kernel_rfl) (by kernel_rfl) (fun _ _ _ h => h) (Or.inl ⟨by rfl, ?_⟩) (by assumption) ?_
      rotate_left
      · intro w hSw
        (try dsimp only at hSw)
        go_simp
        (try with_reducible rfl)
      (try simp only [Act.put])
      refine wpAnyH_take (i := 5) (oi := _) (v := ?_) rfl (by kernel_rfl) (by kernel_rfl) (by kernel_rfl) (fun _ _ _ h => h) (Or.inl ⟨by rfl, ?_⟩) (by assumption) ?_
      rotate_left
      · intro w hSw
        (try dsimp only at hSw)
        go_simp
        (try with_reducible rfl)
      (try simp only [Act.put])
      refine wpAnyH_ready (rs := [1, 6]) (by kernel_rfl) (by simp) ?_
      refine AllReadyH.cons (o := _) rfl (fun K hK => ?_) ?_
      · go_simp
        refine hK.out _ _ hHeld (fun hHeld => ?_)
        clear hK K
        refine wpAnyH_ready (rs := [6]) (by kernel_rfl) (by simp) ?_
        refine AllReadyH.cons (o := _) rfl (fun K hK => ?_) AllReadyH.nil
        go_simp
        refine hK.out _ _ (HL.out _ ((HA.out.below.drew).alloc (by exact HA.out.below.size) _)).2 (fun hHeld => ?_)
        clear hK K
        refine wpAnyH_ready (rs := [7]) (by kernel_rfl) (by simp) ?_
        refine AllReadyH.cons (o := _) rfl (fun K hK => ?_) AllReadyH.nil
        refine step_append_where rfl (.tmp 30) (.tmp 35) 26 rfl w.heap.size 38 i0 (.slice none 0 0) 1 24 Try.underlying26 hi hz0 hz1 hz2 rfl (by decide) vS k (svs sv k) rfl HOWN.out ⟨wr.heap.size, 0, none⟩ 1 1 [(.slice sa y.sent.length sc)] rfl rfl (news1 wr.drew _ _) (ones1 rfl) (by decide) (by unfold maxLen; omega) (by omega) (by simp; omega) ?_
        intro g4 cap4 w4 hown4 hg4 _
        obtain ⟨hR4, hb4, hA4⟩ := HA.out.put4 HSVK.out.symm hown4 hg4
        have HA4 := Sb.hide hA4
        have s4 := HL.out _ hb4
        have s5 := HL.out _ hA4.below
        have q4 := (rep_cells hR4).1
        have f4 := (rep_cells hR4).2
        clear hown4 hg4 hR4 hb4 hA4
        refine hK.out _ _ s4.2 (fun hHeld => ?_)
        clear hK K
        simp only [Act.put]
        refine wpAnyH_take (i := 8) (oi := _) (v := ?_) rfl (by kernel_rfl) (by kernel_rfl) (by kernel_rfl) (fun _ _ _ h => h) (Or.inl ⟨by rfl, ?_⟩) (by assumption) ?_
        rotate_left
        · intro w hSw
          (try dsimp only at hSw)
          go_simp
          (try with_reducible rfl)
        (try simp only [Act.put])
        refine wpAnyH_ready (rs := [9]) (by kernel_rfl) (by simp) ?_
        refine AllReadyH.cons (o := _) rfl (fun K hK => ?_) AllReadyH.nil
        go_simp
        refine hK.out _ _ s5.2 (fun hHeld => ?_)
        clear hK K hHeld q4 f4 s4
        refine wpAnyH_done (by kernel_rfl) ?_ _
        have HA5 : Hid (RpAt w x sv w.heap.size R s q t.trap steps t.out (.slice oa t.out.length oc) (.slice (some ⟨g4, 0, none⟩) (k + 1) cap4) vT (k + 1) k (w4.setCell ⟨R, 4, none⟩ (.slice (some ⟨g4, 0, none⟩) (k + 1) cap4))) := HA4.out
        have l5 := (HL.out _ HA5.out.below).1
        have c5 := (rep_cells HA5.out.rep).1.2.2.2.2.2.1
        have hz5 := HA5.out.below.size
        clear HA4 s5
        generalize w4.setCell ⟨R, 4, none⟩ (.slice (some ⟨g4, 0, none⟩) (k + 1) cap4) = w5 at *
        obtain ⟨g5, hg5⟩ : ∃ g, g = g4 := ⟨_, rfl⟩
        obtain ⟨cap5, hc5⟩ : ∃ g, g = cap4 := ⟨_, rfl⟩
        rw [← hg5, ← hc5] at HA5
        rw [← hg5, ← hc5]
        clear hg5 hc5
        have HOWN5 : Hid ((w5.drew.alloc (.cells #[.int .i64 (y.took : Int)] 3)).ownsRow w.heap.size 3 1 vT k (tks x k)) := HA5.out.took.drew.alloc _
        go_wp2_with fail
        refine wp_region_held_drew (S := fun w' => w'.cell? ⟨Q k, 1, none⟩ = some (.int .i64 y.took)) (by kernel_rfl) (by exact l5) (fun hHeld => ?_)
        refine wpAnyH_take (i := 0) (oi := _) (v := ?_) rfl (by kernel_rfl) (by kernel_rfl) (by kernel_rfl) (fun _ _ _ h => h) (Or.inl ⟨by rfl, ?_⟩) (by assumption) ?_
        rotate_left
        · intro w hSw
          (try dsimp only at hSw)
          go_simp
          (try with_reducible rfl)
        (try simp only [Act.put])
        refine wpAnyH_take (i := 2) (oi := _) (v := ?_) rfl (by kernel_rfl) (by kernel_rfl) (by kernel_rfl) (fun _ _ _ h => h) (Or.inl ⟨by rfl, ?_⟩) (by assumption) ?_
        rotate_left
        · intro w hSw
          (try dsimp only at hSw)
          go_simp
          (try with_reducible rfl)
        (try simp only [Act.put])
        refine wpAnyH_take (i := 3) (oi := _) (v := ?_) rfl (by kernel_rfl) (by kernel_rfl) (by kernel_rfl) (fun _ _ _ h => h) (Or.inl ⟨by rfl, ?_⟩) (by assumption) ?_
        rotate_left
        · intro w hSw
          (try dsimp only at hSw)
          go_simp
          (try with_reducible rfl)
        (try simp only [Act.put])
        refine wpAnyH_take (i := 4) (oi := _) (v := ?_) rfl (by kernel_rfl) (by kernel_rfl) (by kernel_rfl) (fun _ _ _ h => h) (Or.inl ⟨by rfl, ?_⟩) (by assumption) ?_
        rotate_left
        · intro w hSw
          (try dsimp only at hSw)
          go_simp
          (try with_reducible rfl)
        (try simp only [Act.put])
        refine wpAnyH_take (i := 5) (oi := _) (v := ?_) rfl (by kernel_rfl) (by kernel_rfl) (by kernel_rfl) (fun _ _ _ h => h) (Or.inl ⟨by rfl, ?_⟩) (by assumption) ?_
        rotate_left
        · intro w hSw
          (try dsimp only at hSw)
          go_simp
          (try with_reducible rfl)
        (try simp only [Act.put])
        refine wpAnyH_ready (rs := [1, 6]) (by kernel_rfl) (by simp) ?_
        refine AllReadyH.cons (o := _) rfl (fun K hK => ?_) ?_
        · go_simp
          refine hK.out _ _ hHeld (fun hHeld => ?_)
          clear hK K
          refine wpAnyH_ready (rs := [6]) (by kernel_rfl) (by simp) ?_
          refine AllReadyH.cons (o := _) rfl (fun K hK => ?_) AllReadyH.nil
          go_simp
          refine hK.out _ _ (HL.out _ ((HA5.out.below.drew).alloc (by exact HA5.out.below.size) _)).1 (fun hHeld => ?_)
          clear hK K
          refine wpAnyH_ready (rs := [7]) (by kernel_rfl) (by simp) ?_
          refine AllReadyH.cons (o := _) rfl (fun K hK => ?_) AllReadyH.nil
          refine step_append_where rfl (.tmp 39) (.tmp 44) 28 rfl w.heap.size 3 i1 (.int .i64 0) 1 8 Try.underlying28 hi1 hy0 hy1 hy2 rfl (by decide) vT k (tks x k) rfl HOWN5.out ⟨w5.heap.size, 0, none⟩ 1 1 [(.int .i64 (y.took : Int))] rfl rfl (news1 w5.drew _ _) (ones1 rfl) (by decide) (by unfold maxLen; omega) (by omega) (by simp; omega) ?_
          intro g4 cap4 w4 hown4 hg4 _
          obtain ⟨hR4, hb4, hA4⟩ := HA5.out.put5 HY.out hown4 hg4
          have HA4 := Sb.hide hA4
          have s4 := HL.out _ hb4
          have s5 := HL.out _ hA4.below
          have q4 := (rep_cells hR4).1
          have f4 := (rep_cells hR4).2
          clear hown4 hg4 hR4 hb4 hA4
          refine hK.out _ _ s4.1 (fun hHeld => ?_)
          clear hK K
          simp only [Act.put]
          refine wpAnyH_take (i := 8) (oi := _) (v := ?_) rfl (by kernel_rfl) (by kernel_rfl) (by kernel_rfl) (fun _ _ _ h => h) (Or.inl ⟨by rfl, ?_⟩) (by assumption) ?_
          rotate_left
          · intro w hSw
            (try dsimp only at hSw)
            go_simp
            (try with_reducible rfl)
          (try simp only [Act.put])
          refine wpAnyH_ready (rs := [9]) (by kernel_rfl) (by simp) ?_
          refine AllReadyH.cons (o := _) rfl (fun K hK => ?_) AllReadyH.nil
          go_simp
          refine hK.out _ _ s5.1 (fun hHeld => ?_)
          clear hK K hHeld q4 f4 s4
          refine wpAnyH_done (by kernel_rfl) ?_ _
          have HREL : Hid (RpAt w x sv w.heap.size R s q t.trap steps t.out (.slice oa t.out.length oc) (.slice (some ⟨g5, 0, none⟩) (k + 1) cap5) (.slice (some ⟨g4, 0, none⟩) (k + 1) cap4) (k + 1) (k + 1) (w4.setCell ⟨R, 5, none⟩ (.slice (some ⟨g4, 0, none⟩) (k + 1) cap4))) := HA4.out
          clear HA4 HA5 s5
          go_wp2
          go_roundw
          case rel => exact ⟨k + 1, by go_num, by omega, _, _, HREL.out⟩
          case measure => simp [intOf]; omega
        · skip
          refine AllReadyH.cons (o := _) rfl (fun K hK => ?_) AllReadyH.nil
          go_simp
          refine hK.out _ _ (HL.out _ ((HA5.out.below.drew).alloc (by exact HA5.out.below.size) _)).1 (fun hHeld => ?_)
          clear hK K
          have c5b : (w5.alloc (.cells #[.int .i64 (y.took : Int)] 3)).drew.cell? ⟨R, 5, none⟩ = some vT := (cell_eq (Below.heap_alloc w5 (.cells #[.int .i64 (y.took : Int)] 3) _ (lt_of_block HA5.out.rep)) _).trans c5
          refine wpAnyH_ready (rs := [1]) (by kernel_rfl) (by simp) ?_
          refine AllReadyH.cons (o := _) rfl (fun K hK => ?_) AllReadyH.nil
          go_simp
          refine hK.out _ _ hHeld (fun hHeld => ?_)
          clear hK K
          refine wpAnyH_ready (rs := [7]) (by kernel_rfl) (by simp) ?_
          refine AllReadyH.cons (o := _) rfl (fun K hK => ?_) AllReadyH.nil
          refine step_append_where rfl (.tmp 39) (.tmp 44) 28 rfl w.heap.size 3 i1 (.int .i64 0) 1 8 Try.underlying28 hi1 hy0 hy1 hy2 rfl (by decide) vT k (tks x k) rfl HOWN5.out ⟨w5.heap.size, 0, none⟩ 1 1 [(.int .i64 (y.took : Int))] rfl rfl (news1 w5.drew _ _) (ones1 rfl) (by decide) (by unfold maxLen; omega) (by omega) (by simp; omega) ?_
          intro g4 cap4 w4 hown4 hg4 _
          obtain ⟨hR4, hb4, hA4⟩ := HA5.out.put5 HY.out hown4 hg4
          have HA4 := Sb.hide hA4
          have s4 := HL.out _ hb4
          have s5 := HL.out _ hA4.below
          have q4 := (rep_cells hR4).1
          have f4 := (rep_cells hR4).2
          clear hown4 hg4 hR4 hb4 hA4
          refine hK.out _ _ s4.1 (fun hHeld => ?_)
          clear hK K
          simp only [Act.put]
          refine wpAnyH_take (i := 8) (oi := _) (v := ?_) rfl (by kernel_rfl) (by kernel_rfl) (by kernel_rfl) (fun _ _ _ h => h) (Or.inl ⟨by rfl, ?_⟩) (by assumption) ?_
          rotate_left
          · intro w hSw
            (try dsimp only at hSw)
            go_simp
            (try with_reducible rfl)
          (try simp only [Act.put])
          refine wpAnyH_ready (rs := [9]) (by kernel_rfl) (by simp) ?_
          refine AllReadyH.cons (o := _) rfl (fun K hK => ?_) AllReadyH.nil
          go_simp
          refine hK.out _ _ s5.1 (fun hHeld => ?_)
          clear hK K hHeld q4 f4 s4
          refine wpAnyH_done (by kernel_rfl) ?_ _
          have HREL : Hid (RpAt w x sv w.heap.size R s q t.trap steps t.out (.slice oa t.out.length oc) (.slice (some ⟨g5, 0, none⟩) (k + 1) cap5) (.slice (some ⟨g4, 0, none⟩) (k + 1) cap4) (k + 1) (k + 1) (w4.setCell ⟨R, 5, none⟩ (.slice (some ⟨g4, 0, none⟩) (k + 1) cap4))) := HA4.out
          clear HA4 HA5 s5
          go_wp2
          go_roundw
          case rel => exact ⟨k + 1, by go_num, by omega, _, _, HREL.out⟩
          case measure => simp [intOf]; omega
      · skip
        refine AllReadyH.cons (o := _) rfl (fun K hK => ?_) AllReadyH.nil
        go_simp
        refine hK.out _ _ (HL.out _ ((HA.out.below.drew).alloc (by exact HA.out.below.size) _)).2 (fun hHeld => ?_)
        clear hK K
        have r4b : (wr.alloc (.cells #[.slice sa y.sent.length sc] 38)).drew.cell? ⟨R, 4, none⟩ = some vS := (cell_eq (Below.heap_alloc wr (.cells #[.slice sa y.sent.length sc] 38) _ (lt_of_block HA.out.rep)) _).trans r4
        refine wpAnyH_ready (rs := [1]) (by kernel_rfl) (by simp) ?_
        refine AllReadyH.cons (o := _) rfl (fun K hK => ?_) AllReadyH.nil
        go_simp
        refine hK.out _ _ hHeld (fun hHeld => ?_)
        clear hK K
        refine wpAnyH_ready (rs := [7]) (by kernel_rfl) (by simp) ?_
        refine AllReadyH.cons (o := _) rfl (fun K hK => ?_) AllReadyH.nil
        refine step_append_where rfl (.tmp 30) (.tmp 35) 26 rfl w.heap.size 38 i0 (.slice none 0 0) 1 24 Try.underlying26 hi hz0 hz1 hz2 rfl (by decide) vS k (svs sv k) rfl HOWN.out ⟨wr.heap.size, 0, none⟩ 1 1 [(.slice sa y.sent.length sc)] rfl rfl (news1 wr.drew _ _) (ones1 rfl) (by decide) (by unfold maxLen; omega) (by omega) (by simp; omega) ?_
        intro g4 cap4 w4 hown4 hg4 _
        obtain ⟨hR4, hb4, hA4⟩ := HA.out.put4 HSVK.out.symm hown4 hg4
        have HA4 := Sb.hide hA4
        have s4 := HL.out _ hb4
        have s5 := HL.out _ hA4.below
        have q4 := (rep_cells hR4).1
        have f4 := (rep_cells hR4).2
        clear hown4 hg4 hR4 hb4 hA4
        refine hK.out _ _ s4.2 (fun hHeld => ?_)
        clear hK K
        simp only [Act.put]
        refine wpAnyH_take (i := 8) (oi := _) (v := ?_) rfl (by kernel_rfl) (by kernel_rfl) (by kernel_rfl) (fun _ _ _ h => h) (Or.inl ⟨by rfl, ?_⟩) (by assumption) ?_
        rotate_left
        · intro w hSw
          (try dsimp only at hSw)
          go_simp
          (try with_reducible rfl)
        (try simp only [Act.put])
        refine wpAnyH_ready (rs := [9]) (by kernel_rfl) (by simp) ?_
        refine AllReadyH.cons (o := _) rfl (fun K hK => ?_) AllReadyH.nil
        go_simp
        refine hK.out _ _ s5.2 (fun hHeld => ?_)
        clear hK K hHeld q4 f4 s4
        refine wpAnyH_done (by kernel_rfl) ?_ _
        have HA5 : Hid (RpAt w x sv w.heap.size R s q t.trap steps t.out (.slice oa t.out.length oc) (.slice (some ⟨g4, 0, none⟩) (k + 1) cap4) vT (k + 1) k (w4.setCell ⟨R, 4, none⟩ (.slice (some ⟨g4, 0, none⟩) (k + 1) cap4))) := HA4.out
        have l5 := (HL.out _ HA5.out.below).1
        have c5 := (rep_cells HA5.out.rep).1.2.2.2.2.2.1
        have hz5 := HA5.out.below.size
        clear HA4 s5
        generalize w4.setCell ⟨R, 4, none⟩ (.slice (some ⟨g4, 0, none⟩) (k + 1) cap4) = w5 at *
        obtain ⟨g5, hg5⟩ : ∃ g, g = g4 := ⟨_, rfl⟩
        obtain ⟨cap5, hc5⟩ : ∃ g, g = cap4 := ⟨_, rfl⟩
        rw [← hg5, ← hc5] at HA5
        rw [← hg5, ← hc5]
        clear hg5 hc5
        have HOWN5 : Hid ((w5.drew.alloc (.cells #[.int .i64 (y.took : Int)] 3)).ownsRow w.heap.size 3 1 vT k (tks x k)) := HA5.out.took.drew.alloc _
        go_wp2_with fail
        refine wp_region_held_drew (S := fun w' => w'.cell? ⟨Q k, 1, none⟩ = some (.int .i64 y.took)) (by kernel_rfl) (by exact l5) (fun hHeld => ?_)
        refine wpAnyH_take (i := 0) (oi := _) (v := ?_) rfl (by kernel_rfl) (by kernel_rfl) (by kernel_rfl) (fun _ _ _ h => h) (Or.inl ⟨by rfl, ?_⟩) (by assumption) ?_
        rotate_left
        · intro w hSw
          (try dsimp only at hSw)
          go_simp
          (try with_reducible rfl)
        (try simp only [Act.put])
        refine wpAnyH_take (i := 2) (oi := _) (v := ?_) rfl (by kernel_rfl) (by kernel_rfl) (by kernel_rfl) (fun _ _ _ h => h) (Or.inl ⟨by rfl, ?_⟩) (by assumption) ?_
        rotate_left
        · intro w hSw
          (try dsimp only at hSw)
          go_simp
          (try with_reducible rfl)
        (try simp only [Act.put])
        refine wpAnyH_take (i := 3) (oi := _) (v := ?_) rfl (by kernel_rfl) (by kernel_rfl) (by kernel_rfl) (fun _ _ _ h => h) (Or.inl ⟨by rfl, ?_⟩) (by assumption) ?_
        rotate_left
        · intro w hSw
          (try dsimp only at hSw)
          go_simp
          (try with_reducible rfl)
        (try simp only [Act.put])
        refine wpAnyH_take (i := 4) (oi := _) (v := ?_) rfl (by kernel_rfl) (by kernel_rfl) (by kernel_rfl) (fun _ _ _ h => h) (Or.inl ⟨by rfl, ?_⟩) (by assumption) ?_
        rotate_left
        · intro w hSw
          (try dsimp only at hSw)
          go_simp
          (try with_reducible rfl)
        (try simp only [Act.put])
        refine wpAnyH_take (i := 5) (oi := _) (v := ?_) rfl (by kernel_rfl) (by kernel_rfl) (by kernel_rfl) (fun _ _ _ h => h) (Or.inl ⟨by rfl, ?_⟩) (by assumption) ?_
        rotate_left
        · intro w hSw
          (try dsimp only at hSw)
          go_simp
          (try with_reducible rfl)
        (try simp only [Act.put])
        refine wpAnyH_ready (rs := [1, 6]) (by kernel_rfl) (by simp) ?_
        refine AllReadyH.cons (o := _) rfl (fun K hK => ?_) ?_
        · go_simp
          refine hK.out _ _ hHeld (fun hHeld => ?_)
          clear hK K
          refine wpAnyH_ready (rs := [6]) (by kernel_rfl) (by simp) ?_
          refine AllReadyH.cons (o := _) rfl (fun K hK => ?_) AllReadyH.nil
          go_simp
          refine hK.out _ _ (HL.out _ ((HA5.out.below.drew).alloc (by exact HA5.out.below.size) _)).1 (fun hHeld => ?_)
          clear hK K
          refine wpAnyH_ready (rs := [7]) (by kernel_rfl) (by simp) ?_
          refine AllReadyH.cons (o := _) rfl (fun K hK => ?_) AllReadyH.nil
          refine step_append_where rfl (.tmp 39) (.tmp 44) 28 rfl w.heap.size 3 i1 (.int .i64 0) 1 8 Try.underlying28 hi1 hy0 hy1 hy2 rfl (by decide) vT k (tks x k) rfl HOWN5.out ⟨w5.heap.size, 0, none⟩ 1 1 [(.int .i64 (y.took : Int))] rfl rfl (news1 w5.drew _ _) (ones1 rfl) (by decide) (by unfold maxLen; omega) (by omega) (by simp; omega) ?_
          intro g4 cap4 w4 hown4 hg4 _
          obtain ⟨hR4, hb4, hA4⟩ := HA5.out.put5 HY.out hown4 hg4
          have HA4 := Sb.hide hA4
          have s4 := HL.out _ hb4
          have s5 := HL.out _ hA4.below
          have q4 := (rep_cells hR4).1
          have f4 := (rep_cells hR4).2
          clear hown4 hg4 hR4 hb4 hA4
          refine hK.out _ _ s4.1 (fun hHeld => ?_)
          clear hK K
          simp only [Act.put]
          refine wpAnyH_take (i := 8) (oi := _) (v := ?_) rfl (by kernel_rfl) (by kernel_rfl) (by kernel_rfl) (fun _ _ _ h => h) (Or.inl ⟨by rfl, ?_⟩) (by assumption) ?_
          rotate_left
          · intro w hSw
            (try dsimp only at hSw)
            go_simp
            (try with_reducible rfl)
          (try simp only [Act.put])
          refine wpAnyH_ready (rs := [9]) (by kernel_rfl) (by simp) ?_
          refine AllReadyH.cons (o := _) rfl (fun K hK => ?_) AllReadyH.nil
          go_simp
          refine hK.out _ _ s5.1 (fun hHeld => ?_)
          clear hK K hHeld q4 f4 s4
          refine wpAnyH_done (by kernel_rfl) ?_ _
          have HREL : Hid (RpAt w x sv w.heap.size R s q t.trap steps t.out (.slice oa t.out.length oc) (.slice (some ⟨g5, 0, none⟩) (k + 1) cap5) (.slice (some ⟨g4, 0, none⟩) (k + 1) cap4) (k + 1) (k + 1) (w4.setCell ⟨R, 5, none⟩ (.slice (some ⟨g4, 0, none⟩) (k + 1) cap4))) := HA4.out
          clear HA4 HA5 s5
          go_wp2
          go_roundw
          case rel => exact ⟨k + 1, by go_num, by omega, _, _, HREL.out⟩
          case measure => simp [intOf]; omega
        · skip
          refine AllReadyH.cons (o := _) rfl (fun K hK => ?_) AllReadyH.nil
          go_simp
          refine hK.out _ _ (HL.out _ ((HA5.out.below.drew).alloc (by exact HA5.out.below.size) _)).1 (fun hHeld => ?_)
          clear hK K
          have c5b : (w5.alloc (.cells #[.int .i64 (y.took : Int)] 3)).drew.cell? ⟨R, 5, none⟩ = some vT := (cell_eq (Below.heap_alloc w5 (.cells #[.int .i64 (y.took : Int)] 3) _ (lt_of_block HA5.out.rep)) _).trans c5
          refine wpAnyH_ready (rs := [1]) (by kernel_rfl) (by simp) ?_
          refine AllReadyH.cons (o := _) rfl (fun K hK => ?_) AllReadyH.nil
          go_simp
          refine hK.out _ _ hHeld (fun hHeld => ?_)
          clear hK K
          refine wpAnyH_ready (rs := [7]) (by kernel_rfl) (by simp) ?_
          refine AllReadyH.cons (o := _) rfl (fun K hK => ?_) AllReadyH.nil
          refine step_append_where rfl (.tmp 39) (.tmp 44) 28 rfl w.heap.size 3 i1 (.int .i64 0) 1 8 Try.underlying28 hi1 hy0 hy1 hy2 rfl (by decide) vT k (tks x k) rfl HOWN5.out ⟨w5.heap.size, 0, none⟩ 1 1 [(.int .i64 (y.took : Int))] rfl rfl (news1 w5.drew _ _) (ones1 rfl) (by decide) (by unfold maxLen; omega) (by omega) (by simp; omega) ?_
          intro g4 cap4 w4 hown4 hg4 _
          obtain ⟨hR4, hb4, hA4⟩ := HA5.out.put5 HY.out hown4 hg4
          have HA4 := Sb.hide hA4
          have s4 := HL.out _ hb4
          have s5 := HL.out _ hA4.below
          have q4 := (rep_cells hR4).1
          have f4 := (rep_cells hR4).2
          clear hown4 hg4 hR4 hb4 hA4
          refine hK.out _ _ s4.1 (fun hHeld => ?_)
          clear hK K
          simp only [Act.put]
          refine wpAnyH_take (i := 8) (oi := _) (v := ?_) rfl (by kernel_rfl) (by kernel_rfl) (by kernel_rfl) (fun _ _ _ h => h) (Or.inl ⟨by rfl, ?_⟩) (by assumption) ?_
          rotate_left
          · intro w hSw
            (try dsimp only at hSw)
            go_simp
            (try with_reducible rfl)
          (try simp only [Act.put])
          refine wpAnyH_ready (rs := [9]) (by kernel_rfl) (by simp) ?_
          refine AllReadyH.cons (o := _) rfl (fun K hK => ?_) AllReadyH.nil
          go_simp
          refine hK.out _ _ s5.1 (fun hHeld => ?_)
          clear hK K hHeld q4 f4 s4
          refine wpAnyH_done (by kernel_rfl) ?_ _
          have HREL : Hid (RpAt w x sv w.heap.size R s q t.trap steps t.out (.slice oa t.out.length oc) (.slice (some ⟨g5, 0, none⟩) (k + 1) cap5) (.slice (some ⟨g4, 0, none⟩) (k + 1) cap4) (k + 1) (k + 1) (w4.setCell ⟨R, 5, none⟩ (.slice (some ⟨g4, 0, none⟩) (k + 1) cap4))) := HA4.out
          clear HA4 HA5 s5
          go_wp2
          go_roundw
          case rel => exact ⟨k + 1, by go_num, by omega, _, _, HREL.out⟩
          case measure => simp [intOf]; omega
    · have n1 : ¬ (k : Int) < (nb : Int) := by omega
      have ek : k = nb := by omega
      subst ek
      have z := (rep_cells HA.out.zero).1
      have zf := (rep_cells HA.out.zero).2
      obtain ⟨z0, z1, z2, z3, z4, z5, z6⟩ := z
      have HNE : Hid (w.heap.size ≠ R) := HA.out.ne
      obtain ⟨sa, sc, hSv⟩ := own_slice HA.out.sent
      obtain ⟨ta, tc, hTv⟩ := own_slice HA.out.took
      subst hSv hTv
      go_wp2
      have hX := fill7_at (s := s) (q := q) (tr := t.trap) (vO := .slice oa t.out.length oc) (vS := .slice sa k sc) (vT := .slice ta k tc) (st := steps) HA.out.zero
      refine bodyPost_ret (v := repV s q t.trap (.slice oa t.out.length oc) (.slice sa k sc) (.slice ta k tc) steps) ?_ rfl ⟨_, _, _, rfl, fill7_own HA.out.zero HA.out.out (by decide), fill7_own HA.out.zero HA.out.sent (by decide), fill7_own HA.out.zero HA.out.took (by decide), fill7_below HA.out.below (Nat.le_refl _)⟩
      unfold fill7 at hX
      generalize ((((((wr.setCell ⟨w.heap.size, 0, none⟩ (.int .i64 s)).setCell ⟨w.heap.size, 1, none⟩ (.int .i64 q)).setCell ⟨w.heap.size, 2, none⟩ (.int .i64 t.trap)).setCell ⟨w.heap.size, 3, none⟩ (.slice oa t.out.length oc)).setCell ⟨w.heap.size, 4, none⟩ (.slice sa k sc)).setCell ⟨w.heap.size, 5, none⟩ (.slice ta k tc)).setCell ⟨w.heap.size, 6, none⟩ (.int .i64 steps) = W4 at *
      obtain ⟨g0, g1, g2, g3, g4, g5, g6⟩ := (rep_cells hX).1
      simp [results, Try.results23, go_sem, g0, g1, g2, g3, g4, g5, g6]
end Go.Proofs.Ytlpgfgcfkiefnaa.Vw

/- The walk of speak, a kind of instruction each. -/
namespace Go.Proofs.Ytlpgfgcfkiefnaa
open Go.RowKit

set_option maxRecDepth 100000 in
set_option maxHeartbeats 2000000 in
theorem speak23 (c : FC) (F B : Nat) (top : Option Addr) (st : List Int) (f : Vf.Fl) (n : Int) (row : Value) (nn : Int) (k : Nat) (u : Vf.Un) (hu : Hid (c.m.units[k]? = some u)) (hp : Hid (0 ≤ u.params ∧ u.params ≤ u.locals.length ∧ u.locals.length ≤ 200)) (pl : List Int) (hpl : Hid (pl = u.locals.take u.params.toNat)) (w : World) (h : Hid (FlIn c w F top st f n row)) (hE : Hid (Env c B F w)) (hl : st.length ≤ 300) (r : Except Int (List Int)) (hr : Hid (r = Vf.turn u.result pl st)) :
    Calls Try.prog 75 #[.pointer (some ⟨F, 0, none⟩), .agg #[.int .i64 23, .int .i64 (k : Int), .int .i64 nn]] w fun e w' => SEnds c F f n row r w e w' := by
  have hlt := hE.out.lt
  have hBF := hE.out.base
  obtain ⟨b, off, al, cl, ac, cc, ha, hb, hui, u0, u1, u2, u3, u4, u5⟩ := hE.out.md.units k u hu.out
  have hku : k < c.m.units.length := (List.getElem?_eq_some_iff.1 hu.out).1
  have hk1 : (k : Int) < (c.m.units.length : Int) := by omega
  have hF0 := hide (h.out.alloc (insO 23 (k : Int) nn))
  have d1 : (w.alloc (insO 23 (k : Int) nn)).cell? ⟨F, 1, none⟩ = some (.slice (some ⟨b, off, none⟩) c.m.units.length c.cu) := by have := (fl_cells hF0.out.blk).2.1; rw [ha] at this; exact this
  have d2 : (w.alloc (insO 23 (k : Int) nn)).cell? ⟨w.heap.size, 1, none⟩ = some (.int .i64 (k : Int)) := (ins_cells (alloc_at w _)).2.1
  have d3 : (w.alloc (insO 23 (k : Int) nn)).cell? ⟨b, off + k * 6 + 3, none⟩ = some (.int .i64 u.result) := (cell_new _ _ (by omega)).trans u3
  have HA := hide ha
  clear hui u0 u1 u2 u3 u4 u5 ha
  have hpll : pl.length < 1000 := by rw [hpl.out]; have := hp.out.2.2; simp; omega
  go_enter Try.func75, Try.ntmps75
  go_wp2_with fail
  refine wp_region_held_drew (S := fun w' => w'.cell? ⟨F, 1, none⟩ = some (.slice (some ⟨b, off, none⟩) c.m.units.length c.cu) ∧ w'.cell? ⟨w.heap.size, 1, none⟩ = some (.int .i64 (k : Int)) ∧ w'.cell? ⟨b, off + k * 6 + 3, none⟩ = some (.int .i64 u.result)) (by kernel_rfl) ⟨d1, d2, d3⟩ (fun hHeld => ?_)
  refine wpAnyH_take (i := 0) (oi := _) (v := ?_) rfl (by kernel_rfl) (by kernel_rfl) (by kernel_rfl) (fun _ _ _ h => h) (Or.inl ⟨by rfl, ?_⟩) (by assumption) ?_
  rotate_left
  · intro w hSw
    (try dsimp only at hSw)
    go_simp
    (try with_reducible rfl)
  (try go_frame)
  refine wpAnyH_take (i := 1) (oi := _) (v := ?_) rfl (by kernel_rfl) (by kernel_rfl) (by kernel_rfl) (fun _ _ _ h => h) (Or.inl ⟨by rfl, ?_⟩) (by assumption) ?_
  rotate_left
  · intro w hSw
    (try dsimp only at hSw)
    go_simp
    (try with_reducible rfl)
  (try go_frame)
  refine wpAnyH_take (i := 2) (oi := _) (v := ?_) rfl (by kernel_rfl) (by kernel_rfl) (by kernel_rfl) (fun _ _ _ h => h) (Or.inl ⟨by rfl, ?_⟩) (by assumption) ?_
  rotate_left
  · intro w hSw
    (try dsimp only at hSw)
    go_simp
    (try with_reducible rfl)
  (try go_frame)
  refine wpAnyH_take (i := 3) (oi := _) (v := ?_) rfl (by kernel_rfl) (by kernel_rfl) (by kernel_rfl) (fun _ _ _ h => h) (Or.inl ⟨by rfl, ?_⟩) (by assumption) ?_
  rotate_left
  · intro w hSw
    (try dsimp only at hSw)
    go_simp
    (try with_reducible rfl)
  (try go_frame)
  refine wpAnyH_take (i := 4) (oi := _) (v := ?_) rfl (by kernel_rfl) (by kernel_rfl) (by kernel_rfl) (fun _ _ _ h => h) (Or.inl ⟨by rfl, ?_⟩) (by assumption) ?_
  rotate_left
  · intro w hSw
    (try dsimp only at hSw)
    go_simp
    (try with_reducible rfl)
  (try go_frame)
  refine wpAnyH_take (i := 5) (oi := _) (v := ?_) rfl (by kernel_rfl) (by kernel_rfl) (by kernel_rfl) (fun _ _ _ h => h) (Or.inl ⟨by rfl, ?_⟩) (by assumption) ?_
  rotate_left
  · intro w hSw
    (try dsimp only at hSw)
    go_simp
    (try with_reducible rfl)
  (try go_frame)
  refine wpAnyH_take (i := 6) (oi := _) (v := ?_) rfl (by kernel_rfl) (by kernel_rfl) (by kernel_rfl) (fun _ _ _ h => h) (Or.inl ⟨by rfl, ?_⟩) (by assumption) ?_
  rotate_left
  · intro w hSw
    (try dsimp only at hSw)
    go_simp
    (try with_reducible rfl)
  (try go_frame)
  refine wpAnyH_take (i := 7) (oi := _) (v := ?_) rfl (by kernel_rfl) (by kernel_rfl) (by kernel_rfl) (fun _ _ _ h => h) (Or.inl ⟨by rfl, ?_⟩) (by assumption) ?_
  rotate_left
  · intro w hSw
    (try dsimp only at hSw)
    go_simp
    (try with_reducible rfl)
  (try go_frame)
  refine wpAnyH_take (i := 8) (oi := _) (v := ?_) rfl (by kernel_rfl) (by kernel_rfl) (by kernel_rfl) (fun _ _ _ h => h) (Or.inl ⟨by rfl, ?_⟩) (by assumption) ?_
  rotate_left
  · intro w hSw
    (try dsimp only at hSw)
    go_simp
    (try with_reducible rfl)
  (try go_frame)
  refine wpAnyH_take (i := 9) (oi := _) (v := ?_) rfl (by kernel_rfl) (by kernel_rfl) (by kernel_rfl) (fun _ _ _ h => h) (Or.inl ⟨by rfl, ?_⟩) (by assumption) ?_
  rotate_left
  · intro w hSw
    (try dsimp only at hSw)
    go_simp
    (try with_reducible rfl)
  (try go_frame)
  refine wpAnyH_take (i := 10) (oi := _) (v := ?_) rfl (by kernel_rfl) (by kernel_rfl) (by kernel_rfl) (fun _ _ _ h => h) (Or.inl ⟨by rfl, ?_⟩) (by assumption) ?_
  rotate_left
  · intro w hSw
    (try dsimp only at hSw)
    go_simp
    (try with_reducible rfl)
  (try go_frame)
  refine wpAnyH_take (i := 11) (oi := _) (v := ?_) rfl (by kernel_rfl) (by kernel_rfl) (by kernel_rfl) (fun _ _ _ h => h) (Or.inl ⟨by rfl, ?_⟩) (by assumption) ?_
  rotate_left
  · intro w hSw
    (try dsimp only at hSw)
    go_simp
    (try with_reducible rfl)
  (try go_frame)
  refine wpAnyH_take (i := 12) (oi := _) (v := ?_) rfl (by kernel_rfl) (by kernel_rfl) (by kernel_rfl) (fun _ _ _ h => h) (Or.inl ⟨by rfl, ?_⟩) (by assumption) ?_
  rotate_left
  · intro w hSw
    (try dsimp only at hSw)
    go_simp
    (try with_reducible rfl)
  (try go_frame)
  refine wpAnyH_take (i := 13) (oi := _) (v := ?_) rfl (by kernel_rfl) (by kernel_rfl) (by kernel_rfl) (fun _ _ _ h => h) (Or.inl ⟨by rfl, ?_⟩) (by assumption) ?_
  rotate_left
  · intro w hSw
    (try dsimp only at hSw)
    go_simp
    (try with_reducible rfl)
  (try go_frame)
  refine wpAnyH_take (i := 14) (oi := _) (v := ?_) rfl (by kernel_rfl) (by kernel_rfl) (by kernel_rfl) (fun _ _ _ h => h) (Or.inl ⟨by rfl, ?_⟩) (by assumption) ?_
  rotate_left
  · intro w hSw
    (try dsimp only at hSw)
    go_simp
    (try with_reducible rfl)
  (try go_frame)
  refine wpAnyH_take (i := 15) (oi := _) (v := ?_) rfl (by kernel_rfl) (by kernel_rfl) (by kernel_rfl) (fun _ _ _ h => h) (Or.inl ⟨by rfl, ?_⟩) (by assumption) ?_
  rotate_left
  · intro w hSw
    (try dsimp only at hSw)
    go_simp
    (try with_reducible rfl)
  (try go_frame)
  refine wpAnyH_ready (rs := [16]) (by kernel_rfl) (by simp) ?_
  refine AllReadyH.cons (o := _) rfl (fun K hK => ?_) AllReadyH.nil
  go_simp
  refine (params_any c F B top st f n row k u _ (hide hF0.out.drew) (hide (hE.out.grown (grown_new _)).drew) hu hp pl hpl).mono ?_
  rintro e w2 ⟨⟨a2, cp, rfl, hI⟩, hg2, hF2⟩
  have HG2 : Hid (w.grownBy w2 (some F)) := grown_tr (grown_new _) (grown_drew hg2)
  have HS2 : Hid (∀ w3, w2.grownBy w3 (some F) → w3.cell? ⟨F, 1, none⟩ = some (.slice c.au c.m.units.length c.cu) → (w3.cell? ⟨F, 1, none⟩ = some (.slice (some ⟨b, off, none⟩) c.m.units.length c.cu) ∧ w3.cell? ⟨w.heap.size, 1, none⟩ = some (.int .i64 (k : Int)) ∧ w3.cell? ⟨b, off + k * 6 + 3, none⟩ = some (.int .i64 u.result))) := fun w3 hg3 h1 => ⟨by rw [h1, HA.out], (cell_eq (kept (grown_tr (grown_drew hg2) hg3) (by simp) (by omega)) _).trans d2, (cell_eq (kept (grown_tr (grown_drew hg2) hg3) (by simp; omega) (by omega)) _).trans d3⟩
  have HF2 := hide hF2
  have HI := hide hI
  refine hK.out _ _ (HS2.out w2 (grown_refl _ _) (fl_cells hF2.blk).2.1) (fun hHeld => ?_)
  clear hK hI hF2 hg2
  refine wpAnyH_ready (rs := [17]) (by kernel_rfl) (by simp) ?_
  refine AllReadyH.cons (o := _) rfl (fun K hK => ?_) AllReadyH.nil
  go_simp
  refine (turn_any c F B top st f n row u.result pl a2 cp _ HF2 (by omega) hpll HI (by have := HG2.out.size; omega) (hide (fun b off _ hb => by omega)) r hr).mono ?_
  rintro e w9 hS
  have HG9 : Hid (w.grownBy w9 (some F)) := grown_tr HG2.out hS.grown
  cases r with
  | error er =>
    obtain rfl := hS.no er rfl
    clear hS hK
    go_wp2
    exact ⟨rfl, SEnds.bad HG9.out rfl⟩
  | ok st9 =>
    obtain ⟨rfl, top9, hF9⟩ := hS.yes st9 rfl
    have HF9 := hide hF9
    refine hK.out _ _ (HS2.out w9 hS.grown (fl_cells HF9.out.blk).2.1) (fun hHeld => ?_)
    clear hK hS hF9
    refine wpAnyH_done (by kernel_rfl) ?_ _
    go_wp2
    go_end0
    exact SEnds.good HG9.out rfl HF9.out

set_option maxRecDepth 100000 in
set_option maxHeartbeats 2000000 in
theorem speak29 (c : FC) (F B : Nat) (top : Option Addr) (st : List Int) (f : Vf.Fl) (n : Int) (row : Value) (nn : Int) (k : Nat) (u : Vf.Un) (hu : Hid (c.m.units[k]? = some u)) (hp : Hid (0 ≤ u.params ∧ u.params ≤ u.locals.length ∧ u.locals.length ≤ 200)) (hun : c.m.units.length ≤ 30) (pl : List Int) (hpl : Hid (pl = u.locals.take u.params.toNat)) (w : World) (h : Hid (FlIn c w F top st f n row)) (hE : Hid (Env c B F w)) (hl : st.length ≤ 300) (r : Except Int (List Int)) (hr : Hid (r = Vf.turn (10 + (k : Int)) pl st)) :
    Calls Try.prog 75 #[.pointer (some ⟨F, 0, none⟩), .agg #[.int .i64 29, .int .i64 (k : Int), .int .i64 nn]] w fun e w' => SEnds c F f n row r w e w' := by
  have hlt := hE.out.lt
  have hBF := hE.out.base
  obtain ⟨b, off, al, cl, ac, cc, ha, hb, hui, u0, u1, u2, u3, u4, u5⟩ := hE.out.md.units k u hu.out
  have hku : k < c.m.units.length := (List.getElem?_eq_some_iff.1 hu.out).1
  have hk1 : (k : Int) < (c.m.units.length : Int) := by omega
  have hF0 := hide (h.out.alloc (insO 29 (k : Int) nn))
  have d1 : (w.alloc (insO 29 (k : Int) nn)).cell? ⟨F, 1, none⟩ = some (.slice (some ⟨b, off, none⟩) c.m.units.length c.cu) := by have := (fl_cells hF0.out.blk).2.1; rw [ha] at this; exact this
  have d2 : (w.alloc (insO 29 (k : Int) nn)).cell? ⟨w.heap.size, 1, none⟩ = some (.int .i64 (k : Int)) := (ins_cells (alloc_at w _)).2.1
  have d3 : (w.alloc (insO 29 (k : Int) nn)).cell? ⟨b, off + k * 6 + 3, none⟩ = some (.int .i64 u.result) := (cell_new _ _ (by omega)).trans u3
  have HA := hide ha
  clear hui u0 u1 u2 u3 u4 u5 ha
  have hpll : pl.length < 1000 := by rw [hpl.out]; have := hp.out.2.2; simp; omega
  have e10 : IntKind.i64.wrap (10 + (k : Int)) = 10 + (k : Int) := by simp [IntKind.wrap, IntKind.bits, IntKind.signed]; omega
  go_enter Try.func75, Try.ntmps75
  go_wp2_with fail
  refine wp_region_held_drew (S := fun w' => w'.cell? ⟨F, 1, none⟩ = some (.slice (some ⟨b, off, none⟩) c.m.units.length c.cu) ∧ w'.cell? ⟨w.heap.size, 1, none⟩ = some (.int .i64 (k : Int)) ∧ w'.cell? ⟨b, off + k * 6 + 3, none⟩ = some (.int .i64 u.result)) (by kernel_rfl) ⟨d1, d2, d3⟩ (fun hHeld => ?_)
  refine wpAnyH_take (i := 0) (oi := _) (v := ?_) rfl (by kernel_rfl) (by kernel_rfl) (by kernel_rfl) (fun _ _ _ h => h) (Or.inl ⟨by rfl, ?_⟩) (by assumption) ?_
  rotate_left
  · intro w hSw
    (try dsimp only at hSw)
    go_simp
    (try with_reducible rfl)
  (try go_frame)
  refine wpAnyH_take (i := 1) (oi := _) (v := ?_) rfl (by kernel_rfl) (by kernel_rfl) (by kernel_rfl) (fun _ _ _ h => h) (Or.inl ⟨by rfl, ?_⟩) (by assumption) ?_
  rotate_left
  · intro w hSw
    (try dsimp only at hSw)
    go_simp
    (try with_reducible rfl)
  (try go_frame)
  refine wpAnyH_take (i := 2) (oi := _) (v := ?_) rfl (by kernel_rfl) (by kernel_rfl) (by kernel_rfl) (fun _ _ _ h => h) (Or.inl ⟨by rfl, ?_⟩) (by assumption) ?_
  rotate_left
  · intro w hSw
    (try dsimp only at hSw)
    go_simp
    (try with_reducible rfl)
  (try go_frame)
  refine wpAnyH_take (i := 3) (oi := _) (v := ?_) rfl (by kernel_rfl) (by kernel_rfl) (by kernel_rfl) (fun _ _ _ h => h) (Or.inl ⟨by rfl, ?_⟩) (by assumption) ?_
  rotate_left
  · intro w hSw
    (try dsimp only at hSw)
    go_simp
    (try with_reducible rfl)
  (try go_frame)
  refine wpAnyH_take (i := 4) (oi := _) (v := ?_) rfl (by kernel_rfl) (by kernel_rfl) (by kernel_rfl) (fun _ _ _ h => h) (Or.inl ⟨by rfl, ?_⟩) (by assumption) ?_
  rotate_left
  · intro w hSw
    (try dsimp only at hSw)
    go_simp
    (try with_reducible rfl)
  (try go_frame)
  refine wpAnyH_take (i := 5) (oi := _) (v := ?_) rfl (by kernel_rfl) (by kernel_rfl) (by kernel_rfl) (fun _ _ _ h => h) (Or.inl ⟨by rfl, ?_⟩) (by assumption) ?_
  rotate_left
  · intro w hSw
    (try dsimp only at hSw)
    go_simp
    (try with_reducible rfl)
  (try go_frame)
  refine wpAnyH_take (i := 6) (oi := _) (v := ?_) rfl (by kernel_rfl) (by kernel_rfl) (by kernel_rfl) (fun _ _ _ h => h) (Or.inl ⟨by rfl, ?_⟩) (by assumption) ?_
  rotate_left
  · intro w hSw
    (try dsimp only at hSw)
    go_simp
    (try with_reducible rfl)
  (try go_frame)
  refine wpAnyH_ready (rs := [7]) (by kernel_rfl) (by simp) ?_
  refine AllReadyH.cons (o := _) rfl (fun K hK => ?_) AllReadyH.nil
  go_simp
  refine (params_any c F B top st f n row k u _ (hide hF0.out.drew) (hide (hE.out.grown (grown_new _)).drew) hu hp pl hpl).mono ?_
  rintro e w2 ⟨⟨a2, cp, rfl, hI⟩, hg2, hF2⟩
  have HG2 : Hid (w.grownBy w2 (some F)) := grown_tr (grown_new _) (grown_drew hg2)
  have HS2 : Hid (∀ w3, w2.grownBy w3 (some F) → w3.cell? ⟨F, 1, none⟩ = some (.slice c.au c.m.units.length c.cu) → (w3.cell? ⟨F, 1, none⟩ = some (.slice (some ⟨b, off, none⟩) c.m.units.length c.cu) ∧ w3.cell? ⟨w.heap.size, 1, none⟩ = some (.int .i64 (k : Int)) ∧ w3.cell? ⟨b, off + k * 6 + 3, none⟩ = some (.int .i64 u.result))) := fun w3 hg3 h1 => ⟨by rw [h1, HA.out], (cell_eq (kept (grown_tr (grown_drew hg2) hg3) (by simp) (by omega)) _).trans d2, (cell_eq (kept (grown_tr (grown_drew hg2) hg3) (by simp; omega) (by omega)) _).trans d3⟩
  have HF2 := hide hF2
  have HI := hide hI
  refine hK.out _ _ (HS2.out w2 (grown_refl _ _) (fl_cells hF2.blk).2.1) (fun hHeld => ?_)
  clear hK hI hF2 hg2
  refine wpAnyH_ready (rs := [8]) (by kernel_rfl) (by simp) ?_
  refine AllReadyH.cons (o := _) rfl (fun K hK => ?_) AllReadyH.nil
  go_simp
  refine (turn_any c F B top st f n row (10 + (k : Int)) pl a2 cp _ HF2 (by omega) hpll HI (by have := HG2.out.size; omega) (hide (fun b off _ hb => by omega)) r hr).mono ?_
  rintro e w9 hS
  have HG9 : Hid (w.grownBy w9 (some F)) := grown_tr HG2.out hS.grown
  cases r with
  | error er =>
    obtain rfl := hS.no er rfl
    clear hS hK
    go_wp2
    exact ⟨rfl, SEnds.bad HG9.out rfl⟩
  | ok st9 =>
    obtain ⟨rfl, top9, hF9⟩ := hS.yes st9 rfl
    have HF9 := hide hF9
    refine hK.out _ _ (HS2.out w9 hS.grown (fl_cells HF9.out.blk).2.1) (fun hHeld => ?_)
    clear hK hS hF9
    refine wpAnyH_done (by kernel_rfl) ?_ _
    go_wp2
    go_end0
    exact SEnds.good HG9.out rfl HF9.out

end Go.Proofs.Ytlpgfgcfkiefnaa

