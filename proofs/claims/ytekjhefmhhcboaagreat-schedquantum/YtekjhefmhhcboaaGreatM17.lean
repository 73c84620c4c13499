/- The walk of state at a receiving; Ready. -/
import Derived.Test.YtekjhefmhhcboaaGreatM16
namespace Go.Proofs.YtekjhefmhhcboaaGreat.Vw
open Go.RowKit Vf Vm

section
variable {β : Type} (E : Env β) (X : Bxs β) (c : Cx) (vB ev : Value) (o T : Nat) (L : Lab) (P : Nat → Nat) (w : World) (t : Tk) (x : β) (vR vO : Value) (H : Hid (St E c vB ev o T L P w t x vR vO))
include H
set_option maxRecDepth 100000 in
set_option maxHeartbeats 4000000 in
theorem state_recv (hX : Hid (BoxesAt E X c vB)) (f : Wk) (rs : List Wk) (u : Un) (i : Ins) (hs : Hid (AtOk c t f rs u i)) (ho : t.over = 0) (h27 : i.op = 27) (bb : Bool) (hbb : Hid (X.empty x i.a.toNat = bb)) (s q : Nat) (hsq : Hid ((s, q) = if bb = true then (3, i.a.toNat) else (1, 0))) :
    Calls Tryz.prog 42 #[.pointer (some ⟨T, 0, none⟩)] w fun e w' => e = .returned (.tuple #[.int .i64 s, .int .i64 q]) ∧ Below w.heap.size w w' := by
  have HOV := Sb.hide ho
  obtain ⟨n, hn, hnb⟩ := hs.out.box (.inr h27)
  obtain ⟨b, off, cap, ty, p, fF, fE, fP, fT, hv, hcell, hB⟩ := hX.out.at' n hnb
  obtain ⟨nb, hnbe⟩ : ∃ m, m = c.m.boxes.length := ⟨_, rfl⟩
  rw [← hnbe] at hv hnb
  have HV := Sb.hide hv
  have HC := Sb.hide hcell
  have HB := Sb.hide hB
  have HNN := Sb.hide hn
  have n0 : (0 : Int) ≤ (n : Int) := by omega
  have n1 : (n : Int) < (nb : Int) := by omega
  clear hv hcell hnbe hn
  have HFL : Hid (X.empty x n = bb) := by unfold Hid; have := hbb.out; rw [HNN.out, Int.toNat_natCast] at this; exact this
  have e26 : (i.op == 26) = false := by simp; omega
  have e27 : (i.op == 27) = true := by simpa using h27
  have hrun := hB.runE
  clear ho h27 hB
  obtain ⟨h, S, g, r, vU, hh, hT, htop⟩ := H.out.at
  have hf : h.fs = f :: rs := by rw [← htop]; exact hs.out.fs
  have d0 := handCell H.out
  have d6 := (tk_cells H.out.tk.blk).2.2.2.2.2.2.1
  rw [HOV.out] at d6
  have HF := Sb.hide hf
  have HT := Sb.hide hT
  have HUN := Sb.hide hs.out.un
  have HCD := Sb.hide hs.out.code
  have hTz := lt_of_block H.out.tk.blk
  clear hf hh hT htop
  go_enter Tryz.func42, Tryz.ntmps42
  go_wp2_with fail
  refine (next_any c L o t.hand P _ h S g r vU HT (Sb.hide H.out.cx) (Sb.hide H.out.ok) f rs HF u HUN i HCD).mono ?_
  rintro e w1 ⟨rfl, hb1⟩
  have hz1 := hb1.size
  have HB2 : Hid (Below w.heap.size w (w1.alloc (inO i))) := hb1.alloc hb1.size _
  have HS2 := Sb.hide (H.out.below HB2.out)
  have hxb : (w1.alloc (inO i)).heap[w1.heap.size]? = some (inO i) := heap_alloc_new w1 _
  have HXB := Sb.hide hxb
  clear hb1 d0 d6 hxb
  have b1 := (tk_cells HS2.out.tk.blk).2.1
  rw [HV.out] at b1
  have bc := HC.out _ _ _ _ HS2.out.en
  obtain ⟨q0, q1, q2⟩ := in_cells HXB.out
  rw [HNN.out] at q1
  go_wp2
  go_quiet (fail)
  rename_i nq
  go_upto_region 6 with fail
  generalize w1.alloc (inO i) = W2 at *
  have s0 : (W2.drew.cell? ⟨w1.heap.size, 0, none⟩ = some (.int .i64 i.op) ∧ W2.drew.cell? ⟨w1.heap.size, 1, none⟩ = some (.int .i64 n)) ∧ W2.drew.cell? ⟨T, 1, none⟩ = some (.slice (some ⟨b, off, none⟩) nb cap) ∧ W2.drew.cell? ⟨b, off + n, none⟩ = some (.iface ty p) := ⟨⟨q0, q1⟩, b1, bc⟩
  refine wp_region_held_drew (S := fun w' => (w'.cell? ⟨w1.heap.size, 0, none⟩ = some (.int .i64 i.op) ∧ w'.cell? ⟨w1.heap.size, 1, none⟩ = some (.int .i64 n)) ∧ w'.cell? ⟨T, 1, none⟩ = some (.slice (some ⟨b, off, none⟩) nb cap) ∧ w'.cell? ⟨b, off + n, none⟩ = some (.iface ty p)) (by kernel_rfl) s0 (fun hHeld => ?_)
  refine wpAnyH_take (i := 0) (oi := _) (v := ?_) rfl (by kernel_rfl) (by kernel_rfl) (by kernel_rfl) (fun _ _ _ h => h) (Or.inl ⟨by rfl, ?_⟩) (by assumption) ?_
  rotate_left
  · intro w hSw
    (try dsimp only at hSw)
    go_simp
    (try with_reducible rfl)
  (try simp only [Act.put])
  refine wpAnyH_take (i := 1) (oi := _) (v := ?_) rfl (by kernel_rfl) (by kernel_rfl) (by kernel_rfl) (fun _ _ _ h => h) (Or.inl ⟨by rfl, ?_⟩) (by assumption) ?_
  rotate_left
  · intro w hSw
    (try dsimp only at hSw)
    go_simp
    (try with_reducible rfl)
  (try simp only [Act.put])
  refine wpAnyH_take (i := 2) (oi := _) (v := ?_) rfl (by kernel_rfl) (by kernel_rfl) (by kernel_rfl) (fun _ _ _ h => h) (Or.inl ⟨by rfl, ?_⟩) (by assumption) ?_
  rotate_left
  · intro w hSw
    (try dsimp only at hSw)
    go_simp
    (try with_reducible rfl)
  (try simp only [Act.put])
  refine wpAnyH_take (i := 3) (oi := _) (v := ?_) rfl (by kernel_rfl) (by kernel_rfl) (by kernel_rfl) (fun _ _ _ h => h) (Or.inl ⟨by rfl, ?_⟩) (by assumption) ?_
  rotate_left
  · intro w hSw
    (try dsimp only at hSw)
    go_simp
    (try with_reducible rfl)
  (try simp only [Act.put])
  refine wpAnyH_take (i := 8) (oi := _) (v := ?_) rfl (by kernel_rfl) (by kernel_rfl) (by kernel_rfl) (fun _ _ _ h => h) (Or.inl ⟨by rfl, ?_⟩) (by assumption) ?_
  rotate_left
  · intro w hSw
    (try dsimp only at hSw)
    go_simp
    (try with_reducible rfl)
  (try simp only [Act.put])
  refine wpAnyH_take (i := 9) (oi := _) (v := ?_) rfl (by kernel_rfl) (by kernel_rfl) (by kernel_rfl) (fun _ _ _ h => h) (Or.inl ⟨by rfl, ?_⟩) (by assumption) ?_
  rotate_left
  · intro w hSw
    (try dsimp only at hSw)
    go_simp
    (try with_reducible rfl)
  (try simp only [Act.put])
  refine wpAnyH_ready (rs := [4]) (by kernel_rfl) (by simp) ?_
  refine AllReadyH.cons (o := _) rfl (fun K hK => ?_) AllReadyH.nil
  go_simp
  refine hK.out _ _ s0 (fun hHeld => ?_)
  clear hK K
  refine wpAnyH_take (i := 5) (oi := _) (v := ?_) rfl (by kernel_rfl) (by kernel_rfl) (by kernel_rfl) (fun _ _ _ h => h) (Or.inl ⟨by rfl, ?_⟩) (by assumption) ?_
  rotate_left
  · intro w hSw
    (try dsimp only at hSw)
    go_simp
    (try with_reducible rfl)
  (try simp only [Act.put])
  refine wpAnyH_take (i := 6) (oi := _) (v := ?_) rfl (by kernel_rfl) (by kernel_rfl) (by kernel_rfl) (fun _ _ _ h => h) (Or.inl ⟨by rfl, ?_⟩) (by assumption) ?_
  rotate_left
  · intro w hSw
    (try dsimp only at hSw)
    go_simp
    (try with_reducible rfl)
  (try simp only [Act.put])
  refine wpAnyH_take (i := 7) (oi := _) (v := ?_) rfl (by kernel_rfl) (by kernel_rfl) (by kernel_rfl) (fun _ _ _ h => h) (Or.inl ⟨by rfl, ?_⟩) (by assumption) ?_
  rotate_left
  · intro w hSw
    (try dsimp only at hSw)
    go_simp
    (try with_reducible rfl)
  (try simp only [Act.put])
  refine wpAnyH_ready (rs := [10]) (by kernel_rfl) (by simp) ?_
  refine AllReadyH.cons (o := _) rfl (fun K hK => ?_) AllReadyH.nil
  go_simp
  refine hK.out _ _ s0 (fun hHeld => ?_)
  clear hK K
  refine wpAnyH_take (i := 11) (oi := _) (v := ?_) rfl (by kernel_rfl) (by kernel_rfl) (by kernel_rfl) (fun _ _ _ h => h) (Or.inl ⟨by rfl, ?_⟩) (by assumption) ?_
  rotate_left
  · intro w hSw
    (try dsimp only at hSw)
    go_simp
    (try with_reducible rfl)
  (try simp only [Act.put])
  refine wpAnyH_ready (rs := [12]) (by kernel_rfl) (by simp) ?_
  refine AllReadyH.cons (o := _) rfl (fun K hK => ?_) AllReadyH.nil
  go_simp
  refine (HB.out.empty L _ _ x (Sb.hide (HS2.out.below (below_drewN (Below.refl _ _) nq)).drew.en)).mono ?_
  rintro e w' ⟨rfl, d2, rfl⟩
  rw [HFL.out]
  refine hK.out _ _ s0 (fun hHeld => ?_)
  clear hK K
  have HSQ := Sb.hide hsq.out
  cases bb with
  | true =>
    refine wpAnyH_ready (rs := [13]) (by kernel_rfl) (by simp) ?_
    refine AllReadyH.cons (o := _) rfl (fun K hK => ?_) AllReadyH.nil
    go_simp
    refine hK.out _ _ s0 (fun hHeld => ?_)
    clear hK K
    refine wpAnyH_ready (rs := [14]) (by kernel_rfl) (by simp) ?_
    refine AllReadyH.cons (o := _) rfl (fun K hK => ?_) AllReadyH.nil
    go_simp
    refine hK.out _ _ s0 (fun hHeld => ?_)
    clear hK K
    refine wpAnyH_done (by kernel_rfl) ?_ _
    clear s0 hHeld hrun
    go_wp2
    go_quiet (fail)
    go_wp2
    go_ret2
    refine ⟨?_, ⟨HB2.out.os, HB2.out.tape, HB2.out.output, HB2.out.size, HB2.out.block⟩⟩
    have h1 := HSQ.out
    rw [if_pos trivial] at h1
    simp only [Prod.mk.injEq] at h1
    rw [h1.1, h1.2, HNN.out, Int.toNat_natCast]
    rfl
  | false =>
    refine wpAnyH_ready (rs := [13]) (by kernel_rfl) (by simp) ?_
    refine AllReadyH.cons (o := _) rfl (fun K hK => ?_) AllReadyH.nil
    go_simp
    refine hK.out _ _ s0 (fun hHeld => ?_)
    clear hK K
    refine wpAnyH_ready (rs := [14]) (by kernel_rfl) (by simp) ?_
    refine AllReadyH.cons (o := _) rfl (fun K hK => ?_) AllReadyH.nil
    go_simp
    refine hK.out _ _ s0 (fun hHeld => ?_)
    clear hK K
    refine wpAnyH_done (by kernel_rfl) ?_ _
    clear s0 hHeld hrun bc b1 hnb n0 n1
    go_wp2
    go_ret2
    refine ⟨?_, ⟨HB2.out.os, HB2.out.tape, HB2.out.output, HB2.out.size, HB2.out.block⟩⟩
    have h1 := HSQ.out
    rw [if_neg (by simp)] at h1
    simp only [Prod.mk.injEq] at h1
    rw [h1.1, h1.2]
    rfl

/-- WHAT state ANSWERS. -/
theorem state_any (hX : Hid (BoxesAt E X c vB)) (hs : Hid (t.over = 0 → ∃ f rs u i, AtOk c t f rs u i)) :
    Calls Tryz.prog 42 #[.pointer (some ⟨T, 0, none⟩)] w fun e w' => e = .returned (.tuple #[.int .i64 (stat X c.m t x).1, .int .i64 (stat X c.m t x).2]) ∧ Below w.heap.size w w' := by
  by_cases ho : t.over = 0
  · obtain ⟨f, rs, u, i, h⟩ := hs.out ho
    have hi := h.ins
    unfold stat
    rw [if_neg (by omega), hi]
    by_cases h26 : i.op = 26
    · refine (state_send E X c vB ev o T L P w t x vR vO H hX f rs u i h ho h26 (X.full x i.a.toNat) (Sb.hide rfl) _ _ (Sb.hide rfl)).mono ?_
      rintro e w' ⟨rfl, hb⟩
      refine ⟨?_, hb⟩
      cases hf : X.full x i.a.toNat with
      | true => rw [if_pos ⟨h26, rfl⟩]; rfl
      | false => rw [if_neg (by simp), if_neg (by omega)]; rfl
    · rw [if_neg (fun hx => h26 hx.1)]
      by_cases h27 : i.op = 27
      · refine (state_recv E X c vB ev o T L P w t x vR vO H hX f rs u i h ho h27 (X.empty x i.a.toNat) (Sb.hide rfl) _ _ (Sb.hide rfl)).mono ?_
        rintro e w' ⟨rfl, hb⟩
        refine ⟨?_, hb⟩
        cases hf : X.empty x i.a.toNat with
        | true => rw [if_pos ⟨h27, rfl⟩]; rfl
        | false => rw [if_neg (by simp)]; rfl
      · rw [if_neg (fun hx => h27 hx.1)]
        exact state_plain E c vB ev o T L P w t x vR vO H f rs u i h ho h26 h27
  · unfold stat
    rw [if_pos ho]
    exact state_over E c vB ev o T L P w t x vR vO H ho

set_option maxHeartbeats 1000000 in
/-- WHAT Ready ANSWERS. -/
theorem ready_any (hX : Hid (BoxesAt E X c vB)) (hs : Hid (t.over = 0 → ∃ f rs u i, AtOk c t f rs u i)) (b : Bool) (hb : Hid (b = ((stat X c.m t x).1 == 1))) :
    Calls Tryz.prog 39 #[.pointer (some ⟨T, 0, none⟩)] w fun e w' => e = .returned (.bool b) ∧ Below w.heap.size w w' := by
  obtain ⟨s, hs1⟩ : ∃ s, s = (stat X c.m t x).1 := ⟨_, rfl⟩
  obtain ⟨q, hq1⟩ : ∃ q, q = (stat X c.m t x).2 := ⟨_, rfl⟩
  have HS := Sb.hide hs1
  have HQ := Sb.hide hq1
  have e1 : ((s : Int) == 1) = b := by rw [hb.out, ← hs1, Bool.eq_iff_iff]; simp; omega
  clear hs1 hq1
  go_enter Tryz.func39, Tryz.ntmps39
  go_wp2_with fail
  refine (state_any E X c vB ev o T L P _ t x vR vO H hX hs).mono ?_
  rintro e w1 ⟨rfl, hb1⟩
  rw [← HS.out, ← HQ.out]
  have HB1 := Sb.hide hb1
  clear hb1
  go_wp2
  go_ret
  exact ⟨rfl, HB1.out⟩
end
end Go.Proofs.YtekjhefmhhcboaaGreat.Vw

/- The walk of Run: WHAT RUNNING A TASK LEAVES. -/
namespace Go.Proofs.YtekjhefmhhcboaaGreat.Vw
open Go.RowKit Vf Vm

/-- What is kept, step by step. -/
structure Keeps {β : Type} (X : Bxs β) (c : Cx) (I : Nat → Tk → β → Prop) : Prop where
  at' : ∀ n t x, I n t x → t.over = 0 → ∃ f rs u i, AtOk c t f rs u i
  step : ∀ n t x, n ≤ 1000000 → (∀ (j : Nat) h, t.ths[j]? = some h → h.ws.length ≤ 400) → I n t x → (stat X c.m t x).1 = 1 → ∃ f rs u i, StepOk X c t x f rs u i ∧ I (n + 1) (one X c.m t x).1 (one X c.m t x).2

theorem stepOk_ins {β : Type} {X : Bxs β} {c : Cx} {t : Tk} {x : β} {f : Wk} {rs : List Wk} {u : Un} {i : Ins} (h : StepOk X c t x f rs u i) : t.frame = f ∧ t.ins c.m = i := by
  have e : t.frame = f := by simp [Tk.frame, h.fs]
  exact ⟨e, by simp [Tk.ins, e, unit_of h.un, h.code]⟩

section
variable {β : Type} (E : Env β) (X : Bxs β) (c : Cx) (vB : Value) (N : Nat) (caps : Array Value) (hN : Hid (Hears E c N caps)) (hX : Hid (BoxesAt E X c vB)) (I : Nat → Tk → β → Prop) (hI : Hid (Keeps X c I)) (o T : Nat)
include hN hX hI

/-- What holds at the head of Run's loop. -/
def RnAt (L : Lab) (w : World) (n0 most : Nat) (t : Tk) (x : β) (k : Nat) (wr : World) : Prop :=
  k ≤ most ∧ ∃ t' x', WPost E c vB (.func (.func N) #[] caps) o T L w wr t' x' ∧ I (n0 + k) t' x' ∧ go X c.m most t x = ((go X c.m (most - k) t' x').1 + k, (go X c.m (most - k) t' x').2)

set_option maxRecDepth 100000 in
set_option maxHeartbeats 2000000 in
/-- WHAT Run ANSWERS. -/
theorem run_any (L : Lab) (P : Nat → Nat) (w : World) (t : Tk) (x : β) (vR vO : Value) (H : Hid (St E c vB (.func (.func N) #[] caps) o T L P w t x vR vO)) (n0 most : Nat) (hm : n0 + most ≤ 1000000) (h0 : Hid (I n0 t x)) :
    Calls Tryz.prog 41 #[.pointer (some ⟨T, 0, none⟩), .int .i64 most] w fun e w' => e = .returned (.int .i64 (go X c.m most t x).1) ∧ WPost E c vB (.func (.func N) #[] caps) o T L w w' (go X c.m most t x).2.1 (go X c.m most t x).2.2 ∧ I (n0 + (go X c.m most t x).1) (go X c.m most t x).2.1 (go X c.m most t x).2.2 := by
  obtain ⟨R, hR⟩ : ∃ R, R = go X c.m most t x := ⟨_, rfl⟩
  have HMM := Sb.hide hm
  have hm2 : most ≤ 1000000 := by omega
  clear hm
  rw [← hR]
  have HR := Sb.hide hR
  have HST : Hid (RnAt E X c vB N caps I o T L w n0 most t x 0 w) := ⟨Nat.zero_le _, t, x, WPost.refl H.out, h0.out, by simp⟩
  clear hR
  go_enter Tryz.func41, Tryz.ntmps41
  go_wp2
  go_loopw [5] (fun s wr => ∃ k : Nat, s = .int .i64 k ∧ RnAt E X c vB N caps I o T L w n0 most t x k wr) (fun s _ => most - (intOf s).toNat)
  case atStart => exact ⟨0, rfl, HST.out⟩
  case round =>
    obtain ⟨k, rfl, hk, t', x', hW, hIk, hgo⟩ := hrel
    have HGO := Sb.hide hgo
    have HIK := Sb.hide hIk
    have HW0 := Sb.hide hW
    clear hgo hIk hW HST
    by_cases hlt : k < most
    · obtain ⟨L1, P1, vR1, vO1, s1, q1, k1⟩ := HW0.out
      have S1 := Sb.hide s1
      have E1 := Sb.hide q1
      have C1 := Sb.hide k1
      have nlt : (k : Int) < (most : Int) := by omega
      have HAT : Hid (t'.over = 0 → ∃ f rs u i, AtOk c t' f rs u i) := hI.out.at' _ _ _ HIK.out
      clear s1 q1 k1
      by_cases hst : (stat X c.m t' x').1 = 1
      · have HS := Sb.hide hst
        clear hst
        go_wp2_with fail
        refine (ready_any E X c vB _ o T L1 P1 _ t' x' vR1 vO1 S1 hX HAT true (Sb.hide (by rw [HS.out]; rfl))).mono ?_
        rintro e w2 ⟨rfl, hb2⟩
        have HB2 := Sb.hide hb2
        obtain ⟨f, rs, u, i, hOk, hI2⟩ := hI.out.step _ _ _ (by have := HMM.out; omega) (fun j h hh => by
          obtain ⟨S, g, r, vU, hT⟩ := S1.out.tk.ths j h hh
          exact Nat.le_trans hT.stack.2.2.1 hT.stack.2.2.2.1) HIK.out HS.out
        have HOK := Sb.hide hOk
        obtain ⟨ef, ei⟩ := stepOk_ins hOk
        have HEI := Sb.hide ei
        have HEF := Sb.hide ef
        have HI2 := Sb.hide hI2
        clear hb2 hOk ef ei hI2
        go_wp2_with fail
        refine (step_any E X c vB N caps hN o T L1 P1 _ t' x' vR1 vO1 (Sb.hide (S1.out.below HB2.out)) hX f rs u i HOK).mono ?_
        rintro e w3 ⟨rfl, hW3⟩
        have HREL : Hid (RnAt E X c vB N caps I o T L w n0 most t x (k + 1) w3) := by
          refine ⟨hlt, (one X c.m t' x').1, (one X c.m t' x').2, ?_, HI2.out, ?_⟩
          · have e1 : (one X c.m t' x').1 = (t'.goto (f.pc + 1)).act c.m i (X.head x' i.a.toNat) := by unfold one Tk.step; rw [HEF.out, HEI.out]
            have e2 : (one X c.m t' x').2 = stX X i (t'.goto (f.pc + 1)).last x' := by unfold one; rw [HEF.out, HEI.out]
            rw [e1, e2]
            exact (hW3.under HB2.out).trans E1.out C1.out
          · rw [HGO.out]
            have e3 : most - k = (most - (k + 1)) + 1 := by omega
            rw [e3]
            show ((if (stat X c.m t' x').1 = 1 then _ else _ : Nat × Tk × β).1 + k, (if (stat X c.m t' x').1 = 1 then _ else _ : Nat × Tk × β).2) = _
            rw [if_pos HS.out]
            simp only [Prod.mk.injEq, and_true]
            omega
        clear hW3
        go_wp2
        go_roundw
        case rel => exact ⟨k + 1, by go_num, HREL.out⟩
        case measure => simp [intOf]; omega
      · have HS := Sb.hide hst
        clear hst
        have HFIN : Hid (R = (k, t', x')) := by
          unfold Hid
          rw [HR.out, HGO.out]
          have e3 : most - k = (most - (k + 1)) + 1 := by omega
          rw [e3]
          show ((if (stat X c.m t' x').1 = 1 then _ else _ : Nat × Tk × β).1 + k, (if (stat X c.m t' x').1 = 1 then _ else _ : Nat × Tk × β).2) = _
          rw [if_neg HS.out]
          simp
        go_wp2_with fail
        refine (ready_any E X c vB _ o T L1 P1 _ t' x' vR1 vO1 S1 hX HAT false (Sb.hide (by have := HS.out; simpa using this))).mono ?_
        rintro e w2 ⟨rfl, hb2⟩
        have HB2 := Sb.hide hb2
        clear hb2
        go_wp2
        go_ret
        rw [HFIN.out]
        exact ⟨rfl, ((WPost.refl (S1.out.below HB2.out)).under HB2.out).trans E1.out C1.out, HIK.out⟩
    · have HFIN : Hid (R = (k, t', x')) := by
        unfold Hid
        rw [HR.out, HGO.out, show most - k = 0 by omega]
        simp [go]
      have nlt : ¬ (k : Int) < (most : Int) := by omega
      go_wp2
      go_ret
      rw [HFIN.out]
      exact ⟨rfl, HW0.out, HIK.out⟩
end
end Go.Proofs.YtekjhefmhhcboaaGreat.Vw

/- Nobody hears; the walk of newTask. -/
namespace Go.Proofs.YtekjhefmhhcboaaGreat.Vw
open Go.RowKit Vf Vm

set_option maxHeartbeats 400000 in
theorem nobody (e : Ev) (w : World) : Calls Tryz.prog 55 (#[evV e] ++ #[]) w fun r w' => r = .returned (.tuple #[]) ∧ Below w.heap.size w w' := by
  go_enter Tryz.func55, Tryz.ntmps55
  go_wp2
  go_end0
  exact ⟨rfl, (Below.refl _ w).alloc (Nat.le_refl _) _⟩

/-- A task is made round its first thread. -/
theorem made {c : Cx} {L1 : Lab} {o : Nat} {w1 : World} {Hn : Nat} {h : Th} {S g r : Nat} {vU : Value} (H : ThIn c L1 o 0 (fun _ => Hn) w1 h S g r vU) (hL : LOk c.B L1 w1) (hth : ∀ b, (L1 b).cls = 1 → (L1 b).idx = o → (L1 b).th ≤ 1) (vB ev : Value) :
    ∃ L', TkIn c vB ev L' o (w1.heap.size + 1) (fun _ => Hn) (((w1.setCell ⟨Hn, 2, none⟩ (.int .i64 2)).alloc (.cells #[.pointer (some ⟨Hn, 0, none⟩)] 100)).alloc (tkO c vB ev (.slice (some ⟨w1.heap.size, 0, none⟩) 1 1) Hn (.slice none 0 0) 0 0)) ⟨[{ h with stands := 2 }], 0, [], 0, 0, []⟩ (.slice (some ⟨w1.heap.size, 0, none⟩) 1 1) (.slice none 0 0) ∧
      LOk c.B L' (((w1.setCell ⟨Hn, 2, none⟩ (.int .i64 2)).alloc (.cells #[.pointer (some ⟨Hn, 0, none⟩)] 100)).alloc (tkO c vB ev (.slice (some ⟨w1.heap.size, 0, none⟩) 1 1) Hn (.slice none 0 0) 0 0)) ∧ ExW o L1 L' w1 := by
  obtain ⟨L2, S2, g2, r2, vU2, hT2, hE2, hL2, hC2⟩ := H.stood hL 2
  obtain ⟨w2, hw2⟩ : ∃ w2, w2 = w1.setCell ⟨Hn, 2, none⟩ (.int .i64 2) := ⟨_, rfl⟩
  have hz2 : w2.heap.size = w1.heap.size := by rw [hw2]; simp [World.setCell]
  change ThIn c L2 o 0 (fun _ => Hn) (w1.setCell ⟨Hn, 2, none⟩ (.int .i64 2)) _ _ _ _ _ at hT2
  change LOk c.B L2 (w1.setCell ⟨Hn, 2, none⟩ (.int .i64 2)) at hL2
  clear hC2
  rw [← hw2] at hT2 hL2 ⊢
  rw [← hz2]
  have old : ∀ b, b < w2.heap.size → ((w2.alloc (.cells #[.pointer (some ⟨Hn, 0, none⟩)] 100)).alloc (tkO c vB ev (.slice (some ⟨w2.heap.size, 0, none⟩) 1 1) Hn (.slice none 0 0) 0 0)).heap[b]? = w2.heap[b]? := fun b hb => (Below.heap_alloc _ _ _ (by simp; omega)).trans (Below.heap_alloc _ _ _ hb)
  have lab : ∀ b, b < w2.heap.size → (fun b => if b = w2.heap.size + 1 then (⟨1, o, 0, 4⟩ : Lb) else if b = w2.heap.size then ⟨1, o, 0, 5⟩ else L2 b) b = L2 b := fun b hb => by
    have e1 : ¬ b = w2.heap.size + 1 := by omega
    have e2 : ¬ b = w2.heap.size := by omega
    simp only [e1, e2, if_false]
  have hR : ((w2.alloc (.cells #[.pointer (some ⟨Hn, 0, none⟩)] 100)).alloc (tkO c vB ev (.slice (some ⟨w2.heap.size, 0, none⟩) 1 1) Hn (.slice none 0 0) 0 0)).heap[w2.heap.size]? = some (.cells #[.pointer (some ⟨Hn, 0, none⟩)] 100) := (Below.heap_alloc _ _ _ (by simp)).trans (heap_alloc_new w2 _)
  have hT : ((w2.alloc (.cells #[.pointer (some ⟨Hn, 0, none⟩)] 100)).alloc (tkO c vB ev (.slice (some ⟨w2.heap.size, 0, none⟩) 1 1) Hn (.slice none 0 0) 0 0)).heap[w2.heap.size + 1]? = some (tkO c vB ev (.slice (some ⟨w2.heap.size, 0, none⟩) 1 1) Hn (.slice none 0 0) 0 0) := by
    have := heap_alloc_new (w2.alloc (.cells #[.pointer (some ⟨Hn, 0, none⟩)] 100)) (tkO c vB ev (.slice (some ⟨w2.heap.size, 0, none⟩) 1 1) Hn (.slice none 0 0) 0 0)
    simpa using this
  refine ⟨fun b => if b = w2.heap.size + 1 then ⟨1, o, 0, 4⟩ else if b = w2.heap.size then ⟨1, o, 0, 5⟩ else L2 b, ⟨hT, ⟨rfl, .inr ⟨w2.heap.size, 1, #[.pointer (some ⟨Hn, 0, none⟩)], rfl, Nat.zero_le _, hR, Nat.le_refl _, by unfold maxLen; omega, rfl, rfl⟩⟩, ⟨rfl, .inl ⟨rfl, rfl⟩⟩, fun i h' hh => ?_, (by show 1 ≤ 31; omega), (by show 0 < 1; omega), by simp, fun b hb => (by cases hb; simp), fun b hb => (by cases hb), fun b h1 h2 => ?_⟩, ⟨fun b hb => ?_, fun b hb => ?_, by have := hL2.size; simp; omega⟩, ⟨fun b hb => (lab b (by omega)).trans (hE2.1 b hb), fun b => ?_⟩⟩
  · cases i with
    | zero =>
      cases hh
      exact ⟨S2, g2, r2, vU2, hT2.keep lab rfl rfl (fun b hb _ => old b hb)⟩
    | succ i => cases hh
  · show _ ≤ 1
    by_cases e1 : b = w2.heap.size + 1
    · simp only [e1, if_true]; omega
    · by_cases e2 : b = w2.heap.size
      · simp only [e2, if_true]; simp
      · simp only [e1, e2, if_false] at h1 h2 ⊢
        rcases hE2.2 b with e | e
        · rw [e] at h1 h2 ⊢; exact hth b h1 h2
        · omega
  · exact (congrArg Lb.cls (lab b (by have := hL2.size; omega))).trans (hL2.low b hb)
  · have hb' : w2.heap.size + 2 ≤ b := by simpa using hb
    have e1 : ¬ b = w2.heap.size + 1 := by omega
    have e2 : ¬ b = w2.heap.size := by omega
    simp only [e1, e2, if_false]
    exact hL2.new b (by omega)
  · by_cases e1 : b = w2.heap.size + 1
    · right; left; simp [e1]
    · by_cases e2 : b = w2.heap.size
      · right; left; simp [e2]
      · unfold WB EB
        simp only [e1, e2, if_false]
        rcases hE2.2 b with e | e
        · exact .inl e
        · exact .inr (.inl ⟨e.1, e.2.1⟩)

set_option maxRecDepth 100000 in
set_option maxHeartbeats 1000000 in
theorem newTask_any (c : Cx) (L : Lab) (o : Nat) (w : World) (hL : Hid (LOk c.B L w)) (hcx : Hid (CxIn c w)) (hfr : Hid (∀ b, ¬ ((L b).cls = 1 ∧ (L b).idx = o))) (ab : Option Addr) (cb : Nat) (sa : Option Addr) (sn sc n : Nat) (u : Un) (hu : Hid (c.m.units[n]? = some u)) (hp : u.params = 0) (hl2 : u.locals.length ≤ 200) :
    Calls Tryz.prog 38 #[.agg #[.slice ab c.m.boxes.length cb, .slice c.au c.m.units.length c.cu], .int .i64 n, .slice sa sn sc] w fun e w' => ∃ T L' P vR vO, e = .returned (.pointer (some ⟨T, 0, none⟩)) ∧ TkIn c (.slice sa sn sc) (.func (.func 55) #[] #[]) L' o T P w' (newTk u n) vR vO ∧ LOk c.B L' w' ∧ ExW o L L' w ∧ Below w.heap.size w w' := by
  have hmf : ∀ (fn : Fn) (first cap : Array Value) (w : World), (Instr.makeFunc fn first cap).run Tryz.prog w = .ok (.func fn first cap) w := fun _ _ _ _ => rfl
  obtain ⟨ub, uoff, al, cl, hau, hub, _, u0, u1, u2, u3, u4, u5⟩ := hcx.out.units n u hu.out
  have hnl : n < c.m.units.length := (List.getElem?_eq_some_iff.1 hu.out).1
  have hfew := hcx.out.few
  obtain ⟨ml, hml⟩ : ∃ m, m = c.m.units.length := ⟨_, rfl⟩
  have HAU := Sb.hide hau
  rw [hau, ← hml]
  rw [← hml] at hnl hfew
  have n0 : (0 : Int) ≤ (n : Int) := by omega
  have n1 : (n : Int) < (ml : Int) := by omega
  have HML := Sb.hide hml
  have hubz : ub < w.heap.size := by have := hL.out.size; omega
  have hne : ¬ w.heap.size = ub := by omega
  have hne2 : ¬ ub = w.heap.size := by omega
  have HP := Sb.hide hp
  have HX0 : Hid ((w.alloc (.cells #[.slice ab c.m.boxes.length cb, .slice (some ⟨ub, uoff, none⟩) ml c.cu] 25)).heap[w.heap.size]? = some (.cells #[.slice ab c.m.boxes.length cb, .slice (some ⟨ub, uoff, none⟩) ml c.cu] 25)) := heap_alloc_new w _
  clear hml hau hp
  go_enter Tryz.func38, Tryz.ntmps38
  go_wp2_with fail
  refine (newThread_th c L o 0 _ (Sb.hide (hL.out.on (by simp))) (Sb.hide (fun b hx => hfr.out b ⟨hx.1, hx.2.1⟩)) n u hu al cl (by rw [HP.out]; decide) (by rw [HP.out]; omega) hl2 [] (by rw [HP.out]; rfl) none 0 (Sb.hide (fun j x h => by cases h))).mono ?_
  rintro e w1 ⟨Hn, L1, rfl, hHz, hth, hE1, hL1, hB1⟩
  obtain ⟨S, g, r, vU, hT⟩ := hth (fun _ => Hn) rfl
  obtain ⟨t0, t1, t2, t3⟩ := hT.cells
  have fr := hT.free 2
  have HX1 : Hid (w1.heap[w.heap.size]? = some (.cells #[.slice ab c.m.boxes.length cb, .slice (some ⟨ub, uoff, none⟩) ml c.cu] 25)) := (hB1.block _ (by simp)).trans HX0.out
  have m1 : w1.cell? ⟨w.heap.size, 1, none⟩ = some (.slice (some ⟨ub, uoff, none⟩) ml c.cu) := by simp [World.cell?, HX1.out]
  have hHn : ¬ w.heap.size = Hn := by simp at hHz; omega
  have HT := Sb.hide hT
  have HE1 := Sb.hide hE1
  have HL1 := Sb.hide hL1
  have HB1 := Sb.hide hB1
  have HHz := Sb.hide hHz
  have hHw : Hn < w1.heap.size := lt_of_block hT.blk
  clear hth hT hE1 hL1 hB1 hHz
  go_wp2
  go_ret
  obtain ⟨L', k1, k2, k3⟩ := made HT.out HL1.out (fun b h1 h2 => by
    rcases HE1.out.2 b with e | e
    · rw [e] at h1 h2; exact absurd ⟨h1, h2⟩ (hfr.out b)
    · omega) (.slice sa sn sc) (.func (.func 55) #[] #[])
  have hHz := HHz.out
  have hBz := HB1.out.size
  simp at hHz hBz
  have hB0 : Below w.heap.size w w1 := ((Below.refl _ w).alloc (Nat.le_refl _) _).trans (HB1.out.mono (by simp))
  unfold tkO at k1 k2
  rw [HAU.out, ← HML.out] at k1 k2
  refine ⟨w1.heap.size + 1, L', fun _ => Hn, _, _, rfl, k1, k2, ?_, ?_⟩
  · have hEW : ExW o L L1 w := ⟨fun b hb => HE1.out.1 b (by simp; omega), fun b => (HE1.out.2 b).imp id (fun e => .inl ⟨e.1, e.2.1⟩)⟩
    exact hEW.trans k3 hB0.size
  · exact ((hB0.setCell (p := ⟨Hn, 2, none⟩) (by show w.heap.size ≤ Hn; omega) _).alloc (by simp [World.setCell]; omega) _).alloc (by simp [World.setCell]; omega) _
end Go.Proofs.YtekjhefmhhcboaaGreat.Vw

