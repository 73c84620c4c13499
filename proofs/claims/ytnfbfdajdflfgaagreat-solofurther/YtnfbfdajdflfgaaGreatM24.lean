/- The walks of state and Ready. -/
import Derived.Test.YtnfbfdajdflfgaaGreatM23
namespace Go.Proofs.YtnfbfdajdflfgaaGreat.Vw
open Go.RowKit Vf Vm

/-- Where a task is that goes on. -/
structure AtOk (c : Cx) (t : Tk) (f : Wk) (rs : List Wk) (u : Un) (i : Ins) : Prop where
  fs : t.top.fs = f :: rs
  un : c.m.units[f.u]? = some u
  code : u.code[f.pc]? = some i
  box : i.op = 26 ∨ i.op = 27 → ∃ n : Nat, i.a = n ∧ n < c.m.boxes.length
theorem AtOk.ins {c : Cx} {t : Tk} {f : Wk} {rs : List Wk} {u : Un} {i : Ins} (h : AtOk c t f rs u i) : t.ins c.m = i := by
  have e : t.frame = f := by simp [Tk.frame, h.fs]
  simp [Tk.ins, e, unit_of h.un, h.code]

theorem in_cells {i : Ins} {w : World} {Z : Nat} (hx : w.heap[Z]? = some (inO i)) : w.cell? ⟨Z, 0, none⟩ = some (.int .i64 i.op) ∧ w.cell? ⟨Z, 1, none⟩ = some (.int .i64 i.a) ∧ w.cell? ⟨Z, 2, none⟩ = some (.int .i64 i.n) := by
  simp [World.cell?, hx]

section
variable {β : Type} (E : Env β) (X : Bxs β) (c : Cx) (vB ev : Value) (o T : Nat) (L : Lab) (P : Nat → Nat) (w : World) (t : Tk) (x : β) (vR vO : Value) (H : Hid (St E c vB ev o T L P w t x vR vO))
include H


set_option maxRecDepth 100000 in
set_option maxHeartbeats 4000000 in
theorem state_over (ho : t.over ≠ 0) :
    Calls Tryz.prog 42 #[.pointer (some ⟨T, 0, none⟩)] w fun e w' => e = .returned (.tuple #[.int .i64 t.over, .int .i64 0]) ∧ Below w.heap.size w w' := by
  have d6 := (tk_cells H.out.tk.blk).2.2.2.2.2.2.1
  have e1 : ((t.over : Int) != 0) = true := by simp; omega
  clear ho
  go_enter Tryz.func42, Tryz.ntmps42
  go_wp2
  go_ret2
  exact ⟨rfl, Below.refl _ _⟩

set_option maxRecDepth 100000 in
set_option maxHeartbeats 4000000 in
theorem state_plain (f : Wk) (rs : List Wk) (u : Un) (i : Ins) (hs : Hid (AtOk c t f rs u i)) (ho : t.over = 0) (h26 : i.op ≠ 26) (h27 : i.op ≠ 27) :
    Calls Tryz.prog 42 #[.pointer (some ⟨T, 0, none⟩)] w fun e w' => e = .returned (.tuple #[.int .i64 1, .int .i64 0]) ∧ Below w.heap.size w w' := by
  have HOV := Sb.hide ho
  have e26 : (i.op == 26) = false := by simpa using h26
  have e27 : (i.op == 27) = false := by simpa using h27
  clear ho h26 h27
  obtain ⟨h, S, g, r, vU, hh, hT, htop⟩ := H.out.at
  have hf : h.fs = f :: rs := by rw [← htop]; exact hs.out.fs
  have d0 := handCell H.out
  have d6 := (tk_cells H.out.tk.blk).2.2.2.2.2.2.1
  rw [HOV.out] at d6
  have HF := Sb.hide hf
  have HT := Sb.hide hT
  have HUN := Sb.hide hs.out.un
  have HCD := Sb.hide hs.out.code
  have hTz := lt_of_block H.out.tk.blk
  clear hf hh hT htop
  go_enter Tryz.func42, Tryz.ntmps42
  go_wp2_with fail
  refine (next_any c L o t.hand P _ h S g r vU HT (Sb.hide H.out.cx) (Sb.hide H.out.ok) f rs HF u HUN i HCD).mono ?_
  rintro e w1 ⟨rfl, hb1⟩
  have hz1 := hb1.size
  have HB2 : Hid (Below w.heap.size w (w1.alloc (inO i))) := hb1.alloc hb1.size _
  have HS2 := Sb.hide (H.out.below HB2.out)
  have hxb : (w1.alloc (inO i)).heap[w1.heap.size]? = some (inO i) := heap_alloc_new w1 _
  have HXB := Sb.hide hxb
  clear hb1 d0 d6 hxb
  go_wp2
  go_quiet (fail)
  go_wp2
  go_quiet (fail)
  go_wp2
  go_ret2
  exact ⟨rfl, below_drewN (below_drewN HB2.out _) _⟩

set_option maxRecDepth 100000 in
set_option maxHeartbeats 4000000 in
theorem state_send (hX : Hid (BoxesAt E X c vB)) (f : Wk) (rs : List Wk) (u : Un) (i : Ins) (hs : Hid (AtOk c t f rs u i)) (ho : t.over = 0) (h26 : i.op = 26) (bb : Bool) (hbb : Hid (X.full x i.a.toNat = bb)) (s q : Nat) (hsq : Hid ((s, q) = if bb = true then (2, i.a.toNat) else (1, 0))) :
    Calls Tryz.prog 42 #[.pointer (some ⟨T, 0, none⟩)] w fun e w' => e = .returned (.tuple #[.int .i64 s, .int .i64 q]) ∧ Below w.heap.size w w' := by
  have HOV := Sb.hide ho
  obtain ⟨n, hn, hnb⟩ := hs.out.box (.inl h26)
  obtain ⟨b, off, cap, ty, p, fF, fE, fP, fT, hv, hcell, hB⟩ := hX.out.at' n hnb
  obtain ⟨nb, hnbe⟩ : ∃ m, m = c.m.boxes.length := ⟨_, rfl⟩
  rw [← hnbe] at hv hnb
  have HV := Sb.hide hv
  have HC := Sb.hide hcell
  have HB := Sb.hide hB
  have HNN := Sb.hide hn
  have n0 : (0 : Int) ≤ (n : Int) := by omega
  have n1 : (n : Int) < (nb : Int) := by omega
  clear hv hcell hnbe hn
  have HFL : Hid (X.full x n = bb) := by unfold Hid; have := hbb.out; rw [HNN.out, Int.toNat_natCast] at this; exact this
  have e26 : (i.op == 26) = true := by simpa using h26
  have e27 : (i.op == 27) = false := by simp; omega
  have hrun := hB.runF
  clear ho h26 hB
  obtain ⟨h, S, g, r, vU, hh, hT, htop⟩ := H.out.at
  have hf : h.fs = f :: rs := by rw [← htop]; exact hs.out.fs
  have d0 := handCell H.out
  have d6 := (tk_cells H.out.tk.blk).2.2.2.2.2.2.1
  rw [HOV.out] at d6
  have HF := Sb.hide hf
  have HT := Sb.hide hT
  have HUN := Sb.hide hs.out.un
  have HCD := Sb.hide hs.out.code
  have hTz := lt_of_block H.out.tk.blk
  clear hf hh hT htop
  go_enter Tryz.func42, Tryz.ntmps42
  go_wp2_with fail
  refine (next_any c L o t.hand P _ h S g r vU HT (Sb.hide H.out.cx) (Sb.hide H.out.ok) f rs HF u HUN i HCD).mono ?_
  rintro e w1 ⟨rfl, hb1⟩
  have hz1 := hb1.size
  have HB2 : Hid (Below w.heap.size w (w1.alloc (inO i))) := hb1.alloc hb1.size _
  have HS2 := Sb.hide (H.out.below HB2.out)
  have hxb : (w1.alloc (inO i)).heap[w1.heap.size]? = some (inO i) := heap_alloc_new w1 _
  have HXB := Sb.hide hxb
  clear hb1 d0 d6 hxb
  have b1 := (tk_cells HS2.out.tk.blk).2.1
  rw [HV.out] at b1
  have bc := HC.out _ _ _ _ HS2.out.en
  obtain ⟨q0, q1, q2⟩ := in_cells HXB.out
  rw [HNN.out] at q1
  go_upto_region 4 with fail
  generalize w1.alloc (inO i) = W2 at *
  have s0 : (W2.drew.cell? ⟨w1.heap.size, 0, none⟩ = some (.int .i64 i.op) ∧ W2.drew.cell? ⟨w1.heap.size, 1, none⟩ = some (.int .i64 n)) ∧ W2.drew.cell? ⟨T, 1, none⟩ = some (.slice (some ⟨b, off, none⟩) nb cap) ∧ W2.drew.cell? ⟨b, off + n, none⟩ = some (.iface ty p) := ⟨⟨q0, q1⟩, b1, bc⟩
  refine wp_region_held_drew (S := fun w' => (w'.cell? ⟨w1.heap.size, 0, none⟩ = some (.int .i64 i.op) ∧ w'.cell? ⟨w1.heap.size, 1, none⟩ = some (.int .i64 n)) ∧ w'.cell? ⟨T, 1, none⟩ = some (.slice (some ⟨b, off, none⟩) nb cap) ∧ w'.cell? ⟨b, off + n, none⟩ = some (.iface ty p)) (by kernel_rfl) s0 (fun hHeld => ?_)
  refine wpAnyH_take (i := 0) (oi := _) (v := ?_) rfl (by kernel_rfl) (by kernel_rfl) (by kernel_rfl) (fun _ _ _ h => h) (Or.inl ⟨by rfl, ?_⟩) (by assumption) ?_
  rotate_left
  · intro w hSw
    (try dsimp only at hSw)
    go_simp
    (try with_reducible rfl)
  (try simp only [Act.put])
  refine wpAnyH_take (i := 1) (oi := _) (v := ?_) rfl (by kernel_rfl) (by kernel_rfl) (by kernel_rfl) (fun _ _ _ h => h) (Or.inl ⟨by rfl, ?_⟩) (by assumption) ?_
  rotate_left
  · intro w hSw
    (try dsimp only at hSw)
    go_simp
    (try with_reducible rfl)
  (try simp only [Act.put])
  refine wpAnyH_take (i := 2) (oi := _) (v := ?_) rfl (by kernel_rfl) (by kernel_rfl) (by kernel_rfl) (fun _ _ _ h => h) (Or.inl ⟨by rfl, ?_⟩) (by assumption) ?_
  rotate_left
  · intro w hSw
    (try dsimp only at hSw)
    go_simp
    (try with_reducible rfl)
  (try simp only [Act.put])
  refine wpAnyH_take (i := 3) (oi := _) (v := ?_) rfl (by kernel_rfl) (by kernel_rfl) (by kernel_rfl) (fun _ _ _ h => h) (Or.inl ⟨by rfl, ?_⟩) (by assumption) ?_
  rotate_left
  · intro w hSw
    (try dsimp only at hSw)
    go_simp
    (try with_reducible rfl)
  (try simp only [Act.put])
  refine wpAnyH_take (i := 8) (oi := _) (v := ?_) rfl (by kernel_rfl) (by kernel_rfl) (by kernel_rfl) (fun _ _ _ h => h) (Or.inl ⟨by rfl, ?_⟩) (by assumption) ?_
  rotate_left
  · intro w hSw
    (try dsimp only at hSw)
    go_simp
    (try with_reducible rfl)
  (try simp only [Act.put])
  refine wpAnyH_take (i := 9) (oi := _) (v := ?_) rfl (by kernel_rfl) (by kernel_rfl) (by kernel_rfl) (fun _ _ _ h => h) (Or.inl ⟨by rfl, ?_⟩) (by assumption) ?_
  rotate_left
  · intro w hSw
    (try dsimp only at hSw)
    go_simp
    (try with_reducible rfl)
  (try simp only [Act.put])
  refine wpAnyH_ready (rs := [4]) (by kernel_rfl) (by simp) ?_
  refine AllReadyH.cons (o := _) rfl (fun K hK => ?_) AllReadyH.nil
  go_simp
  refine hK.out _ _ s0 (fun hHeld => ?_)
  clear hK K
  refine wpAnyH_take (i := 5) (oi := _) (v := ?_) rfl (by kernel_rfl) (by kernel_rfl) (by kernel_rfl) (fun _ _ _ h => h) (Or.inl ⟨by rfl, ?_⟩) (by assumption) ?_
  rotate_left
  · intro w hSw
    (try dsimp only at hSw)
    go_simp
    (try with_reducible rfl)
  (try simp only [Act.put])
  refine wpAnyH_take (i := 6) (oi := _) (v := ?_) rfl (by kernel_rfl) (by kernel_rfl) (by kernel_rfl) (fun _ _ _ h => h) (Or.inl ⟨by rfl, ?_⟩) (by assumption) ?_
  rotate_left
  · intro w hSw
    (try dsimp only at hSw)
    go_simp
    (try with_reducible rfl)
  (try simp only [Act.put])
  refine wpAnyH_take (i := 7) (oi := _) (v := ?_) rfl (by kernel_rfl) (by kernel_rfl) (by kernel_rfl) (fun _ _ _ h => h) (Or.inl ⟨by rfl, ?_⟩) (by assumption) ?_
  rotate_left
  · intro w hSw
    (try dsimp only at hSw)
    go_simp
    (try with_reducible rfl)
  (try simp only [Act.put])
  refine wpAnyH_ready (rs := [10]) (by kernel_rfl) (by simp) ?_
  refine AllReadyH.cons (o := _) rfl (fun K hK => ?_) AllReadyH.nil
  go_simp
  refine hK.out _ _ s0 (fun hHeld => ?_)
  clear hK K
  refine wpAnyH_take (i := 11) (oi := _) (v := ?_) rfl (by kernel_rfl) (by kernel_rfl) (by kernel_rfl) (fun _ _ _ h => h) (Or.inl ⟨by rfl, ?_⟩) (by assumption) ?_
  rotate_left
  · intro w hSw
    (try dsimp only at hSw)
    go_simp
    (try with_reducible rfl)
  (try simp only [Act.put])
  refine wpAnyH_ready (rs := [12]) (by kernel_rfl) (by simp) ?_
  refine AllReadyH.cons (o := _) rfl (fun K hK => ?_) AllReadyH.nil
  go_simp
  refine (HB.out.full L _ _ x (Sb.hide HS2.out.drew.en)).mono ?_
  rintro e w' ⟨rfl, d2, rfl⟩
  rw [HFL.out]
  refine hK.out _ _ s0 (fun hHeld => ?_)
  clear hK K
  have HSQ := Sb.hide hsq.out
  cases bb with
  | true =>
    refine wpAnyH_ready (rs := [13]) (by kernel_rfl) (by simp) ?_
    refine AllReadyH.cons (o := _) rfl (fun K hK => ?_) AllReadyH.nil
    go_simp
    refine hK.out _ _ s0 (fun hHeld => ?_)
    clear hK K
    refine wpAnyH_ready (rs := [14]) (by kernel_rfl) (by simp) ?_
    refine AllReadyH.cons (o := _) rfl (fun K hK => ?_) AllReadyH.nil
    go_simp
    refine hK.out _ _ s0 (fun hHeld => ?_)
    clear hK K
    refine wpAnyH_done (by kernel_rfl) ?_ _
    clear s0 hHeld hrun
    go_wp2
    go_quiet (fail)
    go_wp2
    go_ret2
    refine ⟨?_, below_drewN (below_drewN HB2.out _) _⟩
    have h1 := HSQ.out
    rw [if_pos trivial] at h1
    simp only [Prod.mk.injEq] at h1
    rw [h1.1, h1.2, HNN.out, Int.toNat_natCast]
    rfl
  | false =>
    refine wpAnyH_ready (rs := [13]) (by kernel_rfl) (by simp) ?_
    refine AllReadyH.cons (o := _) rfl (fun K hK => ?_) AllReadyH.nil
    go_simp
    refine hK.out _ _ s0 (fun hHeld => ?_)
    clear hK K
    refine wpAnyH_ready (rs := [14]) (by kernel_rfl) (by simp) ?_
    refine AllReadyH.cons (o := _) rfl (fun K hK => ?_) AllReadyH.nil
    go_simp
    refine hK.out _ _ s0 (fun hHeld => ?_)
    clear hK K
    refine wpAnyH_done (by kernel_rfl) ?_ _
    clear s0 hHeld hrun bc b1 hnb n0 n1
    go_wp2
    go_quiet (fail)
    go_wp2
    go_ret2
    refine ⟨?_, below_drewN (below_drewN HB2.out _) _⟩
    have h1 := HSQ.out
    rw [if_neg (by simp)] at h1
    simp only [Prod.mk.injEq] at h1
    rw [h1.1, h1.2]
    rfl
end
end Go.Proofs.YtnfbfdajdflfgaaGreat.Vw

/- The walk of state at a receiving; Ready. -/
namespace Go.Proofs.YtnfbfdajdflfgaaGreat.Vw
open Go.RowKit Vf Vm

section
variable {β : Type} (E : Env β) (X : Bxs β) (c : Cx) (vB ev : Value) (o T : Nat) (L : Lab) (P : Nat → Nat) (w : World) (t : Tk) (x : β) (vR vO : Value) (H : Hid (St E c vB ev o T L P w t x vR vO))
include H
set_option maxRecDepth 100000 in
set_option maxHeartbeats 4000000 in
theorem state_recv (hX : Hid (BoxesAt E X c vB)) (f : Wk) (rs : List Wk) (u : Un) (i : Ins) (hs : Hid (AtOk c t f rs u i)) (ho : t.over = 0) (h27 : i.op = 27) (bb : Bool) (hbb : Hid (X.empty x i.a.toNat = bb)) (s q : Nat) (hsq : Hid ((s, q) = if bb = true then (3, i.a.toNat) else (1, 0))) :
    Calls Tryz.prog 42 #[.pointer (some ⟨T, 0, none⟩)] w fun e w' => e = .returned (.tuple #[.int .i64 s, .int .i64 q]) ∧ Below w.heap.size w w' := by
  have HOV := Sb.hide ho
  obtain ⟨n, hn, hnb⟩ := hs.out.box (.inr h27)
  obtain ⟨b, off, cap, ty, p, fF, fE, fP, fT, hv, hcell, hB⟩ := hX.out.at' n hnb
  obtain ⟨nb, hnbe⟩ : ∃ m, m = c.m.boxes.length := ⟨_, rfl⟩
  rw [← hnbe] at hv hnb
  have HV := Sb.hide hv
  have HC := Sb.hide hcell
  have HB := Sb.hide hB
  have HNN := Sb.hide hn
  have n0 : (0 : Int) ≤ (n : Int) := by omega
  have n1 : (n : Int) < (nb : Int) := by omega
  clear hv hcell hnbe hn
  have HFL : Hid (X.empty x n = bb) := by unfold Hid; have := hbb.out; rw [HNN.out, Int.toNat_natCast] at this; exact this
  have e26 : (i.op == 26) = false := by simp; omega
  have e27 : (i.op == 27) = true := by simpa using h27
  have hrun := hB.runE
  clear ho h27 hB
  obtain ⟨h, S, g, r, vU, hh, hT, htop⟩ := H.out.at
  have hf : h.fs = f :: rs := by rw [← htop]; exact hs.out.fs
  have d0 := handCell H.out
  have d6 := (tk_cells H.out.tk.blk).2.2.2.2.2.2.1
  rw [HOV.out] at d6
  have HF := Sb.hide hf
  have HT := Sb.hide hT
  have HUN := Sb.hide hs.out.un
  have HCD := Sb.hide hs.out.code
  have hTz := lt_of_block H.out.tk.blk
  clear hf hh hT htop
  go_enter Tryz.func42, Tryz.ntmps42
  go_wp2_with fail
  refine (next_any c L o t.hand P _ h S g r vU HT (Sb.hide H.out.cx) (Sb.hide H.out.ok) f rs HF u HUN i HCD).mono ?_
  rintro e w1 ⟨rfl, hb1⟩
  have hz1 := hb1.size
  have HB2 : Hid (Below w.heap.size w (w1.alloc (inO i))) := hb1.alloc hb1.size _
  have HS2 := Sb.hide (H.out.below HB2.out)
  have hxb : (w1.alloc (inO i)).heap[w1.heap.size]? = some (inO i) := heap_alloc_new w1 _
  have HXB := Sb.hide hxb
  clear hb1 d0 d6 hxb
  have b1 := (tk_cells HS2.out.tk.blk).2.1
  rw [HV.out] at b1
  have bc := HC.out _ _ _ _ HS2.out.en
  obtain ⟨q0, q1, q2⟩ := in_cells HXB.out
  rw [HNN.out] at q1
  go_wp2
  go_quiet (fail)
  rename_i nq
  go_upto_region 6 with fail
  generalize w1.alloc (inO i) = W2 at *
  have s0 : (W2.drew.cell? ⟨w1.heap.size, 0, none⟩ = some (.int .i64 i.op) ∧ W2.drew.cell? ⟨w1.heap.size, 1, none⟩ = some (.int .i64 n)) ∧ W2.drew.cell? ⟨T, 1, none⟩ = some (.slice (some ⟨b, off, none⟩) nb cap) ∧ W2.drew.cell? ⟨b, off + n, none⟩ = some (.iface ty p) := ⟨⟨q0, q1⟩, b1, bc⟩
  refine wp_region_held_drew (S := fun w' => (w'.cell? ⟨w1.heap.size, 0, none⟩ = some (.int .i64 i.op) ∧ w'.cell? ⟨w1.heap.size, 1, none⟩ = some (.int .i64 n)) ∧ w'.cell? ⟨T, 1, none⟩ = some (.slice (some ⟨b, off, none⟩) nb cap) ∧ w'.cell? ⟨b, off + n, none⟩ = some (.iface ty p)) (by kernel_rfl) s0 (fun hHeld => ?_)
  refine wpAnyH_take (i := 0) (oi := _) (v := ?_) rfl (by kernel_rfl) (by kernel_rfl) (by kernel_rfl) (fun _ _ _ h => h) (Or.inl ⟨by rfl, ?_⟩) (by assumption) ?_
  rotate_left
  · intro w hSw
    (try dsimp only at hSw)
    go_simp
    (try with_reducible rfl)
  (try simp only [Act.put])
  refine wpAnyH_take (i := 1) (oi := _) (v := ?_) rfl (by kernel_rfl) (by kernel_rfl) (by kernel_rfl) (fun _ _ _ h => h) (Or.inl ⟨by rfl, ?_⟩) (by assumption) ?_
  rotate_left
  · intro w hSw
    (try dsimp only at hSw)
    go_simp
    (try with_reducible rfl)
  (try simp only [Act.put])
  refine wpAnyH_take (i := 2) (oi := _) (v := ?_) rfl (by kernel_rfl) (by kernel_rfl) (by kernel_rfl) (fun _ _ _ h => h) (Or.inl ⟨by rfl, ?_⟩) (by assumption) ?_
  rotate_left
  · intro w hSw
    (try dsimp only at hSw)
    go_simp
    (try with_reducible rfl)
  (try simp only [Act.put])
  refine wpAnyH_take (i := 3) (oi := _) (v := ?_) rfl (by kernel_rfl) (by kernel_rfl) (by kernel_rfl) (fun _ _ _ h => h) (Or.inl ⟨by rfl, ?_⟩) (by assumption) ?_
  rotate_left
  · intro w hSw
    (try dsimp only at hSw)
    go_simp
    (try with_reducible rfl)
  (try simp only [Act.put])
  refine wpAnyH_take (i := 8) (oi := _) (v := ?_) rfl (by kernel_rfl) (by kernel_rfl) (by kernel_rfl) (fun _ _ _ h => h) (Or.inl ⟨by rfl, ?_⟩) (by assumption) ?_
  rotate_left
  · intro w hSw
    (try dsimp only at hSw)
    go_simp
    (try with_reducible rfl)
  (try simp only [Act.put])
  refine wpAnyH_take (i := 9) (oi := _) (v := ?_) rfl (by kernel_rfl) (by kernel_rfl) (by kernel_rfl) (fun _ _ _ h => h) (Or.inl ⟨by rfl, ?_⟩) (by assumption) ?_
  rotate_left
  · intro w hSw
    (try dsimp only at hSw)
    go_simp
    (try with_reducible rfl)
  (try simp only [Act.put])
  refine wpAnyH_ready (rs := [4]) (by kernel_rfl) (by simp) ?_
  refine AllReadyH.cons (o := _) rfl (fun K hK => ?_) AllReadyH.nil
  go_simp
  refine hK.out _ _ s0 (fun hHeld => ?_)
  clear hK K
  refine wpAnyH_take (i := 5) (oi := _) (v := ?_) rfl (by kernel_rfl) (by kernel_rfl) (by kernel_rfl) (fun _ _ _ h => h) (Or.inl ⟨by rfl, ?_⟩) (by assumption) ?_
  rotate_left
  · intro w hSw
    (try dsimp only at hSw)
    go_simp
    (try with_reducible rfl)
  (try simp only [Act.put])
  refine wpAnyH_take (i := 6) (oi := _) (v := ?_) rfl (by kernel_rfl) (by kernel_rfl) (by kernel_rfl) (fun _ _ _ h => h) (Or.inl ⟨by rfl, ?_⟩) (by assumption) ?_
  rotate_left
  · intro w hSw
    (try dsimp only at hSw)
    go_simp
    (try with_reducible rfl)
  (try simp only [Act.put])
  refine wpAnyH_take (i := 7) (oi := _) (v := ?_) rfl (by kernel_rfl) (by kernel_rfl) (by kernel_rfl) (fun _ _ _ h => h) (Or.inl ⟨by rfl, ?_⟩) (by assumption) ?_
  rotate_left
  · intro w hSw
    (try dsimp only at hSw)
    go_simp
    (try with_reducible rfl)
  (try simp only [Act.put])
  refine wpAnyH_ready (rs := [10]) (by kernel_rfl) (by simp) ?_
  refine AllReadyH.cons (o := _) rfl (fun K hK => ?_) AllReadyH.nil
  go_simp
  refine hK.out _ _ s0 (fun hHeld => ?_)
  clear hK K
  refine wpAnyH_take (i := 11) (oi := _) (v := ?_) rfl (by kernel_rfl) (by kernel_rfl) (by kernel_rfl) (fun _ _ _ h => h) (Or.inl ⟨by rfl, ?_⟩) (by assumption) ?_
  rotate_left
  · intro w hSw
    (try dsimp only at hSw)
    go_simp
    (try with_reducible rfl)
  (try simp only [Act.put])
  refine wpAnyH_ready (rs := [12]) (by kernel_rfl) (by simp) ?_
  refine AllReadyH.cons (o := _) rfl (fun K hK => ?_) AllReadyH.nil
  go_simp
  refine (HB.out.empty L _ _ x (Sb.hide (HS2.out.below (below_drewN (Below.refl _ _) nq)).drew.en)).mono ?_
  rintro e w' ⟨rfl, d2, rfl⟩
  rw [HFL.out]
  refine hK.out _ _ s0 (fun hHeld => ?_)
  clear hK K
  have HSQ := Sb.hide hsq.out
  cases bb with
  | true =>
    refine wpAnyH_ready (rs := [13]) (by kernel_rfl) (by simp) ?_
    refine AllReadyH.cons (o := _) rfl (fun K hK => ?_) AllReadyH.nil
    go_simp
    refine hK.out _ _ s0 (fun hHeld => ?_)
    clear hK K
    refine wpAnyH_ready (rs := [14]) (by kernel_rfl) (by simp) ?_
    refine AllReadyH.cons (o := _) rfl (fun K hK => ?_) AllReadyH.nil
    go_simp
    refine hK.out _ _ s0 (fun hHeld => ?_)
    clear hK K
    refine wpAnyH_done (by kernel_rfl) ?_ _
    clear s0 hHeld hrun
    go_wp2
    go_quiet (fail)
    go_wp2
    go_ret2
    refine ⟨?_, ⟨HB2.out.os, HB2.out.tape, HB2.out.output, HB2.out.size, HB2.out.block⟩⟩
    have h1 := HSQ.out
    rw [if_pos trivial] at h1
    simp only [Prod.mk.injEq] at h1
    rw [h1.1, h1.2, HNN.out, Int.toNat_natCast]
    rfl
  | false =>
    refine wpAnyH_ready (rs := [13]) (by kernel_rfl) (by simp) ?_
    refine AllReadyH.cons (o := _) rfl (fun K hK => ?_) AllReadyH.nil
    go_simp
    refine hK.out _ _ s0 (fun hHeld => ?_)
    clear hK K
    refine wpAnyH_ready (rs := [14]) (by kernel_rfl) (by simp) ?_
    refine AllReadyH.cons (o := _) rfl (fun K hK => ?_) AllReadyH.nil
    go_simp
    refine hK.out _ _ s0 (fun hHeld => ?_)
    clear hK K
    refine wpAnyH_done (by kernel_rfl) ?_ _
    clear s0 hHeld hrun bc b1 hnb n0 n1
    go_wp2
    go_ret2
    refine ⟨?_, ⟨HB2.out.os, HB2.out.tape, HB2.out.output, HB2.out.size, HB2.out.block⟩⟩
    have h1 := HSQ.out
    rw [if_neg (by simp)] at h1
    simp only [Prod.mk.injEq] at h1
    rw [h1.1, h1.2]
    rfl

/-- WHAT state ANSWERS. -/
theorem state_any (hX : Hid (BoxesAt E X c vB)) (hs : Hid (t.over = 0 → ∃ f rs u i, AtOk c t f rs u i)) :
    Calls Tryz.prog 42 #[.pointer (some ⟨T, 0, none⟩)] w fun e w' => e = .returned (.tuple #[.int .i64 (stat X c.m t x).1, .int .i64 (stat X c.m t x).2]) ∧ Below w.heap.size w w' := by
  by_cases ho : t.over = 0
  · obtain ⟨f, rs, u, i, h⟩ := hs.out ho
    have hi := h.ins
    unfold stat
    rw [if_neg (by omega), hi]
    by_cases h26 : i.op = 26
    · refine (state_send E X c vB ev o T L P w t x vR vO H hX f rs u i h ho h26 (X.full x i.a.toNat) (Sb.hide rfl) _ _ (Sb.hide rfl)).mono ?_
      rintro e w' ⟨rfl, hb⟩
      refine ⟨?_, hb⟩
      cases hf : X.full x i.a.toNat with
      | true => rw [if_pos ⟨h26, rfl⟩]; rfl
      | false => rw [if_neg (by simp), if_neg (by omega)]; rfl
    · rw [if_neg (fun hx => h26 hx.1)]
      by_cases h27 : i.op = 27
      · refine (state_recv E X c vB ev o T L P w t x vR vO H hX f rs u i h ho h27 (X.empty x i.a.toNat) (Sb.hide rfl) _ _ (Sb.hide rfl)).mono ?_
        rintro e w' ⟨rfl, hb⟩
        refine ⟨?_, hb⟩
        cases hf : X.empty x i.a.toNat with
        | true => rw [if_pos ⟨h27, rfl⟩]; rfl
        | false => rw [if_neg (by simp)]; rfl
      · rw [if_neg (fun hx => h27 hx.1)]
        exact state_plain E c vB ev o T L P w t x vR vO H f rs u i h ho h26 h27
  · unfold stat
    rw [if_pos ho]
    exact state_over E c vB ev o T L P w t x vR vO H ho

set_option maxHeartbeats 1000000 in
/-- WHAT Ready ANSWERS. -/
theorem ready_any (hX : Hid (BoxesAt E X c vB)) (hs : Hid (t.over = 0 → ∃ f rs u i, AtOk c t f rs u i)) (b : Bool) (hb : Hid (b = ((stat X c.m t x).1 == 1))) :
    Calls Tryz.prog 27 #[.pointer (some ⟨T, 0, none⟩)] w fun e w' => e = .returned (.bool b) ∧ Below w.heap.size w w' := by
  obtain ⟨s, hs1⟩ : ∃ s, s = (stat X c.m t x).1 := ⟨_, rfl⟩
  obtain ⟨q, hq1⟩ : ∃ q, q = (stat X c.m t x).2 := ⟨_, rfl⟩
  have HS := Sb.hide hs1
  have HQ := Sb.hide hq1
  have e1 : ((s : Int) == 1) = b := by rw [hb.out, ← hs1, Bool.eq_iff_iff]; simp; omega
  clear hs1 hq1
  go_enter Tryz.func27, Tryz.ntmps27
  go_wp2_with fail
  refine (state_any E X c vB ev o T L P _ t x vR vO H hX hs).mono ?_
  rintro e w1 ⟨rfl, hb1⟩
  rw [← HS.out, ← HQ.out]
  have HB1 := Sb.hide hb1
  clear hb1
  go_wp2
  go_ret
  exact ⟨rfl, HB1.out⟩
end
end Go.Proofs.YtnfbfdajdflfgaaGreat.Vw

