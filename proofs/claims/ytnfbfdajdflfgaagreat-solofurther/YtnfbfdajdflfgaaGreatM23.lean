/- The walk of step: locals. -/
import Derived.Test.YtnfbfdajdflfgaaGreatM22
namespace Go.Proofs.YtnfbfdajdflfgaaGreat.Vw
open Go.RowKit Vf Vm

section
variable {β : Type} (E : Env β) (X : Bxs β) (c : Cx) (vB : Value) (N : Nat) (caps : Array Value) (hN : Hid (Hears E c N caps)) (o T : Nat) (L : Lab) (P : Nat → Nat) (w : World) (t : Tk) (x : β) (vR vO : Value) (H : Hid (St E c vB (.func (.func N) #[] caps) o T L P w t x vR vO))
include hN H


set_option maxRecDepth 100000 in
set_option maxHeartbeats 4000000 in
theorem step_store (f : Wk) (rs : List Wk) (u : Un) (i : Ins) (hs : Hid (StepOk X c t x f rs u i)) (ho : i.op = 4) :
    Calls Tryz.prog 28 #[.pointer (some ⟨T, 0, none⟩)] w fun e w' => e = .returned (.tuple #[]) ∧ WPost E c vB (.func (.func N) #[] caps) o T L w w' ((t.goto (f.pc + 1)).words ((t.goto (f.pc + 1)).top.ws.dropLast.set ((t.goto (f.pc + 1)).frame.base + i.a.toNat) (t.goto (f.pc + 1)).last)) x := by
  have _ := hN
  have e1 : (i.op == 1) = false := by simp; omega
  have e2 : (i.op == 2) = false := by simp; omega
  have e3 : (i.op == 3) = false := by simp; omega
  have e4 : (i.op == 4) = true := by simpa using ho
  have hba := hs.out.base
  obtain ⟨ha0, ha2⟩ := hs.out.loc (.inr ho)
  obtain ⟨n, hn⟩ : ∃ n : Nat, i.a = n := ⟨i.a.toNat, by omega⟩
  have HNN := Sb.hide hn
  have HWR : Hid (IntKind.i64.wrap ((f.base : Int) + i.a) = ((f.base + n : Nat) : Int)) := by unfold Hid; rw [IntWalk.i64_in _ ⟨by omega, by omega⟩]; omega
  clear ho hn
  obtain ⟨h, S, g, r, vU, hh, hT, htop⟩ := H.out.at
  have hf : h.fs = f :: rs := by rw [← htop]; exact hs.out.fs
  obtain ⟨U, cap, cur, hU, hUh, _⟩ := hT.work hf
  have hUz := lt_of_block hUh
  have d0 := handCell H.out
  have hpc := hs.out.pc
  have HF := Sb.hide hf
  have HU := Sb.hide hU
  have HH := Sb.hide hh
  have HT := Sb.hide hT
  have HUN := Sb.hide hs.out.un
  have HCD := Sb.hide hs.out.code
  clear hf hU hh hT hUh htop
  go_enter Tryz.func28, Tryz.ntmps28
  go_wp2_with fail
  refine (next_any c L o t.hand P _ h S g r vU HT (Sb.hide H.out.cx) (Sb.hide H.out.ok) f rs HF u HUN i HCD).mono ?_
  rintro e w1 ⟨rfl, hb1⟩
  have hz1 := hb1.size
  have HT2 : Hid (ThIn c L o t.hand P (w1.alloc (inO i)) h S g r vU) := HT.out.keep (.refl _ _) rfl rfl (fun b hb _ => (Below.heap_alloc _ _ _ (by omega)).trans (hb1.block b hb))
  have HS2 : Hid (St E c vB (.func (.func N) #[] caps) o T L P (w1.alloc (inO i)) t x vR vO) := H.out.below (hb1.alloc hb1.size _)
  have HB2 : Hid (Below w.heap.size w (w1.alloc (inO i))) := hb1.alloc hb1.size _
  have hXz : ¬ w1.heap.size = U := by omega
  have hUX : ¬ U = w1.heap.size := by omega
  clear hb1 d0
  go_wp2_with fail
  refine (inner_any c L o t.hand P _ h S g r vU HT2 f rs HF U cap HU).mono ?_
  rintro e w' ⟨rfl, d, rfl⟩
  obtain ⟨k0, k1, k2, k3⟩ := (HT2.out.drewN d).inner HF.out HU.out
  obtain ⟨L3, s3, t3, q3, c3⟩ := (HS2.out.below (below_drewN (Below.refl _ _) d)).goto HH.out (HT2.out.drewN d) HF.out HU.out (f.pc + 1)
  have ecast : ((f.pc + 1 : Nat) : Int) = (f.pc : Int) + 1 := by omega
  rw [ecast] at s3 t3 c3
  have y0 : (((w1.alloc (inO i)).drewN d).setCell ⟨U, rs.length * 3 + 1, none⟩ (.int .i64 ((f.pc : Int) + 1))).heap[w1.heap.size]? = some (inO i) := (Below.heap_setCell _ ⟨U, rs.length * 3 + 1, none⟩ _ _ (by show w1.heap.size ≠ U; exact hXz)).trans (heap_alloc_new w1 _)
  have S3 := Sb.hide s3
  have T3 := Sb.hide t3
  have E3 := Sb.hide q3
  have C3 := Sb.hide c3
  have HX0 := Sb.hide y0
  have HBD : Hid (Below w.heap.size w ((w1.alloc (inO i)).drewN d)) := below_drewN HB2.out d
  clear s3 t3 q3 c3 y0 ecast
  obtain ⟨t1, ht1⟩ : ∃ t1, t1 = t.goto (f.pc + 1) := ⟨_, rfl⟩
  rw [← ht1] at S3
  have HT1 := Sb.hide ht1
  clear ht1
  have hhd : t1.hand = t.hand := by rw [HT1.out]; rfl
  have hh1 : t1.ths[t1.hand]? = some { h with fs := { f with pc := f.pc + 1 } :: rs } := by rw [HT1.out, goto_of HH.out HF.out]; simp [Tk.set, lt_of HH.out]
  have HH1 := Sb.hide hh1
  have T31 : Hid (ThIn c L3 o t1.hand P (((w1.alloc (inO i)).drewN d).setCell ⟨U, rs.length * 3 + 1, none⟩ (.int .i64 ((f.pc : Int) + 1))) { h with fs := { f with pc := f.pc + 1 } :: rs } S g r vU) := by unfold Hid; rw [hhd]; exact T3.out
  obtain ⟨m0, m1, m2, m3⟩ := T31.out.cells
  obtain ⟨k0', k1', k2', k3'⟩ := T31.out.inner (f := { f with pc := f.pc + 1 }) (rs := rs) rfl HU.out
  have x0 : (((w1.alloc (inO i)).drewN d).setCell ⟨U, rs.length * 3 + 1, none⟩ (.int .i64 ((f.pc : Int) + 1))).cell? ⟨w1.heap.size, 0, none⟩ = some (.int .i64 i.op) := by have hx := HX0.out; simp only [World.cell?, hx]; rfl
  have x1 : (((w1.alloc (inO i)).drewN d).setCell ⟨U, rs.length * 3 + 1, none⟩ (.int .i64 ((f.pc : Int) + 1))).cell? ⟨w1.heap.size, 1, none⟩ = some (.int .i64 i.a) := by have hx := HX0.out; simp only [World.cell?, hx]; rfl
  rw [hhd] at m0
  clear hh1 m1 m2 m3 k0' k1'
  have HHD := Sb.hide hhd
  have HNX : Hid (¬ WB L3 o w1.heap.size) := fun hx => by
    have h1 := E3.out.1 w1.heap.size (by simp)
    have h2 := H.out.ok.new w1.heap.size hz1
    unfold WB EB at hx
    rw [h1] at hx
    omega
  have hxs : w1.heap.size < (((w1.alloc (inO i)).drewN d).setCell ⟨U, rs.length * 3 + 1, none⟩ (.int .i64 ((f.pc : Int) + 1))).heap.size := lt_of_block HX0.out
  go_wp2
  generalize ((w1.alloc (inO i)).drewN d).setCell ⟨U, rs.length * 3 + 1, none⟩ (.int .i64 ((f.pc : Int) + 1)) = W3 at *
  have HXS := Sb.hide hxs
  have hb2 : W3.cell? ⟨U, rs.length * 3 + 2, none⟩ = some (.int .i64 f.base) := k2'
  clear k0 k1 k2 k3 k2' k3' hxs hhd
  go_region_held3 (fun w' => w'.cell? ⟨P t.hand, 0, none⟩ = some (.pointer (some ⟨S, 0, none⟩)) ∧ w'.cell? ⟨U, rs.length * 3 + 2, none⟩ = some (.int .i64 f.base) ∧ w'.cell? ⟨w1.heap.size, 1, none⟩ = some (.int .i64 i.a)) (go_keep) (first | (go_at_call 47; have T4' := T4.out; (try rw [HWR.out]); refine (set_th c L4 o t1.hand P _ _ S g4 r4 vU T4 (Sb.hide S4.out.ok) (f.base + n) t1.last).mono ?_; rintro e w5 ⟨⟨xx, rfl⟩, L5, g5, r5, t5, e5, l5, k5⟩; obtain ⟨s5, q5, j5⟩ := S4.out.threadL HH4.out t5 e5 l5 k5; have hW5 := PPost.toW ⟨L5, s5, q5, j5⟩; have HW5 := Sb.hide (((hW5.trans E4.out C4.out).trans E3.out C3.out).under HBD.out); have m0 := t5.cells.1; rw [HHD.out] at m0; have hb2 := (t5.inner (f := { f with pc := f.pc + 1 }) (rs := rs) rfl HU.out).2.2.1; have hX5 : w5.heap[w1.heap.size]? = some (inO i) := (j5.block _ (lt_of_block HX4.out) (fun hx => HNX.out (by unfold WB EB at hx ⊢; rw [E4.out.1 _ HXS.out] at hx; exact hx))).trans HX4.out; have x1 : w5.cell? ⟨w1.heap.size, 1, none⟩ = some (.int .i64 i.a) := (by simp [World.cell?, hX5]); clear t5 e5 l5 k5 s5 q5 j5 hX5 hW5 T4') | (go_at_call 48; rw [← HHD.out]; refine (taken_s E c vB (.func (.func N) #[] caps) o T L3 P _ t1 x vR vO (Sb.hide S3.out.drew) _ S g r vU HH1 (Sb.hide (T31.out.drewN 1))).mono ?_; rintro e w4 ⟨rfl, L4, g4, r4, s4, t4, q4, k4⟩; have S4 := Sb.hide s4; have T4 := Sb.hide t4; have E4 : Hid (ExW o L3 L4 W3) := q4; have C4 : Hid (Chg (WB L3 o) W3 w4) := ⟨k4.os, k4.tape, k4.output, k4.size, k4.block⟩; have HX4 : Hid (w4.heap[w1.heap.size]? = some (inO i)) := (k4.block _ (by exact HXS.out) HNX.out).trans (by exact HX0.out); have HH4 : Hid (t1.cut.ths[t1.hand]? = some { h with fs := { f with pc := f.pc + 1 } :: rs, ws := h.ws.dropLast }) := (by unfold Hid; rw [cut_of HH1.out]; simp [Tk.set, lt_of HH1.out]); have m0 := t4.cells.1; rw [HHD.out] at m0; have hb2 := (t4.inner (f := { f with pc := f.pc + 1 }) (rs := rs) rfl HU.out).2.2.1; have x1 : w4.cell? ⟨w1.heap.size, 1, none⟩ = some (.int .i64 i.a) := (by have hx := HX4.out; simp [World.cell?, hx]); clear s4 t4 q4 k4))
  go_wp2
  go_end0
  refine ⟨rfl, ?_⟩
  have e9 : t1.words (t1.top.ws.dropLast.set (t1.frame.base + i.a.toNat) t1.last) = t1.cut.set t1.hand { h with fs := { f with pc := f.pc + 1 } :: rs, ws := h.ws.dropLast.set (f.base + n) t1.last } := by
    unfold Tk.words
    rw [cut_of HH1.out, frame_of (f := { f with pc := f.pc + 1 }) (r := rs) HH1.out rfl, top_of HH1.out, HNN.out, Int.toNat_natCast]
    exact (set_set t1 t1.hand _ _).symm
  rw [← HT1.out, e9]
  exact HW5.out
end
end Go.Proofs.YtnfbfdajdflfgaaGreat.Vw

/- The walk of step: a local comes on top; WHAT A STEP LEAVES. -/
namespace Go.Proofs.YtnfbfdajdflfgaaGreat.Vw
open Go.RowKit Vf Vm

section
variable {β : Type} (E : Env β) (X : Bxs β) (c : Cx) (vB : Value) (N : Nat) (caps : Array Value) (hN : Hid (Hears E c N caps)) (o T : Nat) (L : Lab) (P : Nat → Nat) (w : World) (t : Tk) (x : β) (vR vO : Value) (H : Hid (St E c vB (.func (.func N) #[] caps) o T L P w t x vR vO))
include hN H


set_option maxRecDepth 100000 in
set_option maxHeartbeats 4000000 in
theorem step_load (f : Wk) (rs : List Wk) (u : Un) (i : Ins) (hs : Hid (StepOk X c t x f rs u i)) (ho : i.op = 3) :
    Calls Tryz.prog 28 #[.pointer (some ⟨T, 0, none⟩)] w fun e w' => e = .returned (.tuple #[]) ∧ WPost E c vB (.func (.func N) #[] caps) o T L w w' ((t.goto (f.pc + 1)).put (((t.goto (f.pc + 1)).top.ws[(t.goto (f.pc + 1)).frame.base + i.a.toNat]?).getD 0)) x := by
  have e1 : (i.op == 1) = false := by simp; omega
  have e2 : (i.op == 2) = false := by simp; omega
  have e3 : (i.op == 3) = true := by simpa using ho
  have hba := hs.out.base
  obtain ⟨ha0, ha2⟩ := hs.out.loc (.inl ho)
  obtain ⟨n, hn⟩ : ∃ n : Nat, i.a = n := ⟨i.a.toNat, by omega⟩
  have HNN := Sb.hide hn
  have HWR : Hid (IntKind.i64.wrap ((f.base : Int) + i.a) = ((f.base + n : Nat) : Int)) := by unfold Hid; rw [IntWalk.i64_in _ ⟨by omega, by omega⟩]; omega
  clear ho hn
  obtain ⟨h, S, g, r, vU, hh, hT, htop⟩ := H.out.at
  have hf : h.fs = f :: rs := by rw [← htop]; exact hs.out.fs
  obtain ⟨U, cap, cur, hU, hUh, _⟩ := hT.work hf
  have hUz := lt_of_block hUh
  have d0 := handCell H.out
  have hpc := hs.out.pc
  have HF := Sb.hide hf
  have HU := Sb.hide hU
  have HH := Sb.hide hh
  have HT := Sb.hide hT
  have HUN := Sb.hide hs.out.un
  have HCD := Sb.hide hs.out.code
  clear hf hU hh hT hUh htop
  go_enter Tryz.func28, Tryz.ntmps28
  go_wp2_with fail
  refine (next_any c L o t.hand P _ h S g r vU HT (Sb.hide H.out.cx) (Sb.hide H.out.ok) f rs HF u HUN i HCD).mono ?_
  rintro e w1 ⟨rfl, hb1⟩
  have hz1 := hb1.size
  have HT2 : Hid (ThIn c L o t.hand P (w1.alloc (inO i)) h S g r vU) := HT.out.keep (.refl _ _) rfl rfl (fun b hb _ => (Below.heap_alloc _ _ _ (by omega)).trans (hb1.block b hb))
  have HS2 : Hid (St E c vB (.func (.func N) #[] caps) o T L P (w1.alloc (inO i)) t x vR vO) := H.out.below (hb1.alloc hb1.size _)
  have HB2 : Hid (Below w.heap.size w (w1.alloc (inO i))) := hb1.alloc hb1.size _
  have hXz : ¬ w1.heap.size = U := by omega
  have hUX : ¬ U = w1.heap.size := by omega
  clear hb1 d0
  go_wp2_with fail
  refine (inner_any c L o t.hand P _ h S g r vU HT2 f rs HF U cap HU).mono ?_
  rintro e w' ⟨rfl, d, rfl⟩
  obtain ⟨k0, k1, k2, k3⟩ := (HT2.out.drewN d).inner HF.out HU.out
  obtain ⟨L3, s3, t3, q3, c3⟩ := (HS2.out.below (below_drewN (Below.refl _ _) d)).goto HH.out (HT2.out.drewN d) HF.out HU.out (f.pc + 1)
  have ecast : ((f.pc + 1 : Nat) : Int) = (f.pc : Int) + 1 := by omega
  rw [ecast] at s3 t3 c3
  have y0 : (((w1.alloc (inO i)).drewN d).setCell ⟨U, rs.length * 3 + 1, none⟩ (.int .i64 ((f.pc : Int) + 1))).heap[w1.heap.size]? = some (inO i) := (Below.heap_setCell _ ⟨U, rs.length * 3 + 1, none⟩ _ _ (by show w1.heap.size ≠ U; exact hXz)).trans (heap_alloc_new w1 _)
  have S3 := Sb.hide s3
  have T3 := Sb.hide t3
  have E3 := Sb.hide q3
  have C3 := Sb.hide c3
  have HX0 := Sb.hide y0
  have HBD : Hid (Below w.heap.size w ((w1.alloc (inO i)).drewN d)) := below_drewN HB2.out d
  clear s3 t3 q3 c3 y0 ecast
  obtain ⟨t1, ht1⟩ : ∃ t1, t1 = t.goto (f.pc + 1) := ⟨_, rfl⟩
  rw [← ht1] at S3
  have HL1 : Hid (t1.log.length ≤ 2000000) := by unfold Hid; rw [ht1]; exact hs.out.log
  have HT1 := Sb.hide ht1
  clear ht1
  have hhd : t1.hand = t.hand := by rw [HT1.out]; rfl
  have hh1 : t1.ths[t1.hand]? = some { h with fs := { f with pc := f.pc + 1 } :: rs } := by rw [HT1.out, goto_of HH.out HF.out]; simp [Tk.set, lt_of HH.out]
  have HH1 := Sb.hide hh1
  have T31 : Hid (ThIn c L3 o t1.hand P (((w1.alloc (inO i)).drewN d).setCell ⟨U, rs.length * 3 + 1, none⟩ (.int .i64 ((f.pc : Int) + 1))) { h with fs := { f with pc := f.pc + 1 } :: rs } S g r vU) := by unfold Hid; rw [hhd]; exact T3.out
  obtain ⟨m0, m1, m2, m3⟩ := T31.out.cells
  obtain ⟨k0', k1', k2', k3'⟩ := T31.out.inner (f := { f with pc := f.pc + 1 }) (rs := rs) rfl HU.out
  have x0 : (((w1.alloc (inO i)).drewN d).setCell ⟨U, rs.length * 3 + 1, none⟩ (.int .i64 ((f.pc : Int) + 1))).cell? ⟨w1.heap.size, 0, none⟩ = some (.int .i64 i.op) := by have hx := HX0.out; simp only [World.cell?, hx]; rfl
  have x1 : (((w1.alloc (inO i)).drewN d).setCell ⟨U, rs.length * 3 + 1, none⟩ (.int .i64 ((f.pc : Int) + 1))).cell? ⟨w1.heap.size, 1, none⟩ = some (.int .i64 i.a) := by have hx := HX0.out; simp only [World.cell?, hx]; rfl
  rw [hhd] at m0
  clear hh1 m1 m2 m3 k0' k1'
  have HHD := Sb.hide hhd
  have HNX : Hid (¬ WB L3 o w1.heap.size) := fun hx => by
    have h1 := E3.out.1 w1.heap.size (by simp)
    have h2 := H.out.ok.new w1.heap.size hz1
    unfold WB EB at hx
    rw [h1] at hx
    omega
  have hxs : w1.heap.size < (((w1.alloc (inO i)).drewN d).setCell ⟨U, rs.length * 3 + 1, none⟩ (.int .i64 ((f.pc : Int) + 1))).heap.size := lt_of_block HX0.out
  obtain ⟨vv, hvv⟩ : ∃ v, v = (h.ws[f.base + n]?).getD 0 := ⟨_, rfl⟩
  have HVV : Hid (vv = wordAt h.ws ((f.base + n : Nat) : Int)) := by unfold Hid wordAt; rw [if_neg (by omega), Int.toNat_natCast]; exact hvv
  have HE9 : Hid ((t1.top.ws[t1.frame.base + i.a.toNat]?).getD 0 = vv) := by
    unfold Hid
    rw [frame_of (f := { f with pc := f.pc + 1 }) (r := rs) HH1.out rfl, top_of HH1.out, HNN.out, Int.toNat_natCast, hvv]
  clear hvv
  go_wp2
  generalize ((w1.alloc (inO i)).drewN d).setCell ⟨U, rs.length * 3 + 1, none⟩ (.int .i64 ((f.pc : Int) + 1)) = W3 at *
  have HXS := Sb.hide hxs
  have hb2 : W3.cell? ⟨U, rs.length * 3 + 2, none⟩ = some (.int .i64 f.base) := k2'
  have hx3 : W3.drew.heap[w1.heap.size]? = some (inO i) := HX0.out
  clear k0 k1 k2 k3 k2' k3' hxs hhd x0 x1
  go_upto_region 11 with fail
  refine wp_region_held_drew (S := fun w' => w'.heap[w1.heap.size]? = some (inO i)) (by kernel_rfl) hx3 (fun hHeld => ?_)
  refine wpAnyH_take (i := 0) (oi := _) (v := ?_) rfl (by kernel_rfl) (by kernel_rfl) (by kernel_rfl) (fun _ _ _ h => h) (Or.inl ⟨by rfl, ?_⟩) (by assumption) ?_
  rotate_left
  · intro w hSw
    (try dsimp only at hSw)
    go_simp
    (try with_reducible rfl)
  (try simp only [Act.put])
  refine wpAnyH_take (i := 1) (oi := _) (v := ?_) rfl (by kernel_rfl) (by kernel_rfl) (by kernel_rfl) (fun _ _ _ h => h) (Or.inl ⟨by rfl, ?_⟩) (by assumption) ?_
  rotate_left
  · intro w hSw
    (try dsimp only at hSw)
    go_simp
    (try with_reducible rfl)
  (try simp only [Act.put])
  refine wpAnyH_take (i := 2) (oi := _) (v := ?_) rfl (by kernel_rfl) (by kernel_rfl) (by kernel_rfl) (fun _ _ _ h => h) (Or.inl ⟨by rfl, ?_⟩) (by assumption) ?_
  rotate_left
  · intro w hSw
    (try dsimp only at hSw)
    go_simp
    (try with_reducible rfl)
  (try simp only [Act.put])
  refine wpAnyH_take (i := 3) (oi := _) (v := ?_) rfl (by kernel_rfl) (by kernel_rfl) (by kernel_rfl) (fun _ _ _ h => h) (Or.inl ⟨by rfl, ?_⟩) (by assumption) ?_
  rotate_left
  · intro w hSw
    (try dsimp only at hSw)
    go_simp
    (try with_reducible rfl)
  (try simp only [Act.put])
  refine wpAnyH_take (i := 5) (oi := _) (v := ?_) rfl (by kernel_rfl) (by kernel_rfl) (by kernel_rfl) (fun _ _ _ h => h) (Or.inl ⟨by rfl, ?_⟩) (by assumption) ?_
  rotate_left
  · intro w hSw
    (try dsimp only at hSw)
    go_simp
    (try with_reducible rfl)
  (try simp only [Act.put])
  refine wpAnyH_take (i := 6) (oi := _) (v := ?_) rfl (by kernel_rfl) (by kernel_rfl) (by kernel_rfl) (fun _ _ _ h => h) (Or.inl ⟨by rfl, ?_⟩) (by assumption) ?_
  rotate_left
  · intro w hSw
    (try dsimp only at hSw)
    go_simp
    (try with_reducible rfl)
  (try simp only [Act.put])
  refine wpAnyH_take (i := 7) (oi := _) (v := ?_) rfl (by kernel_rfl) (by kernel_rfl) (by kernel_rfl) (fun _ _ _ h => h) (Or.inl ⟨by rfl, ?_⟩) (by assumption) ?_
  rotate_left
  · intro w hSw
    (try dsimp only at hSw)
    go_simp
    (try with_reducible rfl)
  (try simp only [Act.put])
  refine wpAnyH_take (i := 9) (oi := _) (v := ?_) rfl (by kernel_rfl) (by kernel_rfl) (by kernel_rfl) (fun _ _ _ h => h) (Or.inl ⟨by rfl, ?_⟩) (by assumption) ?_
  rotate_left
  · intro w hSw
    (try dsimp only at hSw)
    go_simp
    (try with_reducible rfl)
  (try simp only [Act.put])
  refine wpAnyH_take (i := 10) (oi := _) (v := .int .i64 i.a) rfl (by kernel_rfl) (by kernel_rfl) (by kernel_rfl) (fun _ _ _ h => h) (Or.inl ⟨by rfl, ?_⟩) (by assumption) ?_
  · intro w' hSw
    have x1 : w'.cell? ⟨w1.heap.size, 1, none⟩ = some (.int .i64 i.a) := by simp [World.cell?, hSw]
    clear hSw
    go_simp
  (try simp only [Act.put])
  refine wpAnyH_ready (rs := [4, 8]) (by kernel_rfl) (by simp) ?_
  refine AllReadyH.cons (o := _) rfl (fun K hK => ?_) ?_
  · go_simp
    refine hK.out _ _ hx3 (fun hHeld => ?_)
    clear hK K
    refine wpAnyH_ready (rs := [8]) (by kernel_rfl) (by simp) ?_
    refine AllReadyH.cons (o := _) rfl (fun K hK => ?_) AllReadyH.nil
    go_simp
    refine hK.out _ _ hx3 (fun hHeld => ?_)
    clear hK K
    refine wpAnyH_take (i := 11) (oi := _) (v := ?_) rfl (by kernel_rfl) (by kernel_rfl) (by kernel_rfl) (fun _ _ _ h => h) (Or.inl ⟨by rfl, ?_⟩) (by assumption) ?_
    rotate_left
    · intro w hSw
      (try dsimp only at hSw)
      go_simp
      (try with_reducible rfl)
    (try simp only [Act.put])
    refine wpAnyH_ready (rs := [12]) (by kernel_rfl) (by simp) ?_
    refine AllReadyH.cons (o := _) rfl (fun K hK => ?_) AllReadyH.nil
    go_simp
    (try rw [HWR.out])
    refine (word_any S g h.ws r 8 400 _ vv _ (by exact T31.out.stack) HVV).mono ?_
    rintro e w' ⟨rfl, d2, rfl⟩
    refine hK.out _ _ HX0.out (fun hHeld => ?_)
    clear hK K
    refine wpAnyH_ready (rs := [13]) (by kernel_rfl) (by simp) ?_
    refine AllReadyH.cons (o := _) rfl (fun K hK => ?_) AllReadyH.nil
    go_simp
    refine (put_any E c vB N caps hN o T L3 P (W3.drewN (1 + d2)) t1 x vR vO (Sb.hide (S3.out.below (below_drewN (Below.refl _ _) (1 + d2)))) (Sb.hide (Nat.le_succ_of_le HL1.out)) vv).mono ?_
    rintro e w5 ⟨rfl, hW⟩
    have hX5 : w5.heap[w1.heap.size]? = some (inO i) := by
      obtain ⟨_, _, _, _, _, _, k5⟩ := hW
      exact (k5.block _ HXS.out HNX.out).trans HX0.out
    have HW5 := Sb.hide ((hW.drewN.trans E3.out C3.out).under HBD.out)
    clear hW
    refine hK.out _ _ hX5 (fun hHeld => ?_)
    clear hK K
    refine wpAnyH_done (by kernel_rfl) ?_ _
    clear hX5 hHeld
    go_wp2
    go_end0
    refine ⟨rfl, ?_⟩
    rw [← HT1.out, HE9.out]
    exact HW5.out
  refine AllReadyH.cons (o := _) rfl (fun K hK => ?_) AllReadyH.nil
  go_simp
  refine hK.out _ _ hx3 (fun hHeld => ?_)
  clear hK K
  refine wpAnyH_take (i := 11) (oi := _) (v := ?_) rfl (by kernel_rfl) (by kernel_rfl) (by kernel_rfl) (fun _ _ _ h => h) (Or.inl ⟨by rfl, ?_⟩) (by assumption) ?_
  rotate_left
  · intro w hSw
    (try dsimp only at hSw)
    go_simp
    (try with_reducible rfl)
  (try simp only [Act.put])
  refine wpAnyH_ready (rs := [4]) (by kernel_rfl) (by simp) ?_
  refine AllReadyH.cons (o := _) rfl (fun K hK => ?_) AllReadyH.nil
  go_simp
  refine hK.out _ _ hx3 (fun hHeld => ?_)
  clear hK K
  refine wpAnyH_ready (rs := [12]) (by kernel_rfl) (by simp) ?_
  refine AllReadyH.cons (o := _) rfl (fun K hK => ?_) AllReadyH.nil
  go_simp
  (try rw [HWR.out])
  refine (word_any S g h.ws r 8 400 _ vv _ (by exact T31.out.stack) HVV).mono ?_
  rintro e w' ⟨rfl, d2, rfl⟩
  refine hK.out _ _ HX0.out (fun hHeld => ?_)
  clear hK K
  refine wpAnyH_ready (rs := [13]) (by kernel_rfl) (by simp) ?_
  refine AllReadyH.cons (o := _) rfl (fun K hK => ?_) AllReadyH.nil
  go_simp
  refine (put_any E c vB N caps hN o T L3 P (W3.drewN (1 + d2)) t1 x vR vO (Sb.hide (S3.out.below (below_drewN (Below.refl _ _) (1 + d2)))) (Sb.hide (Nat.le_succ_of_le HL1.out)) vv).mono ?_
  rintro e w5 ⟨rfl, hW⟩
  have hX5 : w5.heap[w1.heap.size]? = some (inO i) := by
    obtain ⟨_, _, _, _, _, _, k5⟩ := hW
    exact (k5.block _ HXS.out HNX.out).trans HX0.out
  have HW5 := Sb.hide ((hW.drewN.trans E3.out C3.out).under HBD.out)
  clear hW
  refine hK.out _ _ hX5 (fun hHeld => ?_)
  clear hK K
  refine wpAnyH_done (by kernel_rfl) ?_ _
  clear hX5 hHeld
  go_wp2
  go_end0
  refine ⟨rfl, ?_⟩
  rw [← HT1.out, HE9.out]
  exact HW5.out

/-- WHAT A STEP LEAVES. -/
theorem step_any (hX : Hid (BoxesAt E X c vB)) (f : Wk) (rs : List Wk) (u : Un) (i : Ins) (hs : Hid (StepOk X c t x f rs u i)) :
    Calls Tryz.prog 28 #[.pointer (some ⟨T, 0, none⟩)] w fun e w' => e = .returned (.tuple #[]) ∧ WPost E c vB (.func (.func N) #[] caps) o T L w w' ((t.goto (f.pc + 1)).act c.m i (X.head x i.a.toNat)) (stX X i (t.goto (f.pc + 1)).last x) := by
  have hop := hs.out.op
  by_cases h26 : i.op = 26
  · refine (step_send E X c vB N caps hN o T L P w t x vR vO H hX f rs u i hs h26).mono ?_
    rintro e w' ⟨rfl, hW⟩
    refine ⟨rfl, ?_⟩
    unfold stX Tk.act
    rw [if_pos h26, if_neg (by omega), if_neg (by omega), if_neg (by omega), if_neg (by omega), if_neg (by omega), if_neg (by omega), if_neg (by omega), if_neg (by omega), if_neg (by omega), if_pos h26]
    exact hW
  by_cases h27 : i.op = 27
  · refine (step_recv E X c vB N caps hN o T L P w t x vR vO H hX f rs u i hs h27).mono ?_
    rintro e w' ⟨rfl, hW⟩
    refine ⟨rfl, ?_⟩
    unfold stX Tk.act
    rw [if_neg h26, if_pos h27, if_neg (by omega), if_neg (by omega), if_neg (by omega), if_neg (by omega), if_neg (by omega), if_neg (by omega), if_neg (by omega), if_neg (by omega), if_neg (by omega), if_neg (by omega), if_pos h27]
    exact hW
  have hx : stX X i (t.goto (f.pc + 1)).last x = x := by unfold stX; rw [if_neg h26, if_neg h27]
  rw [hx]
  by_cases ho : 8 ≤ i.op ∧ i.op ≤ 20 ∨ i.op = 23 ∨ i.op = 24 ∨ i.op = 25 ∨ i.op = 29 ∨ i.op = 30 ∨ i.op = 31 ∨ i.op = 32
  · rw [act_spk ho]
    exact step_speak E X c vB N caps hN o T L P w t x vR vO H f rs u i hs ho
  unfold Tk.act
  by_cases h1 : i.op = 1
  · rw [if_pos h1]
    exact step_push E X c vB N caps hN o T L P w t x vR vO H f rs u i hs h1
  by_cases h2 : i.op = 2
  · rw [if_neg h1, if_pos h2]
    exact step_truth E X c vB N caps hN o T L P w t x vR vO H f rs u i hs h2
  by_cases h3 : i.op = 3
  · rw [if_neg h1, if_neg h2, if_pos h3]
    exact step_load E X c vB N caps hN o T L P w t x vR vO H f rs u i hs h3
  by_cases h4 : i.op = 4
  · rw [if_neg h1, if_neg h2, if_neg h3, if_pos h4]
    exact step_store E X c vB N caps hN o T L P w t x vR vO H f rs u i hs h4
  by_cases h5 : i.op = 5
  · rw [if_neg h1, if_neg h2, if_neg h3, if_neg h4, if_pos h5]
    exact step_drop E X c vB N caps hN o T L P w t x vR vO H f rs u i hs h5
  by_cases h6 : i.op = 6
  · rw [if_neg h1, if_neg h2, if_neg h3, if_neg h4, if_neg h5, if_pos h6]
    exact step_neg E X c vB N caps hN o T L P w t x vR vO H f rs u i hs h6
  by_cases h7 : i.op = 7
  · rw [if_neg h1, if_neg h2, if_neg h3, if_neg h4, if_neg h5, if_neg h6, if_pos h7]
    exact step_not E X c vB N caps hN o T L P w t x vR vO H f rs u i hs h7
  by_cases h21 : i.op = 21
  · rw [if_neg h1, if_neg h2, if_neg h3, if_neg h4, if_neg h5, if_neg h6, if_neg h7, if_pos h21]
    exact step_jump E X c vB N caps hN o T L P w t x vR vO H f rs u i hs h21
  by_cases h22 : i.op = 22
  · rw [if_neg h1, if_neg h2, if_neg h3, if_neg h4, if_neg h5, if_neg h6, if_neg h7, if_neg h21, if_pos h22]
    exact step_else E X c vB N caps hN o T L P w t x vR vO H f rs u i hs h22 _ (Sb.hide rfl)
  have h28 : i.op = 28 := by omega
  rw [if_neg h1, if_neg h2, if_neg h3, if_neg h4, if_neg h5, if_neg h6, if_neg h7, if_neg h21, if_neg h22, if_neg h26, if_neg h27, if_pos h28]
  exact step_out E X c vB N caps hN o T L P w t x vR vO H f rs u i hs h28
end
end Go.Proofs.YtnfbfdajdflfgaaGreat.Vw

