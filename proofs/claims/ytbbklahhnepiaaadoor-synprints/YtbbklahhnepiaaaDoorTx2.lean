/- The document's Text: the kinds without a sign between. -/
import Derived.Test.YtbbklahhnepiaaaDoorTx1
import Derived.Test.YtbbklahhnepiaaaDoorPt6
namespace Go.Proofs.YtbbklahhnepiaaaDoor
open Go.RowKit

theorem br_six (f : Sy.Ex → List ByteArray) (x : Sy.Ex) (need : Int) (h : need ≤ 6) (hl : ¬ 0 < Sy.lev x.kind) : Sy.brT f need x = f x := by
  unfold Sy.brT Sy.levelOf
  rw [if_neg hl, if_pos h]

theorem bel_one (w : World) (o : Obj) : Below w.heap.size w (w.alloc o) := (Below.refl _ w).alloc (Nat.le_refl _) _

set_option maxRecDepth 100000 in
set_option maxHeartbeats 1000000 in
theorem text_num (x : Sy.Ex) (a : Option Addr) (c : Nat) (need : Int) (r : ByteArray) (w : World) (hk : x.kind = 1) (h0 : 0 ≤ x.n) (h1 : x.n ≤ 999999999999999) (htab : Hid (TabW w)) (hn6 : need ≤ 6) (HR : Hid (r = Sy.numT x.n ++ ⟨#[32]⟩)) :
    Calls Tryd.prog 25 #[exV x a c, .int .i64 need] w fun e w' => e = .returned (.string r) ∧ Below w.heap.size w w' := by
  obtain ⟨t, ht⟩ : ∃ t, t = Sy.numT x.n := ⟨_, rfl⟩
  have htz : t.size ≤ 21 := by rw [ht]; exact Sy.num_size _ h0 h1
  have HT : Hid (Sy.numT x.n = t) := ht.symm
  clear ht
  go_enter Tryd.func25, Tryd.ntmps25
  go_wp2_with fail
  refine (fmt_any x.n h0 h1 _ (htab.out.below (bel_one w _))).mono ?_
  rintro e w1 ⟨he, hb1⟩
  have HB1 : Hid (Below w.heap.size w w1) := bel_next (bel_one w _) hb1 (by simp)
  rw [HT.out] at he
  subst he
  clear hb1
  go_wp2
  go_ret
  exact ⟨by rw [HR.out, HT.out]; rfl, HB1.out⟩

set_option maxRecDepth 100000 in
set_option maxHeartbeats 1000000 in
theorem text_true (x : Sy.Ex) (a : Option Addr) (c : Nat) (need : Int) (r : ByteArray) (w : World) (hk : x.kind = 2) (hv : x.n = 1) (hn6 : need ≤ 6) (HR : Hid (r = ⟨#[116, 114, 117, 101, 32]⟩)) :
    Calls Tryd.prog 25 #[exV x a c, .int .i64 need] w fun e w' => e = .returned (.string r) ∧ Below w.heap.size w w' := by
  go_enter Tryd.func25, Tryd.ntmps25
  go_wp2
  go_ret
  exact ⟨by rw [HR.out]; rfl, bel_one w _⟩

set_option maxRecDepth 100000 in
set_option maxHeartbeats 1000000 in
theorem text_false (x : Sy.Ex) (a : Option Addr) (c : Nat) (need : Int) (r : ByteArray) (w : World) (hk : x.kind = 2) (hv : x.n = 0) (hn6 : need ≤ 6) (HR : Hid (r = ⟨#[102, 97, 108, 115, 101, 32]⟩)) :
    Calls Tryd.prog 25 #[exV x a c, .int .i64 need] w fun e w' => e = .returned (.string r) ∧ Below w.heap.size w w' := by
  go_enter Tryd.func25, Tryd.ntmps25
  go_wp2
  go_ret
  exact ⟨by rw [HR.out]; rfl, bel_one w _⟩

set_option maxRecDepth 100000 in
set_option maxHeartbeats 1000000 in
theorem text_var (x : Sy.Ex) (a : Option Addr) (c : Nat) (need : Int) (r : ByteArray) (w : World) (hk : x.kind = 3) (hz : x.name.size ≤ 12) (hn6 : need ≤ 6) (HR : Hid (r = x.name ++ ⟨#[32]⟩)) :
    Calls Tryd.prog 25 #[exV x a c, .int .i64 need] w fun e w' => e = .returned (.string r) ∧ Below w.heap.size w w' := by
  go_enter Tryd.func25, Tryd.ntmps25
  go_wp2
  go_ret
  exact ⟨by rw [HR.out]; rfl, bel_one w _⟩

set_option maxRecDepth 100000 in
set_option maxHeartbeats 1000000 in
theorem text_recv (x : Sy.Ex) (a : Option Addr) (c : Nat) (need : Int) (r : ByteArray) (w : World) (hk : x.kind = 20) (hz : x.name.size ≤ 12) (hn6 : need ≤ 6) (HR : Hid (r = ⟨#[114, 101, 99, 118, 32, 40, 32]⟩ ++ x.name ++ ⟨#[32, 41, 32]⟩)) :
    Calls Tryd.prog 25 #[exV x a c, .int .i64 need] w fun e w' => e = .returned (.string r) ∧ Below w.heap.size w w' := by
  go_enter Tryd.func25, Tryd.ntmps25
  go_wp2
  go_ret
  exact ⟨by rw [HR.out]; rfl, bel_one w _⟩

set_option maxRecDepth 100000 in
set_option maxHeartbeats 1000000 in
theorem text_neg (x k0 : Sy.Ex) (b off : Nat) (c : Nat) (a0 : Option Addr) (c0 : Nat) (need : Int) (t r : ByteArray) (w : World) (hk : x.kind = 4) (hl : x.kids.length = 1) (hb : b < w.heap.size)
    (q0 : w.cell? ⟨b, off, none⟩ = some (.int .i64 k0.kind)) (q1 : w.cell? ⟨b, off + 1, none⟩ = some (.int .i64 k0.n)) (q2 : w.cell? ⟨b, off + 2, none⟩ = some (.string k0.name)) (q3 : w.cell? ⟨b, off + 3, none⟩ = some (.slice a0 k0.kids.length c0))
    (hT : Hid (∀ u : World, Below w.heap.size w u → Calls Tryd.prog 25 #[exV k0 a0 c0, .int .i64 6] u fun e w' => e = .returned (.string t) ∧ Below u.heap.size u w'))
    (htz : t.size ≤ 900000) (hn6 : need ≤ 6) (HR : Hid (r = ⟨#[45, 32]⟩ ++ t)) :
    Calls Tryd.prog 25 #[exV x (some ⟨b, off, none⟩) c, .int .i64 need] w fun e w' => e = .returned (.string r) ∧ Below w.heap.size w w' := by
  go_enter Tryd.func25, Tryd.ntmps25
  go_wp2_with fail
  refine (hT.out _ (bel_one w _)).mono ?_
  rintro e w1 ⟨rfl, hb1⟩
  have HB1 : Hid (Below w.heap.size w w1) := bel_next (bel_one w _) hb1 (by simp)
  clear hb1 q0 q1 q2 q3
  go_wp2
  go_ret
  exact ⟨by rw [HR.out]; rfl, HB1.out⟩

set_option maxRecDepth 100000 in
set_option maxHeartbeats 1000000 in
theorem text_not (x k0 : Sy.Ex) (b off : Nat) (c : Nat) (a0 : Option Addr) (c0 : Nat) (need : Int) (t r : ByteArray) (w : World) (hk : x.kind = 5) (hl : x.kids.length = 1) (hb : b < w.heap.size)
    (q0 : w.cell? ⟨b, off, none⟩ = some (.int .i64 k0.kind)) (q1 : w.cell? ⟨b, off + 1, none⟩ = some (.int .i64 k0.n)) (q2 : w.cell? ⟨b, off + 2, none⟩ = some (.string k0.name)) (q3 : w.cell? ⟨b, off + 3, none⟩ = some (.slice a0 k0.kids.length c0))
    (hT : Hid (∀ u : World, Below w.heap.size w u → Calls Tryd.prog 25 #[exV k0 a0 c0, .int .i64 6] u fun e w' => e = .returned (.string t) ∧ Below u.heap.size u w'))
    (htz : t.size ≤ 900000) (hn6 : need ≤ 6) (HR : Hid (r = ⟨#[110, 111, 116, 32]⟩ ++ t)) :
    Calls Tryd.prog 25 #[exV x (some ⟨b, off, none⟩) c, .int .i64 need] w fun e w' => e = .returned (.string r) ∧ Below w.heap.size w w' := by
  go_enter Tryd.func25, Tryd.ntmps25
  go_wp2_with fail
  refine (hT.out _ (bel_one w _)).mono ?_
  rintro e w1 ⟨rfl, hb1⟩
  have HB1 : Hid (Below w.heap.size w w1) := bel_next (bel_one w _) hb1 (by simp)
  clear hb1 q0 q1 q2 q3
  go_wp2
  go_ret
  exact ⟨by rw [HR.out]; rfl, HB1.out⟩

set_option maxRecDepth 100000 in
set_option maxHeartbeats 1000000 in
theorem text_call (x : Sy.Ex) (a : Option Addr) (c : Nat) (need : Int) (t r : ByteArray) (w : World) (hk : x.kind = 19) (hz : x.name.size ≤ 12)
    (hT : Hid (∀ u : World, Below w.heap.size w u → Calls Tryd.prog 45 #[.slice a x.kids.length c] u fun e w' => e = .returned (.string t) ∧ Below u.heap.size u w'))
    (htz : t.size ≤ 900000) (hn6 : need ≤ 6) (HR : Hid (r = x.name ++ ⟨#[32]⟩ ++ t)) :
    Calls Tryd.prog 25 #[exV x a c, .int .i64 need] w fun e w' => e = .returned (.string r) ∧ Below w.heap.size w w' := by
  obtain ⟨W, hW⟩ : ∃ W, W = w.alloc (.cells #[.int .i64 19, .int .i64 x.n, .string x.name, .slice a x.kids.length c] 70) := ⟨_, rfl⟩
  have HW : Hid (Below w.heap.size w W) := by rw [hW]; exact bel_one w _
  have hsz : w.heap.size < W.heap.size := by rw [hW]; simp
  have g2 : W.cell? ⟨w.heap.size, 2, none⟩ = some (.string x.name) := by rw [hW, World.cell?_alloc_mark]; rfl
  have g3 : W.cell? ⟨w.heap.size, 3, none⟩ = some (.slice a x.kids.length c) := by rw [hW, World.cell?_alloc_mark]; rfl
  have HWe : Hid (W = w.alloc (.cells #[.int .i64 19, .int .i64 x.n, .string x.name, .slice a x.kids.length c] 70)) := hW
  clear hW
  go_enter Tryd.func25, Tryd.ntmps25
  go_upto_region 29 with fail
  rw [← HWe.out]
  go_region_with (go_at_call 45; refine (hT.out _ HW.out.drew).mono ?_; rintro e w1 ⟨rfl, hb1⟩; have HB1 : Hid (Below w.heap.size w w1) := bel_next HW.out.drew hb1 (by show w.heap.size ≤ W.heap.size; omega); have k2 : w1.cell? ⟨w.heap.size, 2, none⟩ = some (.string x.name) := (hb1.cell (p := ⟨w.heap.size, 2, none⟩) hsz).trans g2; clear hb1)
  all_goals
    go_wp2
    go_ret
    exact ⟨by rw [HR.out]; rfl, Hid.out (by assumption)⟩

set_option maxRecDepth 100000 in
set_option maxHeartbeats 1000000 in
theorem text_yield (x : Sy.Ex) (a : Option Addr) (c : Nat) (need : Int) (t r : ByteArray) (w : World) (hk : x.kind = 21)
    (hT : Hid (∀ u : World, Below w.heap.size w u → Calls Tryd.prog 45 #[.slice a x.kids.length c] u fun e w' => e = .returned (.string t) ∧ Below u.heap.size u w'))
    (htz : t.size ≤ 900000) (hn6 : need ≤ 6) (HR : Hid (r = ⟨#[121, 105, 101, 108, 100, 32]⟩ ++ t)) :
    Calls Tryd.prog 25 #[exV x a c, .int .i64 need] w fun e w' => e = .returned (.string r) ∧ Below w.heap.size w w' := by
  go_enter Tryd.func25, Tryd.ntmps25
  go_wp2_with fail
  refine (hT.out _ (bel_one w _)).mono ?_
  rintro e w1 ⟨rfl, hb1⟩
  have HB1 : Hid (Below w.heap.size w w1) := bel_next (bel_one w _) hb1 (by simp)
  clear hb1
  go_wp2
  go_ret
  exact ⟨by rw [HR.out]; rfl, HB1.out⟩

set_option maxRecDepth 100000 in
set_option maxHeartbeats 1000000 in
theorem text_start (x : Sy.Ex) (a : Option Addr) (c : Nat) (need : Int) (t r : ByteArray) (w : World) (hk : x.kind = 22) (hz : x.name.size ≤ 12)
    (hT : Hid (∀ u : World, Below w.heap.size w u → Calls Tryd.prog 45 #[.slice a x.kids.length c] u fun e w' => e = .returned (.string t) ∧ Below u.heap.size u w'))
    (htz : t.size ≤ 900000) (hn6 : need ≤ 6) (HR : Hid (r = ⟨#[115, 116, 97, 114, 116, 32]⟩ ++ x.name ++ ⟨#[32]⟩ ++ t)) :
    Calls Tryd.prog 25 #[exV x a c, .int .i64 need] w fun e w' => e = .returned (.string r) ∧ Below w.heap.size w w' := by
  obtain ⟨W, hW⟩ : ∃ W, W = w.alloc (.cells #[.int .i64 22, .int .i64 x.n, .string x.name, .slice a x.kids.length c] 70) := ⟨_, rfl⟩
  have HW : Hid (Below w.heap.size w W) := by rw [hW]; exact bel_one w _
  have hsz : w.heap.size < W.heap.size := by rw [hW]; simp
  have g2 : W.cell? ⟨w.heap.size, 2, none⟩ = some (.string x.name) := by rw [hW, World.cell?_alloc_mark]; rfl
  have g3 : W.cell? ⟨w.heap.size, 3, none⟩ = some (.slice a x.kids.length c) := by rw [hW, World.cell?_alloc_mark]; rfl
  have HWe : Hid (W = w.alloc (.cells #[.int .i64 22, .int .i64 x.n, .string x.name, .slice a x.kids.length c] 70)) := hW
  clear hW
  go_enter Tryd.func25, Tryd.ntmps25
  go_upto_region 35 with fail
  rw [← HWe.out]
  go_region_with (go_at_call 45; refine (hT.out _ HW.out.drew).mono ?_; rintro e w1 ⟨rfl, hb1⟩; have HB1 : Hid (Below w.heap.size w w1) := bel_next HW.out.drew hb1 (by show w.heap.size ≤ W.heap.size; omega); have k2 : w1.cell? ⟨w.heap.size, 2, none⟩ = some (.string x.name) := (hb1.cell (p := ⟨w.heap.size, 2, none⟩) hsz).trans g2; clear hb1)
  all_goals
    go_wp2
    go_ret
    exact ⟨by rw [HR.out]; rfl, Hid.out (by assumption)⟩

set_option maxRecDepth 100000 in
set_option maxHeartbeats 1000000 in
theorem text_resume (x : Sy.Ex) (a : Option Addr) (c : Nat) (need : Int) (t r : ByteArray) (w : World) (hk : x.kind = 23)
    (hT : Hid (∀ u : World, Below w.heap.size w u → Calls Tryd.prog 45 #[.slice a x.kids.length c] u fun e w' => e = .returned (.string t) ∧ Below u.heap.size u w'))
    (htz : t.size ≤ 900000) (hn6 : need ≤ 6) (HR : Hid (r = ⟨#[114, 101, 115, 117, 109, 101, 32]⟩ ++ t)) :
    Calls Tryd.prog 25 #[exV x a c, .int .i64 need] w fun e w' => e = .returned (.string r) ∧ Below w.heap.size w w' := by
  go_enter Tryd.func25, Tryd.ntmps25
  go_wp2_with fail
  refine (hT.out _ (bel_one w _)).mono ?_
  rintro e w1 ⟨rfl, hb1⟩
  have HB1 : Hid (Below w.heap.size w w1) := bel_next (bel_one w _) hb1 (by simp)
  clear hb1
  go_wp2
  go_ret
  exact ⟨by rw [HR.out]; rfl, HB1.out⟩

set_option maxRecDepth 100000 in
set_option maxHeartbeats 1000000 in
theorem text_alive (x : Sy.Ex) (a : Option Addr) (c : Nat) (need : Int) (t r : ByteArray) (w : World) (hk : x.kind = 24)
    (hT : Hid (∀ u : World, Below w.heap.size w u → Calls Tryd.prog 45 #[.slice a x.kids.length c] u fun e w' => e = .returned (.string t) ∧ Below u.heap.size u w'))
    (htz : t.size ≤ 900000) (hn6 : need ≤ 6) (HR : Hid (r = ⟨#[97, 108, 105, 118, 101, 32]⟩ ++ t)) :
    Calls Tryd.prog 25 #[exV x a c, .int .i64 need] w fun e w' => e = .returned (.string r) ∧ Below w.heap.size w w' := by
  go_enter Tryd.func25, Tryd.ntmps25
  go_wp2_with fail
  refine (hT.out _ (bel_one w _)).mono ?_
  rintro e w1 ⟨rfl, hb1⟩
  have HB1 : Hid (Below w.heap.size w w1) := bel_next (bel_one w _) hb1 (by simp)
  clear hb1
  go_wp2
  go_ret
  exact ⟨by rw [HR.out]; rfl, HB1.out⟩

end Go.Proofs.YtbbklahhnepiaaaDoor
