/- The document's answer, chapter 7, walked: Needs (2). (Laid by tools/mkneeds.py.) -/
import Derived.Test.YtbkimpimoclobaaM29
namespace Go.Proofs.Ytbkimpimoclobaa
open Go.RowKit

set_option maxRecDepth 100000 in
set_option maxHeartbeats 1000000 in
theorem rneeds_21 (m : Vf.Md) (ab au : Option Addr) (cb cu : Nat) (u : Vf.Un) (al ac : Option Addr) (cl cc : Nat) (a n : Int) (w : World)  :
    Calls Try.prog 33 #[mdV m ab au cb cu, runV u al ac cl cc, rinV 21 a n] w fun e w' => NdE ([], []) e ∧ w.grownBy w' none := by
  have hmf : ∀ (fn : Fn) (first cap : Array Value) (w : World), (Instr.makeFunc fn first cap).run Try.prog w = .ok (.func fn first cap) w := fun _ _ _ _ => rfl
  go_enter Try.func33, Try.ntmps33
  go_wp2
  refine bodyPost_ret (v := .tuple #[.string ⟨#[]⟩, .string ⟨#[]⟩]) (by simp [results, Try.results33, go_sem]) rfl ?_
  exact ⟨⟨_, _, rfl, rfl, rfl⟩, grown0_new (two_new _ _ _) _⟩

set_option maxRecDepth 100000 in
set_option maxHeartbeats 1000000 in
theorem rneeds_22 (m : Vf.Md) (ab au : Option Addr) (cb cu : Nat) (u : Vf.Un) (al ac : Option Addr) (cl cc : Nat) (a n : Int) (w : World)  :
    Calls Try.prog 33 #[mdV m ab au cb cu, runV u al ac cl cc, rinV 22 a n] w fun e w' => NdE ([98], []) e ∧ w.grownBy w' none := by
  have hmf : ∀ (fn : Fn) (first cap : Array Value) (w : World), (Instr.makeFunc fn first cap).run Try.prog w = .ok (.func fn first cap) w := fun _ _ _ _ => rfl
  go_enter Try.func33, Try.ntmps33
  go_wp2
  refine bodyPost_ret (v := .tuple #[.string ⟨#[98]⟩, .string ⟨#[]⟩]) (by simp [results, Try.results33, go_sem]) rfl ?_
  exact ⟨⟨_, _, rfl, rfl, rfl⟩, grown0_new (two_new _ _ _) _⟩

set_option maxRecDepth 100000 in
set_option maxHeartbeats 1000000 in
theorem rneeds_25 (m : Vf.Md) (ab au : Option Addr) (cb cu : Nat) (u : Vf.Un) (al ac : Option Addr) (cl cc : Nat) (a n : Int) (w : World)  :
    Calls Try.prog 33 #[mdV m ab au cb cu, runV u al ac cl cc, rinV 25 a n] w fun e w' => NdE ([], []) e ∧ w.grownBy w' none := by
  have hmf : ∀ (fn : Fn) (first cap : Array Value) (w : World), (Instr.makeFunc fn first cap).run Try.prog w = .ok (.func fn first cap) w := fun _ _ _ _ => rfl
  go_enter Try.func33, Try.ntmps33
  go_wp2
  refine bodyPost_ret (v := .tuple #[.string ⟨#[]⟩, .string ⟨#[]⟩]) (by simp [results, Try.results33, go_sem]) rfl ?_
  exact ⟨⟨_, _, rfl, rfl, rfl⟩, grown0_new (two_new _ _ _) _⟩

set_option maxRecDepth 100000 in
set_option maxHeartbeats 1000000 in
theorem rneeds_28 (m : Vf.Md) (ab au : Option Addr) (cb cu : Nat) (u : Vf.Un) (al ac : Option Addr) (cl cc : Nat) (a n : Int) (w : World)  :
    Calls Try.prog 33 #[mdV m ab au cb cu, runV u al ac cl cc, rinV 28 a n] w fun e w' => NdE ([63], []) e ∧ w.grownBy w' none := by
  have hmf : ∀ (fn : Fn) (first cap : Array Value) (w : World), (Instr.makeFunc fn first cap).run Try.prog w = .ok (.func fn first cap) w := fun _ _ _ _ => rfl
  go_enter Try.func33, Try.ntmps33
  go_wp2
  refine bodyPost_ret (v := .tuple #[.string ⟨#[63]⟩, .string ⟨#[]⟩]) (by simp [results, Try.results33, go_sem]) rfl ?_
  exact ⟨⟨_, _, rfl, rfl, rfl⟩, grown0_new (two_new _ _ _) _⟩

set_option maxRecDepth 100000 in
set_option maxHeartbeats 1000000 in
theorem rneeds_30 (m : Vf.Md) (ab au : Option Addr) (cb cu : Nat) (u : Vf.Un) (al ac : Option Addr) (cl cc : Nat) (a n : Int) (w : World)  :
    Calls Try.prog 33 #[mdV m ab au cb cu, runV u al ac cl cc, rinV 30 a n] w fun e w' => NdE ([], []) e ∧ w.grownBy w' none := by
  have hmf : ∀ (fn : Fn) (first cap : Array Value) (w : World), (Instr.makeFunc fn first cap).run Try.prog w = .ok (.func fn first cap) w := fun _ _ _ _ => rfl
  go_enter Try.func33, Try.ntmps33
  go_wp2
  refine bodyPost_ret (v := .tuple #[.string ⟨#[]⟩, .string ⟨#[]⟩]) (by simp [results, Try.results33, go_sem]) rfl ?_
  exact ⟨⟨_, _, rfl, rfl, rfl⟩, grown0_new (two_new _ _ _) _⟩

set_option maxRecDepth 100000 in
set_option maxHeartbeats 1000000 in
theorem rneeds_32 (m : Vf.Md) (ab au : Option Addr) (cb cu : Nat) (u : Vf.Un) (al ac : Option Addr) (cl cc : Nat) (a n : Int) (w : World)  :
    Calls Try.prog 33 #[mdV m ab au cb cu, runV u al ac cl cc, rinV 32 a n] w fun e w' => NdE ([], []) e ∧ w.grownBy w' none := by
  have hmf : ∀ (fn : Fn) (first cap : Array Value) (w : World), (Instr.makeFunc fn first cap).run Try.prog w = .ok (.func fn first cap) w := fun _ _ _ _ => rfl
  go_enter Try.func33, Try.ntmps33
  go_wp2
  refine bodyPost_ret (v := .tuple #[.string ⟨#[]⟩, .string ⟨#[]⟩]) (by simp [results, Try.results33, go_sem]) rfl ?_
  exact ⟨⟨_, _, rfl, rfl, rfl⟩, grown0_new (two_new _ _ _) _⟩

set_option maxRecDepth 100000 in
set_option maxHeartbeats 1000000 in
theorem rneeds_3 (m : Vf.Md) (ab au : Option Addr) (cb cu : Nat) (u : Vf.Un) (al ac : Option Addr) (cl cc : Nat) (a n : Int) (w : World) (B : Nat) (hun : Hid (UnIn B w u al ac cl cc)) (hB : B ≤ w.heap.size) (t : Int) (h0 : 0 ≤ a) (hta : u.locals[a.toNat]? = some t) (hlt : Vf.Lt t) :
    Calls Try.prog 33 #[mdV m ab au cb cu, runV u al ac cl cc, rinV 3 a n] w fun e w' => NdE ([], [Vf.ltr t]) e ∧ w.grownBy w' none := by
  have hmf : ∀ (fn : Fn) (first cap : Array Value) (w : World), (Instr.makeFunc fn first cap).run Try.prog w = .ok (.func fn first cap) w := fun _ _ _ _ => rfl
  obtain ⟨s1, hs1⟩ : ∃ s1 : ByteArray, s1 = ⟨#[Vf.ltr t]⟩ := ⟨_, rfl⟩
  have HS1 := hide hs1
  clear hs1
  obtain ⟨j, rfl⟩ := nn_of h0
  obtain ⟨h64, bl, ol, hal, hbl, ct⟩ := hun.out.locals j t (by simpa using hta)
  have hj1 : (j : Int) < (u.locals.length : Int) := by have := (List.getElem?_eq_some_iff.1 hta).1; simp at this; omega
  have hbw : bl < w.heap.size := by omega
  have hbw1 : bl < w.heap.size + 1 := by omega
  have hbw2 : bl < w.heap.size + 1 + 1 := by omega
  clear hta
  subst hal
  go_enter Try.func33, Try.ntmps33
  go_wp2_with fail
  refine (rletter_any t hlt _ s1 HS1).mono ?_
  rintro e w2 ⟨rfl, hg2⟩
  have HG2 : Hid (w.grownBy w2 none) := grown0_tr' (grown0_new (two_new _ _ _) _) hg2
  clear hg2
  go_wp2
  refine bodyPost_ret (v := .tuple #[.string ⟨#[]⟩, .string s1]) (by simp [results, Try.results33, go_sem]) rfl ?_
  exact ⟨⟨⟨#[]⟩, s1, rfl, by rw [HS1.out], rfl⟩, HG2.out⟩

set_option maxRecDepth 100000 in
set_option maxHeartbeats 1000000 in
theorem rneeds_4 (m : Vf.Md) (ab au : Option Addr) (cb cu : Nat) (u : Vf.Un) (al ac : Option Addr) (cl cc : Nat) (a n : Int) (w : World) (B : Nat) (hun : Hid (UnIn B w u al ac cl cc)) (hB : B ≤ w.heap.size) (t : Int) (h0 : 0 ≤ a) (hta : u.locals[a.toNat]? = some t) (hlt : Vf.Lt t) :
    Calls Try.prog 33 #[mdV m ab au cb cu, runV u al ac cl cc, rinV 4 a n] w fun e w' => NdE ([Vf.ltr t], []) e ∧ w.grownBy w' none := by
  have hmf : ∀ (fn : Fn) (first cap : Array Value) (w : World), (Instr.makeFunc fn first cap).run Try.prog w = .ok (.func fn first cap) w := fun _ _ _ _ => rfl
  obtain ⟨s1, hs1⟩ : ∃ s1 : ByteArray, s1 = ⟨#[Vf.ltr t]⟩ := ⟨_, rfl⟩
  have HS1 := hide hs1
  clear hs1
  obtain ⟨j, rfl⟩ := nn_of h0
  obtain ⟨h64, bl, ol, hal, hbl, ct⟩ := hun.out.locals j t (by simpa using hta)
  have hj1 : (j : Int) < (u.locals.length : Int) := by have := (List.getElem?_eq_some_iff.1 hta).1; simp at this; omega
  have hbw : bl < w.heap.size := by omega
  have hbw1 : bl < w.heap.size + 1 := by omega
  have hbw2 : bl < w.heap.size + 1 + 1 := by omega
  clear hta
  subst hal
  go_enter Try.func33, Try.ntmps33
  go_wp2_with fail
  refine (rletter_any t hlt _ s1 HS1).mono ?_
  rintro e w2 ⟨rfl, hg2⟩
  have HG2 : Hid (w.grownBy w2 none) := grown0_tr' (grown0_new (two_new _ _ _) _) hg2
  clear hg2
  go_wp2
  refine bodyPost_ret (v := .tuple #[.string s1, .string ⟨#[]⟩]) (by simp [results, Try.results33, go_sem]) rfl ?_
  exact ⟨⟨s1, ⟨#[]⟩, by rw [HS1.out], rfl, rfl⟩, HG2.out⟩

set_option maxRecDepth 100000 in
set_option maxHeartbeats 1000000 in
theorem rneeds_24 (m : Vf.Md) (ab au : Option Addr) (cb cu : Nat) (u : Vf.Un) (al ac : Option Addr) (cl cc : Nat) (a n : Int) (w : World) (hlt : Vf.Lt u.result) :
    Calls Try.prog 33 #[mdV m ab au cb cu, runV u al ac cl cc, rinV 24 a n] w fun e w' => NdE ([Vf.ltr u.result], []) e ∧ w.grownBy w' none := by
  have hmf : ∀ (fn : Fn) (first cap : Array Value) (w : World), (Instr.makeFunc fn first cap).run Try.prog w = .ok (.func fn first cap) w := fun _ _ _ _ => rfl
  obtain ⟨s1, hs1⟩ : ∃ s1 : ByteArray, s1 = ⟨#[Vf.ltr u.result]⟩ := ⟨_, rfl⟩
  have HS1 := hide hs1
  clear hs1

  go_enter Try.func33, Try.ntmps33
  go_wp2_with fail
  refine (rletter_any u.result hlt _ s1 HS1).mono ?_
  rintro e w2 ⟨rfl, hg2⟩
  have HG2 : Hid (w.grownBy w2 none) := grown0_tr' (grown0_new (two_new _ _ _) _) hg2
  clear hg2
  go_wp2
  refine bodyPost_ret (v := .tuple #[.string s1, .string ⟨#[]⟩]) (by simp [results, Try.results33, go_sem]) rfl ?_
  exact ⟨⟨s1, ⟨#[]⟩, by rw [HS1.out], rfl, rfl⟩, HG2.out⟩

set_option maxRecDepth 100000 in
set_option maxHeartbeats 1000000 in
theorem rneeds_26 (m : Vf.Md) (ab au : Option Addr) (cb cu : Nat) (u : Vf.Un) (al ac : Option Addr) (cl cc : Nat) (a n : Int) (w : World) (B : Nat) (hmd : Hid (ModIn B w m ab au)) (hB : B ≤ w.heap.size) (x : Vf.Bx) (h0 : 0 ≤ a) (hta : m.boxes[a.toNat]? = some x) (hlt : Vf.Lt x.ty) :
    Calls Try.prog 33 #[mdV m ab au cb cu, runV u al ac cl cc, rinV 26 a n] w fun e w' => NdE ([Vf.ltr x.ty], []) e ∧ w.grownBy w' none := by
  have hmf : ∀ (fn : Fn) (first cap : Array Value) (w : World), (Instr.makeFunc fn first cap).run Try.prog w = .ok (.func fn first cap) w := fun _ _ _ _ => rfl
  obtain ⟨s1, hs1⟩ : ∃ s1 : ByteArray, s1 = ⟨#[Vf.ltr x.ty]⟩ := ⟨_, rfl⟩
  have HS1 := hide hs1
  clear hs1
  obtain ⟨j, rfl⟩ := nn_of h0
  obtain ⟨i1, i2, bl, ol, hal, hbl, b0, b1⟩ := hmd.out.boxes j x (by simpa using hta)
  have hj1 : (j : Int) < (m.boxes.length : Int) := by have := (List.getElem?_eq_some_iff.1 hta).1; simp at this; omega
  have hbw : bl < w.heap.size := by omega
  have hbw1 : bl < w.heap.size + 1 := by omega
  have hbw2 : bl < w.heap.size + 1 + 1 := by omega
  clear hta
  subst hal
  go_enter Try.func33, Try.ntmps33
  go_wp2_with fail
  refine (rletter_any x.ty hlt _ s1 HS1).mono ?_
  rintro e w2 ⟨rfl, hg2⟩
  have HG2 : Hid (w.grownBy w2 none) := grown0_tr' (grown0_new (two_new _ _ _) _) hg2
  clear hg2
  go_wp2
  refine bodyPost_ret (v := .tuple #[.string s1, .string ⟨#[]⟩]) (by simp [results, Try.results33, go_sem]) rfl ?_
  exact ⟨⟨s1, ⟨#[]⟩, by rw [HS1.out], rfl, rfl⟩, HG2.out⟩

set_option maxRecDepth 100000 in
set_option maxHeartbeats 1000000 in
theorem rneeds_27 (m : Vf.Md) (ab au : Option Addr) (cb cu : Nat) (u : Vf.Un) (al ac : Option Addr) (cl cc : Nat) (a n : Int) (w : World) (B : Nat) (hmd : Hid (ModIn B w m ab au)) (hB : B ≤ w.heap.size) (x : Vf.Bx) (h0 : 0 ≤ a) (hta : m.boxes[a.toNat]? = some x) (hlt : Vf.Lt x.ty) :
    Calls Try.prog 33 #[mdV m ab au cb cu, runV u al ac cl cc, rinV 27 a n] w fun e w' => NdE ([], [Vf.ltr x.ty]) e ∧ w.grownBy w' none := by
  have hmf : ∀ (fn : Fn) (first cap : Array Value) (w : World), (Instr.makeFunc fn first cap).run Try.prog w = .ok (.func fn first cap) w := fun _ _ _ _ => rfl
  obtain ⟨s1, hs1⟩ : ∃ s1 : ByteArray, s1 = ⟨#[Vf.ltr x.ty]⟩ := ⟨_, rfl⟩
  have HS1 := hide hs1
  clear hs1
  obtain ⟨j, rfl⟩ := nn_of h0
  obtain ⟨i1, i2, bl, ol, hal, hbl, b0, b1⟩ := hmd.out.boxes j x (by simpa using hta)
  have hj1 : (j : Int) < (m.boxes.length : Int) := by have := (List.getElem?_eq_some_iff.1 hta).1; simp at this; omega
  have hbw : bl < w.heap.size := by omega
  have hbw1 : bl < w.heap.size + 1 := by omega
  have hbw2 : bl < w.heap.size + 1 + 1 := by omega
  clear hta
  subst hal
  go_enter Try.func33, Try.ntmps33
  go_wp2_with fail
  refine (rletter_any x.ty hlt _ s1 HS1).mono ?_
  rintro e w2 ⟨rfl, hg2⟩
  have HG2 : Hid (w.grownBy w2 none) := grown0_tr' (grown0_new (two_new _ _ _) _) hg2
  clear hg2
  go_wp2
  refine bodyPost_ret (v := .tuple #[.string ⟨#[]⟩, .string s1]) (by simp [results, Try.results33, go_sem]) rfl ?_
  exact ⟨⟨⟨#[]⟩, s1, rfl, by rw [HS1.out], rfl⟩, HG2.out⟩

end Go.Proofs.Ytbkimpimoclobaa

/- The document's answer, chapter 7, walked: Needs of OpCall, OpStart, OpYield. -/
namespace Go.Proofs.Ytbkimpimoclobaa
open Go.RowKit

theorem in_cells {w : World} {N : Nat} {x y z : Value} (h : w.heap[N]? = some (.cells #[x, y, z] 41 (0, 0))) : w.cell? ⟨N, 0, none⟩ = some x ∧ w.cell? ⟨N, 1, none⟩ = some y ∧ w.cell? ⟨N, 2, none⟩ = some z := by
  simp [World.cell?, h]
theorem un_cells2 {w : World} {N : Nat} {u : Vf.Un} {al ac : Option Addr} {cl cc : Nat} (h : w.heap[N]? = some (unO u al ac cl cc)) : w.cell? ⟨N, 0, none⟩ = some (.int .i64 u.kind) ∧ w.cell? ⟨N, 1, none⟩ = some (.int .i64 u.params) ∧ w.cell? ⟨N, 2, none⟩ = some (.slice al u.locals.length cl) ∧ w.cell? ⟨N, 3, none⟩ = some (.int .i64 u.result) ∧ w.cell? ⟨N, 4, none⟩ = some (.int .i64 u.takes) ∧ w.cell? ⟨N, 5, none⟩ = some (.slice ac u.code.length cc) := by
  simp [World.cell?, h]
abbrev inO (op a n : Int) : Obj := .cells #[.int .i64 op, .int .i64 a, .int .i64 n] 41 (0, 0)


set_option maxRecDepth 100000 in
set_option maxHeartbeats 2000000 in
theorem rneeds_31 (m : Vf.Md) (ab au : Option Addr) (cb cu : Nat) (u : Vf.Un) (al ac : Option Addr) (cl cc : Nat) (a n : Int) (w : World) (h1 : Vf.Lt u.result) (h2 : Vf.Lt u.takes) :
    Calls Try.prog 33 #[mdV m ab au cb cu, runV u al ac cl cc, rinV 31 a n] w fun e w' => NdE ([Vf.ltr u.result], [Vf.ltr u.takes]) e ∧ w.grownBy w' none := by
  have hmf : ∀ (fn : Fn) (first cap : Array Value) (w : World), (Instr.makeFunc fn first cap).run Try.prog w = .ok (.func fn first cap) w := fun _ _ _ _ => rfl
  obtain ⟨W0, hW0⟩ : ∃ W0 : World, ((w.alloc (amO m ab au cb cu)).alloc (unO u al ac cl cc)).alloc (inO 31 a n) = W0 := ⟨_, rfl⟩
  obtain ⟨t0, t1, t2, t3⟩ := three_new w (amO m ab au cb cu) (unO u al ac cl cc) (inO 31 a n)
  rw [hW0] at t0 t1 t2 t3
  obtain ⟨m0, m1, _⟩ := am_cells t1
  obtain ⟨q0, q1, q2, q3, q4, q5⟩ := un_cells2 t2
  obtain ⟨i0, i1, i2⟩ := in_cells t3
  have HG := hide t0
  have HMB := hide t1
  have HUB := hide t2
  have HIB := hide t3
  have hz := lt_of_block t3
  clear t0 t1 t2 t3
  obtain ⟨s1, hs1⟩ : ∃ s1 : ByteArray, s1 = ⟨#[Vf.ltr u.result]⟩ := ⟨_, rfl⟩
  obtain ⟨s2, hs2⟩ : ∃ s2 : ByteArray, s2 = ⟨#[Vf.ltr u.takes]⟩ := ⟨_, rfl⟩
  have HS1 := hide hs1
  have HS2 := hide hs2
  clear hs1 hs2
  go_enter Try.func33, Try.ntmps33
  go_wp2_with fail
  go_region_held3 (fun w' => w'.cell? ⟨w.heap.size + 1, 3, none⟩ = some (.int .i64 u.result) ∧ w'.cell? ⟨w.heap.size + 1, 4, none⟩ = some (.int .i64 u.takes)) (go_keep) (first | (have hx1 := HG2.out; go_at_call 34; refine (rletter_any u.takes h2 _ s2 HS2).mono ?_; rintro e w4 ⟨rfl, hg4⟩; have HG4 : Hid (w.grownBy w4 none) := grown0_tr' HG2.out hg4; obtain ⟨_, _, _, g3, g4, _⟩ := un_cells2 ((kept0 hg4 (lt_of_block HUB2.out)).trans HUB2.out); clear hg4 hx1) | (go_at_call 34; refine (rletter_any u.result h1 _ s1 HS1).mono ?_; rintro e w2 ⟨rfl, hg2'⟩; have hg2 := grown_drew hg2'; have HG2 : Hid (w.grownBy w2 none) := grown0_tr' HG.out hg2; have HUB2 : Hid (w2.heap[w.heap.size + 1]? = some (unO u al ac cl cc)) := (kept0 hg2 (lt_of_block HUB.out)).trans HUB.out; obtain ⟨_, _, _, g3, g4, _⟩ := un_cells2 HUB2.out; clear hg2 hg2'))
  go_wp2
  refine bodyPost_ret (v := .tuple #[.string s1, .string s2]) (by simp [results, Try.results33, go_sem]) rfl ?_
  exact ⟨⟨s1, s2, by rw [HS1.out], by rw [HS2.out], rfl⟩, HG4.out⟩

/-- What is asked of a unit that is called or started. -/
structure Callee (m : Vf.Md) (a : Int) (x : Vf.Un) : Prop where
  at' : m.units[a.toNat]? = some x
  nn : 0 ≤ a
  p0 : 0 ≤ x.params
  p6 : x.params ≤ 6
  pl : x.params ≤ x.locals.length
  lt : ∀ t ∈ x.locals, Vf.Lt t


set_option maxRecDepth 100000 in
set_option maxHeartbeats 2000000 in
theorem rneeds_23 (m : Vf.Md) (ab au : Option Addr) (cb cu : Nat) (u : Vf.Un) (al ac : Option Addr) (cl cc : Nat) (a n : Int) (w : World) (B : Nat) (hmd : Hid (ModIn B w m ab au)) (hB : B ≤ w.heap.size) (x : Vf.Un) (hC : Hid (Callee m a x)) (h1 : Vf.Lt x.result) :
    Calls Try.prog 33 #[mdV m ab au cb cu, runV u al ac cl cc, rinV 23 a n] w fun e w' => NdE ((x.locals.take x.params.toNat).map Vf.ltr, [Vf.ltr x.result]) e ∧ w.grownBy w' none := by
  have hmf : ∀ (fn : Fn) (first cap : Array Value) (w : World), (Instr.makeFunc fn first cap).run Try.prog w = .ok (.func fn first cap) w := fun _ _ _ _ => rfl
  obtain ⟨W0, hW0⟩ : ∃ W0 : World, ((w.alloc (amO m ab au cb cu)).alloc (unO u al ac cl cc)).alloc (inO 23 a n) = W0 := ⟨_, rfl⟩
  obtain ⟨t0, t1, t2, t3⟩ := three_new w (amO m ab au cb cu) (unO u al ac cl cc) (inO 23 a n)
  rw [hW0] at t0 t1 t2 t3
  obtain ⟨m0, m1, _⟩ := am_cells t1
  obtain ⟨q0, q1, q2, q3, q4, q5⟩ := un_cells2 t2
  obtain ⟨i0, i1, i2⟩ := in_cells t3
  have HG := hide t0
  have HMB := hide t1
  have HUB := hide t2
  have HIB := hide t3
  have hz := lt_of_block t3
  clear t0 t1 t2 t3
  obtain ⟨j, hj⟩ := nn_of hC.out.nn
  have hxu := hC.out.at'
  rw [hj] at hxu
  obtain ⟨b, off, al2, cl2, ac2, cc2, ha, hb, hui, u0, u1, u2, u3, u4, u5⟩ := hmd.out.units j x hxu
  have hj1 : (j : Int) < (m.units.length : Int) := by have := (List.getElem?_eq_some_iff.1 hxu).1; simp at this; omega
  have HX : Hid (m.units[j]? = some x) := hxu
  have HLT : Hid (∀ t ∈ x.locals, Vf.Lt t) := hC.out.lt
  have P0 := hide hC.out.p0
  have P6 := hide hC.out.p6
  have PL := hide hC.out.pl
  have HM0 : Hid (ModIn B W0 m ab au) := hmd.out.low (low0 HG.out hB)
  have hx3 : W0.cell? ⟨b, off + j * 6 + 3, none⟩ = some (.int .i64 x.result) := (cell_eq (low0 HG.out hB b hb) _).trans u3
  have hbw : b < W0.heap.size := by omega
  have hBW : B ≤ W0.heap.size := by omega
  clear hui u0 u1 u2 u3 u4 u5 hxu hC
  subst hj ha
  obtain ⟨s2, hs2⟩ : ∃ s2 : ByteArray, s2 = ⟨#[Vf.ltr x.result]⟩ := ⟨_, rfl⟩
  have HS2 := hide hs2
  clear hs2
  go_enter Try.func33, Try.ntmps33
  go_wp2_with fail
  go_region_held3 (fun w' => w'.cell? ⟨w.heap.size + 1 + 1, 1, none⟩ = some (.int .i64 (j : Int)) ∧ w'.cell? ⟨w.heap.size, 1, none⟩ = some (.slice (some ⟨b, off, none⟩) m.units.length cu) ∧ w'.cell? ⟨b, off + j * 6 + 3, none⟩ = some (.int .i64 x.result)) (go_keep) (first | (have hx1 := HG2.out; go_at_call 34; refine (rletter_any x.result h1 _ s2 HS2).mono ?_; rintro e w4 ⟨rfl, hg4⟩; have HG4 : Hid (W0.grownBy w4 none) := grown0_tr' HG2.out hg4; obtain ⟨_, g1, _⟩ := am_cells ((kept0 HG4.out (lt_of_block HMB.out)).trans HMB.out); obtain ⟨_, g2, _⟩ := in_cells ((kept0 HG4.out (lt_of_block HIB.out)).trans HIB.out); have g3 := (cell_eq (kept0 HG4.out hbw) (off + j * 6 + 3)).trans hx3; clear hg4 hx1) | (go_at_call 48; refine (rparams_any m ab _ cb cu B w.heap.size j x W0.drew (hide (HM0.out.low (fun _ _ => rfl))) hBW (hide HMB.out) HX P0.out P6.out PL.out HLT).mono ?_; rintro e w2 ⟨⟨s1, hs1, rfl⟩, hg2'⟩; have HS1 := hide hs1; have HG2 : Hid (W0.grownBy w2 none) := grown_drew hg2'; obtain ⟨_, g1, _⟩ := am_cells ((kept0 HG2.out (lt_of_block HMB.out)).trans HMB.out); obtain ⟨_, g2, _⟩ := in_cells ((kept0 HG2.out (lt_of_block HIB.out)).trans HIB.out); have g3 := (cell_eq (kept0 HG2.out hbw) (off + j * 6 + 3)).trans hx3; clear hs1 hg2'))
  go_wp2
  refine bodyPost_ret (v := .tuple #[.string s1, .string s2]) (by simp [results, Try.results33, go_sem]) rfl ?_
  exact ⟨⟨s1, s2, HS1.out, by rw [HS2.out], rfl⟩, grown0_tr' HG.out HG4.out⟩

set_option maxRecDepth 100000 in
set_option maxHeartbeats 2000000 in
theorem rneeds_29 (m : Vf.Md) (ab au : Option Addr) (cb cu : Nat) (u : Vf.Un) (al ac : Option Addr) (cl cc : Nat) (a n : Int) (w : World) (B : Nat) (hmd : Hid (ModIn B w m ab au)) (hB : B ≤ w.heap.size) (x : Vf.Un) (hC : Hid (Callee m a x)) (h1 : Vf.Lt (10 + a)) :
    Calls Try.prog 33 #[mdV m ab au cb cu, runV u al ac cl cc, rinV 29 a n] w fun e w' => NdE ((x.locals.take x.params.toNat).map Vf.ltr, [Vf.ltr (10 + a)]) e ∧ w.grownBy w' none := by
  obtain ⟨d, hd⟩ : ∃ d, d = 10 + a := ⟨_, rfl⟩
  obtain ⟨s2, hs2⟩ : ∃ s2 : ByteArray, s2 = ⟨#[Vf.ltr d]⟩ := ⟨_, rfl⟩
  rw [← hd] at h1 ⊢
  have HS2 := hide hs2
  have hda : 0 ≤ a := hC.out.nn
  have hdw : IntKind.i64.wrap (10 + a) = d := by
    rw [hd]
    have : Vf.Lt (10 + a) := by rw [← hd]; exact h1
    unfold Vf.Lt at this
    simp [IntKind.wrap, IntKind.bits, IntKind.signed]
    omega
  clear hs2 hd hda
  have hmf : ∀ (fn : Fn) (first cap : Array Value) (w : World), (Instr.makeFunc fn first cap).run Try.prog w = .ok (.func fn first cap) w := fun _ _ _ _ => rfl
  obtain ⟨W0, hW0⟩ : ∃ W0 : World, ((w.alloc (amO m ab au cb cu)).alloc (unO u al ac cl cc)).alloc (inO 29 a n) = W0 := ⟨_, rfl⟩
  obtain ⟨t0, t1, t2, t3⟩ := three_new w (amO m ab au cb cu) (unO u al ac cl cc) (inO 29 a n)
  rw [hW0] at t0 t1 t2 t3
  obtain ⟨m0, m1, _⟩ := am_cells t1
  obtain ⟨q0, q1, q2, q3, q4, q5⟩ := un_cells2 t2
  obtain ⟨i0, i1, i2⟩ := in_cells t3
  have HG := hide t0
  have HMB := hide t1
  have HUB := hide t2
  have HIB := hide t3
  have hz := lt_of_block t3
  clear t0 t1 t2 t3
  obtain ⟨j, hj⟩ := nn_of hC.out.nn
  have hxu := hC.out.at'
  rw [hj] at hxu
  obtain ⟨b, off, al2, cl2, ac2, cc2, ha, hb, hui, u0, u1, u2, u3, u4, u5⟩ := hmd.out.units j x hxu
  have hj1 : (j : Int) < (m.units.length : Int) := by have := (List.getElem?_eq_some_iff.1 hxu).1; simp at this; omega
  have HX : Hid (m.units[j]? = some x) := hxu
  have HLT : Hid (∀ t ∈ x.locals, Vf.Lt t) := hC.out.lt
  have P0 := hide hC.out.p0
  have P6 := hide hC.out.p6
  have PL := hide hC.out.pl
  have HM0 : Hid (ModIn B W0 m ab au) := hmd.out.low (low0 HG.out hB)
  have hx3 : W0.cell? ⟨b, off + j * 6 + 3, none⟩ = some (.int .i64 x.result) := (cell_eq (low0 HG.out hB b hb) _).trans u3
  have hbw : b < W0.heap.size := by omega
  have hBW : B ≤ W0.heap.size := by omega
  clear hui u0 u1 u2 u3 u4 u5 hxu hC
  subst hj ha
  clear hx3
  go_enter Try.func33, Try.ntmps33
  go_wp2_with fail
  go_region_held3 (fun w' => w'.cell? ⟨w.heap.size + 1 + 1, 1, none⟩ = some (.int .i64 (j : Int))) (go_keep) (first | (have hx1 := HG2.out; go_at_call 34; refine (rletter_any d h1 _ s2 HS2).mono ?_; rintro e w4 ⟨rfl, hg4⟩; have HG4 : Hid (W0.grownBy w4 none) := grown0_tr' HG2.out hg4; obtain ⟨_, g2, _⟩ := in_cells ((kept0 HG4.out (lt_of_block HIB.out)).trans HIB.out); clear hg4 hx1) | (go_at_call 48; refine (rparams_any m ab _ cb cu B w.heap.size j x W0.drew (hide (HM0.out.low (fun _ _ => rfl))) hBW (hide HMB.out) HX P0.out P6.out PL.out HLT).mono ?_; rintro e w2 ⟨⟨s1, hs1, rfl⟩, hg2'⟩; have HS1 := hide hs1; have HG2 : Hid (W0.grownBy w2 none) := grown_drew hg2'; obtain ⟨_, g2, _⟩ := in_cells ((kept0 HG2.out (lt_of_block HIB.out)).trans HIB.out); clear hs1 hg2'))
  go_wp2
  refine bodyPost_ret (v := .tuple #[.string s1, .string s2]) (by simp [results, Try.results33, go_sem]) rfl ?_
  exact ⟨⟨s1, s2, HS1.out, by rw [HS2.out], rfl⟩, grown0_tr' HG.out HG4.out⟩

end Go.Proofs.Ytbkimpimoclobaa

