/- The document's answer, chapter 7, walked: letters; Needs's params. -/
import Derived.Test.YtbkimpimoclobaaM28
import Derived.Test.YtbkimpimoclobaaM26
namespace Go.Proofs.Ytbkimpimoclobaa
open Go.RowKit
namespace Vf
/-- A type's letter. -/
def ltr (t : Int) : UInt8 := if t = 1 then 110 else if t = 2 then 98 else UInt8.ofNat (55 + t).toNat
/-- Types that have letters of their own. -/
def Lt (t : Int) : Prop := t = 1 ∨ t = 2 ∨ (10 ≤ t ∧ t < 40)
theorem ltr_gen {t : Int} (h : 10 ≤ t) : ltr t = UInt8.ofNat (55 + t).toNat := by unfold ltr; rw [if_neg (by omega), if_neg (by omega)]
theorem ltr_inj {s t : Int} (hs : Lt s) (ht : Lt t) (h : ltr s = ltr t) : s = t := by
  have key : ∀ x : Int, Lt x → ((ltr x).toNat : Int) = if x = 1 then 110 else if x = 2 then 98 else 55 + x := by
    rintro x (rfl | rfl | hx)
    · rfl
    · rfl
    · rw [ltr_gen hx.1, if_neg (by omega), if_neg (by omega), UInt8.toNat_ofNat']
      omega
  have h1 := key s hs
  have h2 := key t ht
  rw [h] at h1
  rw [h1] at h2
  rcases hs with rfl | rfl | hs <;> rcases ht with rfl | rfl | ht
  · rfl
  · exact absurd h2 (by decide)
  · rw [if_pos rfl, if_neg (by omega), if_neg (by omega)] at h2; omega
  · exact absurd h2 (by decide)
  · rfl
  · rw [if_neg (by decide), if_pos rfl, if_neg (by omega), if_neg (by omega)] at h2; omega
  · rw [if_neg (by omega), if_neg (by omega), if_pos rfl] at h2; omega
  · rw [if_neg (by omega), if_neg (by omega), if_neg (by decide), if_pos rfl] at h2; omega
  · rw [if_neg (by omega), if_neg (by omega), if_neg (by omega), if_neg (by omega)] at h2; omega
end Vf

theorem rletter_any (t : Int) (ht : Vf.Lt t) (w : World) (s : ByteArray) (hs : Hid (s = ⟨#[Vf.ltr t]⟩)) : Calls Try.prog 34 #[.int .i64 t] w fun e w' => e = .returned (.string s) ∧ w.grownBy w' none := by
  rw [hs.out]
  rcases ht with rfl | rfl | h
  · refine (rletter_one w).mono ?_
    rintro e w' ⟨rfl, rfl⟩
    exact ⟨rfl, World.grownBy.refl _ _⟩
  · refine (rletter_two w).mono ?_
    rintro e w' ⟨rfl, rfl⟩
    exact ⟨rfl, World.grownBy.refl _ _⟩
  · rw [Vf.ltr_gen h.1]
    exact rletter_gen t h.1 h.2 w

/-- At the head of params's loop. -/
structure PaAt (l : List Int) (w : World) (j : Nat) (s : ByteArray) (W : World) : Prop where
  le : j ≤ l.length
  grown : w.grownBy W none
  txt : s.data.toList = (l.take j).map Vf.ltr

set_option maxRecDepth 100000 in
set_option maxHeartbeats 2000000 in
theorem rparams_any (m : Vf.Md) (ab au : Option Addr) (cb cu B M : Nat) (k : Nat) (u : Vf.Un) (w : World) (hmd : Hid (ModIn B w m ab au)) (hB : B ≤ w.heap.size) (hM : Hid (w.heap[M]? = some (amO m ab au cb cu))) (hu : Hid (m.units[k]? = some u)) (h0 : 0 ≤ u.params) (h6 : u.params ≤ 6) (hl : u.params ≤ u.locals.length) (hlt : Hid (∀ t ∈ u.locals, Vf.Lt t)) :
    Calls Try.prog 48 #[.int .i64 (k : Int), .pointer (some ⟨M, 0, none⟩)] w fun e w' => (∃ s : ByteArray, s.data.toList = (u.locals.take u.params.toNat).map Vf.ltr ∧ e = .returned (.string s)) ∧ w.grownBy w' none := by
  obtain ⟨y0, y1, _⟩ := am_cells hM.out
  obtain ⟨b, off, al, cl, ac, cc, ha, hb, hui, q0, q1, q2, q3, q4, q5⟩ := hmd.out.units k u hu.out
  obtain ⟨p, hp⟩ := nn_of h0
  have hk1 : k < m.units.length := (List.getElem?_eq_some_iff.1 hu.out).1
  have hk2 : (k : Int) < (m.units.length : Int) := by omega
  have hpl : p ≤ u.locals.length := by omega
  have hpc : p ≤ cl := by have := hui.caps.1; omega
  have hp6 : p ≤ 6 := by omega
  rw [hp] at q1
  have HP := hide hp
  obtain ⟨l, hL⟩ : ∃ l : List Int, l = u.locals.take p := ⟨_, rfl⟩
  have hll : l.length = p := by rw [hL, List.length_take]; omega
  have HIN : Hid (∀ W, Low B w W → IntsIn B W l al) := fun W hW i x hx => by
    refine (hui.locals.low hW) i x ?_
    rw [hL] at hx
    rw [List.getElem?_take] at hx
    split at hx
    · exact hx
    · cases hx
  have HLT : Hid (∀ t ∈ l, Vf.Lt t) := fun t ht => hlt.out t (by rw [hL] at ht; exact List.mem_of_mem_take ht)
  have HL : Hid (u.locals.take u.params.toNat = l) := by
    unfold Hid
    rw [hp, hL]
    rfl
  have HLL := hide hll
  clear hui hL hp h0 h6 hl hlt hll
  subst ha
  go_enter Try.func48, Try.ntmps48
  go_wp2_with fail
  go_quiet (fail)
  go_wp2_with fail
  go_loopw [4, 21] (fun v4 v wr => ∃ (j : Nat) (s : ByteArray), v = .int .i64 j ∧ v4 = .string s ∧ PaAt l w j s wr) (fun _ v _ => p - (intOf v).toNat)
  case atStart => exact ⟨0, ⟨#[]⟩, rfl, rfl, Nat.zero_le _, grown0_drewN (World.grownBy.refl _ _) nq, rfl⟩
  case round =>
    clear y0 y1 q0 q1 q2 q3 q4 q5
    obtain ⟨j, s, rfl, rfl, hA⟩ := hrel
    have HA := hide hA
    have hjp : j ≤ p := by have := hA.le; have := HLL.out; omega
    have hsz : s.size = j := by
      rw [← list_size, hA.txt]
      have := hA.le
      simp
      omega
    have HSZ := hide hsz
    clear hA hsz
    by_cases hj : j < p
    · obtain ⟨t, ht⟩ : ∃ t, l[j]? = some t := ⟨_, List.getElem?_eq_getElem (by rw [HLL.out]; exact hj)⟩
      obtain ⟨h64, bl, ol, hal, hbl, ct⟩ := HIN.out wr (low0 HA.out.grown hB) j t ht
      have HT : Hid (Vf.Lt t) := HLT.out t (List.mem_of_getElem? ht)
      have HTT := hide ht
      obtain ⟨s1, hs1⟩ : ∃ s1 : ByteArray, s1 = ⟨#[Vf.ltr t]⟩ := ⟨_, rfl⟩
      have HS1 := hide hs1
      have hz1 : s1.size = 1 := by rw [hs1]; rfl
      have hz : ¬ 9223372036854775807 < s.size + s1.size := by have := HSZ.out; omega
      have HZ1 := hide hz1
      clear ht hs1 hz1
      subst hal
      go_wp2_with fail
      refine (rletter_any t HT.out _ s1 HS1).mono ?_
      rintro e w2 ⟨rfl, hg2⟩
      have HG2 : Hid (w.grownBy w2 none) := grown0_tr' HA.out.grown hg2
      clear hg2
      go_wp2
      go_roundw
      case rel =>
        refine ⟨j + 1, s ++ s1, by go_num, rfl, by have := HLL.out; omega, HG2.out, ?_⟩
        obtain ⟨hj2, hjt⟩ := List.getElem?_eq_some_iff.1 HTT.out
        rw [List.take_succ_eq_append_getElem hj2, hjt]
        simp [ByteArray.data_append, HA.out.txt, HS1.out]
      case measure => simp [intOf]; omega
    · have hje : j = p := by omega
      go_wp2
      go_ret
      refine ⟨⟨s, ?_, rfl⟩, HA.out.grown⟩
      rw [HA.out.txt, HL.out, List.take_of_length_le (by rw [HLL.out]; omega)]
end Go.Proofs.Ytbkimpimoclobaa

/- The document's answer, chapter 7, walked: Needs. (Laid by tools/mkneeds.py.) -/
namespace Go.Proofs.Ytbkimpimoclobaa
open Go.RowKit

/-- What Needs answers. -/
def NdE (p : List UInt8 × List UInt8) (e : Ending) : Prop := ∃ s t : ByteArray, s.data.toList = p.1 ∧ t.data.toList = p.2 ∧ e = .returned (.tuple #[.string s, .string t])

set_option maxRecDepth 100000 in
set_option maxHeartbeats 1000000 in
theorem rneeds_1 (m : Vf.Md) (ab au : Option Addr) (cb cu : Nat) (u : Vf.Un) (al ac : Option Addr) (cl cc : Nat) (a n : Int) (w : World)  :
    Calls Try.prog 33 #[mdV m ab au cb cu, runV u al ac cl cc, rinV 1 a n] w fun e w' => NdE ([], [110]) e ∧ w.grownBy w' none := by
  have hmf : ∀ (fn : Fn) (first cap : Array Value) (w : World), (Instr.makeFunc fn first cap).run Try.prog w = .ok (.func fn first cap) w := fun _ _ _ _ => rfl
  go_enter Try.func33, Try.ntmps33
  go_wp2
  refine bodyPost_ret (v := .tuple #[.string ⟨#[]⟩, .string ⟨#[110]⟩]) (by simp [results, Try.results33, go_sem]) rfl ?_
  exact ⟨⟨_, _, rfl, rfl, rfl⟩, grown0_new (two_new _ _ _) _⟩

set_option maxRecDepth 100000 in
set_option maxHeartbeats 1000000 in
theorem rneeds_2 (m : Vf.Md) (ab au : Option Addr) (cb cu : Nat) (u : Vf.Un) (al ac : Option Addr) (cl cc : Nat) (a n : Int) (w : World)  :
    Calls Try.prog 33 #[mdV m ab au cb cu, runV u al ac cl cc, rinV 2 a n] w fun e w' => NdE ([], [98]) e ∧ w.grownBy w' none := by
  have hmf : ∀ (fn : Fn) (first cap : Array Value) (w : World), (Instr.makeFunc fn first cap).run Try.prog w = .ok (.func fn first cap) w := fun _ _ _ _ => rfl
  go_enter Try.func33, Try.ntmps33
  go_wp2
  refine bodyPost_ret (v := .tuple #[.string ⟨#[]⟩, .string ⟨#[98]⟩]) (by simp [results, Try.results33, go_sem]) rfl ?_
  exact ⟨⟨_, _, rfl, rfl, rfl⟩, grown0_new (two_new _ _ _) _⟩

set_option maxRecDepth 100000 in
set_option maxHeartbeats 1000000 in
theorem rneeds_5 (m : Vf.Md) (ab au : Option Addr) (cb cu : Nat) (u : Vf.Un) (al ac : Option Addr) (cl cc : Nat) (a n : Int) (w : World)  :
    Calls Try.prog 33 #[mdV m ab au cb cu, runV u al ac cl cc, rinV 5 a n] w fun e w' => NdE ([42], []) e ∧ w.grownBy w' none := by
  have hmf : ∀ (fn : Fn) (first cap : Array Value) (w : World), (Instr.makeFunc fn first cap).run Try.prog w = .ok (.func fn first cap) w := fun _ _ _ _ => rfl
  go_enter Try.func33, Try.ntmps33
  go_wp2
  refine bodyPost_ret (v := .tuple #[.string ⟨#[42]⟩, .string ⟨#[]⟩]) (by simp [results, Try.results33, go_sem]) rfl ?_
  exact ⟨⟨_, _, rfl, rfl, rfl⟩, grown0_new (two_new _ _ _) _⟩

set_option maxRecDepth 100000 in
set_option maxHeartbeats 1000000 in
theorem rneeds_6 (m : Vf.Md) (ab au : Option Addr) (cb cu : Nat) (u : Vf.Un) (al ac : Option Addr) (cl cc : Nat) (a n : Int) (w : World)  :
    Calls Try.prog 33 #[mdV m ab au cb cu, runV u al ac cl cc, rinV 6 a n] w fun e w' => NdE ([110], [110]) e ∧ w.grownBy w' none := by
  have hmf : ∀ (fn : Fn) (first cap : Array Value) (w : World), (Instr.makeFunc fn first cap).run Try.prog w = .ok (.func fn first cap) w := fun _ _ _ _ => rfl
  go_enter Try.func33, Try.ntmps33
  go_wp2
  refine bodyPost_ret (v := .tuple #[.string ⟨#[110]⟩, .string ⟨#[110]⟩]) (by simp [results, Try.results33, go_sem]) rfl ?_
  exact ⟨⟨_, _, rfl, rfl, rfl⟩, grown0_new (two_new _ _ _) _⟩

set_option maxRecDepth 100000 in
set_option maxHeartbeats 1000000 in
theorem rneeds_7 (m : Vf.Md) (ab au : Option Addr) (cb cu : Nat) (u : Vf.Un) (al ac : Option Addr) (cl cc : Nat) (a n : Int) (w : World)  :
    Calls Try.prog 33 #[mdV m ab au cb cu, runV u al ac cl cc, rinV 7 a n] w fun e w' => NdE ([98], [98]) e ∧ w.grownBy w' none := by
  have hmf : ∀ (fn : Fn) (first cap : Array Value) (w : World), (Instr.makeFunc fn first cap).run Try.prog w = .ok (.func fn first cap) w := fun _ _ _ _ => rfl
  go_enter Try.func33, Try.ntmps33
  go_wp2
  refine bodyPost_ret (v := .tuple #[.string ⟨#[98]⟩, .string ⟨#[98]⟩]) (by simp [results, Try.results33, go_sem]) rfl ?_
  exact ⟨⟨_, _, rfl, rfl, rfl⟩, grown0_new (two_new _ _ _) _⟩

set_option maxRecDepth 100000 in
set_option maxHeartbeats 1000000 in
theorem rneeds_8 (m : Vf.Md) (ab au : Option Addr) (cb cu : Nat) (u : Vf.Un) (al ac : Option Addr) (cl cc : Nat) (a n : Int) (w : World)  :
    Calls Try.prog 33 #[mdV m ab au cb cu, runV u al ac cl cc, rinV 8 a n] w fun e w' => NdE ([110, 110], [110]) e ∧ w.grownBy w' none := by
  have hmf : ∀ (fn : Fn) (first cap : Array Value) (w : World), (Instr.makeFunc fn first cap).run Try.prog w = .ok (.func fn first cap) w := fun _ _ _ _ => rfl
  go_enter Try.func33, Try.ntmps33
  go_wp2
  refine bodyPost_ret (v := .tuple #[.string ⟨#[110, 110]⟩, .string ⟨#[110]⟩]) (by simp [results, Try.results33, go_sem]) rfl ?_
  exact ⟨⟨_, _, rfl, rfl, rfl⟩, grown0_new (two_new _ _ _) _⟩

set_option maxRecDepth 100000 in
set_option maxHeartbeats 1000000 in
theorem rneeds_9 (m : Vf.Md) (ab au : Option Addr) (cb cu : Nat) (u : Vf.Un) (al ac : Option Addr) (cl cc : Nat) (a n : Int) (w : World)  :
    Calls Try.prog 33 #[mdV m ab au cb cu, runV u al ac cl cc, rinV 9 a n] w fun e w' => NdE ([110, 110], [110]) e ∧ w.grownBy w' none := by
  have hmf : ∀ (fn : Fn) (first cap : Array Value) (w : World), (Instr.makeFunc fn first cap).run Try.prog w = .ok (.func fn first cap) w := fun _ _ _ _ => rfl
  go_enter Try.func33, Try.ntmps33
  go_wp2
  refine bodyPost_ret (v := .tuple #[.string ⟨#[110, 110]⟩, .string ⟨#[110]⟩]) (by simp [results, Try.results33, go_sem]) rfl ?_
  exact ⟨⟨_, _, rfl, rfl, rfl⟩, grown0_new (two_new _ _ _) _⟩

set_option maxRecDepth 100000 in
set_option maxHeartbeats 1000000 in
theorem rneeds_10 (m : Vf.Md) (ab au : Option Addr) (cb cu : Nat) (u : Vf.Un) (al ac : Option Addr) (cl cc : Nat) (a n : Int) (w : World)  :
    Calls Try.prog 33 #[mdV m ab au cb cu, runV u al ac cl cc, rinV 10 a n] w fun e w' => NdE ([110, 110], [110]) e ∧ w.grownBy w' none := by
  have hmf : ∀ (fn : Fn) (first cap : Array Value) (w : World), (Instr.makeFunc fn first cap).run Try.prog w = .ok (.func fn first cap) w := fun _ _ _ _ => rfl
  go_enter Try.func33, Try.ntmps33
  go_wp2
  refine bodyPost_ret (v := .tuple #[.string ⟨#[110, 110]⟩, .string ⟨#[110]⟩]) (by simp [results, Try.results33, go_sem]) rfl ?_
  exact ⟨⟨_, _, rfl, rfl, rfl⟩, grown0_new (two_new _ _ _) _⟩

set_option maxRecDepth 100000 in
set_option maxHeartbeats 1000000 in
theorem rneeds_11 (m : Vf.Md) (ab au : Option Addr) (cb cu : Nat) (u : Vf.Un) (al ac : Option Addr) (cl cc : Nat) (a n : Int) (w : World)  :
    Calls Try.prog 33 #[mdV m ab au cb cu, runV u al ac cl cc, rinV 11 a n] w fun e w' => NdE ([110, 110], [110]) e ∧ w.grownBy w' none := by
  have hmf : ∀ (fn : Fn) (first cap : Array Value) (w : World), (Instr.makeFunc fn first cap).run Try.prog w = .ok (.func fn first cap) w := fun _ _ _ _ => rfl
  go_enter Try.func33, Try.ntmps33
  go_wp2
  refine bodyPost_ret (v := .tuple #[.string ⟨#[110, 110]⟩, .string ⟨#[110]⟩]) (by simp [results, Try.results33, go_sem]) rfl ?_
  exact ⟨⟨_, _, rfl, rfl, rfl⟩, grown0_new (two_new _ _ _) _⟩

set_option maxRecDepth 100000 in
set_option maxHeartbeats 1000000 in
theorem rneeds_12 (m : Vf.Md) (ab au : Option Addr) (cb cu : Nat) (u : Vf.Un) (al ac : Option Addr) (cl cc : Nat) (a n : Int) (w : World)  :
    Calls Try.prog 33 #[mdV m ab au cb cu, runV u al ac cl cc, rinV 12 a n] w fun e w' => NdE ([110, 110], [110]) e ∧ w.grownBy w' none := by
  have hmf : ∀ (fn : Fn) (first cap : Array Value) (w : World), (Instr.makeFunc fn first cap).run Try.prog w = .ok (.func fn first cap) w := fun _ _ _ _ => rfl
  go_enter Try.func33, Try.ntmps33
  go_wp2
  refine bodyPost_ret (v := .tuple #[.string ⟨#[110, 110]⟩, .string ⟨#[110]⟩]) (by simp [results, Try.results33, go_sem]) rfl ?_
  exact ⟨⟨_, _, rfl, rfl, rfl⟩, grown0_new (two_new _ _ _) _⟩

set_option maxRecDepth 100000 in
set_option maxHeartbeats 1000000 in
theorem rneeds_13 (m : Vf.Md) (ab au : Option Addr) (cb cu : Nat) (u : Vf.Un) (al ac : Option Addr) (cl cc : Nat) (a n : Int) (w : World)  :
    Calls Try.prog 33 #[mdV m ab au cb cu, runV u al ac cl cc, rinV 13 a n] w fun e w' => NdE ([63, 63], [98]) e ∧ w.grownBy w' none := by
  have hmf : ∀ (fn : Fn) (first cap : Array Value) (w : World), (Instr.makeFunc fn first cap).run Try.prog w = .ok (.func fn first cap) w := fun _ _ _ _ => rfl
  go_enter Try.func33, Try.ntmps33
  go_wp2
  refine bodyPost_ret (v := .tuple #[.string ⟨#[63, 63]⟩, .string ⟨#[98]⟩]) (by simp [results, Try.results33, go_sem]) rfl ?_
  exact ⟨⟨_, _, rfl, rfl, rfl⟩, grown0_new (two_new _ _ _) _⟩

set_option maxRecDepth 100000 in
set_option maxHeartbeats 1000000 in
theorem rneeds_14 (m : Vf.Md) (ab au : Option Addr) (cb cu : Nat) (u : Vf.Un) (al ac : Option Addr) (cl cc : Nat) (a n : Int) (w : World)  :
    Calls Try.prog 33 #[mdV m ab au cb cu, runV u al ac cl cc, rinV 14 a n] w fun e w' => NdE ([63, 63], [98]) e ∧ w.grownBy w' none := by
  have hmf : ∀ (fn : Fn) (first cap : Array Value) (w : World), (Instr.makeFunc fn first cap).run Try.prog w = .ok (.func fn first cap) w := fun _ _ _ _ => rfl
  go_enter Try.func33, Try.ntmps33
  go_wp2
  refine bodyPost_ret (v := .tuple #[.string ⟨#[63, 63]⟩, .string ⟨#[98]⟩]) (by simp [results, Try.results33, go_sem]) rfl ?_
  exact ⟨⟨_, _, rfl, rfl, rfl⟩, grown0_new (two_new _ _ _) _⟩

set_option maxRecDepth 100000 in
set_option maxHeartbeats 1000000 in
theorem rneeds_15 (m : Vf.Md) (ab au : Option Addr) (cb cu : Nat) (u : Vf.Un) (al ac : Option Addr) (cl cc : Nat) (a n : Int) (w : World)  :
    Calls Try.prog 33 #[mdV m ab au cb cu, runV u al ac cl cc, rinV 15 a n] w fun e w' => NdE ([110, 110], [98]) e ∧ w.grownBy w' none := by
  have hmf : ∀ (fn : Fn) (first cap : Array Value) (w : World), (Instr.makeFunc fn first cap).run Try.prog w = .ok (.func fn first cap) w := fun _ _ _ _ => rfl
  go_enter Try.func33, Try.ntmps33
  go_wp2
  refine bodyPost_ret (v := .tuple #[.string ⟨#[110, 110]⟩, .string ⟨#[98]⟩]) (by simp [results, Try.results33, go_sem]) rfl ?_
  exact ⟨⟨_, _, rfl, rfl, rfl⟩, grown0_new (two_new _ _ _) _⟩

set_option maxRecDepth 100000 in
set_option maxHeartbeats 1000000 in
theorem rneeds_16 (m : Vf.Md) (ab au : Option Addr) (cb cu : Nat) (u : Vf.Un) (al ac : Option Addr) (cl cc : Nat) (a n : Int) (w : World)  :
    Calls Try.prog 33 #[mdV m ab au cb cu, runV u al ac cl cc, rinV 16 a n] w fun e w' => NdE ([110, 110], [98]) e ∧ w.grownBy w' none := by
  have hmf : ∀ (fn : Fn) (first cap : Array Value) (w : World), (Instr.makeFunc fn first cap).run Try.prog w = .ok (.func fn first cap) w := fun _ _ _ _ => rfl
  go_enter Try.func33, Try.ntmps33
  go_wp2
  refine bodyPost_ret (v := .tuple #[.string ⟨#[110, 110]⟩, .string ⟨#[98]⟩]) (by simp [results, Try.results33, go_sem]) rfl ?_
  exact ⟨⟨_, _, rfl, rfl, rfl⟩, grown0_new (two_new _ _ _) _⟩

set_option maxRecDepth 100000 in
set_option maxHeartbeats 1000000 in
theorem rneeds_17 (m : Vf.Md) (ab au : Option Addr) (cb cu : Nat) (u : Vf.Un) (al ac : Option Addr) (cl cc : Nat) (a n : Int) (w : World)  :
    Calls Try.prog 33 #[mdV m ab au cb cu, runV u al ac cl cc, rinV 17 a n] w fun e w' => NdE ([110, 110], [98]) e ∧ w.grownBy w' none := by
  have hmf : ∀ (fn : Fn) (first cap : Array Value) (w : World), (Instr.makeFunc fn first cap).run Try.prog w = .ok (.func fn first cap) w := fun _ _ _ _ => rfl
  go_enter Try.func33, Try.ntmps33
  go_wp2
  refine bodyPost_ret (v := .tuple #[.string ⟨#[110, 110]⟩, .string ⟨#[98]⟩]) (by simp [results, Try.results33, go_sem]) rfl ?_
  exact ⟨⟨_, _, rfl, rfl, rfl⟩, grown0_new (two_new _ _ _) _⟩

set_option maxRecDepth 100000 in
set_option maxHeartbeats 1000000 in
theorem rneeds_18 (m : Vf.Md) (ab au : Option Addr) (cb cu : Nat) (u : Vf.Un) (al ac : Option Addr) (cl cc : Nat) (a n : Int) (w : World)  :
    Calls Try.prog 33 #[mdV m ab au cb cu, runV u al ac cl cc, rinV 18 a n] w fun e w' => NdE ([110, 110], [98]) e ∧ w.grownBy w' none := by
  have hmf : ∀ (fn : Fn) (first cap : Array Value) (w : World), (Instr.makeFunc fn first cap).run Try.prog w = .ok (.func fn first cap) w := fun _ _ _ _ => rfl
  go_enter Try.func33, Try.ntmps33
  go_wp2
  refine bodyPost_ret (v := .tuple #[.string ⟨#[110, 110]⟩, .string ⟨#[98]⟩]) (by simp [results, Try.results33, go_sem]) rfl ?_
  exact ⟨⟨_, _, rfl, rfl, rfl⟩, grown0_new (two_new _ _ _) _⟩

set_option maxRecDepth 100000 in
set_option maxHeartbeats 1000000 in
theorem rneeds_19 (m : Vf.Md) (ab au : Option Addr) (cb cu : Nat) (u : Vf.Un) (al ac : Option Addr) (cl cc : Nat) (a n : Int) (w : World)  :
    Calls Try.prog 33 #[mdV m ab au cb cu, runV u al ac cl cc, rinV 19 a n] w fun e w' => NdE ([98, 98], [98]) e ∧ w.grownBy w' none := by
  have hmf : ∀ (fn : Fn) (first cap : Array Value) (w : World), (Instr.makeFunc fn first cap).run Try.prog w = .ok (.func fn first cap) w := fun _ _ _ _ => rfl
  go_enter Try.func33, Try.ntmps33
  go_wp2
  refine bodyPost_ret (v := .tuple #[.string ⟨#[98, 98]⟩, .string ⟨#[98]⟩]) (by simp [results, Try.results33, go_sem]) rfl ?_
  exact ⟨⟨_, _, rfl, rfl, rfl⟩, grown0_new (two_new _ _ _) _⟩

set_option maxRecDepth 100000 in
set_option maxHeartbeats 1000000 in
theorem rneeds_20 (m : Vf.Md) (ab au : Option Addr) (cb cu : Nat) (u : Vf.Un) (al ac : Option Addr) (cl cc : Nat) (a n : Int) (w : World)  :
    Calls Try.prog 33 #[mdV m ab au cb cu, runV u al ac cl cc, rinV 20 a n] w fun e w' => NdE ([98, 98], [98]) e ∧ w.grownBy w' none := by
  have hmf : ∀ (fn : Fn) (first cap : Array Value) (w : World), (Instr.makeFunc fn first cap).run Try.prog w = .ok (.func fn first cap) w := fun _ _ _ _ => rfl
  go_enter Try.func33, Try.ntmps33
  go_wp2
  refine bodyPost_ret (v := .tuple #[.string ⟨#[98, 98]⟩, .string ⟨#[98]⟩]) (by simp [results, Try.results33, go_sem]) rfl ?_
  exact ⟨⟨_, _, rfl, rfl, rfl⟩, grown0_new (two_new _ _ _) _⟩

end Go.Proofs.Ytbkimpimoclobaa

