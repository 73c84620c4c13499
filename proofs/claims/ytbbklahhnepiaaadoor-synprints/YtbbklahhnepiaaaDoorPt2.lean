/- The walks of the printer's small methods: comma, valueType, truth, levelOf. -/
import Derived.Test.YtbbklahhnepiaaaDoorPw2
import Derived.Deep.RegionWith
import Derived.Deep.DeepCutAuto
namespace Go.Proofs.YtbbklahhnepiaaaDoor
open Go.RowKit

set_option maxHeartbeats 400000 in
theorem comma_any (P Bs : Nat) (ws : List ByteArray) (mv : Value) (i : Nat) (w : World) (hPR : Hid (PR w P Bs ws mv)) (hPB : P < Bs) (hBs : Bs ≤ w.heap.size) (hn : ws.length + 1 ≤ 1000000) :
    Calls Tryd.prog 38 #[.pointer (some ⟨P, 0, none⟩), .int .i64 (i : Int)] w fun e w' => Puts P Bs mv ws (if 0 < i then [⟨#[44]⟩] else []) w e w' := by
  by_cases hi : 0 < i
  · obtain ⟨o, ho⟩ : ∃ o, o = (if 0 < i then [(⟨#[44]⟩ : ByteArray)] else []) := ⟨_, rfl⟩
    rw [← ho]
    have HO : Hid (o = [⟨#[44]⟩]) := by rw [ho, if_pos hi]; rfl
    have gi : 0 < (i : Int) := by omega
    clear ho hi
    go_enter Tryd.func38, Tryd.ntmps38
    go_wp2_with fail
    refine (put_lit P Bs ws [⟨#[44]⟩] mv 1 w.heap.size w rfl hPR hPB hBs hn).mono ?_
    rintro e w1 hp
    have HP : Hid (Puts P Bs mv ws [⟨#[44]⟩] w e w1) := hp
    obtain rfl := hp.1
    clear hp
    go_wp2
    go_end0
    rw [HO.out]
    exact HP.out
  · obtain ⟨o, ho⟩ : ∃ o, o = (if 0 < i then [(⟨#[44]⟩ : ByteArray)] else []) := ⟨_, rfl⟩
    rw [← ho]
    have HO : Hid (o = []) := by rw [ho, if_neg hi]; rfl
    have gi : (i : Int) ≤ 0 := by omega
    clear ho hi
    go_enter Tryd.func38, Tryd.ntmps38
    go_wp2
    go_end0
    rw [HO.out]
    exact ⟨rfl, by rw [List.append_nil]; exact hPR.out, Fr.refl _ _ _⟩

set_option maxHeartbeats 400000 in
theorem truth_any (n : Int) (w : World) : Calls Tryd.prog 70 #[.int .i64 n] w fun e w' => e = .returned (.string (Sy.truthT n)) ∧ w' = w := by
  obtain ⟨o, ho⟩ : ∃ o, o = Sy.truthT n := ⟨_, rfl⟩
  rw [← ho]
  have HO : Hid (o = Sy.truthT n) := ho
  clear ho
  by_cases h : n = 1
  · have HN : Hid (n = 1) := h
    have e1 : (n == 1) = true := by simp [h]
    clear h
    go_enter Tryd.func70, Tryd.ntmps70
    go_wp2
    go_ret
    exact ⟨by rw [HO.out, HN.out]; rfl, rfl⟩
  · have HN : Hid (Sy.truthT n = ⟨#[102, 97, 108, 115, 101]⟩) := by unfold Sy.truthT; rw [if_neg h]; rfl
    have e1 : (n == 1) = false := by simp [h]
    clear h
    go_enter Tryd.func70, Tryd.ntmps70
    go_wp2
    go_ret
    exact ⟨by rw [HO.out, HN.out]; rfl, rfl⟩

set_option maxRecDepth 100000 in
set_option maxHeartbeats 400000 in
theorem levelOf_any (P Bs M : Nat) (ws : List ByteArray) (k : Int) (w : World) (hPR : Hid (PR w P Bs ws (.map (some M)))) (hM : Hid (MpK w M)) :
    Calls Tryd.prog 82 #[.pointer (some ⟨P, 0, none⟩), .int .i64 k] w fun e w' => e = .returned (.int .i64 (Sy.levelOf k)) ∧ Below w.heap.size w w' := by
  obtain ⟨v, hP, hown⟩ := hPR.out
  obtain ⟨c0, c1, f0, f1⟩ := two_cell hP
  have hlk := run_lookK M k w hM.out
  unfold lookK at hlk
  have HL : Hid (Sy.levelOf k = if 0 < Sy.lev k then Sy.lev k else 6) := rfl
  clear hP hown
  obtain ⟨L, hL⟩ : ∃ L, Sy.lev k = L := ⟨_, rfl⟩
  obtain ⟨o, ho⟩ : ∃ o, o = Sy.levelOf k := ⟨_, rfl⟩
  rw [← ho]
  rw [hL] at hlk HL
  rw [← ho] at HL
  clear hL ho
  generalize (if 0 < L then k else 0) = kk at hlk
  generalize Sy.sign k = sg at hlk
  by_cases h : 0 < L
  · have HN : Hid (o = L) := by have := HL.out; rw [if_pos h] at this; exact this
    go_enter Tryd.func82, Tryd.ntmps82
    go_wp2
    go_ret
    exact ⟨ret_int HN.out.symm, (Below.refl _ w).alloc (Nat.le_refl _) _⟩
  · have HN : Hid (o = 6) := by have := HL.out; rw [if_neg h] at this; exact this
    have h' : L ≤ 0 := by omega
    clear h
    go_enter Tryd.func82, Tryd.ntmps82
    go_wp2
    go_ret
    exact ⟨ret_int HN.out.symm, (Below.refl _ w).alloc (Nat.le_refl _) _⟩

theorem tyW_zero {t : Sy.Ty} (h : Sy.tyW t = 0) : t.kind = 1 ∨ t.kind = 2 ∨ t.kind = 3 := by
  unfold Sy.tyW at h
  split at h
  · omega
  · omega

set_option maxRecDepth 100000 in
set_option maxHeartbeats 400000 in
theorem pty_any (P Bs : Nat) (ws : List ByteArray) (mv : Value) (t : Sy.Ty) (w : World) (hPR : Hid (PR w P Bs ws mv)) (hPB : P < Bs) (hBs : Bs ≤ w.heap.size) (hn : ws.length + 1 ≤ 1000000) (ht : t.kind = 1 ∨ t.kind = 2 ∨ t.kind = 3) :
    Calls Tryd.prog 20 #[.pointer (some ⟨P, 0, none⟩), tyV t] w fun e w' => Puts P Bs mv ws (Sy.tyT t) w e w' := by
  have HF : Hid (Fr P Bs w (w.alloc (.cells #[.int .i64 t.kind, .string t.gen] 38))) := Fr.alloc _ _ _ _
  have HPR0 : Hid (PR (w.alloc (.cells #[.int .i64 t.kind, .string t.gen] 38)) P Bs ws mv) := hPR.out.alloc _
  obtain ⟨o, ho⟩ : ∃ o, o = Sy.tyT t := ⟨_, rfl⟩
  rw [← ho]
  have HO : Hid (o = Sy.tyT t) := ho
  clear ho
  rcases ht with h | h | h
  · have HO2 : Hid (o = [⟨#[110, 117, 109]⟩]) := by have := HO.out; unfold Sy.tyT at this; rw [if_pos h] at this; exact this
    have e1 : (t.kind == 1) = true := by simp [h]
    clear h
    go_enter Tryd.func20, Tryd.ntmps20
    go_wp2_with fail
    refine (put_lit P Bs ws [⟨#[110, 117, 109]⟩] mv 1 (w.heap.size + 1) _ (by simp) HPR0 hPB (by simp; omega) hn).mono ?_
    rintro e w1 hp
    have HP : Hid (Puts P Bs mv ws [⟨#[110, 117, 109]⟩] w e w1) := ⟨hp.1, hp.2.1, HF.out.trans hp.2.2⟩
    obtain rfl := hp.1
    clear hp
    go_wp2
    go_end0
    rw [HO2.out]
    exact HP.out
  · have HO2 : Hid (o = [⟨#[98, 111, 111, 108]⟩]) := by have := HO.out; unfold Sy.tyT at this; rw [if_neg (by omega), if_pos h] at this; exact this
    have e1 : (t.kind == 1) = false := by simp [h]
    have e2 : (t.kind == 2) = true := by simp [h]
    clear h
    go_enter Tryd.func20, Tryd.ntmps20
    go_wp2_with fail
    refine (put_lit P Bs ws [⟨#[98, 111, 111, 108]⟩] mv 1 (w.heap.size + 1) _ (by simp) HPR0 hPB (by simp; omega) hn).mono ?_
    rintro e w1 hp
    have HP : Hid (Puts P Bs mv ws [⟨#[98, 111, 111, 108]⟩] w e w1) := ⟨hp.1, hp.2.1, HF.out.trans hp.2.2⟩
    obtain rfl := hp.1
    clear hp
    go_wp2
    go_end0
    rw [HO2.out]
    exact HP.out
  · have HO2 : Hid (o = [t.gen]) := by have := HO.out; unfold Sy.tyT at this; rw [if_neg (by omega), if_neg (by omega)] at this; exact this
    have e1 : (t.kind == 1) = false := by simp [h]
    have e2 : (t.kind == 2) = false := by simp [h]
    have e3 : (t.kind == 3) = true := by simp [h]
    clear h
    go_enter Tryd.func20, Tryd.ntmps20
    go_upto_region 7 with fail
    go_region_with (go_at_call 19; refine (put_litD P Bs ws [t.gen] mv 1 (w.heap.size + 1) _ (by simp) HPR0 hPB (by simp; omega) hn).mono ?_; rintro e w1 hp; have HP : Hid (Puts P Bs mv ws [t.gen] w e w1) := ⟨hp.1, hp.2.1, HF.out.trans hp.2.2⟩; obtain rfl := hp.1; clear hp)
    all_goals
      go_wp2
      go_end0
      rw [HO2.out]
      exact Hid.out (by assumption)

end Go.Proofs.YtbbklahhnepiaaaDoor
