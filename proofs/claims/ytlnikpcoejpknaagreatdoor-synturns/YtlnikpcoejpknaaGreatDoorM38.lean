/- The walks of the printer's small methods: comma, valueType, truth, levelOf. -/
import Derived.Test.YtlnikpcoejpknaaGreatDoorM18
import Derived.Deep.RegionWith
import Derived.Deep.DeepCutAuto
import Derived.Test.YtlnikpcoejpknaaGreatDoorM11
import Derived.Test.YtlnikpcoejpknaaGreatDoorM3
namespace Go.Proofs.YtlnikpcoejpknaaGreatDoor
open Go.RowKit

set_option maxHeartbeats 400000 in
theorem comma_any (P Bs : Nat) (ws : List ByteArray) (mv : Value) (i : Nat) (w : World) (hPR : Hid (PR w P Bs ws mv)) (hPB : P < Bs) (hBs : Bs ≤ w.heap.size) (hn : ws.length + 1 ≤ 1000000) :
    Calls Tryz.prog 83 #[.pointer (some ⟨P, 0, none⟩), .int .i64 (i : Int)] w fun e w' => Puts P Bs mv ws (if 0 < i then [⟨#[44]⟩] else []) w e w' := by
  by_cases hi : 0 < i
  · obtain ⟨o, ho⟩ : ∃ o, o = (if 0 < i then [(⟨#[44]⟩ : ByteArray)] else []) := ⟨_, rfl⟩
    rw [← ho]
    have HO : Hid (o = [⟨#[44]⟩]) := by rw [ho, if_pos hi]; rfl
    have gi : 0 < (i : Int) := by omega
    clear ho hi
    go_enter Tryz.func83, Tryz.ntmps83
    go_wp2_with fail
    refine (put_lit P Bs ws [⟨#[44]⟩] mv 1 w.heap.size w rfl hPR hPB hBs hn).mono ?_
    rintro e w1 hp
    have HP : Hid (Puts P Bs mv ws [⟨#[44]⟩] w e w1) := hp
    obtain rfl := hp.1
    clear hp
    go_wp2
    go_end0
    rw [HO.out]
    exact HP.out
  · obtain ⟨o, ho⟩ : ∃ o, o = (if 0 < i then [(⟨#[44]⟩ : ByteArray)] else []) := ⟨_, rfl⟩
    rw [← ho]
    have HO : Hid (o = []) := by rw [ho, if_neg hi]; rfl
    have gi : (i : Int) ≤ 0 := by omega
    clear ho hi
    go_enter Tryz.func83, Tryz.ntmps83
    go_wp2
    go_end0
    rw [HO.out]
    exact ⟨rfl, by rw [List.append_nil]; exact hPR.out, Fr.refl _ _ _⟩

set_option maxHeartbeats 400000 in
theorem truth_any (n : Int) (w : World) : Calls Tryz.prog 138 #[.int .i64 n] w fun e w' => e = .returned (.string (Sy.truthT n)) ∧ w' = w := by
  obtain ⟨o, ho⟩ : ∃ o, o = Sy.truthT n := ⟨_, rfl⟩
  rw [← ho]
  have HO : Hid (o = Sy.truthT n) := ho
  clear ho
  by_cases h : n = 1
  · have HN : Hid (n = 1) := h
    have e1 : (n == 1) = true := by simp [h]
    clear h
    go_enter Tryz.func138, Tryz.ntmps138
    go_wp2
    go_ret
    exact ⟨by rw [HO.out, HN.out]; rfl, rfl⟩
  · have HN : Hid (Sy.truthT n = ⟨#[102, 97, 108, 115, 101]⟩) := by unfold Sy.truthT; rw [if_neg h]; rfl
    have e1 : (n == 1) = false := by simp [h]
    clear h
    go_enter Tryz.func138, Tryz.ntmps138
    go_wp2
    go_ret
    exact ⟨by rw [HO.out, HN.out]; rfl, rfl⟩

set_option maxRecDepth 100000 in
set_option maxHeartbeats 400000 in
theorem levelOf_any (P Bs M : Nat) (ws : List ByteArray) (k : Int) (w : World) (hPR : Hid (PR w P Bs ws (.map (some M)))) (hM : Hid (MpK w M)) :
    Calls Tryz.prog 154 #[.pointer (some ⟨P, 0, none⟩), .int .i64 k] w fun e w' => e = .returned (.int .i64 (Sy.levelOf k)) ∧ Below w.heap.size w w' := by
  obtain ⟨v, hP, hown⟩ := hPR.out
  obtain ⟨c0, c1, f0, f1⟩ := two_cell hP
  have hlk := run_lookK M k w hM.out
  unfold lookK at hlk
  have HL : Hid (Sy.levelOf k = if 0 < Sy.lev k then Sy.lev k else 6) := rfl
  clear hP hown
  obtain ⟨L, hL⟩ : ∃ L, Sy.lev k = L := ⟨_, rfl⟩
  obtain ⟨o, ho⟩ : ∃ o, o = Sy.levelOf k := ⟨_, rfl⟩
  rw [← ho]
  rw [hL] at hlk HL
  rw [← ho] at HL
  clear hL ho
  generalize (if 0 < L then k else 0) = kk at hlk
  generalize Sy.sign k = sg at hlk
  by_cases h : 0 < L
  · have HN : Hid (o = L) := by have := HL.out; rw [if_pos h] at this; exact this
    go_enter Tryz.func154, Tryz.ntmps154
    go_wp2
    go_ret
    exact ⟨ret_int HN.out.symm, (Below.refl _ w).alloc (Nat.le_refl _) _⟩
  · have HN : Hid (o = 6) := by have := HL.out; rw [if_neg h] at this; exact this
    have h' : L ≤ 0 := by omega
    clear h
    go_enter Tryz.func154, Tryz.ntmps154
    go_wp2
    go_ret
    exact ⟨ret_int HN.out.symm, (Below.refl _ w).alloc (Nat.le_refl _) _⟩

theorem tyW_zero {t : Sy.Ty} (h : Sy.tyW t = 0) : t.kind = 1 ∨ t.kind = 2 ∨ t.kind = 3 := by
  unfold Sy.tyW at h
  split at h
  · omega
  · omega

set_option maxRecDepth 100000 in
set_option maxHeartbeats 400000 in
theorem pty_any (P Bs : Nat) (ws : List ByteArray) (mv : Value) (t : Sy.Ty) (w : World) (hPR : Hid (PR w P Bs ws mv)) (hPB : P < Bs) (hBs : Bs ≤ w.heap.size) (hn : ws.length + 1 ≤ 1000000) (ht : t.kind = 1 ∨ t.kind = 2 ∨ t.kind = 3) :
    Calls Tryz.prog 50 #[.pointer (some ⟨P, 0, none⟩), tyV t] w fun e w' => Puts P Bs mv ws (Sy.tyT t) w e w' := by
  have HF : Hid (Fr P Bs w (w.alloc (.cells #[.int .i64 t.kind, .string t.gen] 53))) := Fr.alloc _ _ _ _
  have HPR0 : Hid (PR (w.alloc (.cells #[.int .i64 t.kind, .string t.gen] 53)) P Bs ws mv) := hPR.out.alloc _
  obtain ⟨o, ho⟩ : ∃ o, o = Sy.tyT t := ⟨_, rfl⟩
  rw [← ho]
  have HO : Hid (o = Sy.tyT t) := ho
  clear ho
  rcases ht with h | h | h
  · have HO2 : Hid (o = [⟨#[110, 117, 109]⟩]) := by have := HO.out; unfold Sy.tyT at this; rw [if_pos h] at this; exact this
    have e1 : (t.kind == 1) = true := by simp [h]
    clear h
    go_enter Tryz.func50, Tryz.ntmps50
    go_wp2_with fail
    refine (put_lit P Bs ws [⟨#[110, 117, 109]⟩] mv 1 (w.heap.size + 1) _ (by simp) HPR0 hPB (by simp; omega) hn).mono ?_
    rintro e w1 hp
    have HP : Hid (Puts P Bs mv ws [⟨#[110, 117, 109]⟩] w e w1) := ⟨hp.1, hp.2.1, HF.out.trans hp.2.2⟩
    obtain rfl := hp.1
    clear hp
    go_wp2
    go_end0
    rw [HO2.out]
    exact HP.out
  · have HO2 : Hid (o = [⟨#[98, 111, 111, 108]⟩]) := by have := HO.out; unfold Sy.tyT at this; rw [if_neg (by omega), if_pos h] at this; exact this
    have e1 : (t.kind == 1) = false := by simp [h]
    have e2 : (t.kind == 2) = true := by simp [h]
    clear h
    go_enter Tryz.func50, Tryz.ntmps50
    go_wp2_with fail
    refine (put_lit P Bs ws [⟨#[98, 111, 111, 108]⟩] mv 1 (w.heap.size + 1) _ (by simp) HPR0 hPB (by simp; omega) hn).mono ?_
    rintro e w1 hp
    have HP : Hid (Puts P Bs mv ws [⟨#[98, 111, 111, 108]⟩] w e w1) := ⟨hp.1, hp.2.1, HF.out.trans hp.2.2⟩
    obtain rfl := hp.1
    clear hp
    go_wp2
    go_end0
    rw [HO2.out]
    exact HP.out
  · have HO2 : Hid (o = [t.gen]) := by have := HO.out; unfold Sy.tyT at this; rw [if_neg (by omega), if_neg (by omega)] at this; exact this
    have e1 : (t.kind == 1) = false := by simp [h]
    have e2 : (t.kind == 2) = false := by simp [h]
    have e3 : (t.kind == 3) = true := by simp [h]
    clear h
    go_enter Tryz.func50, Tryz.ntmps50
    go_upto_region 7 with fail
    go_region_with (go_at_call 49; refine (put_litD P Bs ws [t.gen] mv 1 (w.heap.size + 1) _ (by simp) HPR0 hPB (by simp; omega) hn).mono ?_; rintro e w1 hp; have HP : Hid (Puts P Bs mv ws [t.gen] w e w1) := ⟨hp.1, hp.2.1, HF.out.trans hp.2.2⟩; obtain rfl := hp.1; clear hp)
    all_goals
      go_wp2
      go_end0
      rw [HO2.out]
      exact Hid.out (by assumption)

end Go.Proofs.YtlnikpcoejpknaaGreatDoor

/- Small laws that the printer's walk shares with the document's look. -/
namespace Go.Proofs.YtlnikpcoejpknaaGreatDoor
open Go.RowKit

abbrev exOC (x : Sy.Ex) (a : Option Addr) (c : Nat) : Obj := .cells #[.int .i64 x.kind, .int .i64 x.n, .string x.name, .slice a x.kids.length c] 64 (0, 0)
theorem grown_of_below {w w1 : World} (hb : Below w.heap.size w w1) : w.grownBy w1 none := ⟨hb.os, hb.tape, hb.output, hb.size, fun k hk _ => hb.block k hk⟩

end Go.Proofs.YtlnikpcoejpknaaGreatDoor

/- The walks of the printer's bracketed and calling, over what expr prints. -/
namespace Go.Proofs.YtlnikpcoejpknaaGreatDoor
open Go.RowKit

theorem PR.grown {w w1 : World} {P Bs : Nat} {ws : List ByteArray} {mv : Value} (h : PR w P Bs ws mv) (hg : w.grownBy w1 none) : PR w1 P Bs ws mv := by
  obtain ⟨v, hv, ho⟩ := h
  refine ⟨v, box_on hv hg (by simp), ho.kept hg ?_⟩
  cases hb : v.ownBlock with
  | none => exact .inl rfl
  | some k => exact .inr (by simp)

theorem MpK.fr {w w1 : World} {P Bs M : Nat} (h : MpK w M) (hf : Fr P Bs w w1) (hM : M < Bs) (hMP : M ≠ P) : MpK w1 M := hf.block M _ hMP h (.inl hM)
theorem MpK.grown {w w1 : World} {M : Nat} (h : MpK w M) (hg : w.grownBy w1 none) : MpK w1 M := box_on h hg (by simp)

theorem pow_global : Tryz.prog.globalNamed "internal/strconv.uint64pow10" = some 1 := by kernel_rfl

/-- The map of signs, and the library's table of powers. -/
def MpT (w : World) (M : Nat) : Prop := MpK w M ∧ Lib.TabIs Tryz.prog w "internal/strconv.uint64pow10" .u64 Lib.pow10Tab

theorem tab_on {w w1 : World} (h : Lib.TabIs Tryz.prog w "internal/strconv.uint64pow10" .u64 Lib.pow10Tab) (hb : ∀ o, w.heap[1]? = some o → w1.heap[1]? = some o) : Lib.TabIs Tryz.prog w1 "internal/strconv.uint64pow10" .u64 Lib.pow10Tab := by
  unfold Lib.TabIs World.var? at *
  rw [pow_global] at *
  simp only [Option.bind_some] at *
  cases ho : w.heap[1]? with
  | none => simp [ho] at h
  | some o => rw [ho] at h; rw [hb o ho]; exact h

theorem MpT.fr {w w1 : World} {P Bs M : Nat} (h : MpT w M) (hf : Fr P Bs w w1) (hM : M < Bs) (hMP : M ≠ P) (hg : 1 < P) (hpb : P < Bs) : MpT w1 M :=
  ⟨h.1.fr hf hM hMP, tab_on h.2 (fun o ho => hf.block 1 o (by omega) ho (.inl (by omega)))⟩
theorem MpT.grown {w w1 : World} {M : Nat} (h : MpT w M) (hg : w.grownBy w1 none) : MpT w1 M := ⟨h.1.grown hg, tab_on h.2 (fun _ ho => box_on ho hg (by simp))⟩

/-- The printer's places: the program below B, the map, the printer, its own rows from Bs on. -/
structure Lay (B M P Bs : Nat) : Prop where
  bp : B ≤ P
  pb : P < Bs
  mb : M < Bs
  mp : M ≠ P
  gp : 1 < P

/-- What expr prints, at d levels. -/
def ExP (B M P Bs d : Nat) : Prop := ∀ (h : Nat) (x : Sy.Ex) (a : Option Addr) (c : Nat) (ws : List ByteArray) (w : World), Sy.ExOk d x → Hid (ExIn B w h x a) → Hid (PR w P Bs ws (.map (some M))) → Hid (MpT w M) → Bs ≤ w.heap.size → ws.length + (Sy.exT d x).length ≤ 1000000 →
  Calls Tryz.prog 116 #[.pointer (some ⟨P, 0, none⟩), exV x a c] w fun e w' => Puts P Bs (.map (some M)) ws (Sy.exT d x) w e w'

/-- No row of texts. -/
theorem not_str {cur : Array Value} {t : TypeId} {fr : Nat × Nat} (h : t ≠ 9) : ¬ StrRow (.cells cur t fr) := by
  rintro ⟨c2, f2, he⟩
  simp only [Obj.cells.injEq] at he
  exact h he.2.1

theorem box_fr {P Bs : Nat} {w w1 : World} {b : Nat} {cur : Array Value} {t : TypeId} {fr : Nat × Nat} (h : w.heap[b]? = some (.cells cur t fr)) (ht : t ≠ 9) (hb : b ≠ P) (hf : Fr P Bs w w1) : w1.heap[b]? = some (.cells cur t fr) :=
  hf.block b _ hb h (.inr (not_str ht))

set_option maxRecDepth 100000 in
set_option maxHeartbeats 1000000 in
theorem bracketed_of (B M P Bs d : Nat) (hL : Lay B M P Bs) (hE : Hid (ExP B M P Bs d)) (h : Nat) (x : Sy.Ex) (a : Option Addr) (c : Nat) (level : Int) (ws : List ByteArray) (w : World) (hok : Hid (Sy.ExOk d x)) (hX : Hid (ExIn B w h x a)) (hPR : Hid (PR w P Bs ws (.map (some M)))) (hM : Hid (MpT w M)) (hBs : Bs ≤ w.heap.size)
    (hn : ws.length + (Sy.brT (Sy.exT d) level x).length ≤ 1000000) :
    Calls Tryz.prog 139 #[.pointer (some ⟨P, 0, none⟩), exV x a c, .int .i64 level] w fun e w' => Puts P Bs (.map (some M)) ws (Sy.brT (Sy.exT d) level x) w e w' := by
  obtain ⟨hbp, hpb, hmb, hmp, hgp⟩ := hL
  have HG0 : Hid (w.grownBy (w.alloc (exOC x a c)) none) := World.grownBy_alloc _ _ _
  have hlvl := levelOf_any P Bs M ws x.kind (w.alloc (exOC x a c)) (hPR.out.grown HG0.out) (hM.out.grown HG0.out).1
  obtain ⟨o, ho⟩ : ∃ o, o = Sy.brT (Sy.exT d) level x := ⟨_, rfl⟩
  rw [← ho] at hn ⊢
  have HO : Hid (o = Sy.brT (Sy.exT d) level x) := ho
  clear ho
  by_cases hle : level ≤ Sy.levelOf x.kind
  · have HO2 : Hid (o = Sy.exT d x) := by have := HO.out; unfold Sy.brT at this; rw [if_pos hle] at this; exact this
    have hnx : ws.length + (Sy.exT d x).length ≤ 1000000 := by rw [← HO2.out]; exact hn
    go_enter Tryz.func139, Tryz.ntmps139
    go_wp2_with fail
    refine hlvl.mono ?_
    rintro e w1 ⟨rfl, hb⟩
    have HG1 : Hid (w.grownBy w1 none) := grown_trans HG0.out (grown_of_below hb)
    obtain ⟨b0, b1, b2, b3⟩ := four_cellC (box_in (grown_of_below hb) (by simp))
    have hs1 : Bs ≤ w1.heap.size := by have := HG1.out.size; omega
    clear hb hlvl
    go_wp2_with fail
    refine (hE.out h x a c ws _ hok.out (hX.out.same (same_grown HG1.out (by simp) (by omega))) (hPR.out.grown HG1.out) (hM.out.grown HG1.out) hs1 hnx).mono ?_
    rintro e w2 hp
    have HP : Hid (Puts P Bs (.map (some M)) ws (Sy.exT d x) w e w2) := ⟨hp.1, hp.2.1, (Fr.below ⟨HG1.out.os, HG1.out.tape, HG1.out.output, HG1.out.size, fun k hk => HG1.out.block k hk (by simp)⟩).trans hp.2.2⟩
    obtain rfl := hp.1
    clear hp b0 b1 b2 b3
    go_wp2
    refine bodyPost_ret (results_none rfl _ _ _) rfl ?_
    rw [HO2.out]
    exact HP.out
  · have HO2 : Hid (o = [⟨#[40]⟩] ++ Sy.exT d x ++ [⟨#[41]⟩]) := by have := HO.out; unfold Sy.brT at this; rw [if_neg hle] at this; exact this
    have hnx : ws.length + ((Sy.exT d x).length + 2) ≤ 1000000 := by rw [HO2.out] at hn; simp at hn; omega
    clear hn
    have hle' : Sy.levelOf x.kind < level := by omega
    clear hle
    go_enter Tryz.func139, Tryz.ntmps139
    go_wp2_with fail
    refine hlvl.mono ?_
    rintro e w1 ⟨rfl, hb⟩
    have HG1 : Hid (w.grownBy w1 none) := grown_trans HG0.out (grown_of_below hb)
    have HBx : Hid (w1.heap[w.heap.size]? = some (exOC x a c)) := box_in (grown_of_below hb) (by simp)
    obtain ⟨b0, b1, b2, b3⟩ := four_cellC HBx.out
    have hs1 : Bs ≤ w1.heap.size := by have := HG1.out.size; omega
    have HF1 : Hid (Fr P Bs w w1) := Fr.below ⟨HG1.out.os, HG1.out.tape, HG1.out.output, HG1.out.size, fun k hk => HG1.out.block k hk (by simp)⟩
    clear hb hlvl
    go_wp2_with fail
    refine (put_lit P Bs ws [⟨#[40]⟩] _ 1 w1.heap.size w1 rfl (hPR.out.grown HG1.out) hpb hs1 (by show ws.length + 1 ≤ _; omega)).mono ?_
    rintro e w2 hp
    have HP2 : Hid (PR w2 P Bs (ws ++ [⟨#[40]⟩]) (.map (some M))) := hp.2.1
    have HF2 : Hid (Fr P Bs w w2) := HF1.out.trans hp.2.2
    have HBx2 : Hid (w2.heap[w.heap.size]? = some (exOC x a c)) := box_fr HBx.out (by decide) (by omega) hp.2.2
    obtain rfl := hp.1
    have hs2 : Bs ≤ w2.heap.size := by have := HF2.out.size; omega
    clear hp b0 b1 b2 b3
    obtain ⟨b0, b1, b2, b3⟩ := four_cellC HBx2.out
    go_wp2_with fail
    refine (hE.out h x a c (ws ++ [⟨#[40]⟩]) _ hok.out (hX.out.same (HF2.out.same hbp hpb (by omega))) HP2 (hM.out.fr HF2.out hmb hmp hgp hpb) hs2 (by simp; omega)).mono ?_
    rintro e w3 hp
    have HP3 : Hid (PR w3 P Bs (ws ++ [⟨#[40]⟩] ++ Sy.exT d x) (.map (some M))) := hp.2.1
    have HF3 : Hid (Fr P Bs w w3) := HF2.out.trans hp.2.2
    have hs3 : Bs ≤ w3.heap.size := by have := HF3.out.size; omega
    obtain rfl := hp.1
    clear hp b0 b1 b2 b3
    go_wp2_with fail
    refine (put_lit P Bs (ws ++ [⟨#[40]⟩] ++ Sy.exT d x) [⟨#[41]⟩] _ 1 w3.heap.size w3 rfl HP3 hpb hs3 (by simp; omega)).mono ?_
    rintro e w4 hp
    have HP4 : Hid (Puts P Bs (.map (some M)) ws o w e w4) := ⟨hp.1, by rw [HO2.out]; have := hp.2.1; simpa using this, HF3.out.trans hp.2.2⟩
    obtain rfl := hp.1
    clear hp
    go_wp2
    go_end0
    exact HP4.out

end Go.Proofs.YtlnikpcoejpknaaGreatDoor

