/- The walk of the printer's stat. -/
import Derived.Test.YtlnikpcoejpknaaGreatDoorM40
namespace Go.Proofs.YtlnikpcoejpknaaGreatDoor
open Go.RowKit



set_option maxRecDepth 100000 in
set_option maxHeartbeats 2000000 in
theorem pstat_of (B M P Bs d : Nat) (hL : Lay B M P Bs) (hS : Hid (StP B M P Bs d)) : StP B M P Bs (d + 1) := by
  intro h s xa xc ba bc ea ec ws w hok0 hX hPR hM hBs hn
  cases h with
  | zero => exact hX.out.elim
  | succ h =>
  have hok : Hid (Sy.StOk (d + 1) s) := hok0
  have hk1 := hok0.1
  have hk2 := hok0.2.1
  clear hok0
  have hE := exprP_any B M P Bs hL d
  have HE : Hid (ExP B M P Bs d) := hE
  clear hE
  have HLay := hL
  obtain ⟨hbp, hpb, hmb, hmp, hgp⟩ := hL
  obtain ⟨hname, ⟨hx, hXx⟩, hlb, hle, hXb, hXe⟩ := hX.out
  have HXx : Hid (ExIn B w hx s.x xa) := hXx
  have HXb : Hid (BodyIn B w h s.body ba) := ⟨hlb, hXb⟩
  have HXe : Hid (BodyIn B w h s.els ea) := ⟨hle, hXe⟩
  have HG0 : Hid (w.grownBy (w.alloc (stO s xa xc ba bc ea ec)) none) := World.grownBy_alloc _ _ _
  have HF0 : Hid (Fr P Bs w (w.alloc (stO s xa xc ba bc ea ec))) := Fr.alloc _ _ _ _
  have hs0 : Bs ≤ (w.alloc (stO s xa xc ba bc ea ec)).heap.size := by simp; omega
  have hPw : P < w.heap.size := by omega
  unfold maxLen at hlb hle
  clear hXx hXb hXe hname
  have HX0 : Hid (ExIn B (w.alloc (stO s xa xc ba bc ea ec)) hx s.x xa) := HXx.out.same (same_grown HG0.out (by simp) (by omega))
  obtain ⟨o, ho⟩ : ∃ o, o = Sy.stT (d + 1) s := ⟨_, rfl⟩
  rw [← ho] at hn ⊢
  have HO : Hid (o = Sy.stT (d + 1) s) := ho
  clear ho
  rcases (show s.kind = 1 ∨ s.kind = 2 ∨ s.kind = 3 ∨ s.kind = 4 ∨ s.kind = 5 ∨ s.kind = 6 ∨ s.kind = 7 ∨ s.kind = 8 ∨ s.kind = 9 by omega) with hk | hk | hk | hk | hk | hk | hk | hk | hk
  · have e1 : (s.kind == 1) = true := by simp; omega
    have HKd : Hid (s.kind = 1) := hk
    clear hk hk1 hk2
    have HO2 : Hid (o = [(⟨#[108, 101, 116]⟩ : ByteArray), s.name, ⟨#[61]⟩] ++ Sy.exT d s.x ++ [⟨#[59]⟩]) := HO.out.trans (stT_1 HKd.out)
    have hno : ws.length + (3 + ((Sy.exT d s.x).length + 1)) ≤ 1000000 := by rw [HO2.out] at hn; simp only [List.length_append, List.length_cons, List.length_nil] at hn; omega
    have HOKx : Hid (Sy.ExOk d s.x) := hok.out.2.2.1 (by have := HKd.out; omega)
    have hend := ending_lit B M P Bs d HLay hx s.x xa xc [(⟨#[108, 101, 116]⟩ : ByteArray), s.name, ⟨#[61]⟩] (w.heap.size + 1) 3 ws (w.alloc (stO s xa xc ba bc ea ec)) (by simp) HOKx HX0 (hPR.out.grown HG0.out) (hM.out.grown HG0.out) hs0 hno
    rw [← HO2.out] at hend
    go_enter Tryz.func84, Tryz.ntmps84
    go_wp2_with fail
    refine hend.mono ?_
    rintro e w1 hp
    have HP : Hid (Puts P Bs (.map (some M)) ws o w e w1) := ⟨hp.1, hp.2.1, HF0.out.trans hp.2.2⟩
    obtain rfl := hp.1
    clear hp hend
    go_wp2
    go_end0
    exact HP.out
  · have e1 : (s.kind == 1) = false := by simp; omega
    have e2 : (s.kind == 2) = true := by simp; omega
    have HKd : Hid (s.kind = 2) := hk
    clear hk hk1 hk2
    have HO2 : Hid (o = [s.name, (⟨#[61]⟩ : ByteArray)] ++ Sy.exT d s.x ++ [⟨#[59]⟩]) := HO.out.trans (stT_2 HKd.out)
    have hno : ws.length + (2 + ((Sy.exT d s.x).length + 1)) ≤ 1000000 := by rw [HO2.out] at hn; simp only [List.length_append, List.length_cons, List.length_nil] at hn; omega
    have HOKx : Hid (Sy.ExOk d s.x) := hok.out.2.2.1 (by have := HKd.out; omega)
    have hend := ending_lit B M P Bs d HLay hx s.x xa xc [s.name, (⟨#[61]⟩ : ByteArray)] (w.heap.size + 1) 2 ws (w.alloc (stO s xa xc ba bc ea ec)) (by simp) HOKx HX0 (hPR.out.grown HG0.out) (hM.out.grown HG0.out) hs0 hno
    rw [← HO2.out] at hend
    go_enter Tryz.func84, Tryz.ntmps84
    go_wp2_with fail
    refine hend.mono ?_
    rintro e w1 hp
    have HP : Hid (Puts P Bs (.map (some M)) ws o w e w1) := ⟨hp.1, hp.2.1, HF0.out.trans hp.2.2⟩
    obtain rfl := hp.1
    clear hp hend
    go_wp2
    go_end0
    exact HP.out
  · have e1 : (s.kind == 1) = false := by simp; omega
    have e2 : (s.kind == 2) = false := by simp; omega
    have e3 : (s.kind == 3) = true := by simp; omega
    have HKd : Hid (s.kind = 3) := hk
    clear hk hk1 hk2
    have hn3 : ws.length + (Sy.stT (d + 1) s).length ≤ 1000000 := by rw [← HO.out]; exact hn
    have hch := choice_of B M P Bs d HLay hS h s xa xc ba bc ea ec ws (w.alloc (stO s xa xc ba bc ea ec)) HKd.out hok (hX.out.same (same_grown HG0.out (by simp) (by omega))) (hPR.out.grown HG0.out) (hM.out.grown HG0.out) hs0 hn3
    rw [← HO.out] at hch
    clear hn3
    go_enter Tryz.func84, Tryz.ntmps84
    go_wp2_with fail
    refine hch.mono ?_
    rintro e w1 hp
    have HP : Hid (Puts P Bs (.map (some M)) ws o w e w1) := ⟨hp.1, hp.2.1, HF0.out.trans hp.2.2⟩
    obtain rfl := hp.1
    clear hp hch
    go_wp2
    go_end0
    exact HP.out
  · have e1 : (s.kind == 1) = false := by simp; omega
    have e2 : (s.kind == 2) = false := by simp; omega
    have e3 : (s.kind == 3) = false := by simp; omega
    have e4 : (s.kind == 4) = true := by simp; omega
    have HKd : Hid (s.kind = 4) := hk
    clear hk hk1 hk2
    have HO2 : Hid (o = [⟨#[119, 104, 105, 108, 101]⟩] ++ Sy.exT d s.x ++ Sy.bodyT (Sy.stT d) s.body) := HO.out.trans (stT_4 HKd.out)
    have hno : ws.length + (1 + ((Sy.exT d s.x).length + (Sy.bodyT (Sy.stT d) s.body).length)) ≤ 1000000 := by rw [HO2.out] at hn; simp only [List.length_append, List.length_cons, List.length_nil] at hn; omega
    have HOKx : Hid (Sy.ExOk d s.x) := hok.out.2.2.1 (by have := HKd.out; omega)
    have HOKb : Hid (∀ t ∈ s.body, Sy.StOk d t) := hok.out.2.2.2.1 (.inr HKd.out)
    go_enter Tryz.func84, Tryz.ntmps84
    go_wp2_with fail
    refine (put_lit P Bs ws [(⟨#[119, 104, 105, 108, 101]⟩ : ByteArray)] _ 1 (w.heap.size + 1) _ (by simp) (hPR.out.grown HG0.out) hpb hs0 (by show ws.length + 1 ≤ _; omega)).mono ?_
    rintro e w1 hp
    have HP1 : Hid (PR w1 P Bs (ws ++ [(⟨#[119, 104, 105, 108, 101]⟩ : ByteArray)]) (.map (some M))) := hp.2.1
    have HF1 : Hid (Fr P Bs w w1) := HF0.out.trans hp.2.2
    have HB1 : Hid (w1.heap[w.heap.size]? = some (stO s xa xc ba bc ea ec)) := box_fr (heap_alloc_new w _) (by decide) (by omega) hp.2.2
    have hs1 : Bs ≤ w1.heap.size := by have := HF1.out.size; omega
    obtain rfl := hp.1
    clear hp
    obtain ⟨b0, b1, b2, b3, b4, b5, b6, b7⟩ := eight_cell HB1.out
    go_wp2_with fail
    refine (HE.out hx s.x xa xc (ws ++ [(⟨#[119, 104, 105, 108, 101]⟩ : ByteArray)]) _ HOKx.out (HXx.out.same (HF1.out.same hbp hpb (by omega))) HP1 (hM.out.fr HF1.out hmb hmp hgp hpb) hs1 (by simp; omega)).mono ?_
    rintro e w2 hp
    have HP2 : Hid (PR w2 P Bs (ws ++ [(⟨#[119, 104, 105, 108, 101]⟩ : ByteArray)] ++ Sy.exT d s.x) (.map (some M))) := hp.2.1
    have HF2 : Hid (Fr P Bs w w2) := HF1.out.trans hp.2.2
    have HB2 : Hid (w2.heap[w.heap.size]? = some (stO s xa xc ba bc ea ec)) := box_fr HB1.out (by decide) (by omega) hp.2.2
    have hs2 : Bs ≤ w2.heap.size := by have := HF2.out.size; omega
    obtain rfl := hp.1
    clear hp b0 b1 b2 b3 b4 b5 b6 b7
    obtain ⟨b0, b1, b2, b3, b4, b5, b6, b7⟩ := eight_cell HB2.out
    go_wp2_with fail
    refine (pbody_of B M P Bs d HLay hS h s.body ba bc (ws ++ [(⟨#[119, 104, 105, 108, 101]⟩ : ByteArray)] ++ Sy.exT d s.x) _ HOKb (HXb.out.same (HF2.out.same hbp hpb (by omega))) HP2 (hM.out.fr HF2.out hmb hmp hgp hpb) hs2 (by simp only [List.length_append, List.length_cons, List.length_nil]; omega)).mono ?_
    rintro e w3 hp
    have HP3 : Hid (PR w3 P Bs (ws ++ [(⟨#[119, 104, 105, 108, 101]⟩ : ByteArray)] ++ Sy.exT d s.x ++ Sy.bodyT (Sy.stT d) s.body) (.map (some M))) := hp.2.1
    have HF3 : Hid (Fr P Bs w w3) := HF2.out.trans hp.2.2
    have HB3 : Hid (w3.heap[w.heap.size]? = some (stO s xa xc ba bc ea ec)) := box_fr HB2.out (by decide) (by omega) hp.2.2
    have hs3 : Bs ≤ w3.heap.size := by have := HF3.out.size; omega
    obtain rfl := hp.1
    clear hp b0 b1 b2 b3 b4 b5 b6 b7
    obtain ⟨b0, b1, b2, b3, b4, b5, b6, b7⟩ := eight_cell HB3.out
    go_wp2
    go_end0
    exact ⟨rfl, by rw [HO2.out]; have := HP3.out; simpa using this, HF3.out⟩
  · have e1 : (s.kind == 1) = false := by simp; omega
    have e2 : (s.kind == 2) = false := by simp; omega
    have e3 : (s.kind == 3) = false := by simp; omega
    have e4 : (s.kind == 4) = false := by simp; omega
    have e5 : (s.kind == 5) = true := by simp; omega
    have HKd : Hid (s.kind = 5) := hk
    clear hk hk1 hk2
    have HO2 : Hid (o = [(⟨#[114, 101, 116, 117, 114, 110]⟩ : ByteArray)] ++ Sy.exT d s.x ++ [⟨#[59]⟩]) := HO.out.trans (stT_5 HKd.out)
    have hno : ws.length + (1 + ((Sy.exT d s.x).length + 1)) ≤ 1000000 := by rw [HO2.out] at hn; simp only [List.length_append, List.length_cons, List.length_nil] at hn; omega
    have HOKx : Hid (Sy.ExOk d s.x) := hok.out.2.2.1 (by have := HKd.out; omega)
    have hend := ending_lit B M P Bs d HLay hx s.x xa xc [(⟨#[114, 101, 116, 117, 114, 110]⟩ : ByteArray)] (w.heap.size + 1) 1 ws (w.alloc (stO s xa xc ba bc ea ec)) (by simp) HOKx HX0 (hPR.out.grown HG0.out) (hM.out.grown HG0.out) hs0 hno
    rw [← HO2.out] at hend
    go_enter Tryz.func84, Tryz.ntmps84
    go_wp2_with fail
    refine hend.mono ?_
    rintro e w1 hp
    have HP : Hid (Puts P Bs (.map (some M)) ws o w e w1) := ⟨hp.1, hp.2.1, HF0.out.trans hp.2.2⟩
    obtain rfl := hp.1
    clear hp hend
    go_wp2
    go_end0
    exact HP.out
  · have e1 : (s.kind == 1) = false := by simp; omega
    have e2 : (s.kind == 2) = false := by simp; omega
    have e3 : (s.kind == 3) = false := by simp; omega
    have e4 : (s.kind == 4) = false := by simp; omega
    have e5 : (s.kind == 5) = false := by simp; omega
    have e6 : (s.kind == 6) = true := by simp; omega
    have HKd : Hid (s.kind = 6) := hk
    clear hk hk1 hk2
    have HO2 : Hid (o = [⟨#[115, 116, 111, 112]⟩, ⟨#[59]⟩]) := HO.out.trans (stT_6 HKd.out)
    have hno : ws.length + 2 ≤ 1000000 := by rw [HO2.out] at hn; exact hn
    go_enter Tryz.func84, Tryz.ntmps84
    go_wp2_with fail
    refine (put_lit P Bs ws [⟨#[115, 116, 111, 112]⟩, ⟨#[59]⟩] _ 2 (w.heap.size + 1) _ (by simp) (hPR.out.grown HG0.out) hpb hs0 hno).mono ?_
    rintro e w1 hp
    have HP : Hid (Puts P Bs (.map (some M)) ws o w e w1) := ⟨hp.1, by rw [HO2.out]; exact hp.2.1, HF0.out.trans hp.2.2⟩
    obtain rfl := hp.1
    clear hp
    go_wp2
    go_end0
    exact HP.out
  · have e1 : (s.kind == 1) = false := by simp; omega
    have e2 : (s.kind == 2) = false := by simp; omega
    have e3 : (s.kind == 3) = false := by simp; omega
    have e4 : (s.kind == 4) = false := by simp; omega
    have e5 : (s.kind == 5) = false := by simp; omega
    have e6 : (s.kind == 6) = false := by simp; omega
    have e7 : (s.kind == 7) = true := by simp; omega
    have HKd : Hid (s.kind = 7) := hk
    clear hk hk1 hk2
    have HO2 : Hid (o = [(⟨#[115, 101, 110, 100]⟩ : ByteArray), s.name] ++ Sy.exT d s.x ++ [⟨#[59]⟩]) := HO.out.trans (stT_7 HKd.out)
    have hno : ws.length + (2 + ((Sy.exT d s.x).length + 1)) ≤ 1000000 := by rw [HO2.out] at hn; simp only [List.length_append, List.length_cons, List.length_nil] at hn; omega
    have HOKx : Hid (Sy.ExOk d s.x) := hok.out.2.2.1 (by have := HKd.out; omega)
    have hend := ending_lit B M P Bs d HLay hx s.x xa xc [(⟨#[115, 101, 110, 100]⟩ : ByteArray), s.name] (w.heap.size + 1) 2 ws (w.alloc (stO s xa xc ba bc ea ec)) (by simp) HOKx HX0 (hPR.out.grown HG0.out) (hM.out.grown HG0.out) hs0 hno
    rw [← HO2.out] at hend
    go_enter Tryz.func84, Tryz.ntmps84
    go_wp2_with fail
    refine hend.mono ?_
    rintro e w1 hp
    have HP : Hid (Puts P Bs (.map (some M)) ws o w e w1) := ⟨hp.1, hp.2.1, HF0.out.trans hp.2.2⟩
    obtain rfl := hp.1
    clear hp hend
    go_wp2
    go_end0
    exact HP.out
  · have e1 : (s.kind == 1) = false := by simp; omega
    have e2 : (s.kind == 2) = false := by simp; omega
    have e3 : (s.kind == 3) = false := by simp; omega
    have e4 : (s.kind == 4) = false := by simp; omega
    have e5 : (s.kind == 5) = false := by simp; omega
    have e6 : (s.kind == 6) = false := by simp; omega
    have e7 : (s.kind == 7) = false := by simp; omega
    have e8 : (s.kind == 8) = true := by simp; omega
    have HKd : Hid (s.kind = 8) := hk
    clear hk hk1 hk2
    have HO2 : Hid (o = [(⟨#[111, 117, 116]⟩ : ByteArray)] ++ Sy.exT d s.x ++ [⟨#[59]⟩]) := HO.out.trans (stT_8 HKd.out)
    have hno : ws.length + (1 + ((Sy.exT d s.x).length + 1)) ≤ 1000000 := by rw [HO2.out] at hn; simp only [List.length_append, List.length_cons, List.length_nil] at hn; omega
    have HOKx : Hid (Sy.ExOk d s.x) := hok.out.2.2.1 (by have := HKd.out; omega)
    have hend := ending_lit B M P Bs d HLay hx s.x xa xc [(⟨#[111, 117, 116]⟩ : ByteArray)] (w.heap.size + 1) 1 ws (w.alloc (stO s xa xc ba bc ea ec)) (by simp) HOKx HX0 (hPR.out.grown HG0.out) (hM.out.grown HG0.out) hs0 hno
    rw [← HO2.out] at hend
    go_enter Tryz.func84, Tryz.ntmps84
    go_wp2_with fail
    refine hend.mono ?_
    rintro e w1 hp
    have HP : Hid (Puts P Bs (.map (some M)) ws o w e w1) := ⟨hp.1, hp.2.1, HF0.out.trans hp.2.2⟩
    obtain rfl := hp.1
    clear hp hend
    go_wp2
    go_end0
    exact HP.out
  · have e1 : (s.kind == 1) = false := by simp; omega
    have e2 : (s.kind == 2) = false := by simp; omega
    have e3 : (s.kind == 3) = false := by simp; omega
    have e4 : (s.kind == 4) = false := by simp; omega
    have e5 : (s.kind == 5) = false := by simp; omega
    have e6 : (s.kind == 6) = false := by simp; omega
    have e7 : (s.kind == 7) = false := by simp; omega
    have e8 : (s.kind == 8) = false := by simp; omega
    have e9 : (s.kind == 9) = true := by simp; omega
    have HKd : Hid (s.kind = 9) := hk
    clear hk hk1 hk2
    have HO2 : Hid (o = [(⟨#[100, 111]⟩ : ByteArray)] ++ Sy.exT d s.x ++ [⟨#[59]⟩]) := HO.out.trans (stT_9 HKd.out)
    have hno : ws.length + (1 + ((Sy.exT d s.x).length + 1)) ≤ 1000000 := by rw [HO2.out] at hn; simp only [List.length_append, List.length_cons, List.length_nil] at hn; omega
    have HOKx : Hid (Sy.ExOk d s.x) := hok.out.2.2.1 (by have := HKd.out; omega)
    have hend := ending_lit B M P Bs d HLay hx s.x xa xc [(⟨#[100, 111]⟩ : ByteArray)] (w.heap.size + 1) 1 ws (w.alloc (stO s xa xc ba bc ea ec)) (by simp) HOKx HX0 (hPR.out.grown HG0.out) (hM.out.grown HG0.out) hs0 hno
    rw [← HO2.out] at hend
    go_enter Tryz.func84, Tryz.ntmps84
    go_wp2_with fail
    refine hend.mono ?_
    rintro e w1 hp
    have HP : Hid (Puts P Bs (.map (some M)) ws o w e w1) := ⟨hp.1, hp.2.1, HF0.out.trans hp.2.2⟩
    obtain rfl := hp.1
    clear hp hend
    go_wp2
    go_end0
    exact HP.out

theorem statP_any (B M P Bs : Nat) (hL : Lay B M P Bs) : ∀ d : Nat, StP B M P Bs d
  | 0 => fun _ _ _ _ _ _ _ _ _ _ hok => hok.elim
  | d + 1 => pstat_of B M P Bs d hL (statP_any B M P Bs hL d)

end Go.Proofs.YtlnikpcoejpknaaGreatDoor

/- The walk of the printer's def. -/
namespace Go.Proofs.YtlnikpcoejpknaaGreatDoor
open Go.RowKit

/-- What a look that found nothing says of a definition. -/
structure DfOk (d : Sy.Df) : Prop where
  lo : 1 ≤ d.kind
  hi : d.kind ≤ 4
  pms : d.kind = 2 ∨ d.kind = 3 → ∀ p ∈ d.params, Sy.tyW p.ty = 0
  takes : d.kind = 3 → Sy.tyW d.takes = 0
  ty : d.kind ≠ 4 → Sy.tyW d.ty = 0
  cap : d.kind = 1 → 1 ≤ d.cap ∧ d.cap ≤ 20
  body : d.kind ≠ 1 → ∀ s ∈ d.body, Sy.StOk 39 s

theorem tyT_len (t : Sy.Ty) : (Sy.tyT t).length = 1 := rfl

/-- What the walk knows in the midst of a definition. -/
def DMid (P Bs : Nat) (mv : Value) (ws : List ByteArray) (o : Obj) (w w1 : World) : Prop := PR w1 P Bs ws mv ∧ Fr P Bs w w1 ∧ w1.heap[w.heap.size]? = some o

theorem DMid.step {P Bs : Nat} {mv : Value} {ws out : List ByteArray} {d : Sy.Df} {pa : Option Addr} {pc : Nat} {ba : Option Addr} {bc : Nat} {w w1 w2 : World} {e : Ending} (h : DMid P Bs mv ws (dfO d pa pc ba bc) w w1) (hP : P ≠ w.heap.size) (hp : Puts P Bs mv ws out w1 e w2) : DMid P Bs mv (ws ++ out) (dfO d pa pc ba bc) w w2 :=
  ⟨hp.2.1, h.2.1.trans hp.2.2, box_fr h.2.2 (by decide) (fun e => hP e.symm) hp.2.2⟩

theorem dfT_1 {d : Sy.Df} (hk : d.kind = 1) : Sy.dfT d = [⟨#[98, 111, 120]⟩, d.name] ++ Sy.tyT d.ty ++ [Sy.numT d.cap, ⟨#[59]⟩] := by
  unfold Sy.dfT
  rw [if_pos hk]
theorem dfT_2 {d : Sy.Df} (hk : d.kind = 2) : Sy.dfT d = [⟨#[102, 110]⟩, d.name] ++ Sy.pmsT d.params ++ Sy.tyT d.ty ++ Sy.bodyT (Sy.stT 39) d.body := by
  unfold Sy.dfT
  rw [if_neg (show ¬ d.kind = 1 by omega), if_pos hk]
theorem dfT_3 {d : Sy.Df} (hk : d.kind = 3) : Sy.dfT d = [⟨#[103, 101, 110]⟩, d.name] ++ Sy.pmsT d.params ++ [⟨#[116, 97, 107, 101, 115]⟩] ++ Sy.tyT d.takes ++ [⟨#[121, 105, 101, 108, 100, 115]⟩] ++ Sy.tyT d.ty ++ Sy.bodyT (Sy.stT 39) d.body := by
  unfold Sy.dfT
  rw [if_neg (show ¬ d.kind = 1 by omega), if_neg (show ¬ d.kind = 2 by omega), if_pos hk]
theorem dfT_4 {d : Sy.Df} (hk : d.kind = 4) : Sy.dfT d = [⟨#[116, 97, 115, 107]⟩, d.name] ++ Sy.bodyT (Sy.stT 39) d.body := by
  unfold Sy.dfT
  rw [if_neg (show ¬ d.kind = 1 by omega), if_neg (show ¬ d.kind = 2 by omega), if_neg (show ¬ d.kind = 3 by omega)]

set_option maxRecDepth 100000 in
set_option maxHeartbeats 2000000 in
theorem pdef_any (B M P Bs : Nat) (hL : Lay B M P Bs) (d : Sy.Df) (pa : Option Addr) (pc : Nat) (ba : Option Addr) (bc : Nat) (ws : List ByteArray) (w : World) (hok : Hid (DfOk d)) (hX : Hid (DfIn B w d pa ba)) (hPR : Hid (PR w P Bs ws (.map (some M)))) (hM : Hid (MpT w M)) (hBs : Bs ≤ w.heap.size) (hn : ws.length + (Sy.dfT d).length ≤ 1000000) :
    Calls Tryz.prog 25 #[.pointer (some ⟨P, 0, none⟩), dfV d pa pc ba bc] w fun e w' => Puts P Bs (.map (some M)) ws (Sy.dfT d) w e w' := by
  have HS : Hid (StP B M P Bs 39) := statP_any B M P Bs hL 39
  have HLay := hL
  obtain ⟨hbp, hpb, hmb, hmp, hgp⟩ := hL
  have hk1 := hok.out.lo
  have hk2 := hok.out.hi
  have hPw : P ≠ w.heap.size := by omega
  have HG0 : Hid (w.grownBy (w.alloc (dfO d pa pc ba bc)) none) := World.grownBy_alloc _ _ _
  have HM0 : Hid (DMid P Bs (.map (some M)) ws (dfO d pa pc ba bc) w (w.alloc (dfO d pa pc ba bc))) := ⟨hPR.out.grown HG0.out, Fr.alloc _ _ _ _, heap_alloc_new w _⟩
  have hs0 : Bs ≤ (w.alloc (dfO d pa pc ba bc)).heap.size := by simp; omega
  obtain ⟨o, ho⟩ : ∃ o, o = Sy.dfT d := ⟨_, rfl⟩
  rw [← ho] at hn ⊢
  have HO : Hid (o = Sy.dfT d) := ho
  clear ho
  rcases (show d.kind = 1 ∨ d.kind = 2 ∨ d.kind = 3 ∨ d.kind = 4 by omega) with hk | hk | hk | hk
  · have e1 : (d.kind == 1) = true := by simp; omega
    have HKd : Hid (d.kind = 1) := hk
    clear hk hk1 hk2
    have HO2 : Hid (o = [⟨#[98, 111, 120]⟩, d.name] ++ Sy.tyT d.ty ++ [Sy.numT d.cap, ⟨#[59]⟩]) := HO.out.trans (dfT_1 HKd.out)
    have hno : ws.length + o.length ≤ 1000000 := hn
    rw [HO2.out] at hno
    simp only [List.length_append, List.length_cons, List.length_nil, Sy.tyT] at hno
    clear hn
    go_enter Tryz.func25, Tryz.ntmps25
    go_upto_region 3 with fail
    go_cut [] (fun wx => DMid P Bs (.map (some M)) (ws ++ [⟨#[98, 111, 120]⟩, d.name]) (dfO d pa pc ba bc) w wx)
    case first =>
      go_region_with (go_at_call 49; refine (put_litD P Bs ws [(⟨#[98, 111, 120]⟩ : ByteArray), d.name] _ 2 (w.heap.size + 1) (w.alloc (dfO d pa pc ba bc)) (by simp) HM0.out.1 hpb hs0 (by show ws.length + 2 ≤ _; omega)).mono ?_; rintro e w2 hp; have HPx : Hid (DMid P Bs (.map (some M)) (ws ++ [⟨#[98, 111, 120]⟩, d.name]) (dfO d pa pc ba bc) w w2) := HM0.out.step hPw hp; obtain rfl := hp.1; clear hp)
      all_goals
        go_wp2_with fail
        go_meet
        exact Hid.out (by assumption)
    case rest =>
      have HC : Hid (DMid P Bs (.map (some M)) (ws ++ [⟨#[98, 111, 120]⟩, d.name]) (dfO d pa pc ba bc) w wc) := hcut
      have hsc : Bs ≤ wc.heap.size := by have := HC.out.2.1.size; omega
      clear hcut
      obtain ⟨b0, b1, b2, b3, b4, b5, b6, b7, b8⟩ := nine_cell HC.out.2.2
      go_wp2_with fail
      refine (pty_any P Bs (ws ++ [(⟨#[98, 111, 120]⟩ : ByteArray), d.name]) _ d.ty wc HC.out.1 hpb hsc (by have := tyT_len d.ty; have := tyT_len d.takes; simp only [List.length_append, List.length_cons, List.length_nil]; omega) (tyW_zero (hok.out.ty (by have := HKd.out; omega)))).mono ?_
      rintro e v1 hp
      have HC1 : Hid (DMid P Bs (.map (some M)) ((ws ++ [(⟨#[98, 111, 120]⟩ : ByteArray), d.name]) ++ Sy.tyT d.ty) (dfO d pa pc ba bc) w v1) := HC.out.step hPw hp
      have hsv1 : Bs ≤ v1.heap.size := by have := HC1.out.2.1.size; omega
      obtain rfl := hp.1
      clear hp b0 b1 b2 b3 b4 b5 b6 b7 b8
      obtain ⟨b0, b1, b2, b3, b4, b5, b6, b7, b8⟩ := nine_cell HC1.out.2.2
      obtain ⟨hc1, hc2⟩ := hok.out.cap HKd.out
      obtain ⟨i, hi⟩ : ∃ i : Nat, d.cap = i := ⟨d.cap.toNat, by omega⟩
      have hit := Tryz.strconv_Itoa_small i (by omega) v1.drew
      rw [← hi] at hit
      have hnum : Sy.numT d.cap = ⟨(Lib.decDigits i).toArray⟩ := by rw [hi]; unfold Sy.numT Lib.itoa; rw [if_neg (by omega)]; rfl
      rw [← hnum] at hit
      have HFi : Hid (∀ e w2, Puts P Bs (.map (some M)) ((ws ++ [(⟨#[98, 111, 120]⟩ : ByteArray), d.name]) ++ Sy.tyT d.ty) [Sy.numT d.cap, ⟨#[59]⟩] v1 e w2 → Puts P Bs (.map (some M)) ws o w e w2) := fun e w2 hp => ⟨hp.1, by rw [HO2.out]; have := hp.2.1; simpa using this, HC1.out.2.1.trans hp.2.2⟩
      obtain ⟨tn, htn⟩ : ∃ tn, tn = Sy.numT d.cap := ⟨_, rfl⟩
      rw [← htn] at hit HFi
      clear hi hnum htn hc1 hc2
      go_upto_region 5 with fail
      go_region_with (first | (go_at_call 51; refine hit.mono ?_; rintro e w5 ⟨rfl, rfl⟩) | (go_at_call 49; refine (put_litD P Bs ((ws ++ [(⟨#[98, 111, 120]⟩ : ByteArray), d.name]) ++ Sy.tyT d.ty) [tn, ⟨#[59]⟩] _ 2 v1.heap.size v1 rfl HC1.out.1 hpb hsv1 (by have := tyT_len d.ty; have := tyT_len d.takes; simp only [List.length_append, List.length_cons, List.length_nil]; omega)).mono ?_; rintro e w5 hp; have HPx : Hid (Puts P Bs (.map (some M)) ws o w e w5) := HFi.out e w5 hp; obtain rfl := hp.1; clear hp))
      all_goals
        go_wp2
        refine bodyPost_ret (results_none rfl _ _ _) rfl ?_
        exact Hid.out (by assumption)
  · have e1 : (d.kind == 1) = false := by simp; omega
    have e2 : (d.kind == 2) = true := by simp; omega
    have HKd : Hid (d.kind = 2) := hk
    clear hk hk1 hk2
    have HO2 : Hid (o = [⟨#[102, 110]⟩, d.name] ++ Sy.pmsT d.params ++ Sy.tyT d.ty ++ Sy.bodyT (Sy.stT 39) d.body) := HO.out.trans (dfT_2 HKd.out)
    have hno : ws.length + o.length ≤ 1000000 := hn
    rw [HO2.out] at hno
    simp only [List.length_append, List.length_cons, List.length_nil, Sy.tyT] at hno
    clear hn
    go_enter Tryz.func25, Tryz.ntmps25
    go_upto_region 7 with fail
    go_cut [] (fun wx => DMid P Bs (.map (some M)) (ws ++ [⟨#[102, 110]⟩, d.name]) (dfO d pa pc ba bc) w wx)
    case first =>
      go_region_with (go_at_call 49; refine (put_litD P Bs ws [(⟨#[102, 110]⟩ : ByteArray), d.name] _ 2 (w.heap.size + 1) (w.alloc (dfO d pa pc ba bc)) (by simp) HM0.out.1 hpb hs0 (by show ws.length + 2 ≤ _; omega)).mono ?_; rintro e w2 hp; have HPx : Hid (DMid P Bs (.map (some M)) (ws ++ [⟨#[102, 110]⟩, d.name]) (dfO d pa pc ba bc) w w2) := HM0.out.step hPw hp; obtain rfl := hp.1; clear hp)
      all_goals
        go_wp2_with fail
        go_meet
        exact Hid.out (by assumption)
    case rest =>
      have HC : Hid (DMid P Bs (.map (some M)) (ws ++ [⟨#[102, 110]⟩, d.name]) (dfO d pa pc ba bc) w wc) := hcut
      have hsc : Bs ≤ wc.heap.size := by have := HC.out.2.1.size; omega
      clear hcut
      obtain ⟨b0, b1, b2, b3, b4, b5, b6, b7, b8⟩ := nine_cell HC.out.2.2
      go_wp2_with fail
      refine (pparams_any B P Bs _ hbp hpb d.params pa pc (ws ++ [(⟨#[102, 110]⟩ : ByteArray), d.name]) wc (hok.out.pms (by have := HKd.out; omega)) (hX.out.2.2.2.1.same (HC.out.2.1.same hbp hpb (by omega))) HC.out.1 hsc (by have := tyT_len d.ty; have := tyT_len d.takes; simp only [List.length_append, List.length_cons, List.length_nil]; omega)).mono ?_
      rintro e v1 hp
      have HC1 : Hid (DMid P Bs (.map (some M)) ((ws ++ [(⟨#[102, 110]⟩ : ByteArray), d.name]) ++ Sy.pmsT d.params) (dfO d pa pc ba bc) w v1) := HC.out.step hPw hp
      have hsv1 : Bs ≤ v1.heap.size := by have := HC1.out.2.1.size; omega
      obtain rfl := hp.1
      clear hp b0 b1 b2 b3 b4 b5 b6 b7 b8
      obtain ⟨b0, b1, b2, b3, b4, b5, b6, b7, b8⟩ := nine_cell HC1.out.2.2
      go_wp2_with fail
      refine (pty_any P Bs ((ws ++ [(⟨#[102, 110]⟩ : ByteArray), d.name]) ++ Sy.pmsT d.params) _ d.ty v1 HC1.out.1 hpb hsv1 (by have := tyT_len d.ty; have := tyT_len d.takes; simp only [List.length_append, List.length_cons, List.length_nil]; omega) (tyW_zero (hok.out.ty (by have := HKd.out; omega)))).mono ?_
      rintro e v2 hp
      have HC2 : Hid (DMid P Bs (.map (some M)) (((ws ++ [(⟨#[102, 110]⟩ : ByteArray), d.name]) ++ Sy.pmsT d.params) ++ Sy.tyT d.ty) (dfO d pa pc ba bc) w v2) := HC1.out.step hPw hp
      have hsv2 : Bs ≤ v2.heap.size := by have := HC2.out.2.1.size; omega
      obtain rfl := hp.1
      clear hp b0 b1 b2 b3 b4 b5 b6 b7 b8
      obtain ⟨hb, hbin⟩ := hX.out.2.2.2.2
      have HXb : Hid (BodyIn B v2 hb d.body ba) := hbin.same (HC2.out.2.1.same hbp hpb (by omega))
      clear hbin
      obtain ⟨b0, b1, b2, b3, b4, b5, b6, b7, b8⟩ := nine_cell HC2.out.2.2
      go_wp2_with fail
      refine (pbody_of B M P Bs 39 HLay HS hb d.body ba bc (((ws ++ [(⟨#[102, 110]⟩ : ByteArray), d.name]) ++ Sy.pmsT d.params) ++ Sy.tyT d.ty) v2 (hok.out.body (by have := HKd.out; omega)) HXb HC2.out.1 (hM.out.fr HC2.out.2.1 hmb hmp hgp hpb) hsv2 (by have := tyT_len d.ty; have := tyT_len d.takes; simp only [List.length_append, List.length_cons, List.length_nil]; omega)).mono ?_
      rintro e v3 hp
      have HC3 : Hid (DMid P Bs (.map (some M)) ((((ws ++ [(⟨#[102, 110]⟩ : ByteArray), d.name]) ++ Sy.pmsT d.params) ++ Sy.tyT d.ty) ++ Sy.bodyT (Sy.stT 39) d.body) (dfO d pa pc ba bc) w v3) := HC2.out.step hPw hp
      have hsv3 : Bs ≤ v3.heap.size := by have := HC3.out.2.1.size; omega
      obtain rfl := hp.1
      clear hp b0 b1 b2 b3 b4 b5 b6 b7 b8
      go_wp2
      go_end0
      exact ⟨rfl, by rw [HO2.out]; have := HC3.out.1; simpa using this, HC3.out.2.1⟩
  · have e1 : (d.kind == 1) = false := by simp; omega
    have e2 : (d.kind == 2) = false := by simp; omega
    have e3 : (d.kind == 3) = true := by simp; omega
    have HKd : Hid (d.kind = 3) := hk
    clear hk hk1 hk2
    have HO2 : Hid (o = [⟨#[103, 101, 110]⟩, d.name] ++ Sy.pmsT d.params ++ [⟨#[116, 97, 107, 101, 115]⟩] ++ Sy.tyT d.takes ++ [⟨#[121, 105, 101, 108, 100, 115]⟩] ++ Sy.tyT d.ty ++ Sy.bodyT (Sy.stT 39) d.body) := HO.out.trans (dfT_3 HKd.out)
    have hno : ws.length + o.length ≤ 1000000 := hn
    rw [HO2.out] at hno
    simp only [List.length_append, List.length_cons, List.length_nil, Sy.tyT] at hno
    clear hn
    go_enter Tryz.func25, Tryz.ntmps25
    go_upto_region 11 with fail
    go_cut [] (fun wx => DMid P Bs (.map (some M)) (ws ++ [⟨#[103, 101, 110]⟩, d.name]) (dfO d pa pc ba bc) w wx)
    case first =>
      go_region_with (go_at_call 49; refine (put_litD P Bs ws [(⟨#[103, 101, 110]⟩ : ByteArray), d.name] _ 2 (w.heap.size + 1) (w.alloc (dfO d pa pc ba bc)) (by simp) HM0.out.1 hpb hs0 (by show ws.length + 2 ≤ _; omega)).mono ?_; rintro e w2 hp; have HPx : Hid (DMid P Bs (.map (some M)) (ws ++ [⟨#[103, 101, 110]⟩, d.name]) (dfO d pa pc ba bc) w w2) := HM0.out.step hPw hp; obtain rfl := hp.1; clear hp)
      all_goals
        go_wp2_with fail
        go_meet
        exact Hid.out (by assumption)
    case rest =>
      have HC : Hid (DMid P Bs (.map (some M)) (ws ++ [⟨#[103, 101, 110]⟩, d.name]) (dfO d pa pc ba bc) w wc) := hcut
      have hsc : Bs ≤ wc.heap.size := by have := HC.out.2.1.size; omega
      clear hcut
      obtain ⟨b0, b1, b2, b3, b4, b5, b6, b7, b8⟩ := nine_cell HC.out.2.2
      go_wp2_with fail
      refine (pparams_any B P Bs _ hbp hpb d.params pa pc (ws ++ [(⟨#[103, 101, 110]⟩ : ByteArray), d.name]) wc (hok.out.pms (by have := HKd.out; omega)) (hX.out.2.2.2.1.same (HC.out.2.1.same hbp hpb (by omega))) HC.out.1 hsc (by have := tyT_len d.ty; have := tyT_len d.takes; simp only [List.length_append, List.length_cons, List.length_nil]; omega)).mono ?_
      rintro e v1 hp
      have HC1 : Hid (DMid P Bs (.map (some M)) ((ws ++ [(⟨#[103, 101, 110]⟩ : ByteArray), d.name]) ++ Sy.pmsT d.params) (dfO d pa pc ba bc) w v1) := HC.out.step hPw hp
      have hsv1 : Bs ≤ v1.heap.size := by have := HC1.out.2.1.size; omega
      obtain rfl := hp.1
      clear hp b0 b1 b2 b3 b4 b5 b6 b7 b8
      obtain ⟨b0, b1, b2, b3, b4, b5, b6, b7, b8⟩ := nine_cell HC1.out.2.2
      go_wp2_with fail
      refine (put_lit P Bs ((ws ++ [(⟨#[103, 101, 110]⟩ : ByteArray), d.name]) ++ Sy.pmsT d.params) [(⟨#[116, 97, 107, 101, 115]⟩ : ByteArray)] _ 1 v1.heap.size v1 rfl HC1.out.1 hpb hsv1 (by have := tyT_len d.ty; have := tyT_len d.takes; simp only [List.length_append, List.length_cons, List.length_nil]; omega)).mono ?_
      rintro e v2 hp
      have HC2 : Hid (DMid P Bs (.map (some M)) (((ws ++ [(⟨#[103, 101, 110]⟩ : ByteArray), d.name]) ++ Sy.pmsT d.params) ++ [(⟨#[116, 97, 107, 101, 115]⟩ : ByteArray)]) (dfO d pa pc ba bc) w v2) := HC1.out.step hPw hp
      have hsv2 : Bs ≤ v2.heap.size := by have := HC2.out.2.1.size; omega
      obtain rfl := hp.1
      clear hp b0 b1 b2 b3 b4 b5 b6 b7 b8
      obtain ⟨b0, b1, b2, b3, b4, b5, b6, b7, b8⟩ := nine_cell HC2.out.2.2
      go_wp2_with fail
      refine (pty_any P Bs (((ws ++ [(⟨#[103, 101, 110]⟩ : ByteArray), d.name]) ++ Sy.pmsT d.params) ++ [(⟨#[116, 97, 107, 101, 115]⟩ : ByteArray)]) _ d.takes v2 HC2.out.1 hpb hsv2 (by have := tyT_len d.ty; have := tyT_len d.takes; simp only [List.length_append, List.length_cons, List.length_nil]; omega) (tyW_zero (hok.out.takes (by have := HKd.out; omega)))).mono ?_
      rintro e v3 hp
      have HC3 : Hid (DMid P Bs (.map (some M)) ((((ws ++ [(⟨#[103, 101, 110]⟩ : ByteArray), d.name]) ++ Sy.pmsT d.params) ++ [(⟨#[116, 97, 107, 101, 115]⟩ : ByteArray)]) ++ Sy.tyT d.takes) (dfO d pa pc ba bc) w v3) := HC2.out.step hPw hp
      have hsv3 : Bs ≤ v3.heap.size := by have := HC3.out.2.1.size; omega
      obtain rfl := hp.1
      clear hp b0 b1 b2 b3 b4 b5 b6 b7 b8
      obtain ⟨b0, b1, b2, b3, b4, b5, b6, b7, b8⟩ := nine_cell HC3.out.2.2
      go_wp2_with fail
      refine (put_lit P Bs ((((ws ++ [(⟨#[103, 101, 110]⟩ : ByteArray), d.name]) ++ Sy.pmsT d.params) ++ [(⟨#[116, 97, 107, 101, 115]⟩ : ByteArray)]) ++ Sy.tyT d.takes) [(⟨#[121, 105, 101, 108, 100, 115]⟩ : ByteArray)] _ 1 v3.heap.size v3 rfl HC3.out.1 hpb hsv3 (by have := tyT_len d.ty; have := tyT_len d.takes; simp only [List.length_append, List.length_cons, List.length_nil]; omega)).mono ?_
      rintro e v4 hp
      have HC4 : Hid (DMid P Bs (.map (some M)) (((((ws ++ [(⟨#[103, 101, 110]⟩ : ByteArray), d.name]) ++ Sy.pmsT d.params) ++ [(⟨#[116, 97, 107, 101, 115]⟩ : ByteArray)]) ++ Sy.tyT d.takes) ++ [(⟨#[121, 105, 101, 108, 100, 115]⟩ : ByteArray)]) (dfO d pa pc ba bc) w v4) := HC3.out.step hPw hp
      have hsv4 : Bs ≤ v4.heap.size := by have := HC4.out.2.1.size; omega
      obtain rfl := hp.1
      clear hp b0 b1 b2 b3 b4 b5 b6 b7 b8
      obtain ⟨b0, b1, b2, b3, b4, b5, b6, b7, b8⟩ := nine_cell HC4.out.2.2
      go_wp2_with fail
      refine (pty_any P Bs (((((ws ++ [(⟨#[103, 101, 110]⟩ : ByteArray), d.name]) ++ Sy.pmsT d.params) ++ [(⟨#[116, 97, 107, 101, 115]⟩ : ByteArray)]) ++ Sy.tyT d.takes) ++ [(⟨#[121, 105, 101, 108, 100, 115]⟩ : ByteArray)]) _ d.ty v4 HC4.out.1 hpb hsv4 (by have := tyT_len d.ty; have := tyT_len d.takes; simp only [List.length_append, List.length_cons, List.length_nil]; omega) (tyW_zero (hok.out.ty (by have := HKd.out; omega)))).mono ?_
      rintro e v5 hp
      have HC5 : Hid (DMid P Bs (.map (some M)) ((((((ws ++ [(⟨#[103, 101, 110]⟩ : ByteArray), d.name]) ++ Sy.pmsT d.params) ++ [(⟨#[116, 97, 107, 101, 115]⟩ : ByteArray)]) ++ Sy.tyT d.takes) ++ [(⟨#[121, 105, 101, 108, 100, 115]⟩ : ByteArray)]) ++ Sy.tyT d.ty) (dfO d pa pc ba bc) w v5) := HC4.out.step hPw hp
      have hsv5 : Bs ≤ v5.heap.size := by have := HC5.out.2.1.size; omega
      obtain rfl := hp.1
      clear hp b0 b1 b2 b3 b4 b5 b6 b7 b8
      obtain ⟨hb, hbin⟩ := hX.out.2.2.2.2
      have HXb : Hid (BodyIn B v5 hb d.body ba) := hbin.same (HC5.out.2.1.same hbp hpb (by omega))
      clear hbin
      obtain ⟨b0, b1, b2, b3, b4, b5, b6, b7, b8⟩ := nine_cell HC5.out.2.2
      go_wp2_with fail
      refine (pbody_of B M P Bs 39 HLay HS hb d.body ba bc ((((((ws ++ [(⟨#[103, 101, 110]⟩ : ByteArray), d.name]) ++ Sy.pmsT d.params) ++ [(⟨#[116, 97, 107, 101, 115]⟩ : ByteArray)]) ++ Sy.tyT d.takes) ++ [(⟨#[121, 105, 101, 108, 100, 115]⟩ : ByteArray)]) ++ Sy.tyT d.ty) v5 (hok.out.body (by have := HKd.out; omega)) HXb HC5.out.1 (hM.out.fr HC5.out.2.1 hmb hmp hgp hpb) hsv5 (by have := tyT_len d.ty; have := tyT_len d.takes; simp only [List.length_append, List.length_cons, List.length_nil]; omega)).mono ?_
      rintro e v6 hp
      have HC6 : Hid (DMid P Bs (.map (some M)) (((((((ws ++ [(⟨#[103, 101, 110]⟩ : ByteArray), d.name]) ++ Sy.pmsT d.params) ++ [(⟨#[116, 97, 107, 101, 115]⟩ : ByteArray)]) ++ Sy.tyT d.takes) ++ [(⟨#[121, 105, 101, 108, 100, 115]⟩ : ByteArray)]) ++ Sy.tyT d.ty) ++ Sy.bodyT (Sy.stT 39) d.body) (dfO d pa pc ba bc) w v6) := HC5.out.step hPw hp
      have hsv6 : Bs ≤ v6.heap.size := by have := HC6.out.2.1.size; omega
      obtain rfl := hp.1
      clear hp b0 b1 b2 b3 b4 b5 b6 b7 b8
      go_wp2
      go_end0
      exact ⟨rfl, by rw [HO2.out]; have := HC6.out.1; simpa using this, HC6.out.2.1⟩
  · have e1 : (d.kind == 1) = false := by simp; omega
    have e2 : (d.kind == 2) = false := by simp; omega
    have e3 : (d.kind == 3) = false := by simp; omega
    have e4 : (d.kind == 4) = true := by simp; omega
    have HKd : Hid (d.kind = 4) := hk
    clear hk hk1 hk2
    have HO2 : Hid (o = [⟨#[116, 97, 115, 107]⟩, d.name] ++ Sy.bodyT (Sy.stT 39) d.body) := HO.out.trans (dfT_4 HKd.out)
    have hno : ws.length + o.length ≤ 1000000 := hn
    rw [HO2.out] at hno
    simp only [List.length_append, List.length_cons, List.length_nil] at hno
    clear hn
    go_enter Tryz.func25, Tryz.ntmps25
    go_upto_region 18 with fail
    go_region_with (go_at_call 49; refine (put_litD P Bs ws [(⟨#[116, 97, 115, 107]⟩ : ByteArray), d.name] _ 2 (w.heap.size + 1) (w.alloc (dfO d pa pc ba bc)) (by simp) HM0.out.1 hpb hs0 (by show ws.length + 2 ≤ _; omega)).mono ?_; rintro e wc hp; have HC : Hid (DMid P Bs (.map (some M)) (ws ++ [⟨#[116, 97, 115, 107]⟩, d.name]) (dfO d pa pc ba bc) w wc) := HM0.out.step hPw hp; have hsc : Bs ≤ wc.heap.size := (by have := HC.out.2.1.size; omega); obtain rfl := hp.1; clear hp)
    all_goals
      obtain ⟨hb, hbin⟩ := hX.out.2.2.2.2
      have HXb : Hid (BodyIn B wc hb d.body ba) := hbin.same (HC.out.2.1.same hbp hpb (by omega))
      clear hbin
      obtain ⟨b0, b1, b2, b3, b4, b5, b6, b7, b8⟩ := nine_cell HC.out.2.2
      go_wp2_with fail
      refine (pbody_of B M P Bs 39 HLay HS hb d.body ba bc (ws ++ [(⟨#[116, 97, 115, 107]⟩ : ByteArray), d.name]) wc (hok.out.body (by have := HKd.out; omega)) HXb HC.out.1 (hM.out.fr HC.out.2.1 hmb hmp hgp hpb) hsc (by have := tyT_len d.ty; have := tyT_len d.takes; simp only [List.length_append, List.length_cons, List.length_nil]; omega)).mono ?_
      rintro e v1 hp
      have HC1 : Hid (DMid P Bs (.map (some M)) ((ws ++ [(⟨#[116, 97, 115, 107]⟩ : ByteArray), d.name]) ++ Sy.bodyT (Sy.stT 39) d.body) (dfO d pa pc ba bc) w v1) := HC.out.step hPw hp
      have hsv1 : Bs ≤ v1.heap.size := by have := HC1.out.2.1.size; omega
      obtain rfl := hp.1
      clear hp b0 b1 b2 b3 b4 b5 b6 b7 b8
      go_wp2
      go_end0
      exact ⟨rfl, by rw [HO2.out]; have := HC1.out.1; simpa using this, HC1.out.2.1⟩

end Go.Proofs.YtlnikpcoejpknaaGreatDoor

/- What a look that found nothing says of a definition; the walk of text. -/
namespace Go.Proofs.YtlnikpcoejpknaaGreatDoor
open Go.RowKit

theorem rest_p {d : Sy.Df} {er : Int} (h : d.kind = 2 ∨ d.kind = 3) (hp : pmsE d = er) (hne : er ≠ 0) : dfRest d = er := by
  rcases h with h | h
  · rw [rest_2 h, hp, if_pos hne]
  · rw [rest_3 h, hp, if_pos hne]

theorem pmsW_all : ∀ (l : List Sy.Pm), Sy.pmsW l = 0 → ∀ p ∈ l, Sy.tyW p.ty = 0
  | [], _, p, hp => by cases hp
  | q :: l, h, p, hp => by
    unfold Sy.pmsW at h
    split at h
    · omega
    · split at h
      · rename_i h2; exact absurd h h2
      · rename_i h2
        rcases List.mem_cons.1 hp with rfl | hp
        · simpa using h2
        · exact pmsW_all l h p hp

theorem dfOk_of {d : Sy.Df} {n m : Nat} (h : Sy.dfW d n = .ok m) : DfOk d := by
  unfold Sy.dfW at h
  split at h
  · simp at h
  · rename_i h0
    have h0 : Sy.dfHead d n = 0 := by simpa using h0
    have hz : Sy.nodeW d.kind 4 40 n = 0 := by
      by_cases hq : Sy.nodeW d.kind 4 40 n = 0
      · exact hq
      · rw [dfHead_node hq] at h0; exact absurd h0 hq
    obtain ⟨_, hk1, hk2, _⟩ := Sy.nodeW_zero hz
    have hnm : Sy.nm d.name = true := by
      cases hq : Sy.nm d.name
      · rw [dfHead_name hz hq] at h0; omega
      · rfl
    rw [dfHead_rest hz hnm] at h0
    have hb : d.kind ≠ 1 → ∀ s ∈ d.body, Sy.StOk 39 s := by
      intro hk s hs
      rw [if_neg hk] at h
      obtain ⟨i, j, hij⟩ := Sy.bodyOf_mem h s hs
      exact Sy.stOk_of 39 s i j hij
    have hp : d.kind = 2 ∨ d.kind = 3 → pmsE d = 0 := by
      intro hk
      by_cases hq : pmsE d = 0
      · exact hq
      · rw [rest_p hk rfl hq] at h0; exact absurd h0 hq
    have hp2 : d.kind = 2 ∨ d.kind = 3 → ∀ p ∈ d.params, Sy.tyW p.ty = 0 := by
      intro hk
      have := hp hk
      unfold pmsE at this
      split at this
      · omega
      · exact pmsW_all _ this
    rcases (show d.kind = 1 ∨ d.kind = 2 ∨ d.kind = 3 ∨ d.kind = 4 by omega) with hk | hk | hk | hk
    · rw [rest_1 hk] at h0
      by_cases ht : Sy.tyW d.ty = 0
      · rw [if_neg (by simpa using ht)] at h0
        refine ⟨hk1, hk2, hp2, fun h3 => by omega, fun _ => ht, fun _ => ?_, hb⟩
        unfold capE at h0
        split at h0
        · omega
        · omega
      · rw [if_pos (by simpa using ht)] at h0; exact absurd h0 ht
    · rw [rest_2 hk, if_neg (by simpa using hp (.inl hk))] at h0
      exact ⟨hk1, hk2, hp2, fun h3 => by omega, fun _ => h0, fun h1 => by omega, hb⟩
    · rw [rest_3 hk, if_neg (by simpa using hp (.inr hk))] at h0
      by_cases ht : Sy.tyW d.takes = 0
      · rw [if_neg (by simpa using ht)] at h0
        exact ⟨hk1, hk2, hp2, fun _ => ht, fun _ => h0, fun h1 => by omega, hb⟩
      · rw [if_pos (by simpa using ht)] at h0; exact absurd h0 ht
    · exact ⟨hk1, hk2, hp2, fun h3 => by omega, fun h4 => absurd hk h4, fun h1 => by omega, hb⟩

/-- The words, blanks between. -/
def joinT (ws : List ByteArray) : ByteArray := ⟨(Lib.join (ws.map (·.data.toList)) [32]).toArray⟩

set_option maxHeartbeats 400000 in
theorem text_any (P Bs : Nat) (ws : List ByteArray) (mv : Value) (w : World) (hPR : Hid (PR w P Bs ws mv)) (hn : ws.length ≤ 1000000) (hlen : (Lib.join (ws.map (·.data.toList)) [32]).length ≤ 140737488355328) :
    Calls Tryz.prog 26 #[.pointer (some ⟨P, 0, none⟩)] w fun e w' => e = .returned (.string (joinT ws)) ∧ Below w.heap.size w w' := by
  obtain ⟨v, hP, hown⟩ := hPR.out
  obtain ⟨c0, c1, f0, f1⟩ := two_cell hP
  obtain ⟨t, ht⟩ : ∃ t, t = joinT ws := ⟨_, rfl⟩
  rw [← ht]
  rcases hown.2 with ⟨rfl, h0⟩ | ⟨g, cap, cur, rfl, hg, hh, hc1, hc2, hc3, hc4⟩
  · have hj := Tryz.strings_Join_none Option.none 0 ⟨#[32]⟩ w
    have HT : Hid (t = ⟨#[]⟩) := by rw [ht]; rw [List.length_eq_zero_iff.1 h0]; rfl
    clear hP hown ht hlen
    go_enter Tryz.func26, Tryz.ntmps26
    go_wp2_with fail
    refine hj.mono ?_
    rintro e w1 ⟨rfl, rfl⟩
    go_wp2
    go_ret
    exact ⟨by rw [HT.out]; rfl, Below.refl _ _⟩
  · have hj := Tryz.strings_Join g 0 cap ws ⟨#[32]⟩ w (by
      intro j x hx
      rw [Nat.zero_add, cell_of_row w g j cur _ _ hh]
      have : (cur.toList.take (ws.length * 1))[j]? = some (.string x) := by rw [hc4, List.getElem?_map, hx]; rfl
      rw [List.getElem?_take] at this
      split at this
      · simpa using this
      · simp at this) (lt_of_block hh) (by omega) hc1 hlen
    have HT : Hid (t = ⟨(Lib.join (ws.map (·.data.toList)) [32]).toArray⟩) := ht
    clear hP hown ht hlen hh hc3 hc4
    go_enter Tryz.func26, Tryz.ntmps26
    go_wp2_with fail
    refine hj.mono ?_
    rintro e w1 ⟨rfl, hb⟩
    have HB : Hid (Below w.heap.size w w1) := hb
    clear hb hj
    go_wp2
    go_ret
    exact ⟨by rw [HT.out]; rfl, HB.out⟩

end Go.Proofs.YtlnikpcoejpknaaGreatDoor

