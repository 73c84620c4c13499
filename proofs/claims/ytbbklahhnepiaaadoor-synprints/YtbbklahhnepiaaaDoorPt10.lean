/- The walk of the printer's stat. -/
import Derived.Test.YtbbklahhnepiaaaDoorPt9
namespace Go.Proofs.YtbbklahhnepiaaaDoor
open Go.RowKit



set_option maxRecDepth 100000 in
set_option maxHeartbeats 2000000 in
theorem pstat_of (B M P Bs d : Nat) (hL : Lay B M P Bs) (hS : Hid (StP B M P Bs d)) : StP B M P Bs (d + 1) := by
  intro h s xa xc ba bc ea ec ws w hok0 hX hPR hM hBs hn
  cases h with
  | zero => exact hX.out.elim
  | succ h =>
  have hok : Hid (Sy.StOk (d + 1) s) := hok0
  have hk1 := hok0.1
  have hk2 := hok0.2.1
  clear hok0
  have hE := exprP_any B M P Bs hL d
  have HE : Hid (ExP B M P Bs d) := hE
  clear hE
  have HLay := hL
  obtain ⟨hbp, hpb, hmb, hmp, hgp⟩ := hL
  obtain ⟨hname, ⟨hx, hXx⟩, hlb, hle, hXb, hXe⟩ := hX.out
  have HXx : Hid (ExIn B w hx s.x xa) := hXx
  have HXb : Hid (BodyIn B w h s.body ba) := ⟨hlb, hXb⟩
  have HXe : Hid (BodyIn B w h s.els ea) := ⟨hle, hXe⟩
  have HG0 : Hid (w.grownBy (w.alloc (stO s xa xc ba bc ea ec)) none) := World.grownBy_alloc _ _ _
  have HF0 : Hid (Fr P Bs w (w.alloc (stO s xa xc ba bc ea ec))) := Fr.alloc _ _ _ _
  have hs0 : Bs ≤ (w.alloc (stO s xa xc ba bc ea ec)).heap.size := by simp; omega
  have hPw : P < w.heap.size := by omega
  unfold maxLen at hlb hle
  clear hXx hXb hXe hname
  have HX0 : Hid (ExIn B (w.alloc (stO s xa xc ba bc ea ec)) hx s.x xa) := HXx.out.same (same_grown HG0.out (by simp) (by omega))
  obtain ⟨o, ho⟩ : ∃ o, o = Sy.stT (d + 1) s := ⟨_, rfl⟩
  rw [← ho] at hn ⊢
  have HO : Hid (o = Sy.stT (d + 1) s) := ho
  clear ho
  rcases (show s.kind = 1 ∨ s.kind = 2 ∨ s.kind = 3 ∨ s.kind = 4 ∨ s.kind = 5 ∨ s.kind = 6 ∨ s.kind = 7 ∨ s.kind = 8 ∨ s.kind = 9 by omega) with hk | hk | hk | hk | hk | hk | hk | hk | hk
  · have e1 : (s.kind == 1) = true := by simp; omega
    have HKd : Hid (s.kind = 1) := hk
    clear hk hk1 hk2
    have HO2 : Hid (o = [(⟨#[108, 101, 116]⟩ : ByteArray), s.name, ⟨#[61]⟩] ++ Sy.exT d s.x ++ [⟨#[59]⟩]) := HO.out.trans (stT_1 HKd.out)
    have hno : ws.length + (3 + ((Sy.exT d s.x).length + 1)) ≤ 1000000 := by rw [HO2.out] at hn; simp only [List.length_append, List.length_cons, List.length_nil] at hn; omega
    have HOKx : Hid (Sy.ExOk d s.x) := hok.out.2.2.1 (by have := HKd.out; omega)
    have hend := ending_lit B M P Bs d HLay hx s.x xa xc [(⟨#[108, 101, 116]⟩ : ByteArray), s.name, ⟨#[61]⟩] (w.heap.size + 1) 3 ws (w.alloc (stO s xa xc ba bc ea ec)) (by simp) HOKx HX0 (hPR.out.grown HG0.out) (hM.out.grown HG0.out) hs0 hno
    rw [← HO2.out] at hend
    go_enter Tryd.func39, Tryd.ntmps39
    go_wp2_with fail
    refine hend.mono ?_
    rintro e w1 hp
    have HP : Hid (Puts P Bs (.map (some M)) ws o w e w1) := ⟨hp.1, hp.2.1, HF0.out.trans hp.2.2⟩
    obtain rfl := hp.1
    clear hp hend
    go_wp2
    go_end0
    exact HP.out
  · have e1 : (s.kind == 1) = false := by simp; omega
    have e2 : (s.kind == 2) = true := by simp; omega
    have HKd : Hid (s.kind = 2) := hk
    clear hk hk1 hk2
    have HO2 : Hid (o = [s.name, (⟨#[61]⟩ : ByteArray)] ++ Sy.exT d s.x ++ [⟨#[59]⟩]) := HO.out.trans (stT_2 HKd.out)
    have hno : ws.length + (2 + ((Sy.exT d s.x).length + 1)) ≤ 1000000 := by rw [HO2.out] at hn; simp only [List.length_append, List.length_cons, List.length_nil] at hn; omega
    have HOKx : Hid (Sy.ExOk d s.x) := hok.out.2.2.1 (by have := HKd.out; omega)
    have hend := ending_lit B M P Bs d HLay hx s.x xa xc [s.name, (⟨#[61]⟩ : ByteArray)] (w.heap.size + 1) 2 ws (w.alloc (stO s xa xc ba bc ea ec)) (by simp) HOKx HX0 (hPR.out.grown HG0.out) (hM.out.grown HG0.out) hs0 hno
    rw [← HO2.out] at hend
    go_enter Tryd.func39, Tryd.ntmps39
    go_wp2_with fail
    refine hend.mono ?_
    rintro e w1 hp
    have HP : Hid (Puts P Bs (.map (some M)) ws o w e w1) := ⟨hp.1, hp.2.1, HF0.out.trans hp.2.2⟩
    obtain rfl := hp.1
    clear hp hend
    go_wp2
    go_end0
    exact HP.out
  · have e1 : (s.kind == 1) = false := by simp; omega
    have e2 : (s.kind == 2) = false := by simp; omega
    have e3 : (s.kind == 3) = true := by simp; omega
    have HKd : Hid (s.kind = 3) := hk
    clear hk hk1 hk2
    have hn3 : ws.length + (Sy.stT (d + 1) s).length ≤ 1000000 := by rw [← HO.out]; exact hn
    have hch := choice_of B M P Bs d HLay hS h s xa xc ba bc ea ec ws (w.alloc (stO s xa xc ba bc ea ec)) HKd.out hok (hX.out.same (same_grown HG0.out (by simp) (by omega))) (hPR.out.grown HG0.out) (hM.out.grown HG0.out) hs0 hn3
    rw [← HO.out] at hch
    clear hn3
    go_enter Tryd.func39, Tryd.ntmps39
    go_wp2_with fail
    refine hch.mono ?_
    rintro e w1 hp
    have HP : Hid (Puts P Bs (.map (some M)) ws o w e w1) := ⟨hp.1, hp.2.1, HF0.out.trans hp.2.2⟩
    obtain rfl := hp.1
    clear hp hch
    go_wp2
    go_end0
    exact HP.out
  · have e1 : (s.kind == 1) = false := by simp; omega
    have e2 : (s.kind == 2) = false := by simp; omega
    have e3 : (s.kind == 3) = false := by simp; omega
    have e4 : (s.kind == 4) = true := by simp; omega
    have HKd : Hid (s.kind = 4) := hk
    clear hk hk1 hk2
    have HO2 : Hid (o = [⟨#[119, 104, 105, 108, 101]⟩] ++ Sy.exT d s.x ++ Sy.bodyT (Sy.stT d) s.body) := HO.out.trans (stT_4 HKd.out)
    have hno : ws.length + (1 + ((Sy.exT d s.x).length + (Sy.bodyT (Sy.stT d) s.body).length)) ≤ 1000000 := by rw [HO2.out] at hn; simp only [List.length_append, List.length_cons, List.length_nil] at hn; omega
    have HOKx : Hid (Sy.ExOk d s.x) := hok.out.2.2.1 (by have := HKd.out; omega)
    have HOKb : Hid (∀ t ∈ s.body, Sy.StOk d t) := hok.out.2.2.2.1 (.inr HKd.out)
    go_enter Tryd.func39, Tryd.ntmps39
    go_wp2_with fail
    refine (put_lit P Bs ws [(⟨#[119, 104, 105, 108, 101]⟩ : ByteArray)] _ 1 (w.heap.size + 1) _ (by simp) (hPR.out.grown HG0.out) hpb hs0 (by show ws.length + 1 ≤ _; omega)).mono ?_
    rintro e w1 hp
    have HP1 : Hid (PR w1 P Bs (ws ++ [(⟨#[119, 104, 105, 108, 101]⟩ : ByteArray)]) (.map (some M))) := hp.2.1
    have HF1 : Hid (Fr P Bs w w1) := HF0.out.trans hp.2.2
    have HB1 : Hid (w1.heap[w.heap.size]? = some (stO s xa xc ba bc ea ec)) := box_fr (heap_alloc_new w _) (by decide) (by omega) hp.2.2
    have hs1 : Bs ≤ w1.heap.size := by have := HF1.out.size; omega
    obtain rfl := hp.1
    clear hp
    obtain ⟨b0, b1, b2, b3, b4, b5, b6, b7⟩ := eight_cell HB1.out
    go_wp2_with fail
    refine (HE.out hx s.x xa xc (ws ++ [(⟨#[119, 104, 105, 108, 101]⟩ : ByteArray)]) _ HOKx.out (HXx.out.same (HF1.out.same hbp hpb (by omega))) HP1 (hM.out.fr HF1.out hmb hmp hgp hpb) hs1 (by simp; omega)).mono ?_
    rintro e w2 hp
    have HP2 : Hid (PR w2 P Bs (ws ++ [(⟨#[119, 104, 105, 108, 101]⟩ : ByteArray)] ++ Sy.exT d s.x) (.map (some M))) := hp.2.1
    have HF2 : Hid (Fr P Bs w w2) := HF1.out.trans hp.2.2
    have HB2 : Hid (w2.heap[w.heap.size]? = some (stO s xa xc ba bc ea ec)) := box_fr HB1.out (by decide) (by omega) hp.2.2
    have hs2 : Bs ≤ w2.heap.size := by have := HF2.out.size; omega
    obtain rfl := hp.1
    clear hp b0 b1 b2 b3 b4 b5 b6 b7
    obtain ⟨b0, b1, b2, b3, b4, b5, b6, b7⟩ := eight_cell HB2.out
    go_wp2_with fail
    refine (pbody_of B M P Bs d HLay hS h s.body ba bc (ws ++ [(⟨#[119, 104, 105, 108, 101]⟩ : ByteArray)] ++ Sy.exT d s.x) _ HOKb (HXb.out.same (HF2.out.same hbp hpb (by omega))) HP2 (hM.out.fr HF2.out hmb hmp hgp hpb) hs2 (by simp only [List.length_append, List.length_cons, List.length_nil]; omega)).mono ?_
    rintro e w3 hp
    have HP3 : Hid (PR w3 P Bs (ws ++ [(⟨#[119, 104, 105, 108, 101]⟩ : ByteArray)] ++ Sy.exT d s.x ++ Sy.bodyT (Sy.stT d) s.body) (.map (some M))) := hp.2.1
    have HF3 : Hid (Fr P Bs w w3) := HF2.out.trans hp.2.2
    have HB3 : Hid (w3.heap[w.heap.size]? = some (stO s xa xc ba bc ea ec)) := box_fr HB2.out (by decide) (by omega) hp.2.2
    have hs3 : Bs ≤ w3.heap.size := by have := HF3.out.size; omega
    obtain rfl := hp.1
    clear hp b0 b1 b2 b3 b4 b5 b6 b7
    obtain ⟨b0, b1, b2, b3, b4, b5, b6, b7⟩ := eight_cell HB3.out
    go_wp2
    go_end0
    exact ⟨rfl, by rw [HO2.out]; have := HP3.out; simpa using this, HF3.out⟩
  · have e1 : (s.kind == 1) = false := by simp; omega
    have e2 : (s.kind == 2) = false := by simp; omega
    have e3 : (s.kind == 3) = false := by simp; omega
    have e4 : (s.kind == 4) = false := by simp; omega
    have e5 : (s.kind == 5) = true := by simp; omega
    have HKd : Hid (s.kind = 5) := hk
    clear hk hk1 hk2
    have HO2 : Hid (o = [(⟨#[114, 101, 116, 117, 114, 110]⟩ : ByteArray)] ++ Sy.exT d s.x ++ [⟨#[59]⟩]) := HO.out.trans (stT_5 HKd.out)
    have hno : ws.length + (1 + ((Sy.exT d s.x).length + 1)) ≤ 1000000 := by rw [HO2.out] at hn; simp only [List.length_append, List.length_cons, List.length_nil] at hn; omega
    have HOKx : Hid (Sy.ExOk d s.x) := hok.out.2.2.1 (by have := HKd.out; omega)
    have hend := ending_lit B M P Bs d HLay hx s.x xa xc [(⟨#[114, 101, 116, 117, 114, 110]⟩ : ByteArray)] (w.heap.size + 1) 1 ws (w.alloc (stO s xa xc ba bc ea ec)) (by simp) HOKx HX0 (hPR.out.grown HG0.out) (hM.out.grown HG0.out) hs0 hno
    rw [← HO2.out] at hend
    go_enter Tryd.func39, Tryd.ntmps39
    go_wp2_with fail
    refine hend.mono ?_
    rintro e w1 hp
    have HP : Hid (Puts P Bs (.map (some M)) ws o w e w1) := ⟨hp.1, hp.2.1, HF0.out.trans hp.2.2⟩
    obtain rfl := hp.1
    clear hp hend
    go_wp2
    go_end0
    exact HP.out
  · have e1 : (s.kind == 1) = false := by simp; omega
    have e2 : (s.kind == 2) = false := by simp; omega
    have e3 : (s.kind == 3) = false := by simp; omega
    have e4 : (s.kind == 4) = false := by simp; omega
    have e5 : (s.kind == 5) = false := by simp; omega
    have e6 : (s.kind == 6) = true := by simp; omega
    have HKd : Hid (s.kind = 6) := hk
    clear hk hk1 hk2
    have HO2 : Hid (o = [⟨#[115, 116, 111, 112]⟩, ⟨#[59]⟩]) := HO.out.trans (stT_6 HKd.out)
    have hno : ws.length + 2 ≤ 1000000 := by rw [HO2.out] at hn; exact hn
    go_enter Tryd.func39, Tryd.ntmps39
    go_wp2_with fail
    refine (put_lit P Bs ws [⟨#[115, 116, 111, 112]⟩, ⟨#[59]⟩] _ 2 (w.heap.size + 1) _ (by simp) (hPR.out.grown HG0.out) hpb hs0 hno).mono ?_
    rintro e w1 hp
    have HP : Hid (Puts P Bs (.map (some M)) ws o w e w1) := ⟨hp.1, by rw [HO2.out]; exact hp.2.1, HF0.out.trans hp.2.2⟩
    obtain rfl := hp.1
    clear hp
    go_wp2
    go_end0
    exact HP.out
  · have e1 : (s.kind == 1) = false := by simp; omega
    have e2 : (s.kind == 2) = false := by simp; omega
    have e3 : (s.kind == 3) = false := by simp; omega
    have e4 : (s.kind == 4) = false := by simp; omega
    have e5 : (s.kind == 5) = false := by simp; omega
    have e6 : (s.kind == 6) = false := by simp; omega
    have e7 : (s.kind == 7) = true := by simp; omega
    have HKd : Hid (s.kind = 7) := hk
    clear hk hk1 hk2
    have HO2 : Hid (o = [(⟨#[115, 101, 110, 100]⟩ : ByteArray), s.name] ++ Sy.exT d s.x ++ [⟨#[59]⟩]) := HO.out.trans (stT_7 HKd.out)
    have hno : ws.length + (2 + ((Sy.exT d s.x).length + 1)) ≤ 1000000 := by rw [HO2.out] at hn; simp only [List.length_append, List.length_cons, List.length_nil] at hn; omega
    have HOKx : Hid (Sy.ExOk d s.x) := hok.out.2.2.1 (by have := HKd.out; omega)
    have hend := ending_lit B M P Bs d HLay hx s.x xa xc [(⟨#[115, 101, 110, 100]⟩ : ByteArray), s.name] (w.heap.size + 1) 2 ws (w.alloc (stO s xa xc ba bc ea ec)) (by simp) HOKx HX0 (hPR.out.grown HG0.out) (hM.out.grown HG0.out) hs0 hno
    rw [← HO2.out] at hend
    go_enter Tryd.func39, Tryd.ntmps39
    go_wp2_with fail
    refine hend.mono ?_
    rintro e w1 hp
    have HP : Hid (Puts P Bs (.map (some M)) ws o w e w1) := ⟨hp.1, hp.2.1, HF0.out.trans hp.2.2⟩
    obtain rfl := hp.1
    clear hp hend
    go_wp2
    go_end0
    exact HP.out
  · have e1 : (s.kind == 1) = false := by simp; omega
    have e2 : (s.kind == 2) = false := by simp; omega
    have e3 : (s.kind == 3) = false := by simp; omega
    have e4 : (s.kind == 4) = false := by simp; omega
    have e5 : (s.kind == 5) = false := by simp; omega
    have e6 : (s.kind == 6) = false := by simp; omega
    have e7 : (s.kind == 7) = false := by simp; omega
    have e8 : (s.kind == 8) = true := by simp; omega
    have HKd : Hid (s.kind = 8) := hk
    clear hk hk1 hk2
    have HO2 : Hid (o = [(⟨#[111, 117, 116]⟩ : ByteArray)] ++ Sy.exT d s.x ++ [⟨#[59]⟩]) := HO.out.trans (stT_8 HKd.out)
    have hno : ws.length + (1 + ((Sy.exT d s.x).length + 1)) ≤ 1000000 := by rw [HO2.out] at hn; simp only [List.length_append, List.length_cons, List.length_nil] at hn; omega
    have HOKx : Hid (Sy.ExOk d s.x) := hok.out.2.2.1 (by have := HKd.out; omega)
    have hend := ending_lit B M P Bs d HLay hx s.x xa xc [(⟨#[111, 117, 116]⟩ : ByteArray)] (w.heap.size + 1) 1 ws (w.alloc (stO s xa xc ba bc ea ec)) (by simp) HOKx HX0 (hPR.out.grown HG0.out) (hM.out.grown HG0.out) hs0 hno
    rw [← HO2.out] at hend
    go_enter Tryd.func39, Tryd.ntmps39
    go_wp2_with fail
    refine hend.mono ?_
    rintro e w1 hp
    have HP : Hid (Puts P Bs (.map (some M)) ws o w e w1) := ⟨hp.1, hp.2.1, HF0.out.trans hp.2.2⟩
    obtain rfl := hp.1
    clear hp hend
    go_wp2
    go_end0
    exact HP.out
  · have e1 : (s.kind == 1) = false := by simp; omega
    have e2 : (s.kind == 2) = false := by simp; omega
    have e3 : (s.kind == 3) = false := by simp; omega
    have e4 : (s.kind == 4) = false := by simp; omega
    have e5 : (s.kind == 5) = false := by simp; omega
    have e6 : (s.kind == 6) = false := by simp; omega
    have e7 : (s.kind == 7) = false := by simp; omega
    have e8 : (s.kind == 8) = false := by simp; omega
    have e9 : (s.kind == 9) = true := by simp; omega
    have HKd : Hid (s.kind = 9) := hk
    clear hk hk1 hk2
    have HO2 : Hid (o = [(⟨#[100, 111]⟩ : ByteArray)] ++ Sy.exT d s.x ++ [⟨#[59]⟩]) := HO.out.trans (stT_9 HKd.out)
    have hno : ws.length + (1 + ((Sy.exT d s.x).length + 1)) ≤ 1000000 := by rw [HO2.out] at hn; simp only [List.length_append, List.length_cons, List.length_nil] at hn; omega
    have HOKx : Hid (Sy.ExOk d s.x) := hok.out.2.2.1 (by have := HKd.out; omega)
    have hend := ending_lit B M P Bs d HLay hx s.x xa xc [(⟨#[100, 111]⟩ : ByteArray)] (w.heap.size + 1) 1 ws (w.alloc (stO s xa xc ba bc ea ec)) (by simp) HOKx HX0 (hPR.out.grown HG0.out) (hM.out.grown HG0.out) hs0 hno
    rw [← HO2.out] at hend
    go_enter Tryd.func39, Tryd.ntmps39
    go_wp2_with fail
    refine hend.mono ?_
    rintro e w1 hp
    have HP : Hid (Puts P Bs (.map (some M)) ws o w e w1) := ⟨hp.1, hp.2.1, HF0.out.trans hp.2.2⟩
    obtain rfl := hp.1
    clear hp hend
    go_wp2
    go_end0
    exact HP.out

theorem statP_any (B M P Bs : Nat) (hL : Lay B M P Bs) : ∀ d : Nat, StP B M P Bs d
  | 0 => fun _ _ _ _ _ _ _ _ _ _ hok => hok.elim
  | d + 1 => pstat_of B M P Bs d hL (statP_any B M P Bs hL d)

end Go.Proofs.YtbbklahhnepiaaaDoor
