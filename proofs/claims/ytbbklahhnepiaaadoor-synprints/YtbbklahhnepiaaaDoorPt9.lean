/- The walks of the printer's choice and stat. -/
import Derived.Test.YtbbklahhnepiaaaDoorPt8
namespace Go.Proofs.YtbbklahhnepiaaaDoor
open Go.RowKit

theorem stT_1 {d : Nat} {s : Sy.St} (hk : s.kind = 1) : Sy.stT (d + 1) s = [⟨#[108, 101, 116]⟩, s.name, ⟨#[61]⟩] ++ Sy.exT d s.x ++ [⟨#[59]⟩] := by
  conv => lhs; unfold Sy.stT
  rw [if_pos hk]
theorem stT_2 {d : Nat} {s : Sy.St} (hk : s.kind = 2) : Sy.stT (d + 1) s = [s.name, ⟨#[61]⟩] ++ Sy.exT d s.x ++ [⟨#[59]⟩] := by
  conv => lhs; unfold Sy.stT
  rw [if_neg (show ¬ s.kind = 1 by omega), if_pos hk]
theorem stT_3 {d : Nat} {s : Sy.St} (hk : s.kind = 3) : Sy.stT (d + 1) s = [⟨#[105, 102]⟩] ++ Sy.exT d s.x ++ Sy.bodyT (Sy.stT d) s.body ++ (if s.els.length = 0 then [] else [⟨#[101, 108, 115, 101]⟩] ++ Sy.bodyT (Sy.stT d) s.els) := by
  conv => lhs; unfold Sy.stT
  rw [if_neg (show ¬ s.kind = 1 by omega), if_neg (show ¬ s.kind = 2 by omega), if_pos hk]
theorem stT_4 {d : Nat} {s : Sy.St} (hk : s.kind = 4) : Sy.stT (d + 1) s = [⟨#[119, 104, 105, 108, 101]⟩] ++ Sy.exT d s.x ++ Sy.bodyT (Sy.stT d) s.body := by
  conv => lhs; unfold Sy.stT
  rw [if_neg (show ¬ s.kind = 1 by omega), if_neg (show ¬ s.kind = 2 by omega), if_neg (show ¬ s.kind = 3 by omega), if_pos hk]
theorem stT_5 {d : Nat} {s : Sy.St} (hk : s.kind = 5) : Sy.stT (d + 1) s = [⟨#[114, 101, 116, 117, 114, 110]⟩] ++ Sy.exT d s.x ++ [⟨#[59]⟩] := by
  conv => lhs; unfold Sy.stT
  rw [if_neg (show ¬ s.kind = 1 by omega), if_neg (show ¬ s.kind = 2 by omega), if_neg (show ¬ s.kind = 3 by omega), if_neg (show ¬ s.kind = 4 by omega), if_pos hk]
theorem stT_6 {d : Nat} {s : Sy.St} (hk : s.kind = 6) : Sy.stT (d + 1) s = [⟨#[115, 116, 111, 112]⟩, ⟨#[59]⟩] := by
  conv => lhs; unfold Sy.stT
  rw [if_neg (show ¬ s.kind = 1 by omega), if_neg (show ¬ s.kind = 2 by omega), if_neg (show ¬ s.kind = 3 by omega), if_neg (show ¬ s.kind = 4 by omega), if_neg (show ¬ s.kind = 5 by omega), if_pos hk]
theorem stT_7 {d : Nat} {s : Sy.St} (hk : s.kind = 7) : Sy.stT (d + 1) s = [⟨#[115, 101, 110, 100]⟩, s.name] ++ Sy.exT d s.x ++ [⟨#[59]⟩] := by
  conv => lhs; unfold Sy.stT
  rw [if_neg (show ¬ s.kind = 1 by omega), if_neg (show ¬ s.kind = 2 by omega), if_neg (show ¬ s.kind = 3 by omega), if_neg (show ¬ s.kind = 4 by omega), if_neg (show ¬ s.kind = 5 by omega), if_neg (show ¬ s.kind = 6 by omega), if_pos hk]
theorem stT_8 {d : Nat} {s : Sy.St} (hk : s.kind = 8) : Sy.stT (d + 1) s = [⟨#[111, 117, 116]⟩] ++ Sy.exT d s.x ++ [⟨#[59]⟩] := by
  conv => lhs; unfold Sy.stT
  rw [if_neg (show ¬ s.kind = 1 by omega), if_neg (show ¬ s.kind = 2 by omega), if_neg (show ¬ s.kind = 3 by omega), if_neg (show ¬ s.kind = 4 by omega), if_neg (show ¬ s.kind = 5 by omega), if_neg (show ¬ s.kind = 6 by omega), if_neg (show ¬ s.kind = 7 by omega), if_pos hk]
theorem stT_9 {d : Nat} {s : Sy.St} (hk : s.kind = 9) : Sy.stT (d + 1) s = [⟨#[100, 111]⟩] ++ Sy.exT d s.x ++ [⟨#[59]⟩] := by
  conv => lhs; unfold Sy.stT
  rw [if_neg (show ¬ s.kind = 1 by omega), if_neg (show ¬ s.kind = 2 by omega), if_neg (show ¬ s.kind = 3 by omega), if_neg (show ¬ s.kind = 4 by omega), if_neg (show ¬ s.kind = 5 by omega), if_neg (show ¬ s.kind = 6 by omega), if_neg (show ¬ s.kind = 7 by omega), if_neg (show ¬ s.kind = 8 by omega)]

theorem ending_lit (B M P Bs d : Nat) (hL : Lay B M P Bs) (h : Nat) (x : Sy.Ex) (a : Option Addr) (c : Nat) (xs : List ByteArray) (N c2 : Nat) (ws : List ByteArray) (w : World) (hN : w.heap.size = N) (hok : Hid (Sy.ExOk d x)) (hX : Hid (ExIn B w h x a)) (hPR : Hid (PR w P Bs ws (.map (some M)))) (hM : Hid (MpT w M)) (hBs : Bs ≤ w.heap.size)
    (hn : ws.length + (xs.length + ((Sy.exT d x).length + 1)) ≤ 1000000) :
    Calls Tryd.prog 54 #[.pointer (some ⟨P, 0, none⟩), exV x a c, .slice (some ⟨N, 0, none⟩) xs.length c2] (w.alloc (.cells (xs.map Value.string).toArray 9)) fun e w' => Puts P Bs (.map (some M)) ws (xs ++ Sy.exT d x ++ [⟨#[59]⟩]) w e w' := by
  subst hN
  have hg := World.grownBy_alloc w (.cells (xs.map Value.string).toArray 9) none
  have hbp := hL.bp
  have hpb := hL.pb
  refine (ending_any B M P Bs d hL h x a c xs ⟨w.heap.size, 0, none⟩ c2 ws _ hok (hX.out.same (same_grown hg (by simp) (by omega))) (hPR.out.grown hg) (hM.out.grown hg) (by simp; omega) (lit_cells xs w) hn).mono ?_
  rintro e w' hp
  exact ⟨hp.1, hp.2.1, (Fr.alloc P Bs w _).trans hp.2.2⟩






set_option maxRecDepth 100000 in
set_option maxHeartbeats 1000000 in
theorem choice_of (B M P Bs d : Nat) (hL : Lay B M P Bs) (hS : Hid (StP B M P Bs d)) (h : Nat) (s : Sy.St) (xa : Option Addr) (xc : Nat) (ba : Option Addr) (bc : Nat) (ea : Option Addr) (ec : Nat) (ws : List ByteArray) (w : World) (hk : s.kind = 3) (hok : Hid (Sy.StOk (d + 1) s)) (hX : Hid (StIn B w (h + 1) s xa ba ea)) (hPR : Hid (PR w P Bs ws (.map (some M)))) (hM : Hid (MpT w M)) (hBs : Bs ≤ w.heap.size) (hn : ws.length + (Sy.stT (d + 1) s).length ≤ 1000000) :
    Calls Tryd.prog 55 #[.pointer (some ⟨P, 0, none⟩), stV s xa xc ba bc ea ec] w fun e w' => Puts P Bs (.map (some M)) ws (Sy.stT (d + 1) s) w e w' := by
  have hE := exprP_any B M P Bs hL d
  have HE : Hid (ExP B M P Bs d) := hE
  clear hE
  have HLay := hL
  obtain ⟨hbp, hpb, hmb, hmp, hgp⟩ := hL
  obtain ⟨hname, ⟨hx, hXx⟩, hlb, hle, hXb, hXe⟩ := hX.out
  have HXx : Hid (ExIn B w hx s.x xa) := hXx
  have HXb : Hid (BodyIn B w h s.body ba) := ⟨hlb, hXb⟩
  have HXe : Hid (BodyIn B w h s.els ea) := ⟨hle, hXe⟩
  have HG0 : Hid (w.grownBy (w.alloc (stO s xa xc ba bc ea ec)) none) := World.grownBy_alloc _ _ _
  have HF0 : Hid (Fr P Bs w (w.alloc (stO s xa xc ba bc ea ec))) := Fr.alloc _ _ _ _
  have hs0 : Bs ≤ (w.alloc (stO s xa xc ba bc ea ec)).heap.size := by simp; omega
  have hPw : P < w.heap.size := by omega
  unfold maxLen at hlb hle
  clear hXx hXb hXe hname
  have HOKx : Hid (Sy.ExOk d s.x) := hok.out.2.2.1 (by omega)
  have HOKb : Hid (∀ t ∈ s.body, Sy.StOk d t) := hok.out.2.2.2.1 (.inl hk)
  have HOKe : Hid (∀ t ∈ s.els, Sy.StOk d t) := hok.out.2.2.2.2 hk
  obtain ⟨o, ho⟩ : ∃ o, o = Sy.stT (d + 1) s := ⟨_, rfl⟩
  rw [← ho] at hn ⊢
  have HO : Hid (o = [⟨#[105, 102]⟩] ++ Sy.exT d s.x ++ Sy.bodyT (Sy.stT d) s.body ++ (if s.els.length = 0 then [] else [⟨#[101, 108, 115, 101]⟩] ++ Sy.bodyT (Sy.stT d) s.els)) := ho.trans (stT_3 hk)
  clear ho hk
  by_cases he : s.els.length = 0
  · have HO2 : Hid (o = [⟨#[105, 102]⟩] ++ Sy.exT d s.x ++ Sy.bodyT (Sy.stT d) s.body) := by have := HO.out; rw [if_pos he, List.append_nil] at this; exact this
    have hno : ws.length + (1 + ((Sy.exT d s.x).length + (Sy.bodyT (Sy.stT d) s.body).length)) ≤ 1000000 := by rw [HO2.out] at hn; simp only [List.length_append, List.length_cons, List.length_nil] at hn; omega
    have ge : ((s.els.length : Nat) : Int) ≤ 0 := by omega
    clear he
    go_enter Tryd.func55, Tryd.ntmps55
    go_wp2_with fail
    refine (put_lit P Bs ws [(⟨#[105, 102]⟩ : ByteArray)] _ 1 (w.heap.size + 1) _ (by simp) (hPR.out.grown HG0.out) hpb hs0 (by show ws.length + 1 ≤ _; omega)).mono ?_
    rintro e w1 hp
    have HP1 : Hid (PR w1 P Bs (ws ++ [(⟨#[105, 102]⟩ : ByteArray)]) (.map (some M))) := hp.2.1
    have HF1 : Hid (Fr P Bs w w1) := HF0.out.trans hp.2.2
    have HB1 : Hid (w1.heap[w.heap.size]? = some (stO s xa xc ba bc ea ec)) := box_fr (heap_alloc_new w _) (by decide) (by omega) hp.2.2
    have hs1 : Bs ≤ w1.heap.size := by have := HF1.out.size; omega
    obtain rfl := hp.1
    clear hp
    obtain ⟨b0, b1, b2, b3, b4, b5, b6, b7⟩ := eight_cell HB1.out
    go_wp2_with fail
    refine (HE.out hx s.x xa xc (ws ++ [(⟨#[105, 102]⟩ : ByteArray)]) _ HOKx.out (HXx.out.same (HF1.out.same hbp hpb (by omega))) HP1 (hM.out.fr HF1.out hmb hmp hgp hpb) hs1 (by simp; omega)).mono ?_
    rintro e w2 hp
    have HP2 : Hid (PR w2 P Bs (ws ++ [(⟨#[105, 102]⟩ : ByteArray)] ++ Sy.exT d s.x) (.map (some M))) := hp.2.1
    have HF2 : Hid (Fr P Bs w w2) := HF1.out.trans hp.2.2
    have HB2 : Hid (w2.heap[w.heap.size]? = some (stO s xa xc ba bc ea ec)) := box_fr HB1.out (by decide) (by omega) hp.2.2
    have hs2 : Bs ≤ w2.heap.size := by have := HF2.out.size; omega
    obtain rfl := hp.1
    clear hp b0 b1 b2 b3 b4 b5 b6 b7
    obtain ⟨b0, b1, b2, b3, b4, b5, b6, b7⟩ := eight_cell HB2.out
    go_wp2_with fail
    refine (pbody_of B M P Bs d HLay hS h s.body ba bc (ws ++ [(⟨#[105, 102]⟩ : ByteArray)] ++ Sy.exT d s.x) _ HOKb (HXb.out.same (HF2.out.same hbp hpb (by omega))) HP2 (hM.out.fr HF2.out hmb hmp hgp hpb) hs2 (by simp only [List.length_append, List.length_cons, List.length_nil]; omega)).mono ?_
    rintro e w3 hp
    have HP3 : Hid (PR w3 P Bs (ws ++ [(⟨#[105, 102]⟩ : ByteArray)] ++ Sy.exT d s.x ++ Sy.bodyT (Sy.stT d) s.body) (.map (some M))) := hp.2.1
    have HF3 : Hid (Fr P Bs w w3) := HF2.out.trans hp.2.2
    have HB3 : Hid (w3.heap[w.heap.size]? = some (stO s xa xc ba bc ea ec)) := box_fr HB2.out (by decide) (by omega) hp.2.2
    have hs3 : Bs ≤ w3.heap.size := by have := HF3.out.size; omega
    obtain rfl := hp.1
    clear hp b0 b1 b2 b3 b4 b5 b6 b7
    obtain ⟨b0, b1, b2, b3, b4, b5, b6, b7⟩ := eight_cell HB3.out
    go_wp2
    go_end0
    exact ⟨rfl, by rw [HO2.out]; have := HP3.out; simpa using this, HF3.out⟩
  · have HO2 : Hid (o = [⟨#[105, 102]⟩] ++ Sy.exT d s.x ++ Sy.bodyT (Sy.stT d) s.body ++ ([⟨#[101, 108, 115, 101]⟩] ++ Sy.bodyT (Sy.stT d) s.els)) := by have := HO.out; rw [if_neg he] at this; exact this
    have hno : ws.length + (1 + ((Sy.exT d s.x).length + (Sy.bodyT (Sy.stT d) s.body).length + (1 + (Sy.bodyT (Sy.stT d) s.els).length))) ≤ 1000000 := by rw [HO2.out] at hn; simp only [List.length_append, List.length_cons, List.length_nil] at hn; omega
    have ge : 0 < ((s.els.length : Nat) : Int) := by omega
    clear he
    go_enter Tryd.func55, Tryd.ntmps55
    go_wp2_with fail
    refine (put_lit P Bs ws [(⟨#[105, 102]⟩ : ByteArray)] _ 1 (w.heap.size + 1) _ (by simp) (hPR.out.grown HG0.out) hpb hs0 (by show ws.length + 1 ≤ _; omega)).mono ?_
    rintro e w1 hp
    have HP1 : Hid (PR w1 P Bs (ws ++ [(⟨#[105, 102]⟩ : ByteArray)]) (.map (some M))) := hp.2.1
    have HF1 : Hid (Fr P Bs w w1) := HF0.out.trans hp.2.2
    have HB1 : Hid (w1.heap[w.heap.size]? = some (stO s xa xc ba bc ea ec)) := box_fr (heap_alloc_new w _) (by decide) (by omega) hp.2.2
    have hs1 : Bs ≤ w1.heap.size := by have := HF1.out.size; omega
    obtain rfl := hp.1
    clear hp
    obtain ⟨b0, b1, b2, b3, b4, b5, b6, b7⟩ := eight_cell HB1.out
    go_wp2_with fail
    refine (HE.out hx s.x xa xc (ws ++ [(⟨#[105, 102]⟩ : ByteArray)]) _ HOKx.out (HXx.out.same (HF1.out.same hbp hpb (by omega))) HP1 (hM.out.fr HF1.out hmb hmp hgp hpb) hs1 (by simp; omega)).mono ?_
    rintro e w2 hp
    have HP2 : Hid (PR w2 P Bs (ws ++ [(⟨#[105, 102]⟩ : ByteArray)] ++ Sy.exT d s.x) (.map (some M))) := hp.2.1
    have HF2 : Hid (Fr P Bs w w2) := HF1.out.trans hp.2.2
    have HB2 : Hid (w2.heap[w.heap.size]? = some (stO s xa xc ba bc ea ec)) := box_fr HB1.out (by decide) (by omega) hp.2.2
    have hs2 : Bs ≤ w2.heap.size := by have := HF2.out.size; omega
    obtain rfl := hp.1
    clear hp b0 b1 b2 b3 b4 b5 b6 b7
    obtain ⟨b0, b1, b2, b3, b4, b5, b6, b7⟩ := eight_cell HB2.out
    go_wp2_with fail
    refine (pbody_of B M P Bs d HLay hS h s.body ba bc (ws ++ [(⟨#[105, 102]⟩ : ByteArray)] ++ Sy.exT d s.x) _ HOKb (HXb.out.same (HF2.out.same hbp hpb (by omega))) HP2 (hM.out.fr HF2.out hmb hmp hgp hpb) hs2 (by simp only [List.length_append, List.length_cons, List.length_nil]; omega)).mono ?_
    rintro e w3 hp
    have HP3 : Hid (PR w3 P Bs (ws ++ [(⟨#[105, 102]⟩ : ByteArray)] ++ Sy.exT d s.x ++ Sy.bodyT (Sy.stT d) s.body) (.map (some M))) := hp.2.1
    have HF3 : Hid (Fr P Bs w w3) := HF2.out.trans hp.2.2
    have HB3 : Hid (w3.heap[w.heap.size]? = some (stO s xa xc ba bc ea ec)) := box_fr HB2.out (by decide) (by omega) hp.2.2
    have hs3 : Bs ≤ w3.heap.size := by have := HF3.out.size; omega
    obtain rfl := hp.1
    clear hp b0 b1 b2 b3 b4 b5 b6 b7
    obtain ⟨b0, b1, b2, b3, b4, b5, b6, b7⟩ := eight_cell HB3.out
    go_wp2_with fail
    refine (put_lit P Bs (ws ++ [(⟨#[105, 102]⟩ : ByteArray)] ++ Sy.exT d s.x ++ Sy.bodyT (Sy.stT d) s.body) [⟨#[101, 108, 115, 101]⟩] _ 1 w3.heap.size w3 rfl HP3 hpb hs3 (by simp only [List.length_append, List.length_cons, List.length_nil]; omega)).mono ?_
    rintro e w4 hp
    have HP4 : Hid (PR w4 P Bs (ws ++ [⟨#[105, 102]⟩] ++ Sy.exT d s.x ++ Sy.bodyT (Sy.stT d) s.body ++ [⟨#[101, 108, 115, 101]⟩]) (.map (some M))) := hp.2.1
    have HF4 : Hid (Fr P Bs w w4) := HF3.out.trans hp.2.2
    have HB4 : Hid (w4.heap[w.heap.size]? = some (stO s xa xc ba bc ea ec)) := box_fr HB3.out (by decide) (by omega) hp.2.2
    have hs4 : Bs ≤ w4.heap.size := by have := HF4.out.size; omega
    obtain rfl := hp.1
    clear hp b0 b1 b2 b3 b4 b5 b6 b7
    obtain ⟨b0, b1, b2, b3, b4, b5, b6, b7⟩ := eight_cell HB4.out
    go_wp2_with fail
    refine (pbody_of B M P Bs d HLay hS h s.els ea ec _ _ HOKe (HXe.out.same (HF4.out.same hbp hpb (by omega))) HP4 (hM.out.fr HF4.out hmb hmp hgp hpb) hs4 (by simp only [List.length_append, List.length_cons, List.length_nil]; omega)).mono ?_
    rintro e w5 hp
    have HP5 : Hid (Puts P Bs (.map (some M)) ws o w e w5) := ⟨hp.1, by rw [HO2.out]; have := hp.2.1; simpa using this, HF4.out.trans hp.2.2⟩
    obtain rfl := hp.1
    clear hp b0 b1 b2 b3 b4 b5 b6 b7
    go_wp2
    go_end0
    exact HP5.out

end Go.Proofs.YtbbklahhnepiaaaDoor
