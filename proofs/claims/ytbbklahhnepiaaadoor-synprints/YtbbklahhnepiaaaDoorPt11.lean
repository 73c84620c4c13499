/- The walk of the printer's def. -/
import Derived.Test.YtbbklahhnepiaaaDoorPt10
namespace Go.Proofs.YtbbklahhnepiaaaDoor
open Go.RowKit

/-- What a look that found nothing says of a definition. -/
structure DfOk (d : Sy.Df) : Prop where
  lo : 1 ≤ d.kind
  hi : d.kind ≤ 4
  pms : d.kind = 2 ∨ d.kind = 3 → ∀ p ∈ d.params, Sy.tyW p.ty = 0
  takes : d.kind = 3 → Sy.tyW d.takes = 0
  ty : d.kind ≠ 4 → Sy.tyW d.ty = 0
  cap : d.kind = 1 → 1 ≤ d.cap ∧ d.cap ≤ 20
  body : d.kind ≠ 1 → ∀ s ∈ d.body, Sy.StOk 39 s

theorem tyT_len (t : Sy.Ty) : (Sy.tyT t).length = 1 := rfl

/-- What the walk knows in the midst of a definition. -/
def DMid (P Bs : Nat) (mv : Value) (ws : List ByteArray) (o : Obj) (w w1 : World) : Prop := PR w1 P Bs ws mv ∧ Fr P Bs w w1 ∧ w1.heap[w.heap.size]? = some o

theorem DMid.step {P Bs : Nat} {mv : Value} {ws out : List ByteArray} {d : Sy.Df} {pa : Option Addr} {pc : Nat} {ba : Option Addr} {bc : Nat} {w w1 w2 : World} {e : Ending} (h : DMid P Bs mv ws (dfO d pa pc ba bc) w w1) (hP : P ≠ w.heap.size) (hp : Puts P Bs mv ws out w1 e w2) : DMid P Bs mv (ws ++ out) (dfO d pa pc ba bc) w w2 :=
  ⟨hp.2.1, h.2.1.trans hp.2.2, box_fr h.2.2 (by decide) (fun e => hP e.symm) hp.2.2⟩

theorem dfT_1 {d : Sy.Df} (hk : d.kind = 1) : Sy.dfT d = [⟨#[98, 111, 120]⟩, d.name] ++ Sy.tyT d.ty ++ [Sy.numT d.cap, ⟨#[59]⟩] := by
  unfold Sy.dfT
  rw [if_pos hk]
theorem dfT_2 {d : Sy.Df} (hk : d.kind = 2) : Sy.dfT d = [⟨#[102, 110]⟩, d.name] ++ Sy.pmsT d.params ++ Sy.tyT d.ty ++ Sy.bodyT (Sy.stT 39) d.body := by
  unfold Sy.dfT
  rw [if_neg (show ¬ d.kind = 1 by omega), if_pos hk]
theorem dfT_3 {d : Sy.Df} (hk : d.kind = 3) : Sy.dfT d = [⟨#[103, 101, 110]⟩, d.name] ++ Sy.pmsT d.params ++ [⟨#[116, 97, 107, 101, 115]⟩] ++ Sy.tyT d.takes ++ [⟨#[121, 105, 101, 108, 100, 115]⟩] ++ Sy.tyT d.ty ++ Sy.bodyT (Sy.stT 39) d.body := by
  unfold Sy.dfT
  rw [if_neg (show ¬ d.kind = 1 by omega), if_neg (show ¬ d.kind = 2 by omega), if_pos hk]
theorem dfT_4 {d : Sy.Df} (hk : d.kind = 4) : Sy.dfT d = [⟨#[116, 97, 115, 107]⟩, d.name] ++ Sy.bodyT (Sy.stT 39) d.body := by
  unfold Sy.dfT
  rw [if_neg (show ¬ d.kind = 1 by omega), if_neg (show ¬ d.kind = 2 by omega), if_neg (show ¬ d.kind = 3 by omega)]

set_option maxRecDepth 100000 in
set_option maxHeartbeats 2000000 in
theorem pdef_any (B M P Bs : Nat) (hL : Lay B M P Bs) (d : Sy.Df) (pa : Option Addr) (pc : Nat) (ba : Option Addr) (bc : Nat) (ws : List ByteArray) (w : World) (hok : Hid (DfOk d)) (hX : Hid (DfIn B w d pa ba)) (hPR : Hid (PR w P Bs ws (.map (some M)))) (hM : Hid (MpT w M)) (hBs : Bs ≤ w.heap.size) (hn : ws.length + (Sy.dfT d).length ≤ 1000000) :
    Calls Tryd.prog 9 #[.pointer (some ⟨P, 0, none⟩), dfV d pa pc ba bc] w fun e w' => Puts P Bs (.map (some M)) ws (Sy.dfT d) w e w' := by
  have HS : Hid (StP B M P Bs 39) := statP_any B M P Bs hL 39
  have HLay := hL
  obtain ⟨hbp, hpb, hmb, hmp, hgp⟩ := hL
  have hk1 := hok.out.lo
  have hk2 := hok.out.hi
  have hPw : P ≠ w.heap.size := by omega
  have HG0 : Hid (w.grownBy (w.alloc (dfO d pa pc ba bc)) none) := World.grownBy_alloc _ _ _
  have HM0 : Hid (DMid P Bs (.map (some M)) ws (dfO d pa pc ba bc) w (w.alloc (dfO d pa pc ba bc))) := ⟨hPR.out.grown HG0.out, Fr.alloc _ _ _ _, heap_alloc_new w _⟩
  have hs0 : Bs ≤ (w.alloc (dfO d pa pc ba bc)).heap.size := by simp; omega
  obtain ⟨o, ho⟩ : ∃ o, o = Sy.dfT d := ⟨_, rfl⟩
  rw [← ho] at hn ⊢
  have HO : Hid (o = Sy.dfT d) := ho
  clear ho
  rcases (show d.kind = 1 ∨ d.kind = 2 ∨ d.kind = 3 ∨ d.kind = 4 by omega) with hk | hk | hk | hk
  · have e1 : (d.kind == 1) = true := by simp; omega
    have HKd : Hid (d.kind = 1) := hk
    clear hk hk1 hk2
    have HO2 : Hid (o = [⟨#[98, 111, 120]⟩, d.name] ++ Sy.tyT d.ty ++ [Sy.numT d.cap, ⟨#[59]⟩]) := HO.out.trans (dfT_1 HKd.out)
    have hno : ws.length + o.length ≤ 1000000 := hn
    rw [HO2.out] at hno
    simp only [List.length_append, List.length_cons, List.length_nil, Sy.tyT] at hno
    clear hn
    go_enter Tryd.func9, Tryd.ntmps9
    go_upto_region 3 with fail
    go_cut [] (fun wx => DMid P Bs (.map (some M)) (ws ++ [⟨#[98, 111, 120]⟩, d.name]) (dfO d pa pc ba bc) w wx)
    case first =>
      go_region_with (go_at_call 19; refine (put_litD P Bs ws [(⟨#[98, 111, 120]⟩ : ByteArray), d.name] _ 2 (w.heap.size + 1) (w.alloc (dfO d pa pc ba bc)) (by simp) HM0.out.1 hpb hs0 (by show ws.length + 2 ≤ _; omega)).mono ?_; rintro e w2 hp; have HPx : Hid (DMid P Bs (.map (some M)) (ws ++ [⟨#[98, 111, 120]⟩, d.name]) (dfO d pa pc ba bc) w w2) := HM0.out.step hPw hp; obtain rfl := hp.1; clear hp)
      all_goals
        go_wp2_with fail
        go_meet
        exact Hid.out (by assumption)
    case rest =>
      have HC : Hid (DMid P Bs (.map (some M)) (ws ++ [⟨#[98, 111, 120]⟩, d.name]) (dfO d pa pc ba bc) w wc) := hcut
      have hsc : Bs ≤ wc.heap.size := by have := HC.out.2.1.size; omega
      clear hcut
      obtain ⟨b0, b1, b2, b3, b4, b5, b6, b7, b8⟩ := nine_cell HC.out.2.2
      go_wp2_with fail
      refine (pty_any P Bs (ws ++ [(⟨#[98, 111, 120]⟩ : ByteArray), d.name]) _ d.ty wc HC.out.1 hpb hsc (by have := tyT_len d.ty; have := tyT_len d.takes; simp only [List.length_append, List.length_cons, List.length_nil]; omega) (tyW_zero (hok.out.ty (by have := HKd.out; omega)))).mono ?_
      rintro e v1 hp
      have HC1 : Hid (DMid P Bs (.map (some M)) ((ws ++ [(⟨#[98, 111, 120]⟩ : ByteArray), d.name]) ++ Sy.tyT d.ty) (dfO d pa pc ba bc) w v1) := HC.out.step hPw hp
      have hsv1 : Bs ≤ v1.heap.size := by have := HC1.out.2.1.size; omega
      obtain rfl := hp.1
      clear hp b0 b1 b2 b3 b4 b5 b6 b7 b8
      obtain ⟨b0, b1, b2, b3, b4, b5, b6, b7, b8⟩ := nine_cell HC1.out.2.2
      obtain ⟨hc1, hc2⟩ := hok.out.cap HKd.out
      obtain ⟨i, hi⟩ : ∃ i : Nat, d.cap = i := ⟨d.cap.toNat, by omega⟩
      have hit := Tryd.strconv_Itoa_small i (by omega) v1.drew
      rw [← hi] at hit
      have hnum : Sy.numT d.cap = ⟨(Lib.decDigits i).toArray⟩ := by rw [hi]; unfold Sy.numT Lib.itoa; rw [if_neg (by omega)]; rfl
      rw [← hnum] at hit
      have HFi : Hid (∀ e w2, Puts P Bs (.map (some M)) ((ws ++ [(⟨#[98, 111, 120]⟩ : ByteArray), d.name]) ++ Sy.tyT d.ty) [Sy.numT d.cap, ⟨#[59]⟩] v1 e w2 → Puts P Bs (.map (some M)) ws o w e w2) := fun e w2 hp => ⟨hp.1, by rw [HO2.out]; have := hp.2.1; simpa using this, HC1.out.2.1.trans hp.2.2⟩
      obtain ⟨tn, htn⟩ : ∃ tn, tn = Sy.numT d.cap := ⟨_, rfl⟩
      rw [← htn] at hit HFi
      clear hi hnum htn hc1 hc2
      go_upto_region 5 with fail
      go_region_with (first | (go_at_call 12; refine hit.mono ?_; rintro e w5 ⟨rfl, rfl⟩) | (go_at_call 19; refine (put_litD P Bs ((ws ++ [(⟨#[98, 111, 120]⟩ : ByteArray), d.name]) ++ Sy.tyT d.ty) [tn, ⟨#[59]⟩] _ 2 v1.heap.size v1 rfl HC1.out.1 hpb hsv1 (by have := tyT_len d.ty; have := tyT_len d.takes; simp only [List.length_append, List.length_cons, List.length_nil]; omega)).mono ?_; rintro e w5 hp; have HPx : Hid (Puts P Bs (.map (some M)) ws o w e w5) := HFi.out e w5 hp; obtain rfl := hp.1; clear hp))
      all_goals
        go_wp2
        refine bodyPost_ret (results_none rfl _ _ _) rfl ?_
        exact Hid.out (by assumption)
  · have e1 : (d.kind == 1) = false := by simp; omega
    have e2 : (d.kind == 2) = true := by simp; omega
    have HKd : Hid (d.kind = 2) := hk
    clear hk hk1 hk2
    have HO2 : Hid (o = [⟨#[102, 110]⟩, d.name] ++ Sy.pmsT d.params ++ Sy.tyT d.ty ++ Sy.bodyT (Sy.stT 39) d.body) := HO.out.trans (dfT_2 HKd.out)
    have hno : ws.length + o.length ≤ 1000000 := hn
    rw [HO2.out] at hno
    simp only [List.length_append, List.length_cons, List.length_nil, Sy.tyT] at hno
    clear hn
    go_enter Tryd.func9, Tryd.ntmps9
    go_upto_region 7 with fail
    go_cut [] (fun wx => DMid P Bs (.map (some M)) (ws ++ [⟨#[102, 110]⟩, d.name]) (dfO d pa pc ba bc) w wx)
    case first =>
      go_region_with (go_at_call 19; refine (put_litD P Bs ws [(⟨#[102, 110]⟩ : ByteArray), d.name] _ 2 (w.heap.size + 1) (w.alloc (dfO d pa pc ba bc)) (by simp) HM0.out.1 hpb hs0 (by show ws.length + 2 ≤ _; omega)).mono ?_; rintro e w2 hp; have HPx : Hid (DMid P Bs (.map (some M)) (ws ++ [⟨#[102, 110]⟩, d.name]) (dfO d pa pc ba bc) w w2) := HM0.out.step hPw hp; obtain rfl := hp.1; clear hp)
      all_goals
        go_wp2_with fail
        go_meet
        exact Hid.out (by assumption)
    case rest =>
      have HC : Hid (DMid P Bs (.map (some M)) (ws ++ [⟨#[102, 110]⟩, d.name]) (dfO d pa pc ba bc) w wc) := hcut
      have hsc : Bs ≤ wc.heap.size := by have := HC.out.2.1.size; omega
      clear hcut
      obtain ⟨b0, b1, b2, b3, b4, b5, b6, b7, b8⟩ := nine_cell HC.out.2.2
      go_wp2_with fail
      refine (pparams_any B P Bs _ hbp hpb d.params pa pc (ws ++ [(⟨#[102, 110]⟩ : ByteArray), d.name]) wc (hok.out.pms (by have := HKd.out; omega)) (hX.out.2.2.2.1.same (HC.out.2.1.same hbp hpb (by omega))) HC.out.1 hsc (by have := tyT_len d.ty; have := tyT_len d.takes; simp only [List.length_append, List.length_cons, List.length_nil]; omega)).mono ?_
      rintro e v1 hp
      have HC1 : Hid (DMid P Bs (.map (some M)) ((ws ++ [(⟨#[102, 110]⟩ : ByteArray), d.name]) ++ Sy.pmsT d.params) (dfO d pa pc ba bc) w v1) := HC.out.step hPw hp
      have hsv1 : Bs ≤ v1.heap.size := by have := HC1.out.2.1.size; omega
      obtain rfl := hp.1
      clear hp b0 b1 b2 b3 b4 b5 b6 b7 b8
      obtain ⟨b0, b1, b2, b3, b4, b5, b6, b7, b8⟩ := nine_cell HC1.out.2.2
      go_wp2_with fail
      refine (pty_any P Bs ((ws ++ [(⟨#[102, 110]⟩ : ByteArray), d.name]) ++ Sy.pmsT d.params) _ d.ty v1 HC1.out.1 hpb hsv1 (by have := tyT_len d.ty; have := tyT_len d.takes; simp only [List.length_append, List.length_cons, List.length_nil]; omega) (tyW_zero (hok.out.ty (by have := HKd.out; omega)))).mono ?_
      rintro e v2 hp
      have HC2 : Hid (DMid P Bs (.map (some M)) (((ws ++ [(⟨#[102, 110]⟩ : ByteArray), d.name]) ++ Sy.pmsT d.params) ++ Sy.tyT d.ty) (dfO d pa pc ba bc) w v2) := HC1.out.step hPw hp
      have hsv2 : Bs ≤ v2.heap.size := by have := HC2.out.2.1.size; omega
      obtain rfl := hp.1
      clear hp b0 b1 b2 b3 b4 b5 b6 b7 b8
      obtain ⟨hb, hbin⟩ := hX.out.2.2.2.2
      have HXb : Hid (BodyIn B v2 hb d.body ba) := hbin.same (HC2.out.2.1.same hbp hpb (by omega))
      clear hbin
      obtain ⟨b0, b1, b2, b3, b4, b5, b6, b7, b8⟩ := nine_cell HC2.out.2.2
      go_wp2_with fail
      refine (pbody_of B M P Bs 39 HLay HS hb d.body ba bc (((ws ++ [(⟨#[102, 110]⟩ : ByteArray), d.name]) ++ Sy.pmsT d.params) ++ Sy.tyT d.ty) v2 (hok.out.body (by have := HKd.out; omega)) HXb HC2.out.1 (hM.out.fr HC2.out.2.1 hmb hmp hgp hpb) hsv2 (by have := tyT_len d.ty; have := tyT_len d.takes; simp only [List.length_append, List.length_cons, List.length_nil]; omega)).mono ?_
      rintro e v3 hp
      have HC3 : Hid (DMid P Bs (.map (some M)) ((((ws ++ [(⟨#[102, 110]⟩ : ByteArray), d.name]) ++ Sy.pmsT d.params) ++ Sy.tyT d.ty) ++ Sy.bodyT (Sy.stT 39) d.body) (dfO d pa pc ba bc) w v3) := HC2.out.step hPw hp
      have hsv3 : Bs ≤ v3.heap.size := by have := HC3.out.2.1.size; omega
      obtain rfl := hp.1
      clear hp b0 b1 b2 b3 b4 b5 b6 b7 b8
      go_wp2
      go_end0
      exact ⟨rfl, by rw [HO2.out]; have := HC3.out.1; simpa using this, HC3.out.2.1⟩
  · have e1 : (d.kind == 1) = false := by simp; omega
    have e2 : (d.kind == 2) = false := by simp; omega
    have e3 : (d.kind == 3) = true := by simp; omega
    have HKd : Hid (d.kind = 3) := hk
    clear hk hk1 hk2
    have HO2 : Hid (o = [⟨#[103, 101, 110]⟩, d.name] ++ Sy.pmsT d.params ++ [⟨#[116, 97, 107, 101, 115]⟩] ++ Sy.tyT d.takes ++ [⟨#[121, 105, 101, 108, 100, 115]⟩] ++ Sy.tyT d.ty ++ Sy.bodyT (Sy.stT 39) d.body) := HO.out.trans (dfT_3 HKd.out)
    have hno : ws.length + o.length ≤ 1000000 := hn
    rw [HO2.out] at hno
    simp only [List.length_append, List.length_cons, List.length_nil, Sy.tyT] at hno
    clear hn
    go_enter Tryd.func9, Tryd.ntmps9
    go_upto_region 11 with fail
    go_cut [] (fun wx => DMid P Bs (.map (some M)) (ws ++ [⟨#[103, 101, 110]⟩, d.name]) (dfO d pa pc ba bc) w wx)
    case first =>
      go_region_with (go_at_call 19; refine (put_litD P Bs ws [(⟨#[103, 101, 110]⟩ : ByteArray), d.name] _ 2 (w.heap.size + 1) (w.alloc (dfO d pa pc ba bc)) (by simp) HM0.out.1 hpb hs0 (by show ws.length + 2 ≤ _; omega)).mono ?_; rintro e w2 hp; have HPx : Hid (DMid P Bs (.map (some M)) (ws ++ [⟨#[103, 101, 110]⟩, d.name]) (dfO d pa pc ba bc) w w2) := HM0.out.step hPw hp; obtain rfl := hp.1; clear hp)
      all_goals
        go_wp2_with fail
        go_meet
        exact Hid.out (by assumption)
    case rest =>
      have HC : Hid (DMid P Bs (.map (some M)) (ws ++ [⟨#[103, 101, 110]⟩, d.name]) (dfO d pa pc ba bc) w wc) := hcut
      have hsc : Bs ≤ wc.heap.size := by have := HC.out.2.1.size; omega
      clear hcut
      obtain ⟨b0, b1, b2, b3, b4, b5, b6, b7, b8⟩ := nine_cell HC.out.2.2
      go_wp2_with fail
      refine (pparams_any B P Bs _ hbp hpb d.params pa pc (ws ++ [(⟨#[103, 101, 110]⟩ : ByteArray), d.name]) wc (hok.out.pms (by have := HKd.out; omega)) (hX.out.2.2.2.1.same (HC.out.2.1.same hbp hpb (by omega))) HC.out.1 hsc (by have := tyT_len d.ty; have := tyT_len d.takes; simp only [List.length_append, List.length_cons, List.length_nil]; omega)).mono ?_
      rintro e v1 hp
      have HC1 : Hid (DMid P Bs (.map (some M)) ((ws ++ [(⟨#[103, 101, 110]⟩ : ByteArray), d.name]) ++ Sy.pmsT d.params) (dfO d pa pc ba bc) w v1) := HC.out.step hPw hp
      have hsv1 : Bs ≤ v1.heap.size := by have := HC1.out.2.1.size; omega
      obtain rfl := hp.1
      clear hp b0 b1 b2 b3 b4 b5 b6 b7 b8
      obtain ⟨b0, b1, b2, b3, b4, b5, b6, b7, b8⟩ := nine_cell HC1.out.2.2
      go_wp2_with fail
      refine (put_lit P Bs ((ws ++ [(⟨#[103, 101, 110]⟩ : ByteArray), d.name]) ++ Sy.pmsT d.params) [(⟨#[116, 97, 107, 101, 115]⟩ : ByteArray)] _ 1 v1.heap.size v1 rfl HC1.out.1 hpb hsv1 (by have := tyT_len d.ty; have := tyT_len d.takes; simp only [List.length_append, List.length_cons, List.length_nil]; omega)).mono ?_
      rintro e v2 hp
      have HC2 : Hid (DMid P Bs (.map (some M)) (((ws ++ [(⟨#[103, 101, 110]⟩ : ByteArray), d.name]) ++ Sy.pmsT d.params) ++ [(⟨#[116, 97, 107, 101, 115]⟩ : ByteArray)]) (dfO d pa pc ba bc) w v2) := HC1.out.step hPw hp
      have hsv2 : Bs ≤ v2.heap.size := by have := HC2.out.2.1.size; omega
      obtain rfl := hp.1
      clear hp b0 b1 b2 b3 b4 b5 b6 b7 b8
      obtain ⟨b0, b1, b2, b3, b4, b5, b6, b7, b8⟩ := nine_cell HC2.out.2.2
      go_wp2_with fail
      refine (pty_any P Bs (((ws ++ [(⟨#[103, 101, 110]⟩ : ByteArray), d.name]) ++ Sy.pmsT d.params) ++ [(⟨#[116, 97, 107, 101, 115]⟩ : ByteArray)]) _ d.takes v2 HC2.out.1 hpb hsv2 (by have := tyT_len d.ty; have := tyT_len d.takes; simp only [List.length_append, List.length_cons, List.length_nil]; omega) (tyW_zero (hok.out.takes (by have := HKd.out; omega)))).mono ?_
      rintro e v3 hp
      have HC3 : Hid (DMid P Bs (.map (some M)) ((((ws ++ [(⟨#[103, 101, 110]⟩ : ByteArray), d.name]) ++ Sy.pmsT d.params) ++ [(⟨#[116, 97, 107, 101, 115]⟩ : ByteArray)]) ++ Sy.tyT d.takes) (dfO d pa pc ba bc) w v3) := HC2.out.step hPw hp
      have hsv3 : Bs ≤ v3.heap.size := by have := HC3.out.2.1.size; omega
      obtain rfl := hp.1
      clear hp b0 b1 b2 b3 b4 b5 b6 b7 b8
      obtain ⟨b0, b1, b2, b3, b4, b5, b6, b7, b8⟩ := nine_cell HC3.out.2.2
      go_wp2_with fail
      refine (put_lit P Bs ((((ws ++ [(⟨#[103, 101, 110]⟩ : ByteArray), d.name]) ++ Sy.pmsT d.params) ++ [(⟨#[116, 97, 107, 101, 115]⟩ : ByteArray)]) ++ Sy.tyT d.takes) [(⟨#[121, 105, 101, 108, 100, 115]⟩ : ByteArray)] _ 1 v3.heap.size v3 rfl HC3.out.1 hpb hsv3 (by have := tyT_len d.ty; have := tyT_len d.takes; simp only [List.length_append, List.length_cons, List.length_nil]; omega)).mono ?_
      rintro e v4 hp
      have HC4 : Hid (DMid P Bs (.map (some M)) (((((ws ++ [(⟨#[103, 101, 110]⟩ : ByteArray), d.name]) ++ Sy.pmsT d.params) ++ [(⟨#[116, 97, 107, 101, 115]⟩ : ByteArray)]) ++ Sy.tyT d.takes) ++ [(⟨#[121, 105, 101, 108, 100, 115]⟩ : ByteArray)]) (dfO d pa pc ba bc) w v4) := HC3.out.step hPw hp
      have hsv4 : Bs ≤ v4.heap.size := by have := HC4.out.2.1.size; omega
      obtain rfl := hp.1
      clear hp b0 b1 b2 b3 b4 b5 b6 b7 b8
      obtain ⟨b0, b1, b2, b3, b4, b5, b6, b7, b8⟩ := nine_cell HC4.out.2.2
      go_wp2_with fail
      refine (pty_any P Bs (((((ws ++ [(⟨#[103, 101, 110]⟩ : ByteArray), d.name]) ++ Sy.pmsT d.params) ++ [(⟨#[116, 97, 107, 101, 115]⟩ : ByteArray)]) ++ Sy.tyT d.takes) ++ [(⟨#[121, 105, 101, 108, 100, 115]⟩ : ByteArray)]) _ d.ty v4 HC4.out.1 hpb hsv4 (by have := tyT_len d.ty; have := tyT_len d.takes; simp only [List.length_append, List.length_cons, List.length_nil]; omega) (tyW_zero (hok.out.ty (by have := HKd.out; omega)))).mono ?_
      rintro e v5 hp
      have HC5 : Hid (DMid P Bs (.map (some M)) ((((((ws ++ [(⟨#[103, 101, 110]⟩ : ByteArray), d.name]) ++ Sy.pmsT d.params) ++ [(⟨#[116, 97, 107, 101, 115]⟩ : ByteArray)]) ++ Sy.tyT d.takes) ++ [(⟨#[121, 105, 101, 108, 100, 115]⟩ : ByteArray)]) ++ Sy.tyT d.ty) (dfO d pa pc ba bc) w v5) := HC4.out.step hPw hp
      have hsv5 : Bs ≤ v5.heap.size := by have := HC5.out.2.1.size; omega
      obtain rfl := hp.1
      clear hp b0 b1 b2 b3 b4 b5 b6 b7 b8
      obtain ⟨hb, hbin⟩ := hX.out.2.2.2.2
      have HXb : Hid (BodyIn B v5 hb d.body ba) := hbin.same (HC5.out.2.1.same hbp hpb (by omega))
      clear hbin
      obtain ⟨b0, b1, b2, b3, b4, b5, b6, b7, b8⟩ := nine_cell HC5.out.2.2
      go_wp2_with fail
      refine (pbody_of B M P Bs 39 HLay HS hb d.body ba bc ((((((ws ++ [(⟨#[103, 101, 110]⟩ : ByteArray), d.name]) ++ Sy.pmsT d.params) ++ [(⟨#[116, 97, 107, 101, 115]⟩ : ByteArray)]) ++ Sy.tyT d.takes) ++ [(⟨#[121, 105, 101, 108, 100, 115]⟩ : ByteArray)]) ++ Sy.tyT d.ty) v5 (hok.out.body (by have := HKd.out; omega)) HXb HC5.out.1 (hM.out.fr HC5.out.2.1 hmb hmp hgp hpb) hsv5 (by have := tyT_len d.ty; have := tyT_len d.takes; simp only [List.length_append, List.length_cons, List.length_nil]; omega)).mono ?_
      rintro e v6 hp
      have HC6 : Hid (DMid P Bs (.map (some M)) (((((((ws ++ [(⟨#[103, 101, 110]⟩ : ByteArray), d.name]) ++ Sy.pmsT d.params) ++ [(⟨#[116, 97, 107, 101, 115]⟩ : ByteArray)]) ++ Sy.tyT d.takes) ++ [(⟨#[121, 105, 101, 108, 100, 115]⟩ : ByteArray)]) ++ Sy.tyT d.ty) ++ Sy.bodyT (Sy.stT 39) d.body) (dfO d pa pc ba bc) w v6) := HC5.out.step hPw hp
      have hsv6 : Bs ≤ v6.heap.size := by have := HC6.out.2.1.size; omega
      obtain rfl := hp.1
      clear hp b0 b1 b2 b3 b4 b5 b6 b7 b8
      go_wp2
      go_end0
      exact ⟨rfl, by rw [HO2.out]; have := HC6.out.1; simpa using this, HC6.out.2.1⟩
  · have e1 : (d.kind == 1) = false := by simp; omega
    have e2 : (d.kind == 2) = false := by simp; omega
    have e3 : (d.kind == 3) = false := by simp; omega
    have e4 : (d.kind == 4) = true := by simp; omega
    have HKd : Hid (d.kind = 4) := hk
    clear hk hk1 hk2
    have HO2 : Hid (o = [⟨#[116, 97, 115, 107]⟩, d.name] ++ Sy.bodyT (Sy.stT 39) d.body) := HO.out.trans (dfT_4 HKd.out)
    have hno : ws.length + o.length ≤ 1000000 := hn
    rw [HO2.out] at hno
    simp only [List.length_append, List.length_cons, List.length_nil] at hno
    clear hn
    go_enter Tryd.func9, Tryd.ntmps9
    go_upto_region 18 with fail
    go_region_with (go_at_call 19; refine (put_litD P Bs ws [(⟨#[116, 97, 115, 107]⟩ : ByteArray), d.name] _ 2 (w.heap.size + 1) (w.alloc (dfO d pa pc ba bc)) (by simp) HM0.out.1 hpb hs0 (by show ws.length + 2 ≤ _; omega)).mono ?_; rintro e wc hp; have HC : Hid (DMid P Bs (.map (some M)) (ws ++ [⟨#[116, 97, 115, 107]⟩, d.name]) (dfO d pa pc ba bc) w wc) := HM0.out.step hPw hp; have hsc : Bs ≤ wc.heap.size := (by have := HC.out.2.1.size; omega); obtain rfl := hp.1; clear hp)
    all_goals
      obtain ⟨hb, hbin⟩ := hX.out.2.2.2.2
      have HXb : Hid (BodyIn B wc hb d.body ba) := hbin.same (HC.out.2.1.same hbp hpb (by omega))
      clear hbin
      obtain ⟨b0, b1, b2, b3, b4, b5, b6, b7, b8⟩ := nine_cell HC.out.2.2
      go_wp2_with fail
      refine (pbody_of B M P Bs 39 HLay HS hb d.body ba bc (ws ++ [(⟨#[116, 97, 115, 107]⟩ : ByteArray), d.name]) wc (hok.out.body (by have := HKd.out; omega)) HXb HC.out.1 (hM.out.fr HC.out.2.1 hmb hmp hgp hpb) hsc (by have := tyT_len d.ty; have := tyT_len d.takes; simp only [List.length_append, List.length_cons, List.length_nil]; omega)).mono ?_
      rintro e v1 hp
      have HC1 : Hid (DMid P Bs (.map (some M)) ((ws ++ [(⟨#[116, 97, 115, 107]⟩ : ByteArray), d.name]) ++ Sy.bodyT (Sy.stT 39) d.body) (dfO d pa pc ba bc) w v1) := HC.out.step hPw hp
      have hsv1 : Bs ≤ v1.heap.size := by have := HC1.out.2.1.size; omega
      obtain rfl := hp.1
      clear hp b0 b1 b2 b3 b4 b5 b6 b7 b8
      go_wp2
      go_end0
      exact ⟨rfl, by rw [HO2.out]; have := HC1.out.1; simpa using this, HC1.out.2.1⟩

end Go.Proofs.YtbbklahhnepiaaaDoor
