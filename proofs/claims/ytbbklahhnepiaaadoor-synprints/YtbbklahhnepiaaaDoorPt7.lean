/- The walks of the printer's ending and params. -/
import Derived.Test.YtbbklahhnepiaaaDoorPt6
namespace Go.Proofs.YtbbklahhnepiaaaDoor
open Go.RowKit

theorem exprP_any (B M P Bs : Nat) (hL : Lay B M P Bs) : ∀ d : Nat, ExP B M P Bs d
  | 0 => fun _ _ _ _ _ _ hok => hok.elim
  | d + 1 => expr_of B M P Bs d hL (exprP_any B M P Bs hL d)

set_option maxRecDepth 100000 in
set_option maxHeartbeats 1000000 in
theorem ending_any (B M P Bs d : Nat) (hL : Lay B M P Bs) (h : Nat) (x : Sy.Ex) (a : Option Addr) (c : Nat) (xs : List ByteArray) (ad : Addr) (c2 : Nat) (ws : List ByteArray) (w : World) (hok : Hid (Sy.ExOk d x)) (hX : Hid (ExIn B w h x a)) (hPR : Hid (PR w P Bs ws (.map (some M)))) (hM : Hid (MpT w M)) (hBs : Bs ≤ w.heap.size)
    (hx : Hid (∀ j x, xs[j]? = some x → w.cell? (ad.add j) = some (.string x))) (hn : ws.length + (xs.length + ((Sy.exT d x).length + 1)) ≤ 1000000) :
    Calls Tryd.prog 54 #[.pointer (some ⟨P, 0, none⟩), exV x a c, .slice (some ad) xs.length c2] w fun e w' => Puts P Bs (.map (some M)) ws (xs ++ Sy.exT d x ++ [⟨#[59]⟩]) w e w' := by
  have hE := exprP_any B M P Bs hL d
  have HE : Hid (ExP B M P Bs d) := hE
  obtain ⟨hbp, hpb, hmb, hmp, hgp⟩ := hL
  have HG0 : Hid (w.grownBy (w.alloc (exO x a c)) none) := World.grownBy_alloc _ _ _
  have HX0 : Hid (∀ j x1, xs[j]? = some x1 → (w.alloc (exO x a c)).cell? (ad.add j) = some (.string x1)) := by
    intro j y hy
    have h1 := hx.out j y hy
    have hlt : (ad.add j).block < w.heap.size := by
      cases hb : w.heap[(ad.add j).block]? with
      | none => simp [World.cell?, hb] at h1
      | some o => exact lt_of_block hb
    exact (World.cell?_of_block (w := w) (Below.heap_alloc _ _ _ hlt)).trans h1
  clear hE
  go_enter Tryd.func54, Tryd.ntmps54
  go_wp2_with fail
  refine (put_any P Bs ws xs _ ad c2 _ (hPR.out.grown HG0.out) hpb (by simp; omega) HX0 (by omega)).mono ?_
  rintro e w1 ⟨rfl, hp1, hf1⟩
  have HP1 : Hid (PR w1 P Bs (ws ++ xs) (.map (some M))) := hp1
  have HF1 : Hid (Fr P Bs w w1) := (Fr.alloc P Bs w _).trans hf1
  have HBx : Hid (w1.heap[w.heap.size]? = some (exO x a c)) := box_fr (heap_alloc_new w _) (by decide) (by omega) hf1
  have hs1 : Bs ≤ w1.heap.size := by have := HF1.out.size; omega
  obtain ⟨b0, b1, b2, b3⟩ := four_cell HBx.out
  clear hp1 hf1
  go_wp2_with fail
  refine (HE.out h x a c (ws ++ xs) _ hok.out (hX.out.same (HF1.out.same hbp hpb (by omega))) HP1 (hM.out.fr HF1.out hmb hmp hgp hpb) hs1 (by simp; omega)).mono ?_
  rintro e w2 hp
  have HP2 : Hid (PR w2 P Bs (ws ++ xs ++ Sy.exT d x) (.map (some M))) := hp.2.1
  have HF2 : Hid (Fr P Bs w w2) := HF1.out.trans hp.2.2
  have hs2 : Bs ≤ w2.heap.size := by have := HF2.out.size; omega
  obtain rfl := hp.1
  clear hp b0 b1 b2 b3
  go_wp2_with fail
  refine (put_lit P Bs (ws ++ xs ++ Sy.exT d x) [⟨#[59]⟩] _ 1 w2.heap.size w2 rfl HP2 hpb hs2 (by simp; omega)).mono ?_
  rintro e w3 hp
  have HP3 : Hid (Puts P Bs (.map (some M)) ws (xs ++ Sy.exT d x ++ [⟨#[59]⟩]) w e w3) := ⟨hp.1, by have := hp.2.1; simpa using this, HF2.out.trans hp.2.2⟩
  obtain rfl := hp.1
  clear hp
  go_wp2
  go_end0
  exact HP3.out

set_option maxRecDepth 100000 in
set_option maxHeartbeats 1000000 in
theorem pparams_any (B P Bs : Nat) (mv : Value) (hbp : B ≤ P) (hpb : P < Bs) (l : List Sy.Pm) (a : Option Addr) (c : Nat) (ws : List ByteArray) (w : World) (hok : Hid (∀ p ∈ l, Sy.tyW p.ty = 0)) (hX : Hid (PmsIn B w l a)) (hPR : Hid (PR w P Bs ws mv)) (hBs : Bs ≤ w.heap.size) (hn : ws.length + (Sy.pmsT l).length ≤ 1000000) :
    Calls Tryd.prog 21 #[.pointer (some ⟨P, 0, none⟩), .slice a l.length c] w fun e w' => Puts P Bs mv ws (Sy.pmsT l) w e w' := by
  have hlen := hX.out.1
  unfold maxLen at hlen
  obtain ⟨o, ho⟩ : ∃ o, o = Sy.pmsT l := ⟨_, rfl⟩
  have hn' : ws.length + ((Sy.listT Sy.pmT 0 l).length + 2) ≤ 1000000 := by unfold Sy.pmsT at hn; simp at hn; omega
  rw [← ho]
  have HO : Hid (o = [⟨#[40]⟩] ++ Sy.listT Sy.pmT 0 l ++ [⟨#[41]⟩]) := ho
  clear ho hn
  go_enter Tryd.func21, Tryd.ntmps21
  go_wp2_with fail
  refine (put_lit P Bs ws [⟨#[40]⟩] _ 1 w.heap.size w rfl hPR hpb hBs (by show ws.length + 1 ≤ _; omega)).mono ?_
  rintro e w2 ⟨rfl, hp2, hf2⟩
  have HP2 : Hid (PR w2 P Bs (ws ++ [⟨#[40]⟩] ++ []) mv) := by rw [List.append_nil]; exact hp2
  have HF2 : Hid (Fr P Bs w w2) := hf2
  clear hp2 hf2
  go_wp2
  go_loopg [13] l.length (fun gk i wr => ∃ (k : Nat) (done : List ByteArray), gk = l.length - k ∧ k ≤ l.length ∧ i = .int .i64 k ∧ Hid (PR wr P Bs (ws ++ [⟨#[40]⟩] ++ done) mv) ∧ Hid (Fr P Bs w wr) ∧ Hid (done ++ Sy.listT Sy.pmT k (l.drop k) = Sy.listT Sy.pmT 0 l))
  case atStart => exact ⟨0, [], rfl, Nat.zero_le _, rfl, HP2, HF2, by rw [List.drop_zero]; rfl⟩
  case round =>
    obtain ⟨k, done, hgk, hk, rfl, HPr, HFr, HDr⟩ := hrel
    have HGK : Hid (gk = l.length - k) := hgk
    clear hgk
    have hsr : Bs ≤ wr.heap.size := by have := HFr.out.size; omega
    by_cases hlt : k < l.length
    · obtain ⟨p, hp⟩ : ∃ p, l[k]? = some p := ⟨_, List.getElem?_eq_getElem hlt⟩
      have hty := tyW_zero (hok.out p (List.mem_of_getElem? hp))
      have hPr := hX.out.same (HFr.out.same hbp hpb (by omega))
      obtain ⟨b, off, hab, hb, q0, q1, q2, z0, z1⟩ := hPr.2 k p hp
      subst hab
      have hD2 := HDr.out
      rw [listT_at hp] at hD2
      obtain ⟨cm, hcm⟩ : ∃ cm, cm = (if 0 < k then [(⟨#[44]⟩ : ByteArray)] else []) := ⟨_, rfl⟩
      rw [← hcm] at hD2
      have hcl : cm.length ≤ 1 := by rw [hcm]; split <;> simp
      have hlenD := congrArg List.length hD2
      simp only [List.length_append, Sy.pmT, Sy.tyT, List.length_cons, List.length_nil] at hlenD
      have HD2 : Hid (done ++ (cm ++ Sy.pmT p ++ Sy.listT Sy.pmT (k + 1) (l.drop (k + 1))) = Sy.listT Sy.pmT 0 l) := hD2
      have hcomma := comma_any P Bs (ws ++ [(⟨#[40]⟩ : ByteArray)] ++ done) mv k (wr.alloc (.cells #[.string p.name, .int .i64 p.ty.kind, .string p.ty.gen] 49)) (HPr.out.alloc _) hpb (by simp; omega) (by simp only [List.length_append, List.length_cons, List.length_nil]; omega)
      rw [← hcm] at hcomma
      clear hPr hp hD2 hcm HDr
      go_wp2_with fail
      refine hcomma.mono ?_
      rintro e w3 hp
      have HP3 : Hid (PR w3 P Bs (ws ++ [⟨#[40]⟩] ++ done ++ cm) mv) := hp.2.1
      have HF3 : Hid (Fr P Bs w w3) := HFr.out.trans ((Fr.alloc P Bs wr _).trans hp.2.2)
      have HBx : Hid (w3.heap[wr.heap.size]? = some (.cells #[.string p.name, .int .i64 p.ty.kind, .string p.ty.gen] 49 (0, 0))) := box_fr (heap_alloc_new wr _) (by decide) (by have := HPr.out.lt; omega) hp.2.2
      have hs3 : Bs ≤ w3.heap.size := by have := HF3.out.size; omega
      obtain rfl := hp.1
      obtain ⟨t0, t1, t2⟩ := three_cell HBx.out
      clear hp q0 q1 q2 hcomma
      go_upto_region 5 with fail
      go_cut [] (fun wx => PR wx P Bs (ws ++ [⟨#[40]⟩] ++ done ++ cm ++ [p.name]) mv ∧ Fr P Bs w wx ∧ wx.heap[wr.heap.size]? = some (.cells #[.string p.name, .int .i64 p.ty.kind, .string p.ty.gen] 49 (0, 0)))
      case first =>
        go_region_with (go_at_call 19; refine (put_litD P Bs (ws ++ [(⟨#[40]⟩ : ByteArray)] ++ done ++ cm) [p.name] _ 1 w3.heap.size w3 rfl HP3 hpb hs3 (by simp only [List.length_append, List.length_cons, List.length_nil]; omega)).mono ?_; rintro e w4 hp; have HPx : Hid (PR w4 P Bs (ws ++ [⟨#[40]⟩] ++ done ++ cm ++ [p.name]) mv ∧ Fr P Bs w w4 ∧ w4.heap[wr.heap.size]? = some (.cells #[.string p.name, .int .i64 p.ty.kind, .string p.ty.gen] 49 (0, 0))) := ⟨hp.2.1, HF3.out.trans hp.2.2, box_fr HBx.out (by decide) (by have := HPr.out.lt; omega) hp.2.2⟩; obtain rfl := hp.1; clear hp)
        all_goals
          go_wp2_with fail
          go_meet
          exact Hid.out (by assumption)
      case rest =>
        have HC : Hid (PR wc P Bs (ws ++ [⟨#[40]⟩] ++ done ++ cm ++ [p.name]) mv ∧ Fr P Bs w wc ∧ wc.heap[wr.heap.size]? = some (.cells #[.string p.name, .int .i64 p.ty.kind, .string p.ty.gen] 49 (0, 0))) := hcut
        clear hcut t0 t1 t2
        obtain ⟨t0, t1, t2⟩ := three_cell HC.out.2.2
        have hsc : Bs ≤ wc.heap.size := by have := HC.out.2.1.size; omega
        have HTy : Hid (p.ty.kind = 1 ∨ p.ty.kind = 2 ∨ p.ty.kind = 3) := hty
        clear hty
        go_wp2_with fail
        refine (pty_any P Bs (ws ++ [(⟨#[40]⟩ : ByteArray)] ++ done ++ cm ++ [p.name]) mv p.ty wc HC.out.1 hpb hsc (by simp only [List.length_append, List.length_cons, List.length_nil]; omega) HTy.out).mono ?_
        rintro e w5 hp
        have HP5 : Hid (PR w5 P Bs (ws ++ [⟨#[40]⟩] ++ (done ++ cm ++ Sy.pmT p)) mv) := by have := hp.2.1; unfold Hid; simpa [Sy.pmT] using this
        have HF5 : Hid (Fr P Bs w w5) := HC.out.2.1.trans hp.2.2
        have HD5 : Hid (done ++ cm ++ Sy.pmT p ++ Sy.listT Sy.pmT (k + 1) (l.drop (k + 1)) = Sy.listT Sy.pmT 0 l) := by rw [← HD2.out]; unfold Hid; simp only [List.append_assoc]
        obtain rfl := hp.1
        clear hp t0 t1 t2
        go_wp2
        go_roundg (l.length - (k + 1))
        case measure => have := HGK.out; omega
        case rel => exact ⟨k + 1, done ++ cm ++ Sy.pmT p, rfl, by omega, by go_num, HP5, HF5, HD5⟩
    · have HDn : Hid (done = Sy.listT Sy.pmT 0 l) := by
        have := HDr.out
        rw [List.drop_of_length_le (by omega)] at this
        unfold Hid; simpa [Sy.listT] using this
      have hld := congrArg List.length HDn.out
      go_wp2_with fail
      refine (put_lit P Bs (ws ++ [⟨#[40]⟩] ++ done) [⟨#[41]⟩] _ 1 wr.heap.size wr rfl HPr hpb hsr (by simp only [List.length_append, List.length_cons, List.length_nil]; omega)).mono ?_
      rintro e w4 hp
      have HP4 : Hid (Puts P Bs mv ws o w e w4) := ⟨hp.1, by rw [HO.out, ← HDn.out]; have := hp.2.1; simpa using this, HFr.out.trans hp.2.2⟩
      obtain rfl := hp.1
      clear hp
      go_wp2
      go_end0
      exact HP4.out

end Go.Proofs.YtbbklahhnepiaaaDoor
