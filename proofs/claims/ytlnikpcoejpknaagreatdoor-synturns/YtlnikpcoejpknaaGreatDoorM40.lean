/- The walks of the printer's ending and params. -/
import Derived.Test.YtlnikpcoejpknaaGreatDoorM39
namespace Go.Proofs.YtlnikpcoejpknaaGreatDoor
open Go.RowKit

theorem exprP_any (B M P Bs : Nat) (hL : Lay B M P Bs) : ∀ d : Nat, ExP B M P Bs d
  | 0 => fun _ _ _ _ _ _ hok => hok.elim
  | d + 1 => expr_of B M P Bs d hL (exprP_any B M P Bs hL d)

set_option maxRecDepth 100000 in
set_option maxHeartbeats 1000000 in
theorem ending_any (B M P Bs d : Nat) (hL : Lay B M P Bs) (h : Nat) (x : Sy.Ex) (a : Option Addr) (c : Nat) (xs : List ByteArray) (ad : Addr) (c2 : Nat) (ws : List ByteArray) (w : World) (hok : Hid (Sy.ExOk d x)) (hX : Hid (ExIn B w h x a)) (hPR : Hid (PR w P Bs ws (.map (some M)))) (hM : Hid (MpT w M)) (hBs : Bs ≤ w.heap.size)
    (hx : Hid (∀ j x, xs[j]? = some x → w.cell? (ad.add j) = some (.string x))) (hn : ws.length + (xs.length + ((Sy.exT d x).length + 1)) ≤ 1000000) :
    Calls Tryz.prog 114 #[.pointer (some ⟨P, 0, none⟩), exV x a c, .slice (some ad) xs.length c2] w fun e w' => Puts P Bs (.map (some M)) ws (xs ++ Sy.exT d x ++ [⟨#[59]⟩]) w e w' := by
  have hE := exprP_any B M P Bs hL d
  have HE : Hid (ExP B M P Bs d) := hE
  obtain ⟨hbp, hpb, hmb, hmp, hgp⟩ := hL
  have HG0 : Hid (w.grownBy (w.alloc (exOC x a c)) none) := World.grownBy_alloc _ _ _
  have HX0 : Hid (∀ j x1, xs[j]? = some x1 → (w.alloc (exOC x a c)).cell? (ad.add j) = some (.string x1)) := by
    intro j y hy
    have h1 := hx.out j y hy
    have hlt : (ad.add j).block < w.heap.size := by
      cases hb : w.heap[(ad.add j).block]? with
      | none => simp [World.cell?, hb] at h1
      | some o => exact lt_of_block hb
    exact (World.cell?_of_block (w := w) (Below.heap_alloc _ _ _ hlt)).trans h1
  clear hE
  go_enter Tryz.func114, Tryz.ntmps114
  go_wp2_with fail
  refine (put_any P Bs ws xs _ ad c2 _ (hPR.out.grown HG0.out) hpb (by simp; omega) HX0 (by omega)).mono ?_
  rintro e w1 ⟨rfl, hp1, hf1⟩
  have HP1 : Hid (PR w1 P Bs (ws ++ xs) (.map (some M))) := hp1
  have HF1 : Hid (Fr P Bs w w1) := (Fr.alloc P Bs w _).trans hf1
  have HBx : Hid (w1.heap[w.heap.size]? = some (exOC x a c)) := box_fr (heap_alloc_new w _) (by decide) (by omega) hf1
  have hs1 : Bs ≤ w1.heap.size := by have := HF1.out.size; omega
  obtain ⟨b0, b1, b2, b3⟩ := four_cellC HBx.out
  clear hp1 hf1
  go_wp2_with fail
  refine (HE.out h x a c (ws ++ xs) _ hok.out (hX.out.same (HF1.out.same hbp hpb (by omega))) HP1 (hM.out.fr HF1.out hmb hmp hgp hpb) hs1 (by simp; omega)).mono ?_
  rintro e w2 hp
  have HP2 : Hid (PR w2 P Bs (ws ++ xs ++ Sy.exT d x) (.map (some M))) := hp.2.1
  have HF2 : Hid (Fr P Bs w w2) := HF1.out.trans hp.2.2
  have hs2 : Bs ≤ w2.heap.size := by have := HF2.out.size; omega
  obtain rfl := hp.1
  clear hp b0 b1 b2 b3
  go_wp2_with fail
  refine (put_lit P Bs (ws ++ xs ++ Sy.exT d x) [⟨#[59]⟩] _ 1 w2.heap.size w2 rfl HP2 hpb hs2 (by simp; omega)).mono ?_
  rintro e w3 hp
  have HP3 : Hid (Puts P Bs (.map (some M)) ws (xs ++ Sy.exT d x ++ [⟨#[59]⟩]) w e w3) := ⟨hp.1, by have := hp.2.1; simpa using this, HF2.out.trans hp.2.2⟩
  obtain rfl := hp.1
  clear hp
  go_wp2
  go_end0
  exact HP3.out

set_option maxRecDepth 100000 in
set_option maxHeartbeats 1000000 in
theorem pparams_any (B P Bs : Nat) (mv : Value) (hbp : B ≤ P) (hpb : P < Bs) (l : List Sy.Pm) (a : Option Addr) (c : Nat) (ws : List ByteArray) (w : World) (hok : Hid (∀ p ∈ l, Sy.tyW p.ty = 0)) (hX : Hid (PmsIn B w l a)) (hPR : Hid (PR w P Bs ws mv)) (hBs : Bs ≤ w.heap.size) (hn : ws.length + (Sy.pmsT l).length ≤ 1000000) :
    Calls Tryz.prog 52 #[.pointer (some ⟨P, 0, none⟩), .slice a l.length c] w fun e w' => Puts P Bs mv ws (Sy.pmsT l) w e w' := by
  have hlen := hX.out.1
  unfold maxLen at hlen
  obtain ⟨o, ho⟩ : ∃ o, o = Sy.pmsT l := ⟨_, rfl⟩
  have hn' : ws.length + ((Sy.listT Sy.pmT 0 l).length + 2) ≤ 1000000 := by unfold Sy.pmsT at hn; simp at hn; omega
  rw [← ho]
  have HO : Hid (o = [⟨#[40]⟩] ++ Sy.listT Sy.pmT 0 l ++ [⟨#[41]⟩]) := ho
  clear ho hn
  go_enter Tryz.func52, Tryz.ntmps52
  go_wp2_with fail
  refine (put_lit P Bs ws [⟨#[40]⟩] _ 1 w.heap.size w rfl hPR hpb hBs (by show ws.length + 1 ≤ _; omega)).mono ?_
  rintro e w2 ⟨rfl, hp2, hf2⟩
  have HP2 : Hid (PR w2 P Bs (ws ++ [⟨#[40]⟩] ++ []) mv) := by rw [List.append_nil]; exact hp2
  have HF2 : Hid (Fr P Bs w w2) := hf2
  clear hp2 hf2
  go_wp2
  go_loopg [13] l.length (fun gk i wr => ∃ (k : Nat) (done : List ByteArray), gk = l.length - k ∧ k ≤ l.length ∧ i = .int .i64 k ∧ Hid (PR wr P Bs (ws ++ [⟨#[40]⟩] ++ done) mv) ∧ Hid (Fr P Bs w wr) ∧ Hid (done ++ Sy.listT Sy.pmT k (l.drop k) = Sy.listT Sy.pmT 0 l))
  case atStart => exact ⟨0, [], rfl, Nat.zero_le _, rfl, HP2, HF2, by rw [List.drop_zero]; rfl⟩
  case round =>
    obtain ⟨k, done, hgk, hk, rfl, HPr, HFr, HDr⟩ := hrel
    have HGK : Hid (gk = l.length - k) := hgk
    clear hgk
    have hsr : Bs ≤ wr.heap.size := by have := HFr.out.size; omega
    by_cases hlt : k < l.length
    · obtain ⟨p, hp⟩ : ∃ p, l[k]? = some p := ⟨_, List.getElem?_eq_getElem hlt⟩
      have hty := tyW_zero (hok.out p (List.mem_of_getElem? hp))
      have hPr := hX.out.same (HFr.out.same hbp hpb (by omega))
      obtain ⟨b, off, hab, hb, q0, q1, q2, z0, z1⟩ := hPr.2 k p hp
      subst hab
      have hD2 := HDr.out
      rw [listT_at hp] at hD2
      obtain ⟨cm, hcm⟩ : ∃ cm, cm = (if 0 < k then [(⟨#[44]⟩ : ByteArray)] else []) := ⟨_, rfl⟩
      rw [← hcm] at hD2
      have hcl : cm.length ≤ 1 := by rw [hcm]; split <;> simp
      have hlenD := congrArg List.length hD2
      simp only [List.length_append, Sy.pmT, Sy.tyT, List.length_cons, List.length_nil] at hlenD
      have HD2 : Hid (done ++ (cm ++ Sy.pmT p ++ Sy.listT Sy.pmT (k + 1) (l.drop (k + 1))) = Sy.listT Sy.pmT 0 l) := hD2
      have hcomma := comma_any P Bs (ws ++ [(⟨#[40]⟩ : ByteArray)] ++ done) mv k (wr.alloc (.cells #[.string p.name, .int .i64 p.ty.kind, .string p.ty.gen] 61)) (HPr.out.alloc _) hpb (by simp; omega) (by simp only [List.length_append, List.length_cons, List.length_nil]; omega)
      rw [← hcm] at hcomma
      clear hPr hp hD2 hcm HDr
      go_wp2_with fail
      refine hcomma.mono ?_
      rintro e w3 hp
      have HP3 : Hid (PR w3 P Bs (ws ++ [⟨#[40]⟩] ++ done ++ cm) mv) := hp.2.1
      have HF3 : Hid (Fr P Bs w w3) := HFr.out.trans ((Fr.alloc P Bs wr _).trans hp.2.2)
      have HBx : Hid (w3.heap[wr.heap.size]? = some (.cells #[.string p.name, .int .i64 p.ty.kind, .string p.ty.gen] 61 (0, 0))) := box_fr (heap_alloc_new wr _) (by decide) (by have := HPr.out.lt; omega) hp.2.2
      have hs3 : Bs ≤ w3.heap.size := by have := HF3.out.size; omega
      obtain rfl := hp.1
      obtain ⟨t0, t1, t2⟩ := three_cell HBx.out
      clear hp q0 q1 q2 hcomma
      go_upto_region 5 with fail
      go_cut [] (fun wx => PR wx P Bs (ws ++ [⟨#[40]⟩] ++ done ++ cm ++ [p.name]) mv ∧ Fr P Bs w wx ∧ wx.heap[wr.heap.size]? = some (.cells #[.string p.name, .int .i64 p.ty.kind, .string p.ty.gen] 61 (0, 0)))
      case first =>
        go_region_with (go_at_call 49; refine (put_litD P Bs (ws ++ [(⟨#[40]⟩ : ByteArray)] ++ done ++ cm) [p.name] _ 1 w3.heap.size w3 rfl HP3 hpb hs3 (by simp only [List.length_append, List.length_cons, List.length_nil]; omega)).mono ?_; rintro e w4 hp; have HPx : Hid (PR w4 P Bs (ws ++ [⟨#[40]⟩] ++ done ++ cm ++ [p.name]) mv ∧ Fr P Bs w w4 ∧ w4.heap[wr.heap.size]? = some (.cells #[.string p.name, .int .i64 p.ty.kind, .string p.ty.gen] 61 (0, 0))) := ⟨hp.2.1, HF3.out.trans hp.2.2, box_fr HBx.out (by decide) (by have := HPr.out.lt; omega) hp.2.2⟩; obtain rfl := hp.1; clear hp)
        all_goals
          go_wp2_with fail
          go_meet
          exact Hid.out (by assumption)
      case rest =>
        have HC : Hid (PR wc P Bs (ws ++ [⟨#[40]⟩] ++ done ++ cm ++ [p.name]) mv ∧ Fr P Bs w wc ∧ wc.heap[wr.heap.size]? = some (.cells #[.string p.name, .int .i64 p.ty.kind, .string p.ty.gen] 61 (0, 0))) := hcut
        clear hcut t0 t1 t2
        obtain ⟨t0, t1, t2⟩ := three_cell HC.out.2.2
        have hsc : Bs ≤ wc.heap.size := by have := HC.out.2.1.size; omega
        have HTy : Hid (p.ty.kind = 1 ∨ p.ty.kind = 2 ∨ p.ty.kind = 3) := hty
        clear hty
        go_wp2_with fail
        refine (pty_any P Bs (ws ++ [(⟨#[40]⟩ : ByteArray)] ++ done ++ cm ++ [p.name]) mv p.ty wc HC.out.1 hpb hsc (by simp only [List.length_append, List.length_cons, List.length_nil]; omega) HTy.out).mono ?_
        rintro e w5 hp
        have HP5 : Hid (PR w5 P Bs (ws ++ [⟨#[40]⟩] ++ (done ++ cm ++ Sy.pmT p)) mv) := by have := hp.2.1; unfold Hid; simpa [Sy.pmT] using this
        have HF5 : Hid (Fr P Bs w w5) := HC.out.2.1.trans hp.2.2
        have HD5 : Hid (done ++ cm ++ Sy.pmT p ++ Sy.listT Sy.pmT (k + 1) (l.drop (k + 1)) = Sy.listT Sy.pmT 0 l) := by rw [← HD2.out]; unfold Hid; simp only [List.append_assoc]
        obtain rfl := hp.1
        clear hp t0 t1 t2
        go_wp2
        go_roundg (l.length - (k + 1))
        case measure => have := HGK.out; omega
        case rel => exact ⟨k + 1, done ++ cm ++ Sy.pmT p, rfl, by omega, by go_num, HP5, HF5, HD5⟩
    · have HDn : Hid (done = Sy.listT Sy.pmT 0 l) := by
        have := HDr.out
        rw [List.drop_of_length_le (by omega)] at this
        unfold Hid; simpa [Sy.listT] using this
      have hld := congrArg List.length HDn.out
      go_wp2_with fail
      refine (put_lit P Bs (ws ++ [⟨#[40]⟩] ++ done) [⟨#[41]⟩] _ 1 wr.heap.size wr rfl HPr hpb hsr (by simp only [List.length_append, List.length_cons, List.length_nil]; omega)).mono ?_
      rintro e w4 hp
      have HP4 : Hid (Puts P Bs mv ws o w e w4) := ⟨hp.1, by rw [HO.out, ← HDn.out]; have := hp.2.1; simpa using this, HFr.out.trans hp.2.2⟩
      obtain rfl := hp.1
      clear hp
      go_wp2
      go_end0
      exact HP4.out

end Go.Proofs.YtlnikpcoejpknaaGreatDoor

/- The walk of the printer's body, over what stat prints. -/
namespace Go.Proofs.YtlnikpcoejpknaaGreatDoor
open Go.RowKit
namespace Sy

/-- What a look that found nothing says of a statement. -/
def StOk : Nat → St → Prop
  | 0, _ => False
  | d + 1, s => 1 ≤ s.kind ∧ s.kind ≤ 9 ∧ (s.kind ≠ 6 → ExOk d s.x) ∧ (s.kind = 3 ∨ s.kind = 4 → ∀ t ∈ s.body, StOk d t) ∧ (s.kind = 3 → ∀ t ∈ s.els, StOk d t)

theorem bodyOf_mem {f : St → Nat → Except Int Nat} {l : List St} {n m : Nat} (h : bodyOf f l n = .ok m) : ∀ a ∈ l, ∃ i j, f a i = .ok j := by
  unfold bodyOf at h
  split at h
  · simp at h
  · exact runs_mem h

theorem stOk_of : ∀ (d : Nat) (s : St) (n m : Nat), stW d s n = .ok m → StOk d s
  | 0, _, _, _, h => by simp [stW] at h
  | d + 1, s, n, m, h => by
    unfold stW at h
    split at h
    · simp at h
    · rename_i h0
      have hz := nodeW_zero (by simpa using h0 : nodeW s.kind 9 (d + 1) n = 0)
      split at h
      · simp at h
      · split at h
        · rename_i h6
          exact ⟨hz.2.1, hz.2.2.1, fun hh => absurd h6 hh, fun hh => by omega, fun hh => by omega⟩
        · cases he : exW d s.x (n + 1) with
          | error e => rw [he] at h; simp at h
          | ok k =>
            rw [he] at h
            have hx := exOk_of d s.x _ _ he
            simp only [stTail] at h
            split at h
            · cases hb : bodyOf (stW d) s.body k with
              | error e => rw [hb] at h; simp at h
              | ok k2 =>
                rw [hb] at h
                simp only at h
                refine ⟨hz.2.1, hz.2.2.1, fun _ => hx, fun _ t ht => ?_, fun h3 t ht => ?_⟩
                · obtain ⟨i, j, hij⟩ := bodyOf_mem hb t ht
                  exact stOk_of d t i j hij
                · rw [if_pos h3] at h
                  obtain ⟨i, j, hij⟩ := bodyOf_mem h t ht
                  exact stOk_of d t i j hij
            · rename_i h34
              exact ⟨hz.2.1, hz.2.2.1, fun _ => hx, fun hh => absurd hh h34, fun hh => absurd (.inl hh) h34⟩

end Sy

/-- What stat prints, at d levels. -/
def StP (B M P Bs d : Nat) : Prop := ∀ (h : Nat) (s : Sy.St) (xa : Option Addr) (xc : Nat) (ba : Option Addr) (bc : Nat) (ea : Option Addr) (ec : Nat) (ws : List ByteArray) (w : World), Sy.StOk d s → Hid (StIn B w h s xa ba ea) → Hid (PR w P Bs ws (.map (some M))) → Hid (MpT w M) → Bs ≤ w.heap.size → ws.length + (Sy.stT d s).length ≤ 1000000 →
  Calls Tryz.prog 84 #[.pointer (some ⟨P, 0, none⟩), stV s xa xc ba bc ea ec] w fun e w' => Puts P Bs (.map (some M)) ws (Sy.stT d s) w e w'

theorem flat_at {l : List Sy.St} {f : Sy.St → List ByteArray} {k : Nat} {s : Sy.St} (h : l[k]? = some s) : (l.drop k).flatMap f = f s ++ (l.drop (k + 1)).flatMap f := by
  obtain ⟨hk, rfl⟩ := List.getElem?_eq_some_iff.1 h
  rw [List.drop_eq_getElem_cons hk, List.flatMap_cons]

set_option maxRecDepth 100000 in
set_option maxHeartbeats 1000000 in
theorem pbody_of (B M P Bs d : Nat) (hL : Lay B M P Bs) (hS : Hid (StP B M P Bs d)) (h : Nat) (l : List Sy.St) (a : Option Addr) (c : Nat) (ws : List ByteArray) (w : World) (hok : Hid (∀ s ∈ l, Sy.StOk d s)) (hX : Hid (BodyIn B w h l a)) (hPR : Hid (PR w P Bs ws (.map (some M)))) (hM : Hid (MpT w M)) (hBs : Bs ≤ w.heap.size) (hn : ws.length + (Sy.bodyT (Sy.stT d) l).length ≤ 1000000) :
    Calls Tryz.prog 53 #[.pointer (some ⟨P, 0, none⟩), .slice a l.length c] w fun e w' => Puts P Bs (.map (some M)) ws (Sy.bodyT (Sy.stT d) l) w e w' := by
  obtain ⟨hbp, hpb, hmb, hmp, hgp⟩ := hL
  have hlen := hX.out.1
  unfold maxLen at hlen
  obtain ⟨o, ho⟩ : ∃ o, o = Sy.bodyT (Sy.stT d) l := ⟨_, rfl⟩
  have hn' : ws.length + ((l.flatMap (Sy.stT d)).length + 2) ≤ 1000000 := by
    have e : (Sy.bodyT (Sy.stT d) l).length = (l.flatMap (Sy.stT d)).length + 2 := by unfold Sy.bodyT; simp only [List.length_append, List.length_cons, List.length_nil]; omega
    omega
  rw [← ho]
  have HO : Hid (o = [⟨#[123]⟩] ++ l.flatMap (Sy.stT d) ++ [⟨#[125]⟩]) := ho
  clear ho hn
  go_enter Tryz.func53, Tryz.ntmps53
  go_wp2_with fail
  refine (put_lit P Bs ws [⟨#[123]⟩] _ 1 w.heap.size w rfl hPR hpb hBs (by show ws.length + 1 ≤ _; omega)).mono ?_
  rintro e w2 ⟨rfl, hp2, hf2⟩
  have HP2 : Hid (PR w2 P Bs (ws ++ [⟨#[123]⟩] ++ []) (.map (some M))) := by rw [List.append_nil]; exact hp2
  have HF2 : Hid (Fr P Bs w w2) := hf2
  clear hp2 hf2
  go_wp2
  go_loopw [13] (fun i wr => ∃ (k : Nat) (done : List ByteArray), k ≤ l.length ∧ i = .int .i64 k ∧ Hid (PR wr P Bs (ws ++ [⟨#[123]⟩] ++ done) (.map (some M))) ∧ Hid (Fr P Bs w wr) ∧ Hid (done ++ (l.drop k).flatMap (Sy.stT d) = l.flatMap (Sy.stT d))) (fun i _ => l.length - (intOf i).toNat)
  case atStart => exact ⟨0, [], Nat.zero_le _, rfl, HP2, HF2, by rw [List.drop_zero]; rfl⟩
  case round =>
    obtain ⟨k, done, hk, rfl, HPr, HFr, HDr⟩ := hrel
    have hsr : Bs ≤ wr.heap.size := by have := HFr.out.size; omega
    by_cases hlt : k < l.length
    · obtain ⟨s, hs⟩ : ∃ s, l[k]? = some s := ⟨_, List.getElem?_eq_getElem hlt⟩
      have HOk : Hid (Sy.StOk d s) := hok.out s (List.mem_of_getElem? hs)
      obtain ⟨b, off, xa, xc, ba, bc, ea, ec, hab, hb, q0, q1, q2, q3, q4, q5, q6, q7, hin⟩ := (hX.out.same (HFr.out.same hbp hpb (by omega))).2 k s hs
      subst hab
      have HIn : Hid (StIn B wr h s xa ba ea) := hin
      have hD2 := HDr.out
      rw [flat_at hs] at hD2
      have hlenD := congrArg List.length hD2
      simp only [List.length_append] at hlenD
      have HD2 : Hid (done ++ (Sy.stT d s ++ (l.drop (k + 1)).flatMap (Sy.stT d)) = l.flatMap (Sy.stT d)) := hD2
      obtain ⟨ls, hls⟩ : ∃ ls, ls = (Sy.stT d s).length := ⟨_, rfl⟩
      rw [← hls] at hlenD
      have HLs : Hid (ls = (Sy.stT d s).length) := hls
      clear hin hD2 hs hls HDr
      go_wp2_with fail
      refine (hS.out h s xa xc ba bc ea ec (ws ++ [(⟨#[123]⟩ : ByteArray)] ++ done) _ HOk.out (HIn.out.same (same_grown (World.grownBy_alloc _ _ none) (by simp) (by omega))) (HPr.out.alloc _) (hM.out.fr (HFr.out.trans (Fr.alloc P Bs wr _)) hmb hmp hgp hpb) (by simp; omega) (by simp only [List.length_append, List.length_cons, List.length_nil]; have := HLs.out; omega)).mono ?_
      rintro e w3 hp
      have HP3 : Hid (PR w3 P Bs (ws ++ [⟨#[123]⟩] ++ (done ++ Sy.stT d s)) (.map (some M))) := by have := hp.2.1; unfold Hid; simpa using this
      have HF3 : Hid (Fr P Bs w w3) := HFr.out.trans ((Fr.alloc P Bs wr _).trans hp.2.2)
      have HD3 : Hid (done ++ Sy.stT d s ++ (l.drop (k + 1)).flatMap (Sy.stT d) = l.flatMap (Sy.stT d)) := by rw [← HD2.out]; unfold Hid; simp only [List.append_assoc]
      obtain rfl := hp.1
      clear hp q0 q1 q2 q3 q4 q5 q6 q7
      go_wp2
      go_roundw
      case rel => exact ⟨k + 1, done ++ Sy.stT d s, by omega, by go_num, HP3, HF3, HD3⟩
      case measure => simp [intOf]; omega
    · have HDn : Hid (done = l.flatMap (Sy.stT d)) := by
        have := HDr.out
        rw [List.drop_of_length_le (by omega)] at this
        unfold Hid; simpa using this
      have hld := congrArg List.length HDn.out
      go_wp2_with fail
      refine (put_lit P Bs (ws ++ [⟨#[123]⟩] ++ done) [⟨#[125]⟩] _ 1 wr.heap.size wr rfl HPr hpb hsr (by simp only [List.length_append, List.length_cons, List.length_nil]; omega)).mono ?_
      rintro e w4 hp
      have HP4 : Hid (Puts P Bs (.map (some M)) ws o w e w4) := ⟨hp.1, by rw [HO.out, ← HDn.out]; have := hp.2.1; simpa using this, HFr.out.trans hp.2.2⟩
      obtain rfl := hp.1
      clear hp
      go_wp2
      go_end0
      exact HP4.out

end Go.Proofs.YtlnikpcoejpknaaGreatDoor

/- The walks of the printer's choice and stat. -/
namespace Go.Proofs.YtlnikpcoejpknaaGreatDoor
open Go.RowKit

theorem stT_1 {d : Nat} {s : Sy.St} (hk : s.kind = 1) : Sy.stT (d + 1) s = [⟨#[108, 101, 116]⟩, s.name, ⟨#[61]⟩] ++ Sy.exT d s.x ++ [⟨#[59]⟩] := by
  conv => lhs; unfold Sy.stT
  rw [if_pos hk]
theorem stT_2 {d : Nat} {s : Sy.St} (hk : s.kind = 2) : Sy.stT (d + 1) s = [s.name, ⟨#[61]⟩] ++ Sy.exT d s.x ++ [⟨#[59]⟩] := by
  conv => lhs; unfold Sy.stT
  rw [if_neg (show ¬ s.kind = 1 by omega), if_pos hk]
theorem stT_3 {d : Nat} {s : Sy.St} (hk : s.kind = 3) : Sy.stT (d + 1) s = [⟨#[105, 102]⟩] ++ Sy.exT d s.x ++ Sy.bodyT (Sy.stT d) s.body ++ (if s.els.length = 0 then [] else [⟨#[101, 108, 115, 101]⟩] ++ Sy.bodyT (Sy.stT d) s.els) := by
  conv => lhs; unfold Sy.stT
  rw [if_neg (show ¬ s.kind = 1 by omega), if_neg (show ¬ s.kind = 2 by omega), if_pos hk]
theorem stT_4 {d : Nat} {s : Sy.St} (hk : s.kind = 4) : Sy.stT (d + 1) s = [⟨#[119, 104, 105, 108, 101]⟩] ++ Sy.exT d s.x ++ Sy.bodyT (Sy.stT d) s.body := by
  conv => lhs; unfold Sy.stT
  rw [if_neg (show ¬ s.kind = 1 by omega), if_neg (show ¬ s.kind = 2 by omega), if_neg (show ¬ s.kind = 3 by omega), if_pos hk]
theorem stT_5 {d : Nat} {s : Sy.St} (hk : s.kind = 5) : Sy.stT (d + 1) s = [⟨#[114, 101, 116, 117, 114, 110]⟩] ++ Sy.exT d s.x ++ [⟨#[59]⟩] := by
  conv => lhs; unfold Sy.stT
  rw [if_neg (show ¬ s.kind = 1 by omega), if_neg (show ¬ s.kind = 2 by omega), if_neg (show ¬ s.kind = 3 by omega), if_neg (show ¬ s.kind = 4 by omega), if_pos hk]
theorem stT_6 {d : Nat} {s : Sy.St} (hk : s.kind = 6) : Sy.stT (d + 1) s = [⟨#[115, 116, 111, 112]⟩, ⟨#[59]⟩] := by
  conv => lhs; unfold Sy.stT
  rw [if_neg (show ¬ s.kind = 1 by omega), if_neg (show ¬ s.kind = 2 by omega), if_neg (show ¬ s.kind = 3 by omega), if_neg (show ¬ s.kind = 4 by omega), if_neg (show ¬ s.kind = 5 by omega), if_pos hk]
theorem stT_7 {d : Nat} {s : Sy.St} (hk : s.kind = 7) : Sy.stT (d + 1) s = [⟨#[115, 101, 110, 100]⟩, s.name] ++ Sy.exT d s.x ++ [⟨#[59]⟩] := by
  conv => lhs; unfold Sy.stT
  rw [if_neg (show ¬ s.kind = 1 by omega), if_neg (show ¬ s.kind = 2 by omega), if_neg (show ¬ s.kind = 3 by omega), if_neg (show ¬ s.kind = 4 by omega), if_neg (show ¬ s.kind = 5 by omega), if_neg (show ¬ s.kind = 6 by omega), if_pos hk]
theorem stT_8 {d : Nat} {s : Sy.St} (hk : s.kind = 8) : Sy.stT (d + 1) s = [⟨#[111, 117, 116]⟩] ++ Sy.exT d s.x ++ [⟨#[59]⟩] := by
  conv => lhs; unfold Sy.stT
  rw [if_neg (show ¬ s.kind = 1 by omega), if_neg (show ¬ s.kind = 2 by omega), if_neg (show ¬ s.kind = 3 by omega), if_neg (show ¬ s.kind = 4 by omega), if_neg (show ¬ s.kind = 5 by omega), if_neg (show ¬ s.kind = 6 by omega), if_neg (show ¬ s.kind = 7 by omega), if_pos hk]
theorem stT_9 {d : Nat} {s : Sy.St} (hk : s.kind = 9) : Sy.stT (d + 1) s = [⟨#[100, 111]⟩] ++ Sy.exT d s.x ++ [⟨#[59]⟩] := by
  conv => lhs; unfold Sy.stT
  rw [if_neg (show ¬ s.kind = 1 by omega), if_neg (show ¬ s.kind = 2 by omega), if_neg (show ¬ s.kind = 3 by omega), if_neg (show ¬ s.kind = 4 by omega), if_neg (show ¬ s.kind = 5 by omega), if_neg (show ¬ s.kind = 6 by omega), if_neg (show ¬ s.kind = 7 by omega), if_neg (show ¬ s.kind = 8 by omega)]

theorem ending_lit (B M P Bs d : Nat) (hL : Lay B M P Bs) (h : Nat) (x : Sy.Ex) (a : Option Addr) (c : Nat) (xs : List ByteArray) (N c2 : Nat) (ws : List ByteArray) (w : World) (hN : w.heap.size = N) (hok : Hid (Sy.ExOk d x)) (hX : Hid (ExIn B w h x a)) (hPR : Hid (PR w P Bs ws (.map (some M)))) (hM : Hid (MpT w M)) (hBs : Bs ≤ w.heap.size)
    (hn : ws.length + (xs.length + ((Sy.exT d x).length + 1)) ≤ 1000000) :
    Calls Tryz.prog 114 #[.pointer (some ⟨P, 0, none⟩), exV x a c, .slice (some ⟨N, 0, none⟩) xs.length c2] (w.alloc (.cells (xs.map Value.string).toArray 9)) fun e w' => Puts P Bs (.map (some M)) ws (xs ++ Sy.exT d x ++ [⟨#[59]⟩]) w e w' := by
  subst hN
  have hg := World.grownBy_alloc w (.cells (xs.map Value.string).toArray 9) none
  have hbp := hL.bp
  have hpb := hL.pb
  refine (ending_any B M P Bs d hL h x a c xs ⟨w.heap.size, 0, none⟩ c2 ws _ hok (hX.out.same (same_grown hg (by simp) (by omega))) (hPR.out.grown hg) (hM.out.grown hg) (by simp; omega) (lit_cellsC xs w) hn).mono ?_
  rintro e w' hp
  exact ⟨hp.1, hp.2.1, (Fr.alloc P Bs w _).trans hp.2.2⟩






set_option maxRecDepth 100000 in
set_option maxHeartbeats 1000000 in
theorem choice_of (B M P Bs d : Nat) (hL : Lay B M P Bs) (hS : Hid (StP B M P Bs d)) (h : Nat) (s : Sy.St) (xa : Option Addr) (xc : Nat) (ba : Option Addr) (bc : Nat) (ea : Option Addr) (ec : Nat) (ws : List ByteArray) (w : World) (hk : s.kind = 3) (hok : Hid (Sy.StOk (d + 1) s)) (hX : Hid (StIn B w (h + 1) s xa ba ea)) (hPR : Hid (PR w P Bs ws (.map (some M)))) (hM : Hid (MpT w M)) (hBs : Bs ≤ w.heap.size) (hn : ws.length + (Sy.stT (d + 1) s).length ≤ 1000000) :
    Calls Tryz.prog 115 #[.pointer (some ⟨P, 0, none⟩), stV s xa xc ba bc ea ec] w fun e w' => Puts P Bs (.map (some M)) ws (Sy.stT (d + 1) s) w e w' := by
  have hE := exprP_any B M P Bs hL d
  have HE : Hid (ExP B M P Bs d) := hE
  clear hE
  have HLay := hL
  obtain ⟨hbp, hpb, hmb, hmp, hgp⟩ := hL
  obtain ⟨hname, ⟨hx, hXx⟩, hlb, hle, hXb, hXe⟩ := hX.out
  have HXx : Hid (ExIn B w hx s.x xa) := hXx
  have HXb : Hid (BodyIn B w h s.body ba) := ⟨hlb, hXb⟩
  have HXe : Hid (BodyIn B w h s.els ea) := ⟨hle, hXe⟩
  have HG0 : Hid (w.grownBy (w.alloc (stO s xa xc ba bc ea ec)) none) := World.grownBy_alloc _ _ _
  have HF0 : Hid (Fr P Bs w (w.alloc (stO s xa xc ba bc ea ec))) := Fr.alloc _ _ _ _
  have hs0 : Bs ≤ (w.alloc (stO s xa xc ba bc ea ec)).heap.size := by simp; omega
  have hPw : P < w.heap.size := by omega
  unfold maxLen at hlb hle
  clear hXx hXb hXe hname
  have HOKx : Hid (Sy.ExOk d s.x) := hok.out.2.2.1 (by omega)
  have HOKb : Hid (∀ t ∈ s.body, Sy.StOk d t) := hok.out.2.2.2.1 (.inl hk)
  have HOKe : Hid (∀ t ∈ s.els, Sy.StOk d t) := hok.out.2.2.2.2 hk
  obtain ⟨o, ho⟩ : ∃ o, o = Sy.stT (d + 1) s := ⟨_, rfl⟩
  rw [← ho] at hn ⊢
  have HO : Hid (o = [⟨#[105, 102]⟩] ++ Sy.exT d s.x ++ Sy.bodyT (Sy.stT d) s.body ++ (if s.els.length = 0 then [] else [⟨#[101, 108, 115, 101]⟩] ++ Sy.bodyT (Sy.stT d) s.els)) := ho.trans (stT_3 hk)
  clear ho hk
  by_cases he : s.els.length = 0
  · have HO2 : Hid (o = [⟨#[105, 102]⟩] ++ Sy.exT d s.x ++ Sy.bodyT (Sy.stT d) s.body) := by have := HO.out; rw [if_pos he, List.append_nil] at this; exact this
    have hno : ws.length + (1 + ((Sy.exT d s.x).length + (Sy.bodyT (Sy.stT d) s.body).length)) ≤ 1000000 := by rw [HO2.out] at hn; simp only [List.length_append, List.length_cons, List.length_nil] at hn; omega
    have ge : ((s.els.length : Nat) : Int) ≤ 0 := by omega
    clear he
    go_enter Tryz.func115, Tryz.ntmps115
    go_wp2_with fail
    refine (put_lit P Bs ws [(⟨#[105, 102]⟩ : ByteArray)] _ 1 (w.heap.size + 1) _ (by simp) (hPR.out.grown HG0.out) hpb hs0 (by show ws.length + 1 ≤ _; omega)).mono ?_
    rintro e w1 hp
    have HP1 : Hid (PR w1 P Bs (ws ++ [(⟨#[105, 102]⟩ : ByteArray)]) (.map (some M))) := hp.2.1
    have HF1 : Hid (Fr P Bs w w1) := HF0.out.trans hp.2.2
    have HB1 : Hid (w1.heap[w.heap.size]? = some (stO s xa xc ba bc ea ec)) := box_fr (heap_alloc_new w _) (by decide) (by omega) hp.2.2
    have hs1 : Bs ≤ w1.heap.size := by have := HF1.out.size; omega
    obtain rfl := hp.1
    clear hp
    obtain ⟨b0, b1, b2, b3, b4, b5, b6, b7⟩ := eight_cell HB1.out
    go_wp2_with fail
    refine (HE.out hx s.x xa xc (ws ++ [(⟨#[105, 102]⟩ : ByteArray)]) _ HOKx.out (HXx.out.same (HF1.out.same hbp hpb (by omega))) HP1 (hM.out.fr HF1.out hmb hmp hgp hpb) hs1 (by simp; omega)).mono ?_
    rintro e w2 hp
    have HP2 : Hid (PR w2 P Bs (ws ++ [(⟨#[105, 102]⟩ : ByteArray)] ++ Sy.exT d s.x) (.map (some M))) := hp.2.1
    have HF2 : Hid (Fr P Bs w w2) := HF1.out.trans hp.2.2
    have HB2 : Hid (w2.heap[w.heap.size]? = some (stO s xa xc ba bc ea ec)) := box_fr HB1.out (by decide) (by omega) hp.2.2
    have hs2 : Bs ≤ w2.heap.size := by have := HF2.out.size; omega
    obtain rfl := hp.1
    clear hp b0 b1 b2 b3 b4 b5 b6 b7
    obtain ⟨b0, b1, b2, b3, b4, b5, b6, b7⟩ := eight_cell HB2.out
    go_wp2_with fail
    refine (pbody_of B M P Bs d HLay hS h s.body ba bc (ws ++ [(⟨#[105, 102]⟩ : ByteArray)] ++ Sy.exT d s.x) _ HOKb (HXb.out.same (HF2.out.same hbp hpb (by omega))) HP2 (hM.out.fr HF2.out hmb hmp hgp hpb) hs2 (by simp only [List.length_append, List.length_cons, List.length_nil]; omega)).mono ?_
    rintro e w3 hp
    have HP3 : Hid (PR w3 P Bs (ws ++ [(⟨#[105, 102]⟩ : ByteArray)] ++ Sy.exT d s.x ++ Sy.bodyT (Sy.stT d) s.body) (.map (some M))) := hp.2.1
    have HF3 : Hid (Fr P Bs w w3) := HF2.out.trans hp.2.2
    have HB3 : Hid (w3.heap[w.heap.size]? = some (stO s xa xc ba bc ea ec)) := box_fr HB2.out (by decide) (by omega) hp.2.2
    have hs3 : Bs ≤ w3.heap.size := by have := HF3.out.size; omega
    obtain rfl := hp.1
    clear hp b0 b1 b2 b3 b4 b5 b6 b7
    obtain ⟨b0, b1, b2, b3, b4, b5, b6, b7⟩ := eight_cell HB3.out
    go_wp2
    go_end0
    exact ⟨rfl, by rw [HO2.out]; have := HP3.out; simpa using this, HF3.out⟩
  · have HO2 : Hid (o = [⟨#[105, 102]⟩] ++ Sy.exT d s.x ++ Sy.bodyT (Sy.stT d) s.body ++ ([⟨#[101, 108, 115, 101]⟩] ++ Sy.bodyT (Sy.stT d) s.els)) := by have := HO.out; rw [if_neg he] at this; exact this
    have hno : ws.length + (1 + ((Sy.exT d s.x).length + (Sy.bodyT (Sy.stT d) s.body).length + (1 + (Sy.bodyT (Sy.stT d) s.els).length))) ≤ 1000000 := by rw [HO2.out] at hn; simp only [List.length_append, List.length_cons, List.length_nil] at hn; omega
    have ge : 0 < ((s.els.length : Nat) : Int) := by omega
    clear he
    go_enter Tryz.func115, Tryz.ntmps115
    go_wp2_with fail
    refine (put_lit P Bs ws [(⟨#[105, 102]⟩ : ByteArray)] _ 1 (w.heap.size + 1) _ (by simp) (hPR.out.grown HG0.out) hpb hs0 (by show ws.length + 1 ≤ _; omega)).mono ?_
    rintro e w1 hp
    have HP1 : Hid (PR w1 P Bs (ws ++ [(⟨#[105, 102]⟩ : ByteArray)]) (.map (some M))) := hp.2.1
    have HF1 : Hid (Fr P Bs w w1) := HF0.out.trans hp.2.2
    have HB1 : Hid (w1.heap[w.heap.size]? = some (stO s xa xc ba bc ea ec)) := box_fr (heap_alloc_new w _) (by decide) (by omega) hp.2.2
    have hs1 : Bs ≤ w1.heap.size := by have := HF1.out.size; omega
    obtain rfl := hp.1
    clear hp
    obtain ⟨b0, b1, b2, b3, b4, b5, b6, b7⟩ := eight_cell HB1.out
    go_wp2_with fail
    refine (HE.out hx s.x xa xc (ws ++ [(⟨#[105, 102]⟩ : ByteArray)]) _ HOKx.out (HXx.out.same (HF1.out.same hbp hpb (by omega))) HP1 (hM.out.fr HF1.out hmb hmp hgp hpb) hs1 (by simp; omega)).mono ?_
    rintro e w2 hp
    have HP2 : Hid (PR w2 P Bs (ws ++ [(⟨#[105, 102]⟩ : ByteArray)] ++ Sy.exT d s.x) (.map (some M))) := hp.2.1
    have HF2 : Hid (Fr P Bs w w2) := HF1.out.trans hp.2.2
    have HB2 : Hid (w2.heap[w.heap.size]? = some (stO s xa xc ba bc ea ec)) := box_fr HB1.out (by decide) (by omega) hp.2.2
    have hs2 : Bs ≤ w2.heap.size := by have := HF2.out.size; omega
    obtain rfl := hp.1
    clear hp b0 b1 b2 b3 b4 b5 b6 b7
    obtain ⟨b0, b1, b2, b3, b4, b5, b6, b7⟩ := eight_cell HB2.out
    go_wp2_with fail
    refine (pbody_of B M P Bs d HLay hS h s.body ba bc (ws ++ [(⟨#[105, 102]⟩ : ByteArray)] ++ Sy.exT d s.x) _ HOKb (HXb.out.same (HF2.out.same hbp hpb (by omega))) HP2 (hM.out.fr HF2.out hmb hmp hgp hpb) hs2 (by simp only [List.length_append, List.length_cons, List.length_nil]; omega)).mono ?_
    rintro e w3 hp
    have HP3 : Hid (PR w3 P Bs (ws ++ [(⟨#[105, 102]⟩ : ByteArray)] ++ Sy.exT d s.x ++ Sy.bodyT (Sy.stT d) s.body) (.map (some M))) := hp.2.1
    have HF3 : Hid (Fr P Bs w w3) := HF2.out.trans hp.2.2
    have HB3 : Hid (w3.heap[w.heap.size]? = some (stO s xa xc ba bc ea ec)) := box_fr HB2.out (by decide) (by omega) hp.2.2
    have hs3 : Bs ≤ w3.heap.size := by have := HF3.out.size; omega
    obtain rfl := hp.1
    clear hp b0 b1 b2 b3 b4 b5 b6 b7
    obtain ⟨b0, b1, b2, b3, b4, b5, b6, b7⟩ := eight_cell HB3.out
    go_wp2_with fail
    refine (put_lit P Bs (ws ++ [(⟨#[105, 102]⟩ : ByteArray)] ++ Sy.exT d s.x ++ Sy.bodyT (Sy.stT d) s.body) [⟨#[101, 108, 115, 101]⟩] _ 1 w3.heap.size w3 rfl HP3 hpb hs3 (by simp only [List.length_append, List.length_cons, List.length_nil]; omega)).mono ?_
    rintro e w4 hp
    have HP4 : Hid (PR w4 P Bs (ws ++ [⟨#[105, 102]⟩] ++ Sy.exT d s.x ++ Sy.bodyT (Sy.stT d) s.body ++ [⟨#[101, 108, 115, 101]⟩]) (.map (some M))) := hp.2.1
    have HF4 : Hid (Fr P Bs w w4) := HF3.out.trans hp.2.2
    have HB4 : Hid (w4.heap[w.heap.size]? = some (stO s xa xc ba bc ea ec)) := box_fr HB3.out (by decide) (by omega) hp.2.2
    have hs4 : Bs ≤ w4.heap.size := by have := HF4.out.size; omega
    obtain rfl := hp.1
    clear hp b0 b1 b2 b3 b4 b5 b6 b7
    obtain ⟨b0, b1, b2, b3, b4, b5, b6, b7⟩ := eight_cell HB4.out
    go_wp2_with fail
    refine (pbody_of B M P Bs d HLay hS h s.els ea ec _ _ HOKe (HXe.out.same (HF4.out.same hbp hpb (by omega))) HP4 (hM.out.fr HF4.out hmb hmp hgp hpb) hs4 (by simp only [List.length_append, List.length_cons, List.length_nil]; omega)).mono ?_
    rintro e w5 hp
    have HP5 : Hid (Puts P Bs (.map (some M)) ws o w e w5) := ⟨hp.1, by rw [HO2.out]; have := hp.2.1; simpa using this, HF4.out.trans hp.2.2⟩
    obtain rfl := hp.1
    clear hp b0 b1 b2 b3 b4 b5 b6 b7
    go_wp2
    go_end0
    exact HP5.out

end Go.Proofs.YtlnikpcoejpknaaGreatDoor

