/- The walk of the printer's calling. -/
import Derived.Test.YtbbklahhnepiaaaDoorPt3
namespace Go.Proofs.YtbbklahhnepiaaaDoor
open Go.RowKit

/-- Kids lie at a. -/
def KidsIn (B : Nat) (w : World) (h : Nat) (kids : List Sy.Ex) (a : Option Addr) : Prop :=
  kids.length ≤ maxLen ∧ ∀ i k, kids[i]? = some k → ∃ b off a' c', a = some ⟨b, off, none⟩ ∧ b < B ∧
      w.cell? ⟨b, off + i * 4, none⟩ = some (.int .i64 k.kind) ∧ w.cell? ⟨b, off + i * 4 + 1, none⟩ = some (.int .i64 k.n) ∧ w.cell? ⟨b, off + i * 4 + 2, none⟩ = some (.string k.name) ∧
      w.cell? ⟨b, off + i * 4 + 3, none⟩ = some (.slice a' k.kids.length c') ∧ ExIn B w h k a'

theorem ExIn.kidsIn {B : Nat} {w : World} {h : Nat} {x : Sy.Ex} {a : Option Addr} (hx : ExIn B w (h + 1) x a) : KidsIn B w h x.kids a := hx.2

theorem KidsIn.same {B : Nat} {w w' : World} (hs : Go.Proofs.YtbbklahhnepiaaaDoor.Same B w w') {h : Nat} {kids : List Sy.Ex} {a : Option Addr} (hk : KidsIn B w h kids a) : KidsIn B w' h kids a :=
  ⟨hk.1, fun i k hi => by
    obtain ⟨b, off, a', c', ha, hb, c0, c1, c2, c3, hin⟩ := hk.2 i k hi
    exact ⟨b, off, a', c', ha, hb, (hs _ _ hb).trans c0, (hs _ _ hb).trans c1, (hs _ _ hb).trans c2, (hs _ _ hb).trans c3, hin.same hs⟩⟩

theorem listT_at {α : Type} {f : α → List ByteArray} {l : List α} {k : Nat} {x : α} (h : l[k]? = some x) : Sy.listT f k (l.drop k) = (if 0 < k then [⟨#[44]⟩] else []) ++ f x ++ Sy.listT f (k + 1) (l.drop (k + 1)) := by
  obtain ⟨hk, rfl⟩ := List.getElem?_eq_some_iff.1 h
  rw [List.drop_eq_getElem_cons hk]
  rfl

theorem PR.app {w : World} {P Bs : Nat} {a b c : List ByteArray} {mv : Value} (h : PR w P Bs (a ++ b) mv) (e : a ++ b = c) : PR w P Bs c mv := e ▸ h

set_option maxRecDepth 100000 in
set_option maxHeartbeats 2000000 in
theorem calling_of (B M P Bs d : Nat) (hL : Lay B M P Bs) (hE : Hid (ExP B M P Bs d)) (h : Nat) (kids : List Sy.Ex) (a : Option Addr) (c : Nat) (xs : List ByteArray) (ad : Addr) (c2 : Nat) (ws : List ByteArray) (w : World)
    (hok : Hid (∀ k ∈ kids, Sy.ExOk d k)) (hX : Hid (KidsIn B w h kids a)) (hPR : Hid (PR w P Bs ws (.map (some M)))) (hM : Hid (MpT w M)) (hBs : Bs ≤ w.heap.size)
    (hx : Hid (∀ j x, xs[j]? = some x → w.cell? (ad.add j) = some (.string x))) (hn : ws.length + (Sy.callT (Sy.exT d) xs kids).length ≤ 1000000) :
    Calls Tryd.prog 72 #[.pointer (some ⟨P, 0, none⟩), .slice a kids.length c, .slice (some ad) xs.length c2] w fun e w' => Puts P Bs (.map (some M)) ws (Sy.callT (Sy.exT d) xs kids) w e w' := by
  obtain ⟨hbp, hpb, hmb, hmp, hgp⟩ := hL
  have hlen := hX.out.1
  unfold maxLen at hlen
  obtain ⟨o, ho⟩ : ∃ o, o = Sy.callT (Sy.exT d) xs kids := ⟨_, rfl⟩
  have hn' : ws.length + (xs.length + ((Sy.listT (Sy.exT d) 0 kids).length + 2)) ≤ 1000000 := by unfold Sy.callT at hn; simp at hn; omega
  rw [← ho]
  have HO : Hid (o = xs ++ [⟨#[40]⟩] ++ Sy.listT (Sy.exT d) 0 kids ++ [⟨#[41]⟩]) := ho
  clear ho hn
  have HT : Hid (∃ T, T = Sy.listT (Sy.exT d) 0 kids) := ⟨_, rfl⟩
  go_enter Tryd.func72, Tryd.ntmps72
  go_wp2_with fail
  refine (put_any P Bs ws xs _ ad c2 w hPR hpb hBs hx (by omega)).mono ?_
  rintro e w1 ⟨rfl, hp1, hf1⟩
  have HP1 : Hid (PR w1 P Bs (ws ++ xs) (.map (some M))) := hp1
  have HF1 : Hid (Fr P Bs w w1) := hf1
  have hs1 : Bs ≤ w1.heap.size := by have := hf1.size; omega
  clear hp1 hf1
  go_wp2_with fail
  refine (put_lit P Bs (ws ++ xs) [⟨#[40]⟩] _ 1 w1.heap.size w1 rfl HP1 hpb hs1 (by simp; omega)).mono ?_
  rintro e w2 ⟨rfl, hp2, hf2⟩
  have HP2 : Hid (PR w2 P Bs (ws ++ xs ++ [⟨#[40]⟩] ++ []) (.map (some M))) := by rw [List.append_nil]; exact hp2
  have HF2 : Hid (Fr P Bs w w2) := HF1.out.trans hf2
  clear hp2 hf2
  go_wp2
  go_loopw [20] (fun i wr => ∃ (k : Nat) (done : List ByteArray), k ≤ kids.length ∧ i = .int .i64 k ∧ Hid (PR wr P Bs (ws ++ xs ++ [⟨#[40]⟩] ++ done) (.map (some M))) ∧ Hid (Fr P Bs w wr) ∧ Hid (done ++ Sy.listT (Sy.exT d) k (kids.drop k) = Sy.listT (Sy.exT d) 0 kids)) (fun i _ => kids.length - (intOf i).toNat)
  case atStart => exact ⟨0, [], Nat.zero_le _, rfl, HP2, HF2, by rw [List.drop_zero]; rfl⟩
  case round =>
    obtain ⟨k, done, hk, rfl, HPr, HFr, HDr⟩ := hrel
    have hsr : Bs ≤ wr.heap.size := by have := HFr.out.size; omega
    by_cases hlt : k < kids.length
    · obtain ⟨x, hxk⟩ : ∃ x, kids[k]? = some x := ⟨_, List.getElem?_eq_getElem hlt⟩
      have hokx := hok.out x (List.mem_of_getElem? hxk)
      have HOk : Hid (Sy.ExOk d x) := hokx
      obtain ⟨b, off, a', c', rfl, hb, q0, q1, q2, q3, hin⟩ := (hX.out.same (HFr.out.same hbp hpb (by omega))).2 k x hxk
      have HIn : Hid (ExIn B wr h x a') := hin
      have hD2 := HDr.out
      rw [listT_at hxk] at hD2
      obtain ⟨cm, hcm⟩ : ∃ cm, cm = (if 0 < k then [(⟨#[44]⟩ : ByteArray)] else []) := ⟨_, rfl⟩
      rw [← hcm] at hD2
      have hcl : cm.length ≤ 1 := by rw [hcm]; split <;> simp
      have hlenD := congrArg List.length hD2
      simp only [List.length_append] at hlenD
      have HD2 : Hid (done ++ (cm ++ Sy.exT d x ++ Sy.listT (Sy.exT d) (k + 1) (kids.drop (k + 1))) = Sy.listT (Sy.exT d) 0 kids) := hD2
      have HCm : Hid (cm = (if 0 < k then [(⟨#[44]⟩ : ByteArray)] else [])) := hcm
      have hcomma := comma_any P Bs (ws ++ xs ++ [(⟨#[40]⟩ : ByteArray)] ++ done) (.map (some M)) k (wr.alloc (exO x a' c')) (HPr.out.alloc _) hpb (by simp; omega) (by simp only [List.length_append, List.length_cons, List.length_nil]; omega)
      rw [← hcm] at hcomma
      obtain ⟨bx1, hbx1⟩ : ∃ bx1 : Nat, bx1 = (Sy.exT d x).length := ⟨_, rfl⟩
      rw [← hbx1] at hlenD
      have HL1 : Hid (bx1 = (Sy.exT d x).length) := hbx1
      clear hokx hin hD2 hcm hbx1
      have hxk' : Hid (kids[k]? = some x) := hxk
      clear hxk
      go_wp2_with fail
      refine hcomma.mono ?_
      rintro e w3 hp
      have HP3 : Hid (PR w3 P Bs (ws ++ xs ++ [⟨#[40]⟩] ++ done ++ cm) (.map (some M))) := hp.2.1
      have HFx : Hid (Fr P Bs wr w3) := (Fr.alloc P Bs wr _).trans hp.2.2
      have HF3 : Hid (Fr P Bs w w3) := HFr.out.trans HFx.out
      have HBx : Hid (w3.heap[wr.heap.size]? = some (exO x a' c')) := box_fr (heap_alloc_new wr _) (by decide) (by have := HPr.out.lt; omega) hp.2.2
      have hs3 : Bs ≤ w3.heap.size := by have := HF3.out.size; omega
      obtain rfl := hp.1
      obtain ⟨b0, b1, b2, b3⟩ := four_cell HBx.out
      clear hp q0 q1 q2 q3 hcomma
      go_wp2_with fail
      refine (hE.out h x a' c' (ws ++ xs ++ [⟨#[40]⟩] ++ done ++ cm) _ HOk.out (HIn.out.same (HFx.out.same hbp hpb (by omega))) HP3 (hM.out.fr HF3.out hmb hmp hgp hpb) hs3 (by simp only [List.length_append, List.length_cons, List.length_nil]; have := HL1.out; omega)).mono ?_
      rintro e w4 hp
      have HP4 : Hid (PR w4 P Bs (ws ++ xs ++ [⟨#[40]⟩] ++ (done ++ cm ++ Sy.exT d x)) (.map (some M))) := by have := hp.2.1; unfold Hid; simpa using this
      have HF4 : Hid (Fr P Bs w w4) := HF3.out.trans hp.2.2
      have HD4 : Hid (done ++ cm ++ Sy.exT d x ++ Sy.listT (Sy.exT d) (k + 1) (kids.drop (k + 1)) = Sy.listT (Sy.exT d) 0 kids) := by rw [← HD2.out]; unfold Hid; simp only [List.append_assoc]
      obtain rfl := hp.1
      clear hp b0 b1 b2 b3
      go_wp2
      go_roundw
      case rel => exact ⟨k + 1, done ++ cm ++ Sy.exT d x, by omega, by go_num, HP4, HF4, HD4⟩
      case measure => simp [intOf]; omega
    · have HDn : Hid (done = Sy.listT (Sy.exT d) 0 kids) := by
        have := HDr.out
        rw [List.drop_of_length_le (by omega)] at this
        unfold Hid; simpa [Sy.listT] using this
      have hld := congrArg List.length HDn.out
      go_wp2_with fail
      refine (put_lit P Bs (ws ++ xs ++ [⟨#[40]⟩] ++ done) [⟨#[41]⟩] _ 1 wr.heap.size wr rfl HPr hpb hsr (by simp only [List.length_append, List.length_cons, List.length_nil]; omega)).mono ?_
      rintro e w4 hp
      have HP4 : Hid (Puts P Bs (.map (some M)) ws o w e w4) := ⟨hp.1, by rw [HO.out, ← HDn.out]; have := hp.2.1; simpa using this, HFr.out.trans hp.2.2⟩
      obtain rfl := hp.1
      clear hp
      go_wp2
      go_end0
      exact HP4.out

end Go.Proofs.YtbbklahhnepiaaaDoor
