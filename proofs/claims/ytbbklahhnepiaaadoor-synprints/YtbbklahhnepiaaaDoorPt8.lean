/- The walk of the printer's body, over what stat prints. -/
import Derived.Test.YtbbklahhnepiaaaDoorPt7
namespace Go.Proofs.YtbbklahhnepiaaaDoor
open Go.RowKit
namespace Sy

/-- What a look that found nothing says of a statement. -/
def StOk : Nat → St → Prop
  | 0, _ => False
  | d + 1, s => 1 ≤ s.kind ∧ s.kind ≤ 9 ∧ (s.kind ≠ 6 → ExOk d s.x) ∧ (s.kind = 3 ∨ s.kind = 4 → ∀ t ∈ s.body, StOk d t) ∧ (s.kind = 3 → ∀ t ∈ s.els, StOk d t)

theorem bodyOf_mem {f : St → Nat → Except Int Nat} {l : List St} {n m : Nat} (h : bodyOf f l n = .ok m) : ∀ a ∈ l, ∃ i j, f a i = .ok j := by
  unfold bodyOf at h
  split at h
  · simp at h
  · exact runs_mem h

theorem stOk_of : ∀ (d : Nat) (s : St) (n m : Nat), stW d s n = .ok m → StOk d s
  | 0, _, _, _, h => by simp [stW] at h
  | d + 1, s, n, m, h => by
    unfold stW at h
    split at h
    · simp at h
    · rename_i h0
      have hz := nodeW_zero (by simpa using h0 : nodeW s.kind 9 (d + 1) n = 0)
      split at h
      · simp at h
      · split at h
        · rename_i h6
          exact ⟨hz.2.1, hz.2.2.1, fun hh => absurd h6 hh, fun hh => by omega, fun hh => by omega⟩
        · cases he : exW d s.x (n + 1) with
          | error e => rw [he] at h; simp at h
          | ok k =>
            rw [he] at h
            have hx := exOk_of d s.x _ _ he
            simp only [stTail] at h
            split at h
            · cases hb : bodyOf (stW d) s.body k with
              | error e => rw [hb] at h; simp at h
              | ok k2 =>
                rw [hb] at h
                simp only at h
                refine ⟨hz.2.1, hz.2.2.1, fun _ => hx, fun _ t ht => ?_, fun h3 t ht => ?_⟩
                · obtain ⟨i, j, hij⟩ := bodyOf_mem hb t ht
                  exact stOk_of d t i j hij
                · rw [if_pos h3] at h
                  obtain ⟨i, j, hij⟩ := bodyOf_mem h t ht
                  exact stOk_of d t i j hij
            · rename_i h34
              exact ⟨hz.2.1, hz.2.2.1, fun _ => hx, fun hh => absurd hh h34, fun hh => absurd (.inl hh) h34⟩

end Sy

/-- What stat prints, at d levels. -/
def StP (B M P Bs d : Nat) : Prop := ∀ (h : Nat) (s : Sy.St) (xa : Option Addr) (xc : Nat) (ba : Option Addr) (bc : Nat) (ea : Option Addr) (ec : Nat) (ws : List ByteArray) (w : World), Sy.StOk d s → Hid (StIn B w h s xa ba ea) → Hid (PR w P Bs ws (.map (some M))) → Hid (MpT w M) → Bs ≤ w.heap.size → ws.length + (Sy.stT d s).length ≤ 1000000 →
  Calls Tryd.prog 39 #[.pointer (some ⟨P, 0, none⟩), stV s xa xc ba bc ea ec] w fun e w' => Puts P Bs (.map (some M)) ws (Sy.stT d s) w e w'

theorem flat_at {l : List Sy.St} {f : Sy.St → List ByteArray} {k : Nat} {s : Sy.St} (h : l[k]? = some s) : (l.drop k).flatMap f = f s ++ (l.drop (k + 1)).flatMap f := by
  obtain ⟨hk, rfl⟩ := List.getElem?_eq_some_iff.1 h
  rw [List.drop_eq_getElem_cons hk, List.flatMap_cons]

set_option maxRecDepth 100000 in
set_option maxHeartbeats 1000000 in
theorem pbody_of (B M P Bs d : Nat) (hL : Lay B M P Bs) (hS : Hid (StP B M P Bs d)) (h : Nat) (l : List Sy.St) (a : Option Addr) (c : Nat) (ws : List ByteArray) (w : World) (hok : Hid (∀ s ∈ l, Sy.StOk d s)) (hX : Hid (BodyIn B w h l a)) (hPR : Hid (PR w P Bs ws (.map (some M)))) (hM : Hid (MpT w M)) (hBs : Bs ≤ w.heap.size) (hn : ws.length + (Sy.bodyT (Sy.stT d) l).length ≤ 1000000) :
    Calls Tryd.prog 22 #[.pointer (some ⟨P, 0, none⟩), .slice a l.length c] w fun e w' => Puts P Bs (.map (some M)) ws (Sy.bodyT (Sy.stT d) l) w e w' := by
  obtain ⟨hbp, hpb, hmb, hmp, hgp⟩ := hL
  have hlen := hX.out.1
  unfold maxLen at hlen
  obtain ⟨o, ho⟩ : ∃ o, o = Sy.bodyT (Sy.stT d) l := ⟨_, rfl⟩
  have hn' : ws.length + ((l.flatMap (Sy.stT d)).length + 2) ≤ 1000000 := by
    have e : (Sy.bodyT (Sy.stT d) l).length = (l.flatMap (Sy.stT d)).length + 2 := by unfold Sy.bodyT; simp only [List.length_append, List.length_cons, List.length_nil]; omega
    omega
  rw [← ho]
  have HO : Hid (o = [⟨#[123]⟩] ++ l.flatMap (Sy.stT d) ++ [⟨#[125]⟩]) := ho
  clear ho hn
  go_enter Tryd.func22, Tryd.ntmps22
  go_wp2_with fail
  refine (put_lit P Bs ws [⟨#[123]⟩] _ 1 w.heap.size w rfl hPR hpb hBs (by show ws.length + 1 ≤ _; omega)).mono ?_
  rintro e w2 ⟨rfl, hp2, hf2⟩
  have HP2 : Hid (PR w2 P Bs (ws ++ [⟨#[123]⟩] ++ []) (.map (some M))) := by rw [List.append_nil]; exact hp2
  have HF2 : Hid (Fr P Bs w w2) := hf2
  clear hp2 hf2
  go_wp2
  go_loopw [13] (fun i wr => ∃ (k : Nat) (done : List ByteArray), k ≤ l.length ∧ i = .int .i64 k ∧ Hid (PR wr P Bs (ws ++ [⟨#[123]⟩] ++ done) (.map (some M))) ∧ Hid (Fr P Bs w wr) ∧ Hid (done ++ (l.drop k).flatMap (Sy.stT d) = l.flatMap (Sy.stT d))) (fun i _ => l.length - (intOf i).toNat)
  case atStart => exact ⟨0, [], Nat.zero_le _, rfl, HP2, HF2, by rw [List.drop_zero]; rfl⟩
  case round =>
    obtain ⟨k, done, hk, rfl, HPr, HFr, HDr⟩ := hrel
    have hsr : Bs ≤ wr.heap.size := by have := HFr.out.size; omega
    by_cases hlt : k < l.length
    · obtain ⟨s, hs⟩ : ∃ s, l[k]? = some s := ⟨_, List.getElem?_eq_getElem hlt⟩
      have HOk : Hid (Sy.StOk d s) := hok.out s (List.mem_of_getElem? hs)
      obtain ⟨b, off, xa, xc, ba, bc, ea, ec, hab, hb, q0, q1, q2, q3, q4, q5, q6, q7, hin⟩ := (hX.out.same (HFr.out.same hbp hpb (by omega))).2 k s hs
      subst hab
      have HIn : Hid (StIn B wr h s xa ba ea) := hin
      have hD2 := HDr.out
      rw [flat_at hs] at hD2
      have hlenD := congrArg List.length hD2
      simp only [List.length_append] at hlenD
      have HD2 : Hid (done ++ (Sy.stT d s ++ (l.drop (k + 1)).flatMap (Sy.stT d)) = l.flatMap (Sy.stT d)) := hD2
      obtain ⟨ls, hls⟩ : ∃ ls, ls = (Sy.stT d s).length := ⟨_, rfl⟩
      rw [← hls] at hlenD
      have HLs : Hid (ls = (Sy.stT d s).length) := hls
      clear hin hD2 hs hls HDr
      go_wp2_with fail
      refine (hS.out h s xa xc ba bc ea ec (ws ++ [(⟨#[123]⟩ : ByteArray)] ++ done) _ HOk.out (HIn.out.same (same_grown (World.grownBy_alloc _ _ none) (by simp) (by omega))) (HPr.out.alloc _) (hM.out.fr (HFr.out.trans (Fr.alloc P Bs wr _)) hmb hmp hgp hpb) (by simp; omega) (by simp only [List.length_append, List.length_cons, List.length_nil]; have := HLs.out; omega)).mono ?_
      rintro e w3 hp
      have HP3 : Hid (PR w3 P Bs (ws ++ [⟨#[123]⟩] ++ (done ++ Sy.stT d s)) (.map (some M))) := by have := hp.2.1; unfold Hid; simpa using this
      have HF3 : Hid (Fr P Bs w w3) := HFr.out.trans ((Fr.alloc P Bs wr _).trans hp.2.2)
      have HD3 : Hid (done ++ Sy.stT d s ++ (l.drop (k + 1)).flatMap (Sy.stT d) = l.flatMap (Sy.stT d)) := by rw [← HD2.out]; unfold Hid; simp only [List.append_assoc]
      obtain rfl := hp.1
      clear hp q0 q1 q2 q3 q4 q5 q6 q7
      go_wp2
      go_roundw
      case rel => exact ⟨k + 1, done ++ Sy.stT d s, by omega, by go_num, HP3, HF3, HD3⟩
      case measure => simp [intOf]; omega
    · have HDn : Hid (done = l.flatMap (Sy.stT d)) := by
        have := HDr.out
        rw [List.drop_of_length_le (by omega)] at this
        unfold Hid; simpa using this
      have hld := congrArg List.length HDn.out
      go_wp2_with fail
      refine (put_lit P Bs (ws ++ [⟨#[123]⟩] ++ done) [⟨#[125]⟩] _ 1 wr.heap.size wr rfl HPr hpb hsr (by simp only [List.length_append, List.length_cons, List.length_nil]; omega)).mono ?_
      rintro e w4 hp
      have HP4 : Hid (Puts P Bs (.map (some M)) ws o w e w4) := ⟨hp.1, by rw [HO.out, ← HDn.out]; have := hp.2.1; simpa using this, HFr.out.trans hp.2.2⟩
      obtain rfl := hp.1
      clear hp
      go_wp2
      go_end0
      exact HP4.out

end Go.Proofs.YtbbklahhnepiaaaDoor
