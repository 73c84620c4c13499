/- What a step does with what was put out; what is known of a right module's units for good. -/
import Derived.Test.YtnfbfdajdflfgaaGreatM16
import Derived.Test.YtnfbfdajdflfgaaGreatM42
import Derived.Test.YtnfbfdajdflfgaaGreatM27
namespace Go.Proofs.YtnfbfdajdflfgaaGreat
namespace Vm
open Vf

theorem put_out (t : Tk) (v : Int) : (t.put v).out = t.out ∧ ((t.put v).over = t.over ∨ (t.put v).over = 5) := by
  unfold Tk.put
  split
  · exact ⟨rfl, .inr rfl⟩
  · exact ⟨rfl, .inl rfl⟩
theorem call_out (m : Md) (t : Tk) (n : Nat) : (t.call m n).out = t.out ∧ ((t.call m n).over = t.over ∨ (t.call m n).over = 5) := by
  unfold Tk.call
  split
  · exact ⟨rfl, .inr rfl⟩
  · split
    · exact ⟨rfl, .inl rfl⟩
    · exact ⟨rfl, .inr rfl⟩
theorem start_out (m : Md) (t : Tk) (n : Nat) : (t.start m n).out = t.out ∧ ((t.start m n).over = t.over ∨ (t.start m n).over = 5) := by
  unfold Tk.start
  split
  · exact ⟨rfl, .inr rfl⟩
  · exact ⟨(put_out _ _).1, (put_out _ _).2⟩
theorem give_out (t : Tk) (s : Nat) (v : Int) : (t.give s v).out = t.out ∧ ((t.give s v).over = t.over ∨ (t.give s v).over = 5) := by
  unfold Tk.give
  exact ⟨(put_out _ _).1, (put_out _ _).2⟩
theorem fin_out (t : Tk) : t.fin.out = t.out ∧ (t.fin.over = t.over ∨ t.fin.over = 4 ∨ t.fin.over = 5) := by
  unfold Tk.fin
  split
  · exact ⟨rfl, .inr (.inl rfl)⟩
  · exact ⟨(give_out _ _ _).1, (give_out _ _ _).2.imp id .inr⟩
theorem resume_out (t : Tk) : t.resume.out = t.out ∧ (t.resume.over = t.over ∨ t.resume.over = 5) := by
  unfold Tk.resume
  dsimp only
  split
  · exact ⟨rfl, .inr rfl⟩
  · split
    · exact ⟨rfl, .inr rfl⟩
    · split
      · exact ⟨(put_out _ _).1, (put_out _ _).2⟩
      · exact ⟨rfl, .inl rfl⟩
theorem reckon_out (t : Tk) (op : Int) : (t.reckon op).out = t.out ∧ ((t.reckon op).over = t.over ∨ (t.reckon op).over = 5) := by
  unfold Tk.reckon
  split
  · exact ⟨rfl, .inr rfl⟩
  · exact ⟨(put_out _ _).1, (put_out _ _).2⟩

/-- What an instruction puts out; it is done, or trapped, or as it was. -/
theorem act_out (m : Md) (c : Ins) (t : Tk) (rv : Int) : (t.act m c rv).out = (if c.op = 28 then t.out ++ [t.last] else t.out) ∧ ((t.act m c rv).over = t.over ∨ (t.act m c rv).over = 4 ∨ (t.act m c rv).over = 5) := by
  have p : ∀ {a b : Tk}, b.out = a.out ∧ (b.over = a.over ∨ b.over = 5) → a.out = t.out → a.over = t.over → c.op ≠ 28 → b.out = (if c.op = 28 then t.out ++ [t.last] else t.out) ∧ (b.over = t.over ∨ b.over = 4 ∨ b.over = 5) := fun h e1 e2 e3 => by
    rw [if_neg e3, ← e1, ← e2]
    exact ⟨h.1, h.2.imp id .inr⟩
  unfold Tk.act
  by_cases h1 : c.op = 1
  · rw [if_pos h1]; exact p (put_out _ _) rfl rfl (by omega)
  rw [if_neg h1]
  by_cases h2 : c.op = 2
  · rw [if_pos h2]; exact p (put_out _ _) rfl rfl (by omega)
  rw [if_neg h2]
  by_cases h3 : c.op = 3
  · rw [if_pos h3]; exact p (put_out _ _) rfl rfl (by omega)
  rw [if_neg h3]
  by_cases h4 : c.op = 4
  · rw [if_pos h4]; exact p (a := t) ⟨rfl, .inl rfl⟩ rfl rfl (by omega)
  rw [if_neg h4]
  by_cases h5 : c.op = 5
  · rw [if_pos h5]; exact p (a := t) ⟨rfl, .inl rfl⟩ rfl rfl (by omega)
  rw [if_neg h5]
  by_cases h6 : c.op = 6
  · rw [if_pos h6]; exact p (put_out _ _) rfl rfl (by omega)
  rw [if_neg h6]
  by_cases h7 : c.op = 7
  · rw [if_pos h7]; exact p (put_out _ _) rfl rfl (by omega)
  rw [if_neg h7]
  by_cases h21 : c.op = 21
  · rw [if_pos h21]; exact p (a := t) ⟨rfl, .inl rfl⟩ rfl rfl (by omega)
  rw [if_neg h21]
  by_cases h22 : c.op = 22
  · rw [if_pos h22]
    split
    · exact p (a := t) ⟨rfl, .inl rfl⟩ rfl rfl (by omega)
    · exact p (a := t) ⟨rfl, .inl rfl⟩ rfl rfl (by omega)
  rw [if_neg h22]
  by_cases h26 : c.op = 26
  · rw [if_pos h26]; exact p (a := t) ⟨rfl, .inl rfl⟩ rfl rfl (by omega)
  rw [if_neg h26]
  by_cases h27 : c.op = 27
  · rw [if_pos h27]; exact p (put_out _ _) rfl rfl (by omega)
  rw [if_neg h27]
  by_cases h28 : c.op = 28
  · rw [if_pos h28, if_pos h28]; exact ⟨rfl, .inl rfl⟩
  rw [if_neg h28]
  by_cases h23 : c.op = 23
  · rw [if_pos h23]; exact p (call_out _ _ _) rfl rfl (by omega)
  rw [if_neg h23]
  by_cases h24 : c.op = 24
  · rw [if_pos h24]; exact p (put_out _ _) rfl rfl (by omega)
  rw [if_neg h24]
  by_cases h29 : c.op = 29
  · rw [if_pos h29]; exact p (start_out _ _ _) rfl rfl (by omega)
  rw [if_neg h29]
  by_cases h30 : c.op = 30
  · rw [if_pos h30]; exact p (resume_out _) rfl rfl (by omega)
  rw [if_neg h30]
  by_cases h31 : c.op = 31
  · rw [if_pos h31]; exact p (give_out _ _ _) rfl rfl (by omega)
  rw [if_neg h31]
  by_cases h25 : c.op = 25
  · rw [if_pos h25, if_neg (by omega)]; exact fin_out t
  rw [if_neg h25]
  by_cases h32 : c.op = 32
  · rw [if_pos h32]; exact p (put_out _ _) rfl rfl (by omega)
  rw [if_neg h32]
  exact p (reckon_out _ _) rfl rfl (by omega)

/-- Of a right module something is known for good. -/
theorem known_of {m : Md} (h : verify m = (0, 0, 0)) : (∃ K, Known m K) ∧ m.boxes.length ≤ 30 := by
  have hl := right_iff.1 h
  obtain ⟨hR, hb⟩ := rt_of (hl 0 (by omega)) (hl 1 (by omega)) (hl 2 (by omega))
  refine ⟨?_, hb⟩
  have key : ∀ n : Nat, ∃ K : Nat → Option Kn, ∀ u, m.units[n]? = some u → Fix m u K := fun n => by
    cases hu : m.units[n]? with
    | none => exact ⟨fun _ => none, fun u e => by cases e⟩
    | some u =>
      obtain ⟨hh, hf⟩ := hR.heads n u hu
      have hz := sized_true (headE_zero hh).2.1
      obtain ⟨K, hK⟩ := fix_of hf (by omega) (each_all _ _ _ (show (eachW (flowF m) m.units 0).1 = 0 from hl 4 (by omega)) u (List.mem_of_getElem? hu))
      exact ⟨K, fun u' e => by cases e; exact hK⟩
  exact ⟨fun n => (key n).choose, hR, fun n u hu => (key n).choose_spec u hu⟩

/-- What is sent is of its box's type. -/
theorem sent_wt {m : Md} {K : KM} {G : List Nat} {t : Tk} {st : List Int} (hK : Known m K) (hM : Mid m K G t st st) (ho : (t.ins m).op = 26) : WT G (boxTy m (t.ins m).a) (t.goto (t.frame.pc + 1)).last := by
  obtain ⟨h, f, r, u, c, k, k', H⟩ := hM.here hK
  rw [H.ins] at ho ⊢
  rw [H.frame]
  have hN := H.next hM (by omega) (by omega) (by omega) (by omega)
  have hr := H.reck
  unfold reckS speak at hr
  simp only [ho] at hr
  simp at hr
  have e := takeR_inv hr
  rw [H.kst] at e
  rw [e] at hN
  exact hN.cut.2
end Vm
end Go.Proofs.YtnfbfdajdflfgaaGreat
namespace Go.Proofs.YtnfbfdajdflfgaaGreat.Vw
def truthB (v : Int) : Bool := v == 0 || v == 1
theorem truth_iff {v : Int} : truthB v = true ↔ v = 0 ∨ v = 1 := by simp [truthB]
end Go.Proofs.YtnfbfdajdflfgaaGreat.Vw

/- The walk of areTruths. -/
namespace Go.Proofs.YtnfbfdajdflfgaaGreat.Vw
open Go.RowKit Vf Vm

/-- What holds at the head of areTruths' loop: what is left decides. -/
def TrAt (w : World) (l : List Int) (b : Bool) (k : Nat) (wr : World) : Prop := k ≤ l.length ∧ w = wr ∧ b = (l.drop k).all truthB

set_option maxRecDepth 100000 in
set_option maxHeartbeats 1000000 in
theorem areTruths_any (l : List Int) (a : Option Addr) (cap : Nat) (w : World) (hin : Hid (∀ (i : Nat) v, l[i]? = some v → ∃ b off, a = some ⟨b, off, none⟩ ∧ w.cell? ⟨b, off + i, none⟩ = some (.int .i64 v))) (hfew : l.length ≤ 9223372036854775806) (b : Bool) (hb : Hid (b = l.all truthB)) :
    Calls Tryz.prog 24 #[.slice a l.length cap] w fun e w' => e = .returned (.bool b) ∧ w' = w := by
  have HST : Hid (TrAt w l b 0 w) := ⟨Nat.zero_le _, rfl, hb.out⟩
  go_enter Tryz.func24, Tryz.ntmps24
  go_wp2
  go_loopw [7] (fun v wr => ∃ k : Nat, v = .int .i64 k ∧ TrAt w l b k wr) (fun v _ => l.length - (intOf v).toNat)
  case atStart => exact ⟨0, rfl, HST.out⟩
  case round =>
    obtain ⟨k, rfl, hk, rfl, hbk⟩ := hrel
    have HBK := Sb.hide hbk
    clear hbk HST hb
    by_cases hlt : k < l.length
    · obtain ⟨v, hv⟩ : ∃ v, l[k]? = some v := ⟨_, List.getElem?_eq_getElem hlt⟩
      obtain ⟨b0, off, rfl, hc⟩ := hin.out k v hv
      have hdr : l.drop k = v :: l.drop (k + 1) := by
        rw [List.drop_eq_getElem_cons hlt]
        rw [List.getElem?_eq_getElem hlt] at hv
        cases hv; rfl
      have HDR := Sb.hide hdr
      obtain ⟨m, hm⟩ : ∃ m, m = l.length := ⟨_, rfl⟩
      have HM := Sb.hide hm
      rw [← hm] at hlt hfew ⊢
      have n0 : (0 : Int) ≤ (k : Int) := by omega
      have n1 : (k : Int) < (m : Int) := by omega
      clear hdr hv hm
      by_cases h01 : v = 0 ∨ v = 1
      · have HREL : Hid (TrAt w l b (k + 1) w) := ⟨by have := HM.out; omega, rfl, by
          rw [HBK.out, HDR.out, List.all_cons]
          rcases h01 with e | e <;> simp [truthB, e]⟩
        rcases h01 with rfl | rfl
        · go_wp2
          go_roundw
          case rel => exact ⟨k + 1, by go_num, HREL.out⟩
          case measure => simp [intOf]; omega
        · go_wp2
          go_roundw
          case rel => exact ⟨k + 1, by go_num, HREL.out⟩
          case measure => simp [intOf]; omega
      · have e0 : (v == 0) = false := by simp; omega
        have e1 : (v == 1) = false := by simp; omega
        have HF : Hid (b = false) := by
          unfold Hid
          rw [HBK.out, HDR.out, List.all_cons]
          simp [truthB, e0, e1]
        have d0 : (v != 0) = true := by simp; omega
        have d1 : (v != 1) = true := by simp; omega
        clear e0 e1 h01
        go_wp2
        go_ret
        exact ⟨by rw [HF.out]; rfl, rfl⟩
    · have HF : Hid (b = true) := by
        unfold Hid
        rw [HBK.out, List.drop_eq_nil_of_le (by omega)]
        rfl
      have n1 : ¬ (k : Int) < (l.length : Int) := by omega
      go_wp2
      go_ret
      exact ⟨by rw [HF.out]; rfl, rfl⟩
end Go.Proofs.YtnfbfdajdflfgaaGreat.Vw

