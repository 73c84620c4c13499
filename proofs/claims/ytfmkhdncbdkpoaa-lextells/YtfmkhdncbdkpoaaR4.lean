/- The walk of the document's Named. -/
import Derived.Test.YtfmkhdncbdkpoaaR3
import Derived.Laws.RangeString
import Derived.Laws.RangeAny
namespace Go.Proofs.Ytfmkhdncbdkpoaa
open Go.RowKit

/-- The first pos bytes are as a name's. -/
def NamePre (s : ByteArray) (pos : Nat) : Prop := (s.data.toList.take pos).all Lx.isWrd = true ∧ ∀ h : 0 < s.size, 0 < pos → Lx.isLet s[0] = true

theorem namePre_next {s : ByteArray} {pos : Nat} (h : NamePre s pos) (hp : pos < s.size) (hk : Lx.isLet s[pos] = true ∨ (Lx.isDig s[pos] = true ∧ 0 < pos)) : NamePre s (pos + 1) := by
  refine ⟨?_, ?_⟩
  · rw [take_snoc s pos hp]
    refine Lx.all_snoc _ _ _ h.1 ?_
    unfold Lx.isWrd
    rcases hk with hk | hk
    · rw [hk]; rfl
    · rw [hk.1]; simp
  · intro h0 _
    by_cases hz : 0 < pos
    · exact h.2 h0 hz
    · obtain rfl : pos = 0 := by omega
      rcases hk with hk | hk
      · exact hk
      · omega

theorem named_no {s : ByteArray} {pos : Nat} (hp : pos < s.size) (h1 : Lx.isLet s[pos] = false) (h2 : Lx.isDig s[pos] = false ∨ pos = 0) : Lx.named s.toList = false := by
  rw [toList_eq]
  have h0 : 0 < s.size := by omega
  have hh : (s.data.toList.head?.map Lx.isLet).getD false = Lx.isLet s[0] := by rw [Lx.byte_cons s h0]; rfl
  unfold Lx.named
  rw [hh]
  rcases h2 with h2 | h2
  · have : s.data.toList.all Lx.isWrd = false := by
      cases hb : s.data.toList.all Lx.isWrd
      · rfl
      · have := List.all_eq_true.1 hb s[pos] (List.getElem_mem (l := s.data.toList) (by simpa using hp))
        unfold Lx.isWrd at this
        rw [h1, h2] at this
        simp at this
    rw [this]; simp
  · subst h2
    rw [h1]; simp

theorem named_yes {s : ByteArray} (h : NamePre s s.size) (h0 : 0 < s.size) (h12 : s.size ≤ 12) : Lx.named s.toList = !Lx.kept s.toList := by
  rw [toList_eq]
  have hh : (s.data.toList.head?.map Lx.isLet).getD false = Lx.isLet s[0] := by rw [Lx.byte_cons s h0]; rfl
  have e : s.data.toList.length = s.size := rfl
  have ha := h.1
  rw [List.take_of_length_le (by omega)] at ha
  unfold Lx.named
  rw [hh, h.2 h0 h0, ha, e, decide_eq_true h0, decide_eq_true h12]
  simp

theorem cls_let {c : UInt8} (h : Lx.isLet c = true) : Lx.cls c = 1 := by unfold Lx.cls; rw [h]; rfl
theorem cls_dig {c : UInt8} (h1 : Lx.isLet c = false) (h : Lx.isDig c = true) : Lx.cls c = 2 := by unfold Lx.cls; rw [h1, h]; rfl
theorem cls_else {c : UInt8} (h1 : Lx.isLet c = false) (h : Lx.isDig c = false) : 3 ≤ Lx.cls c := by
  unfold Lx.cls; rw [h1, h]
  simp only [if_false, Bool.false_eq_true]
  split
  · omega
  · split <;> omega

theorem ascii_of {c : UInt8} (h : Lx.isLet c = true ∨ Lx.isDig c = true) : c.toNat < 128 := by
  rcases h with h | h
  · have := of_decide_eq_true h; omega
  · have := of_decide_eq_true h; omega

set_option maxRecDepth 100000 in
set_option maxHeartbeats 1000000 in
theorem refNamed_any (s : ByteArray) (w : World) (hs : s.size ≤ maxLen) :
    Calls Try.prog 10 #[.string s] w fun e w' => e = .returned (.bool (Lx.named s.toList)) ∧ Below w.heap.size w w' := by
  unfold maxLen at hs
  go_enter Try.func10, Try.ntmps10
  go_wp2
  go_loopw [] (fun wr => ∃ pos : Nat, pos ≤ s.size ∧ w.iter s pos = wr ∧ Hid (NamePre s pos)) (fun wr => s.size - wr.iterPos w.heap.size)
  case atStart => exact ⟨0, Nat.zero_le _, rfl, by exact ⟨by simp, fun _ h => by omega⟩⟩
  case round =>
    obtain ⟨pos, hpos, rfl, HN⟩ := hrel
    have hbel : Below w.heap.size w (w.iter s pos) := (Below.refl _ w).alloc (Nat.le_refl _) _
    by_cases hp : pos < s.size
    · have hnx : ∀ ty, (Instr.next (.pointer (some ⟨w.heap.size, 0, none⟩)) true ty).run Try.prog (w.iter s pos) = _ := fun ty => run_next_any w s pos ty hp
      cases hl : Lx.isLet s[pos]
      · cases hd : Lx.isDig s[pos]
        · have HF : Hid (Lx.named s.toList = false) := named_no hp hl (.inl hd)
          have hc := cls_else hl hd
          have e1 : (((Lx.cls s[pos] : Nat) : Int) != 1) = true := by simp; omega
          have e2 : (((Lx.cls s[pos] : Nat) : Int) != 2) = true := by simp; omega
          clear hl hd
          go_wp2_with fail
          refine (class_any _ _).mono ?_
          rintro e w1 ⟨rfl, rfl⟩
          go_wp2
          go_ret
          exact ⟨ret_bool HF.out.symm, (Below.refl _ w).alloc (Nat.le_refl _) _⟩
        · have hc := cls_dig hl hd
          have ha := decode_ascii s pos hp (ascii_of (.inr hd))
          rw [ha] at hnx
          by_cases h0 : pos = 0
          · have HF : Hid (Lx.named s.toList = false) := named_no hp hl (.inr h0)
            have e3 : ((pos : Int) == 0) = true := by simp; omega
            clear hl hd ha h0
            go_wp2_with fail
            refine (class_any _ _).mono ?_
            rintro e w1 ⟨rfl, rfl⟩
            go_wp2
            go_ret
            exact ⟨ret_bool HF.out.symm, (Below.refl _ w).alloc (Nat.le_refl _) _⟩
          · have HN2 : Hid (NamePre s (pos + 1)) := namePre_next HN.out hp (.inr ⟨hd, by omega⟩)
            have e3 : ((pos : Int) == 0) = false := by simp; omega
            clear hl hd ha h0
            go_wp2_with fail
            refine (class_any _ _).mono ?_
            rintro e w1 ⟨rfl, rfl⟩
            go_wp2
            go_roundw
            case rel => exact ⟨pos + 1, by omega, rfl, HN2⟩
            case measure => simp; omega
      · have hc := cls_let hl
        have ha := decode_ascii s pos hp (ascii_of (.inl hl))
        rw [ha] at hnx
        have HN2 : Hid (NamePre s (pos + 1)) := namePre_next HN.out hp (.inl hl)
        clear hl ha
        go_wp2_with fail
        refine (class_any _ _).mono ?_
        rintro e w1 ⟨rfl, rfl⟩
        go_wp2
        go_roundw
        case rel => exact ⟨pos + 1, by omega, rfl, HN2⟩
        case measure => simp; omega
    · have hnx : ∀ ty, (Instr.next (.pointer (some ⟨w.heap.size, 0, none⟩)) true ty).run Try.prog (w.iter s pos) = _ := fun ty => run_next_end w s pos ty hp
      obtain rfl : pos = s.size := by omega
      by_cases h0 : 0 < s.size
      · by_cases h12 : s.size ≤ 12
        · have HY : Hid (Lx.named s.toList = !Lx.kept s.toList) := named_yes HN.out h0 h12
          go_wp2_with fail
          refine (reserved_any s _).mono ?_
          rintro e w1 ⟨rfl, hb1⟩
          go_wp2
          go_ret
          exact ⟨ret_bool (by rw [HY.out]), hbel.trans (hb1.mono (by have := hbel.size; omega))⟩
        · have HF : Hid (Lx.named s.toList = false) := named_bad (.inr (by omega))
          go_wp2
          go_ret
          exact ⟨ret_bool HF.out.symm, hbel⟩
      · have HF : Hid (Lx.named s.toList = false) := named_bad (.inl (by omega))
        go_wp2
        go_ret
        exact ⟨ret_bool HF.out.symm, hbel⟩

end Go.Proofs.Ytfmkhdncbdkpoaa
