/- The walks of truthWord, holds, Reckon. -/
import Derived.Test.YtnfbfdajdflfgaaGreatM5
import Derived.Test.YtnfbfdajdflfgaaGreatM1
import Derived.Test.YtnfbfdajdflfgaaGreatM13
namespace Go.Proofs.YtnfbfdajdflfgaaGreat.Vw
open Go.RowKit Vf Vm

set_option maxHeartbeats 400000 in
theorem truth_any (b : Bool) (w : World) :
    Calls Tryz.prog 91 #[.bool b] w fun e w' => e = .returned (.int .i64 (yes b)) ∧ w' = w := by
  cases b
  · go_enter Tryz.func91, Tryz.ntmps91
    go_wp2
    go_ret
    exact ⟨rfl, rfl⟩
  · go_enter Tryz.func91, Tryz.ntmps91
    go_wp2
    go_ret
    exact ⟨rfl, rfl⟩


set_option maxHeartbeats 1000000 in
theorem holds_any (op a b : Int) (w : World) (r : Bool) (hr : Hid (r = holds op a b)) :
    Calls Tryz.prog 100 #[.int .i64 op, .int .i64 a, .int .i64 b] w fun e w' => e = .returned (.bool r) ∧ w' = w := by
  rw [hr.out]
  clear hr
  by_cases h13 : op = 13
  · skip
    have e0 : op = 13 := h13
    subst e0
    go_enter Tryz.func100, Tryz.ntmps100
    go_wp2
    go_ret
    exact ⟨rfl, rfl⟩
  by_cases h14 : op = 14
  · skip
    have e0 : op = 14 := h14
    subst e0
    go_enter Tryz.func100, Tryz.ntmps100
    go_wp2
    go_ret
    exact ⟨rfl, rfl⟩
  by_cases h15 : op = 15
  · skip
    have e0 : op = 15 := h15
    subst e0
    go_enter Tryz.func100, Tryz.ntmps100
    go_wp2
    go_ret
    exact ⟨rfl, rfl⟩
  by_cases h16 : op = 16
  · skip
    have e0 : op = 16 := h16
    subst e0
    go_enter Tryz.func100, Tryz.ntmps100
    go_wp2
    go_ret
    exact ⟨rfl, rfl⟩
  by_cases h17 : op = 17
  · skip
    have e0 : op = 17 := h17
    subst e0
    go_enter Tryz.func100, Tryz.ntmps100
    go_wp2
    go_ret
    exact ⟨rfl, rfl⟩
  by_cases h18 : op = 18
  · skip
    have e0 : op = 18 := h18
    subst e0
    go_enter Tryz.func100, Tryz.ntmps100
    go_wp2
    go_ret
    exact ⟨rfl, rfl⟩
  by_cases h19 : op = 19
  · have e0 : op = 19 := h19
    subst e0
    clear h13 h14 h15 h16 h17 h18 h19
    by_cases ha : a = 0
    · have e1 : (a != 0) = false := by simpa using ha
      clear ha
      go_enter Tryz.func100, Tryz.ntmps100
      go_wp2
      go_ret
      exact ⟨by simp [holds, e1], rfl⟩
    · have e1 : (a != 0) = true := by simpa using ha
      clear ha
      go_enter Tryz.func100, Tryz.ntmps100
      go_wp2
      go_ret
      exact ⟨by simp [holds, e1], rfl⟩
  · have e13 : (op == 13) = false := by simpa using h13
    have e14 : (op == 14) = false := by simpa using h14
    have e15 : (op == 15) = false := by simpa using h15
    have e16 : (op == 16) = false := by simpa using h16
    have e17 : (op == 17) = false := by simpa using h17
    have e18 : (op == 18) = false := by simpa using h18
    have e19 : (op == 19) = false := by simpa using h19
    have HE : Hid (holds op a b = (a != 0 || b != 0)) := by unfold Hid holds; rw [if_neg h13, if_neg h14, if_neg h15, if_neg h16, if_neg h17, if_neg h18, if_neg h19]
    clear h13 h14 h15 h16 h17 h18 h19
    by_cases ha : a = 0
    · have e1 : (a != 0) = false := by simpa using ha
      clear ha
      go_enter Tryz.func100, Tryz.ntmps100
      go_wp2
      go_ret
      exact ⟨by rw [HE.out, e1]; rfl, rfl⟩
    · have e1 : (a != 0) = true := by simpa using ha
      clear ha
      go_enter Tryz.func100, Tryz.ntmps100
      go_wp2
      go_ret
      exact ⟨by rw [HE.out, e1]; rfl, rfl⟩


set_option maxHeartbeats 1000000 in
theorem reckoned_any (op a b : Int) (w : World) (hz : ¬ (b = 0 ∧ (op = 11 ∨ op = 12))) (r : Int) (hr : Hid (r = two op a b)) :
    Calls Tryz.prog 92 #[.int .i64 op, .int .i64 a, .int .i64 b] w fun e w' => e = .returned (.tuple #[.int .i64 r, .int .i64 0]) ∧ w' = w := by
  rw [hr.out]
  clear hr
  by_cases h8 : op = 8
  · skip
    have e0 : op = 8 := h8
    subst e0
    clear hz
    by_cases hb : b = 0
    · have fb : (b == 0) = true := by simpa using hb
      clear hb
      go_enter Tryz.func92, Tryz.ntmps92
      go_wp2
      exact bodyPost_ret (v := .tuple #[_, _]) (by simp [results, Tryz.results92, go_sem] <;> first | exact ⟨rfl, rfl⟩ | rfl) rfl ⟨rfl, rfl⟩
    · have fb : (b == 0) = false := by simpa using hb
      clear hb
      go_enter Tryz.func92, Tryz.ntmps92
      go_wp2
      exact bodyPost_ret (v := .tuple #[_, _]) (by simp [results, Tryz.results92, go_sem] <;> first | exact ⟨rfl, rfl⟩ | rfl) rfl ⟨rfl, rfl⟩
  by_cases h9 : op = 9
  · skip
    have e0 : op = 9 := h9
    subst e0
    clear hz
    by_cases hb : b = 0
    · have fb : (b == 0) = true := by simpa using hb
      clear hb
      go_enter Tryz.func92, Tryz.ntmps92
      go_wp2
      exact bodyPost_ret (v := .tuple #[_, _]) (by simp [results, Tryz.results92, go_sem] <;> first | exact ⟨rfl, rfl⟩ | rfl) rfl ⟨rfl, rfl⟩
    · have fb : (b == 0) = false := by simpa using hb
      clear hb
      go_enter Tryz.func92, Tryz.ntmps92
      go_wp2
      exact bodyPost_ret (v := .tuple #[_, _]) (by simp [results, Tryz.results92, go_sem] <;> first | exact ⟨rfl, rfl⟩ | rfl) rfl ⟨rfl, rfl⟩
  by_cases h10 : op = 10
  · skip
    have e0 : op = 10 := h10
    subst e0
    clear hz
    by_cases hb : b = 0
    · have fb : (b == 0) = true := by simpa using hb
      clear hb
      go_enter Tryz.func92, Tryz.ntmps92
      go_wp2
      exact bodyPost_ret (v := .tuple #[_, _]) (by simp [results, Tryz.results92, go_sem] <;> first | exact ⟨rfl, rfl⟩ | rfl) rfl ⟨rfl, rfl⟩
    · have fb : (b == 0) = false := by simpa using hb
      clear hb
      go_enter Tryz.func92, Tryz.ntmps92
      go_wp2
      exact bodyPost_ret (v := .tuple #[_, _]) (by simp [results, Tryz.results92, go_sem] <;> first | exact ⟨rfl, rfl⟩ | rfl) rfl ⟨rfl, rfl⟩
  by_cases h11 : op = 11
  · skip
    have hb : b ≠ 0 := fun e => hz ⟨e, .inl h11⟩
    have e0 : op = 11 := h11
    subst e0
    have fb : (b == 0) = false := by simpa using hb
    clear hz
    go_enter Tryz.func92, Tryz.ntmps92
    go_wp2
    exact bodyPost_ret (v := .tuple #[_, _]) (by simp [results, Tryz.results92, go_sem] <;> first | exact ⟨rfl, rfl⟩ | rfl) rfl ⟨rfl, rfl⟩
  by_cases h12 : op = 12
  · skip
    have hb : b ≠ 0 := fun e => hz ⟨e, .inr h12⟩
    have e0 : op = 12 := h12
    subst e0
    have fb : (b == 0) = false := by simpa using hb
    clear hz
    go_enter Tryz.func92, Tryz.ntmps92
    go_wp2
    exact bodyPost_ret (v := .tuple #[_, _]) (by simp [results, Tryz.results92, go_sem] <;> first | exact ⟨rfl, rfl⟩ | rfl) rfl ⟨rfl, rfl⟩
  have e8 : (op == 8) = false := by simpa using h8
  have e9 : (op == 9) = false := by simpa using h9
  have e10 : (op == 10) = false := by simpa using h10
  have e11 : (op == 11) = false := by simpa using h11
  have e12 : (op == 12) = false := by simpa using h12
  have HE : Hid (two op a b = yes (holds op a b)) := by unfold Hid two; rw [if_neg h8, if_neg h9, if_neg h10, if_neg h11, if_neg h12]
  clear h8 h9 h10 h11 h12 hz
  by_cases hb : b = 0
  · have fb : (b == 0) = true := by simpa using hb
    clear hb
    go_enter Tryz.func92, Tryz.ntmps92
    go_wp2_with fail
    refine (holds_any op a b _ _ (hide rfl)).mono ?_
    rintro e w' ⟨rfl, rfl⟩
    go_wp2_with fail
    refine (truth_any (holds op a b) _).mono ?_
    rintro e w' ⟨rfl, rfl⟩
    go_wp2
    exact bodyPost_ret (v := .tuple #[_, _]) (by simp [results, Tryz.results92, go_sem] <;> first | exact ⟨rfl, rfl⟩ | rfl) rfl ⟨by rw [HE.out], rfl⟩
  · have fb : (b == 0) = false := by simpa using hb
    clear hb
    go_enter Tryz.func92, Tryz.ntmps92
    go_wp2_with fail
    refine (holds_any op a b _ _ (hide rfl)).mono ?_
    rintro e w' ⟨rfl, rfl⟩
    go_wp2_with fail
    refine (truth_any (holds op a b) _).mono ?_
    rintro e w' ⟨rfl, rfl⟩
    go_wp2
    exact bodyPost_ret (v := .tuple #[_, _]) (by simp [results, Tryz.results92, go_sem] <;> first | exact ⟨rfl, rfl⟩ | rfl) rfl ⟨by rw [HE.out], rfl⟩

set_option maxHeartbeats 1000000 in
theorem reckoned_zero (op a b : Int) (w : World) (hz : b = 0 ∧ (op = 11 ∨ op = 12)) :
    Calls Tryz.prog 92 #[.int .i64 op, .int .i64 a, .int .i64 b] w fun e w' => e = .returned (.tuple #[.int .i64 0, .int .i64 1]) ∧ w' = w := by
  obtain ⟨rfl, hz⟩ := hz
  rcases hz with rfl | rfl
  · skip
    go_enter Tryz.func92, Tryz.ntmps92
    go_wp2
    exact bodyPost_ret (v := .tuple #[_, _]) (by simp [results, Tryz.results92, go_sem] <;> first | exact ⟨rfl, rfl⟩ | rfl) rfl ⟨rfl, rfl⟩
  · skip
    go_enter Tryz.func92, Tryz.ntmps92
    go_wp2
    exact bodyPost_ret (v := .tuple #[_, _]) (by simp [results, Tryz.results92, go_sem] <;> first | exact ⟨rfl, rfl⟩ | rfl) rfl ⟨rfl, rfl⟩

end Go.Proofs.YtnfbfdajdflfgaaGreat.Vw

/- The walks of take at hand, reckon, putTruth, ret. -/
namespace Go.Proofs.YtnfbfdajdflfgaaGreat.Vw
open Go.RowKit Vf Vm

/-- The same, the rows being where they were. -/
def PPost {β : Type} (E : Env β) (c : Cx) (vB ev : Value) (o T : Nat) (L : Lab) (P : Nat → Nat) (w w' : World) (t : Tk) (x : β) (vR vO : Value) : Prop := ∃ L', St E c vB ev o T L' P w' t x vR vO ∧ ExW o L L' w ∧ Chg (WB L o) w w'
section
variable {β : Type} {E : Env β} {c : Cx} {vB ev : Value} {o T : Nat} {L : Lab} {P : Nat → Nat} {w w1 : World} {t : Tk} {x : β} {vR vO : Value}
theorem St.at (H : St E c vB ev o T L P w t x vR vO) : ∃ h S g r vU, t.ths[t.hand]? = some h ∧ ThIn c L o t.hand P w h S g r vU ∧ t.top = h := by
  obtain ⟨h, hh⟩ : ∃ h, t.ths[t.hand]? = some h := ⟨_, List.getElem?_eq_getElem H.tk.hand⟩
  obtain ⟨S, g, r, vU, hT⟩ := H.tk.ths _ _ hh
  exact ⟨h, S, g, r, vU, hh, hT, by simp [Tk.top, Tk.th, hh]⟩
end

theorem taken {β : Type} (E : Env β) (c : Cx) (vB ev : Value) (o T : Nat) (L : Lab) (P : Nat → Nat) (w : World) (t : Tk) (x : β) (vR vO : Value) (H : Hid (St E c vB ev o T L P w t x vR vO)) :
    Calls Tryz.prog 48 #[.pointer (some ⟨P t.hand, 0, none⟩)] w fun e w' => e = .returned (.int .i64 t.last) ∧ PPost E c vB ev o T L P w w' t.cut x vR vO := by
  obtain ⟨h, S, g, r, vU, hh, hT, htop⟩ := H.out.at
  refine (take_th c L o t.hand P w h S g r vU hT (Sb.hide H.out.ok) t.last (Sb.hide (by unfold Tk.last; rw [htop]))).mono ?_
  rintro e w1 ⟨rfl, hp⟩
  obtain ⟨L1, hS1, hE1, hC1⟩ := H.out.thread hh hp.toT
  refine ⟨rfl, L1, ?_, hE1, hC1⟩
  unfold Tk.cut Tk.words
  rw [htop]
  exact hS1

theorem handCell {β : Type} {E : Env β} {c : Cx} {vB ev : Value} {o T : Nat} {L : Lab} {P : Nat → Nat} {w : World} {t : Tk} {x : β} {vR vO : Value} (H : St E c vB ev o T L P w t x vR vO) : w.cell? ⟨T, 4, none⟩ = some (.pointer (some ⟨P t.hand, 0, none⟩)) := (tk_cells H.tk.blk).2.2.2.2.1

section
variable {β : Type} (E : Env β) (c : Cx) (vB : Value) (N : Nat) (caps : Array Value) (hN : Hid (Hears E c N caps)) (o T : Nat) (L : Lab) (P : Nat → Nat) (w : World) (t : Tk) (x : β) (vR vO : Value) (H : Hid (St E c vB (.func (.func N) #[] caps) o T L P w t x vR vO)) (hlog : Hid (t.log.length ≤ 2000001))
include hN H hlog

set_option maxHeartbeats 1000000 in
theorem putTruth_any (b : Bool) :
    Calls Tryz.prog 76 #[.pointer (some ⟨T, 0, none⟩), .bool b] w fun e w' => e = .returned (.tuple #[]) ∧ WPost E c vB (.func (.func N) #[] caps) o T L w w' (t.put (yes b)) x := by
  go_enter Tryz.func76, Tryz.ntmps76
  go_wp2_with fail
  refine (truth_any b _).mono ?_
  rintro e w' ⟨rfl, rfl⟩
  go_wp2_with fail
  refine (put_any E c vB N caps hN o T L P _ t x vR vO H hlog (yes b)).mono ?_
  rintro e w1 ⟨rfl, hW⟩
  have HW := Sb.hide hW
  clear hW
  go_wp2
  go_end0
  exact ⟨rfl, HW.out⟩


set_option maxHeartbeats 1000000 in
theorem reckon_any (op : Int) :
    Calls Tryz.prog 77 #[.pointer (some ⟨T, 0, none⟩), .int .i64 op] w fun e w' => e = .returned (.tuple #[]) ∧ WPost E c vB (.func (.func N) #[] caps) o T L w w' (t.reckon op) x := by
  have d0 := handCell H.out
  have hh1 : t.cut.hand = t.hand := rfl
  go_enter Tryz.func77, Tryz.ntmps77
  go_wp2_with fail
  refine (taken E c vB (.func (.func N) #[] caps) o T L P _ t x vR vO H).mono ?_
  rintro e w1 ⟨rfl, L1, s1, q1, k1⟩
  have d1 := handCell s1
  have S1 := Sb.hide s1
  have E1 := Sb.hide q1
  have C1 := Sb.hide k1
  clear s1 q1 k1
  go_wp2_with fail
  refine (taken E c vB (.func (.func N) #[] caps) o T L1 P _ t.cut x vR vO S1).mono ?_
  rintro e w2 ⟨rfl, L2, s2, q2, k2⟩
  have d2 := handCell s2
  have S2 := Sb.hide s2
  have E2 := Sb.hide q2
  have C2 := Sb.hide k2
  clear s2 q2 k2
  by_cases hz : t.last = 0 ∧ (op = 11 ∨ op = 12)
  · have HZ := Sb.hide hz
    clear hz
    go_wp2_with fail
    refine (reckoned_zero op t.cut.last t.last _ HZ.out).mono ?_
    rintro e w' ⟨rfl, rfl⟩
    go_wp2_with fail
    refine (fall_any E c vB N caps hN o T L2 P _ t.cut.cut x vR vO S2 (Sb.hide (by exact hlog.out)) 1).mono ?_
    rintro e w3 ⟨rfl, hW⟩
    have HW := Sb.hide ((hW.trans E2.out C2.out).trans E1.out C1.out)
    clear hW
    go_wp2
    exact bodyPost_ret (v := .tuple #[]) (by simp [results, Tryz.results77, go_sem]) rfl ⟨rfl, by unfold Tk.reckon; rw [if_pos HZ.out]; exact HW.out⟩
  · have HZ := Sb.hide hz
    clear hz
    go_wp2_with fail
    refine (reckoned_any op t.cut.last t.last _ HZ.out _ (Sb.hide rfl)).mono ?_
    rintro e w' ⟨rfl, rfl⟩
    go_wp2_with fail
    refine (put_any E c vB N caps hN o T L2 P _ t.cut.cut x vR vO S2 (Sb.hide (by exact hlog.out)) _).mono ?_
    rintro e w3 ⟨rfl, hW⟩
    have HW := Sb.hide ((hW.trans E2.out C2.out).trans E1.out C1.out)
    clear hW
    go_wp2
    go_end0
    exact ⟨rfl, by unfold Tk.reckon; rw [if_neg HZ.out]; exact HW.out⟩
end
end Go.Proofs.YtnfbfdajdflfgaaGreat.Vw

