/- The walks of the reader's enter, leave, of isOneOf, of what begins what, and of limit. -/
import Derived.Test.YtlnikpcoejpknaaDoorM9
namespace Go.Proofs.YtlnikpcoejpknaaDoor
open Go.RowKit

theorem RD.cell4 {w : World} {R : Nat} {ta : Option Addr} {tc : Nat} {l : List Lx.Tk} {p en : Nat} {mv : Value} {op : Int} (h : RD w R ta tc l p en mv op) :
    w.cell? ⟨R, 4, none⟩ = some (.int .i64 op) ∧ w.frozen? ⟨R, 4, none⟩ = false := by
  unfold RD at h
  simp [World.cell?, World.frozen?, h]
theorem RD.set4 {w : World} {R : Nat} {ta : Option Addr} {tc : Nat} {l : List Lx.Tk} {p en : Nat} {mv : Value} {op op' : Int} (h : RD w R ta tc l p en mv op) {v : Int} (hv : v = op') : RD (w.setCell ⟨R, 4, none⟩ (.int .i64 v)) R ta tc l p en mv op' := by
  subst hv
  unfold RD at *
  simp only [World.setCell, Array.getElem?_modify, if_true, h, Option.map_some]
  rfl

set_option maxRecDepth 100000 in
set_option maxHeartbeats 400000 in
theorem leave_any (R : Nat) (ta : Option Addr) (tc : Nat) (l : List Lx.Tk) (p en : Nat) (mv : Value) (op : Int) (w : World) (hR : Hid (RD w R ta tc l p en mv op)) (h0 : 0 ≤ op) (h1 : op ≤ 1000) :
    Calls Tryd.prog 108 #[.pointer (some ⟨R, 0, none⟩)] w fun e w' => e = .returned (.tuple #[]) ∧ RD w' R ta tc l p en mv (op - 1) ∧ w.grownBy w' (some R) := by
  obtain ⟨c4, f4⟩ := hR.out.cell4
  go_enter Tryd.func108, Tryd.ntmps108
  go_wp2
  go_end0
  exact ⟨rfl, hR.out.set4 (by go_num), grown_at _ _ _ _⟩

set_option maxRecDepth 100000 in
set_option maxHeartbeats 400000 in
theorem enter_any (B R : Nat) (ta : Option Addr) (tc : Nat) (l : List Lx.Tk) (p en : Nat) (mv : Value) (op : Int) (t : Lx.Tk) (w : World) (hR : Hid (RD w R ta tc l p en mv op)) (hT : Hid (TkIn B w l ta)) (hB : B ≤ R) (hp : p ≤ l.length) (ht : Hid (t = pk l p en)) (h0 : 0 ≤ op) (h1 : op ≤ 200) :
    Calls Tryd.prog 107 #[.pointer (some ⟨R, 0, none⟩)] w fun e w' => RFate R ta tc l en mv (op + 1) w (.tuple #[]) (if op = 200 then .error (4, t.pos) else .ok p) e w' := by
  obtain ⟨c4, f4⟩ := hR.out.cell4
  have hRl := hR.out.lt
  obtain ⟨r, hr⟩ : ∃ r : Except (Int × Nat) Nat, r = if op = 200 then .error (4, t.pos) else .ok p := ⟨_, rfl⟩
  rw [← hr]
  have HG : Hid (w.grownBy (w.setCell ⟨R, 4, none⟩ (.int .i64 (op + 1))) (some R)) := grown_at _ _ _ _
  have H1 : Hid (RD (w.setCell ⟨R, 4, none⟩ (.int .i64 (op + 1))) R ta tc l p en mv (op + 1)) := hR.out.set4 rfl
  have HT1 : Hid (TkIn B (w.setCell ⟨R, 4, none⟩ (.int .i64 (op + 1))) l ta) := hT.out.grown HG.out hB hRl
  by_cases h2 : op = 200
  · have HR2 : Hid (r = .error (4, t.pos)) := by rw [hr, if_pos h2]; rfl
    have g2 : 200 < op + 1 := by omega
    clear hr h2
    go_enter Tryd.func107, Tryd.ntmps107
    go_wp2_with fail
    refine (cfail_any B R ta tc l p en mv (op + 1) 4 t _ H1 HT1 hB hp ht).mono ?_
    rintro e w3 ⟨rfl, hb3⟩
    have HG3 : Hid (w.grownBy w3 (some R)) := grown_on HG.out hb3
    have HD : Hid (RD w3 R ta tc l p en mv (op + 1)) := H1.out.on hb3
    clear hb3
    go_wp2
    exact ⟨rfl, HG3.out, by rw [HR2.out]; exact ⟨rfl, _, _, HD.out, Int.le_refl _, by omega⟩⟩
  · have HR2 : Hid (r = .ok p) := by rw [hr, if_neg h2]; rfl
    have g2 : op + 1 ≤ 200 := by omega
    clear hr h2
    go_enter Tryd.func107, Tryd.ntmps107
    go_wp2
    go_end0
    exact ⟨HG.out, by rw [HR2.out]; exact ⟨rfl, H1.out⟩⟩

end Go.Proofs.YtlnikpcoejpknaaDoor

/- The walks of isOneOf, of what begins what, and of limit. -/
namespace Go.Proofs.YtlnikpcoejpknaaDoor
open Go.RowKit

/-- Whether a text is one of some. -/
def oneOf (s : ByteArray) (xs : List ByteArray) : Bool := xs.any fun x => decide (x = s)

theorem oneOf_at {s : ByteArray} {xs : List ByteArray} {k : Nat} {x : ByteArray} (h : xs[k]? = some x) : oneOf s (xs.drop k) = (decide (x = s) || oneOf s (xs.drop (k + 1))) := by
  obtain ⟨hk, rfl⟩ := List.getElem?_eq_some_iff.1 h
  unfold oneOf
  rw [List.drop_eq_getElem_cons hk, List.any_cons]

set_option maxRecDepth 100000 in
set_option maxHeartbeats 1000000 in
theorem isOneOf2_any (s : ByteArray) (xs : List ByteArray) (A c : Nat) (b : Bool) (w : World) (hl : xs.length ≤ 100) (hx : Hid (∀ j x, xs[j]? = some x → w.cell? ⟨A, j, none⟩ = some (.string x))) (hb : Hid (b = oneOf s xs)) :
    Calls Tryd.prog 74 #[.string s, .slice (some ⟨A, 0, none⟩) xs.length c] w fun e w' => e = .returned (.bool b) ∧ w' = w := by
  go_enter Tryd.func74, Tryd.ntmps74
  go_wp2
  go_loopw [9] (fun i wr => ∃ k : Nat, k ≤ xs.length ∧ i = .int .i64 k ∧ wr = w ∧ Hid (b = oneOf s (xs.drop k))) (fun i _ => xs.length - (intOf i).toNat)
  case atStart => exact ⟨0, Nat.zero_le _, rfl, rfl, by rw [List.drop_zero]; exact hb⟩
  case round =>
    obtain ⟨k, hk, rfl, rfl, HO⟩ := hrel
    by_cases hlt : k < xs.length
    · obtain ⟨x, hxk⟩ : ∃ x, xs[k]? = some x := ⟨_, List.getElem?_eq_getElem hlt⟩
      have q := hx.out k x hxk
      have HO2 : Hid (b = (decide (x = s) || oneOf s (xs.drop (k + 1)))) := HO.out.trans (oneOf_at hxk)
      cases hd : decide (x = s) with
      | true =>
        have e1 : (x.toList == s.toList) = true := beq_text hd.symm
        have HB : Hid (b = true) := by rw [HO2.out, hd]; rfl
        clear hd hxk
        go_wp2
        go_ret
        exact ⟨by rw [HB.out]; rfl, rfl⟩
      | false =>
        have e1 : (x.toList == s.toList) = false := beq_text hd.symm
        have HB : Hid (b = oneOf s (xs.drop (k + 1))) := by rw [HO2.out, hd]; rfl
        clear hd hxk
        go_wp2
        go_roundw
        case rel => exact ⟨k + 1, by omega, by go_num, trivial, HB⟩
        case measure => simp [intOf]; omega
    · have HB : Hid (b = false) := by
        have := HO.out
        rw [List.drop_of_length_le (by omega)] at this
        exact this
      go_wp2
      go_ret
      exact ⟨by rw [HB.out]; rfl, rfl⟩

def defW : List ByteArray := [⟨#[98, 111, 120]⟩, ⟨#[102, 110]⟩, ⟨#[103, 101, 110]⟩, ⟨#[116, 97, 115, 107]⟩]
def statW : List ByteArray := [⟨#[108, 101, 116]⟩, ⟨#[105, 102]⟩, ⟨#[119, 104, 105, 108, 101]⟩, ⟨#[114, 101, 116, 117, 114, 110]⟩, ⟨#[115, 116, 111, 112]⟩, ⟨#[115, 101, 110, 100]⟩, ⟨#[111, 117, 116]⟩, ⟨#[100, 111]⟩]

theorem lit_cells (w : World) (xs : List ByteArray) : ∀ j x, xs[j]? = some x → (w.alloc (.cells (xs.map Value.string).toArray 9)).cell? ⟨w.heap.size, j, none⟩ = some (.string x) := by
  intro j x hx
  rw [World.cell?_alloc_mark]
  simp [hx]

set_option maxRecDepth 100000 in
set_option maxHeartbeats 1000000 in
theorem beginsParam_any (t : Lx.Tk) (w : World) (hz : t.text.size ≤ maxLen) :
    Calls Tryd.prog 126 #[tkV t] w fun e w' => e = .returned (.bool (Lx.named t.text.toList)) ∧ Below w.heap.size w w' := by
  obtain ⟨b, hb⟩ : ∃ b, b = Lx.named t.text.toList := ⟨_, rfl⟩
  have HB : Hid (Lx.named t.text.toList = b) := hb.symm
  rw [← hb]
  clear hb
  go_enter Tryd.func126, Tryd.ntmps126
  go_wp2_with fail
  refine (named_any t.text _ hz).mono ?_
  rintro e w2 ⟨he, rfl⟩
  rw [HB.out] at he
  subst he
  go_wp2
  go_ret
  exact ⟨rfl, (Below.refl _ w).alloc (Nat.le_refl _) _⟩

set_option maxRecDepth 100000 in
set_option maxHeartbeats 1000000 in
theorem beginsDef_any (t : Lx.Tk) (w : World) :
    Calls Tryd.prog 50 #[tkV t] w fun e w' => e = .returned (.bool (oneOf t.text defW)) ∧ Below w.heap.size w w' := by
  obtain ⟨b, hb⟩ : ∃ b, b = oneOf t.text defW := ⟨_, rfl⟩
  have HB : Hid (b = oneOf t.text defW) := hb
  rw [← hb]
  clear hb
  go_enter Tryd.func50, Tryd.ntmps50
  have HC := lit_cells (w.alloc (.cells #[.int .i64 t.kind, .string t.text, .int .i64 t.num, .int .i64 t.pos] 103)) defW
  rw [World.size_alloc] at HC
  have HC2 : Hid (∀ j x, defW[j]? = some x → ((w.alloc (.cells #[.int .i64 t.kind, .string t.text, .int .i64 t.num, .int .i64 t.pos] 103)).alloc (.cells (defW.map Value.string).toArray 9)).cell? ⟨w.heap.size + 1, j, none⟩ = some (.string x)) := HC
  clear HC
  go_wp2_with fail
  refine (isOneOf2_any t.text defW (w.heap.size + 1) 4 b _ (by decide) HC2 HB).mono ?_
  rintro e w2 ⟨rfl, rfl⟩
  go_wp2
  go_ret
  exact ⟨rfl, ((Below.refl _ w).alloc (Nat.le_refl _) _).alloc (by simp) _⟩

end Go.Proofs.YtlnikpcoejpknaaDoor

