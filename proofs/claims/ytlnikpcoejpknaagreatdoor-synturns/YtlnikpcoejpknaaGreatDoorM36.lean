/- The walk of ref2.sameStats, of two bodies that are alike. -/
import Derived.Test.YtlnikpcoejpknaaGreatDoorM19
namespace Go.Proofs.YtlnikpcoejpknaaGreatDoor
open Go.RowKit

/-- Two bodies alike are told so. -/
def SameB (l : List Sy.St) (w : World) (a1 a2 : Option Addr) : Prop := ∀ c1 c2 : Nat, Calls Tryz.prog 23 #[.slice a1 l.length c1, .slice a2 l.length c2] w fun e w' => e = .returned (.bool true) ∧ Below w.heap.size w w'

/-- A statement's cells. -/
def StSx (w : World) (b o : Nat) (s : Sy.St) (xa : Option Addr) (xc : Nat) (ba : Option Addr) (bc : Nat) (ea : Option Addr) (ec : Nat) : Prop :=
  w.cell? ⟨b, o, none⟩ = some (.int .i64 s.kind) ∧ w.cell? ⟨b, o + 1, none⟩ = some (.string s.name) ∧ w.cell? ⟨b, o + 2, none⟩ = some (.int .i64 s.x.kind) ∧ w.cell? ⟨b, o + 3, none⟩ = some (.int .i64 s.x.n) ∧ w.cell? ⟨b, o + 4, none⟩ = some (.string s.x.name) ∧
      w.cell? ⟨b, o + 5, none⟩ = some (.slice xa s.x.kids.length xc) ∧ w.cell? ⟨b, o + 6, none⟩ = some (.slice ba s.body.length bc) ∧ w.cell? ⟨b, o + 7, none⟩ = some (.slice ea s.els.length ec)
theorem StSx.on {w w' : World} {b o : Nat} {s : Sy.St} {xa : Option Addr} {xc : Nat} {ba : Option Addr} {bc : Nat} {ea : Option Addr} {ec : Nat} (h : StSx w b o s xa xc ba bc ea ec) (hb : Below w.heap.size w w') (hl : b < w.heap.size) : StSx w' b o s xa xc ba bc ea ec := by
  obtain ⟨h0, h1, h2, h3, h4, h5, h6, h7⟩ := h
  exact ⟨sx_cell hb hl h0, sx_cell hb hl h1, sx_cell hb hl h2, sx_cell hb hl h3, sx_cell hb hl h4, sx_cell hb hl h5, sx_cell hb hl h6, sx_cell hb hl h7⟩

/-- How two statements' pieces are told alike, in every world. -/
def SameP (B h h' : Nat) : Prop := ∀ (s : Sy.St) (xa ba ea xa' ba' ea' : Option Addr) (w : World), B ≤ w.heap.size → StIn B w h s xa ba ea → StIn B w h' s xa' ba' ea' → SameB s.body w ba ba' ∧ SameB s.els w ea ea'

theorem StIn.expr {B : Nat} {w : World} {h : Nat} {s : Sy.St} {xa ba ea : Option Addr} (hs : StIn B w h s xa ba ea) : ∃ hx, ExIn B w hx s.x xa := by
  cases h with
  | zero => exact hs.elim
  | succ h => exact hs.2.1

set_option maxRecDepth 100000 in
set_option maxHeartbeats 2000000 in
theorem sameStats_of (B h h' : Nat) (hP : Hid (SameP B h h')) (l : List Sy.St) (a1 a2 : Option Addr) (w : World) (hB : B ≤ w.heap.size) (hlen : l.length ≤ maxLen) (h1 : Hid (RowIn B w (StIn B w h) l a1)) (h2 : Hid (RowIn B w (StIn B w h') l a2)) : SameB l w a1 a2 := by
  intro c1 c2
  have hlen' : l.length ≤ 9223372036854775807 := hlen
  have e0 : ((l.length : Int) != (l.length : Int)) = false := by simp
  go_enter Tryz.func23, Tryz.ntmps23
  go_wp2
  clear e0
  go_loopw [13] (fun i wr => ∃ k : Nat, k ≤ l.length ∧ i = .int .i64 k ∧ Hid (Below w.heap.size w wr)) (fun i _ => l.length - (intOf i).toNat)
  case atStart => exact ⟨0, Nat.zero_le _, rfl, Below.refl _ _⟩
  case round =>
    obtain ⟨k, hk, rfl, HBr⟩ := hrel
    by_cases hlt : k < l.length
    · obtain ⟨s, hs⟩ : ∃ s, l[k]? = some s := ⟨_, List.getElem?_eq_getElem hlt⟩
      obtain ⟨b1, o1, xa, xc, ba, bc, ea, ec, rfl, hb1, u0, u1, u2, u3, u4, u5, u6, u7, i1⟩ := h1.out k s hs
      obtain ⟨b2, o2, xa', xc', ba', bc', ea', ec', rfl, hb2, v0, v1, v2, v3, v4, v5, v6, v7, i2⟩ := h2.out k s hs
      have hz := HBr.out.size
      have hsw := same_below HBr.out
      have l1 : b1 < wr.heap.size := by omega
      have l2 : b2 < wr.heap.size := by omega
      rw [← hsw _ _ (by omega)] at u0 u1 u2 u3 u4 u5 u6 u7 v0 v1 v2 v3 v4 v5 v6 v7
      have HI1 : Hid (StIn B wr h s xa ba ea) := StIn.same (fun b o hb => hsw b o (by omega)) h s xa ba ea i1
      have HI2 : Hid (StIn B wr h' s xa' ba' ea') := StIn.same (fun b o hb => hsw b o (by omega)) h' s xa' ba' ea' i2
      have hBr : B ≤ wr.heap.size := by omega
      obtain ⟨hx1, j1⟩ := HI1.out.expr
      obtain ⟨hx2, j2⟩ := HI2.out.expr
      have HJ1 := hideX j1
      have HJ2 := hideX j2
      have m0 : (0 : Int) ≤ (k : Int) := by omega
      have m1 : (k : Int) < (l.length : Int) := by omega
      have e1 : (s.kind != s.kind) = false := by simp
      have e2 := sx_str s.name
      clear i1 i2 hsw hs hb1 hb2 j1 j2 hz
      have HCu : Hid (StSx wr b1 (o1 + k * 8) s xa xc ba bc ea ec) := ⟨u0, u1, u2, u3, u4, u5, u6, u7⟩
      have HCv : Hid (StSx wr b2 (o2 + k * 8) s xa' xc' ba' bc' ea' ec') := ⟨v0, v1, v2, v3, v4, v5, v6, v7⟩
      have HF : Hid (∀ w1 : World, Below wr.heap.size wr w1 → B ≤ w1.heap.size ∧ SameB s.body w1 ba ba' ∧ SameB s.els w1 ea ea') := fun w1 hb => by
        have hz1 := hb.size
        have hB1 : B ≤ w1.heap.size := by omega
        exact ⟨hB1, hP.out s xa ba ea xa' ba' ea' w1 hB1 (StIn.same (fun b o hb' => same_below hb b o (by omega)) h s xa ba ea HI1.out) (StIn.same (fun b o hb' => same_below hb b o (by omega)) h' s xa' ba' ea' HI2.out)⟩
      go_wp2_with fail
      simp only [List.append]
      go_region_held3 (fun w' => w'.cell? ⟨b1, o1 + k * 8, none⟩ = some (.int .i64 s.kind) ∧ w'.cell? ⟨b1, o1 + k * 8 + 1, none⟩ = some (.string s.name) ∧ w'.cell? ⟨b1, o1 + k * 8 + 2, none⟩ = some (.int .i64 s.x.kind) ∧ w'.cell? ⟨b1, o1 + k * 8 + 3, none⟩ = some (.int .i64 s.x.n) ∧ w'.cell? ⟨b1, o1 + k * 8 + 4, none⟩ = some (.string s.x.name) ∧ w'.cell? ⟨b1, o1 + k * 8 + 5, none⟩ = some (.slice xa s.x.kids.length xc) ∧ w'.cell? ⟨b1, o1 + k * 8 + 6, none⟩ = some (.slice ba s.body.length bc) ∧ w'.cell? ⟨b1, o1 + k * 8 + 7, none⟩ = some (.slice ea s.els.length ec) ∧ w'.cell? ⟨b2, o2 + k * 8, none⟩ = some (.int .i64 s.kind) ∧ w'.cell? ⟨b2, o2 + k * 8 + 1, none⟩ = some (.string s.name) ∧ w'.cell? ⟨b2, o2 + k * 8 + 2, none⟩ = some (.int .i64 s.x.kind) ∧ w'.cell? ⟨b2, o2 + k * 8 + 3, none⟩ = some (.int .i64 s.x.n) ∧ w'.cell? ⟨b2, o2 + k * 8 + 4, none⟩ = some (.string s.x.name) ∧ w'.cell? ⟨b2, o2 + k * 8 + 5, none⟩ = some (.slice xa' s.x.kids.length xc') ∧ w'.cell? ⟨b2, o2 + k * 8 + 6, none⟩ = some (.slice ba' s.body.length bc') ∧ w'.cell? ⟨b2, o2 + k * 8 + 7, none⟩ = some (.slice ea' s.els.length ec')) (go_keep)
        (first
          | (go_at_call 23; have hx1 := HB2.out; refine ((HF.out _ HB2.out).2.2 ec ec').mono ?_; rintro e w3 ⟨rfl, hb3⟩; have HB3 : Hid (Below wr.heap.size wr w3) := HB2.out.trans (hb3.mono HB2.out.size); obtain ⟨u0, u1, u2, u3, u4, u5, u6, u7⟩ := HCu.out.on HB3.out l1; obtain ⟨v0, v1, v2, v3, v4, v5, v6, v7⟩ := HCv.out.on HB3.out l2; clear hb3 hx1)
          | (go_at_call 23; have hx1 := HB1.out; refine ((HF.out _ HB1.out).2.1 bc bc').mono ?_; rintro e w2 ⟨rfl, hb2⟩; have HB2 : Hid (Below wr.heap.size wr w2) := HB1.out.trans (hb2.mono HB1.out.size); obtain ⟨u0, u1, u2, u3, u4, u5, u6, u7⟩ := HCu.out.on HB2.out l1; obtain ⟨v0, v1, v2, v3, v4, v5, v6, v7⟩ := HCv.out.on HB2.out l2; clear hb2 hx1)
          | (go_at_call 48; refine (sameExpr_any B hx1 hx2 s.x xa xa' xc xc' wr.drew hBr (ExIn.same (w := wr) (w' := wr.drew) (fun _ _ _ => rfl) hx1 s.x xa HJ1.out) (ExIn.same (w := wr) (w' := wr.drew) (fun _ _ _ => rfl) hx2 s.x xa' HJ2.out)).mono ?_; rintro e w1 ⟨rfl, hb1⟩; have HB1 : Hid (Below wr.heap.size wr w1) := (Below.refl _ wr).drew.trans hb1; obtain ⟨u0, u1, u2, u3, u4, u5, u6, u7⟩ := HCu.out.on HB1.out l1; obtain ⟨v0, v1, v2, v3, v4, v5, v6, v7⟩ := HCv.out.on HB1.out l2; clear hb1))
      have HB4 : Hid (Below w.heap.size w w3) := HBr.out.trans (HB3.out.mono HBr.out.size)
      go_wp2
      go_roundw
      case rel => exact ⟨k + 1, by omega, by go_num, HB4.out⟩
      case measure => simp [intOf]; omega
    · go_wp2
      go_ret
      exact ⟨rfl, HBr.out⟩

theorem sameP (B : Nat) : ∀ h h', SameP B h h'
  | 0, _ => fun s xa ba ea xa' ba' ea' w hB h1 h2 => h1.elim
  | _ + 1, 0 => fun s xa ba ea xa' ba' ea' w hB h1 h2 => h2.elim
  | h + 1, h' + 1 => fun s xa ba ea xa' ba' ea' w hB h1 h2 => by
    obtain ⟨_, _, b3, b4, b5, b6⟩ := h1
    obtain ⟨_, _, _, _, c5, c6⟩ := h2
    exact ⟨sameStats_of B h h' (sameP B h h') _ _ _ w hB b3 b5 c5, sameStats_of B h h' (sameP B h h') _ _ _ w hB b4 b6 c6⟩

theorem sameStats_any {B h h' : Nat} {l : List Sy.St} {a1 a2 : Option Addr} {w : World} (hB : B ≤ w.heap.size) (h1 : BodyIn B w h l a1) (h2 : BodyIn B w h' l a2) : SameB l w a1 a2 := sameStats_of B h h' (sameP B h h') l a1 a2 w hB h1.1 h1.2 h2.2

end Go.Proofs.YtlnikpcoejpknaaGreatDoor

