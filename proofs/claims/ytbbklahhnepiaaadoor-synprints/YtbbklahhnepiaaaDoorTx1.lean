/- The document's args, over what Text answers. -/
import Derived.Test.YtbbklahhnepiaaaDoorDx
import Derived.Test.YtbbklahhnepiaaaDoorPt4
namespace Go.Proofs.YtbbklahhnepiaaaDoor
open Go.RowKit

/-- The library's table of powers lies there. -/
def TabW (w : World) : Prop := Lib.TabIs Tryd.prog w "internal/strconv.uint64pow10" .u64 Lib.pow10Tab

theorem TabW.below {w w' : World} (h : TabW w) (hb : Below w.heap.size w w') : TabW w' := tab_on h (fun _ ho => (hb.block 1 (lt_of_block ho)).trans ho)

/-- What Text answers, at d levels. -/
def TxP (d : Nat) : Prop := ∀ (B h : Nat) (x : Sy.Ex) (a : Option Addr) (c : Nat) (need : Int) (w : World), Sy.ExS d x → Hid (ExIn B w h x a) → B ≤ w.heap.size → Hid (TabW w) → 1 ≤ need → need ≤ 6 →
  Calls Tryd.prog 25 #[exV x a c, .int .i64 need] w fun e w' => e = .returned (.string (Sy.txt (Sy.brT (Sy.exT d) need x))) ∧ Below w.heap.size w w'

theorem levelOf_pos (k : Int) : 1 ≤ Sy.levelOf k := by
  unfold Sy.levelOf
  split <;> omega

theorem br_one (f : Sy.Ex → List ByteArray) (x : Sy.Ex) : Sy.brT f 1 x = f x := by
  unfold Sy.brT
  rw [if_pos (levelOf_pos _)]

theorem same_bel {B : Nat} {w w' : World} (h : Below w.heap.size w w') (hB : B ≤ w.heap.size) : Go.Proofs.YtbbklahhnepiaaaDoor.Same B w w' := fun b o hb => h.cell (p := ⟨b, o, none⟩) (Nat.lt_of_lt_of_le hb hB)

/-- Text where nothing is asked; its answer by a name. -/
theorem TxP.one {d : Nat} (hT : TxP d) (B h : Nat) (x : Sy.Ex) (a : Option Addr) (c : Nat) (t : ByteArray) (w : World) (hx : Hid (Sy.ExS d x)) (hX : ExIn B w h x a) (hB : B ≤ w.heap.size) (htab : TabW w) (ht : Hid (t = Sy.txt (Sy.exT d x))) :
    Calls Tryd.prog 25 #[exV x a c, .int .i64 1] w fun e w' => e = .returned (.string t) ∧ Below w.heap.size w w' := by
  have := hT B h x a c 1 w hx.out hX hB htab (by decide) (by decide)
  rw [br_one, ← ht.out] at this
  exact this

theorem bel_next {w w1 w2 : World} {n : Nat} (h : Below w.heap.size w w1) (k : Below n w1 w2) (hn : w.heap.size ≤ n) : Below w.heap.size w w2 := h.trans (k.mono hn)

set_option maxRecDepth 100000 in
set_option maxHeartbeats 1000000 in
theorem args_of (d : Nat) (hT : Hid (TxP d)) (B h : Nat) (kids : List Sy.Ex) (a : Option Addr) (c : Nat) (r : ByteArray) (w : World) (hl : kids.length ≤ 6) (hok : Hid (∀ k ∈ kids, Sy.ExS d k)) (hwt : Hid (Sy.wt (Sy.listT (Sy.exT d) 0 kids) ≤ 800100))
    (hX : Hid (KidsIn B w h kids a)) (hB : B ≤ w.heap.size) (htab : Hid (TabW w)) (HR : Hid (r = Sy.txt ([⟨#[40]⟩] ++ Sy.listT (Sy.exT d) 0 kids ++ [⟨#[41]⟩]))) :
    Calls Tryd.prog 45 #[.slice a kids.length c] w fun e w' => e = .returned (.string r) ∧ Below w.heap.size w w' := by
  go_enter Tryd.func45, Tryd.ntmps45
  go_wp2
  go_loopw [3, 8] (fun sv i wr => ∃ (k : Nat) (done : List ByteArray) (s : ByteArray), k ≤ kids.length ∧ i = .int .i64 k ∧ sv = .string s ∧ s.size ≤ 900000 ∧ Hid (s = Sy.txt ([⟨#[40]⟩] ++ done)) ∧ Hid (Below w.heap.size w wr) ∧ Hid (done ++ Sy.listT (Sy.exT d) k (kids.drop k) = Sy.listT (Sy.exT d) 0 kids)) (fun _ i _ => kids.length - (intOf i).toNat)
  case atStart => exact ⟨0, [], _, Nat.zero_le _, rfl, rfl, by decide, rfl, Below.refl _ _, by rw [List.drop_zero]; rfl⟩
  case round =>
    obtain ⟨k, done, s, hk, rfl, rfl, hs, HS, HB, HD⟩ := hrel
    by_cases hlt : k < kids.length
    · obtain ⟨x, hxk⟩ : ∃ x, kids[k]? = some x := ⟨_, List.getElem?_eq_getElem hlt⟩
      have HOk : Hid (Sy.ExS d x) := hok.out x (List.mem_of_getElem? hxk)
      obtain ⟨b, off, a', c', rfl, hb, q0, q1, q2, q3, hin⟩ := (hX.out.same (same_bel HB.out hB)).2 k x hxk
      have HIn : Hid (ExIn B wr h x a') := hin
      have hsz := HB.out.size
      obtain ⟨t, ht⟩ : ∃ t, t = Sy.txt (Sy.exT d x) := ⟨_, rfl⟩
      have HT : Hid (t = Sy.txt (Sy.exT d x)) := ht
      have htz : t.size ≤ 800000 := by rw [ht, Sy.txt_size]; exact HOk.out.wt
      have hD2 := HD.out
      rw [listT_at hxk] at hD2
      have HD2 : Hid (done ++ ((if 0 < k then [(⟨#[44]⟩ : ByteArray)] else []) ++ Sy.exT d x ++ Sy.listT (Sy.exT d) (k + 1) (kids.drop (k + 1))) = Sy.listT (Sy.exT d) 0 kids) := hD2
      have htb : Hid (TabW wr) := htab.out.below HB.out
      have HBa : Hid (Below wr.heap.size wr (wr.alloc (exO x a' c'))) := (Below.refl _ wr).alloc (Nat.le_refl _) _
      have HIn2 : Hid (ExIn B (wr.alloc (exO x a' c')) h x a') := HIn.out.same (same_bel HBa.out (by omega))
      have htb2 : Hid (TabW (wr.alloc (exO x a' c'))) := htb.out.below HBa.out
      clear hin ht hD2 hxk
      by_cases h0 : 0 < k
      · have HDn : Hid (s ++ ⟨#[44, 32]⟩ ++ t = Sy.txt ([⟨#[40]⟩] ++ (done ++ [⟨#[44]⟩] ++ Sy.exT d x)) ∧ (done ++ [⟨#[44]⟩] ++ Sy.exT d x) ++ Sy.listT (Sy.exT d) (k + 1) (kids.drop (k + 1)) = Sy.listT (Sy.exT d) 0 kids) := by
          refine ⟨?_, ?_⟩
          · rw [HS.out, HT.out]
            apply Sy.bytes_ext
            simp [Sy.txt_list, Sy.flat_app, Sy.flat_cons]
          · have := HD2.out
            rw [if_pos h0] at this
            rw [← this]
            simp only [List.append_assoc]
        go_wp2_with fail
        refine (hT.out.one B h x a' c' t _ HOk HIn2.out (by simp; omega) htb2.out HT).mono ?_
        rintro e w1 ⟨rfl, hb1⟩
        have HB1 : Hid (Below w.heap.size w w1) := bel_next (bel_next HB.out HBa.out hsz) hb1 (by simp; omega)
        clear hb1 q0 q1 q2 q3
        go_wp2
        go_roundw
        case rel =>
          refine ⟨k + 1, _, _, by omega, by go_num, rfl, ?_, HDn.out.1, HB1, HDn.out.2⟩
          have h1 := HDn.out
          rw [h1.1, Sy.txt_size]
          have h2 := congrArg Sy.wt h1.2
          rw [Sy.wt_app] at h2
          rw [Sy.wt_app]
          have h3 := hwt.out
          have h4 : Sy.wt [⟨#[40]⟩] = 2 := rfl
          omega
        case measure => simp [intOf]; omega
      · have h00 : (k : Int) ≤ 0 := by omega
        have HDn : Hid (s ++ t = Sy.txt ([⟨#[40]⟩] ++ (done ++ Sy.exT d x)) ∧ (done ++ Sy.exT d x) ++ Sy.listT (Sy.exT d) (k + 1) (kids.drop (k + 1)) = Sy.listT (Sy.exT d) 0 kids) := by
          refine ⟨?_, ?_⟩
          · rw [HS.out, HT.out]
            apply Sy.bytes_ext
            simp [Sy.txt_list, Sy.flat_app, Sy.flat_cons]
          · have := HD2.out
            rw [if_neg h0] at this
            rw [← this]
            simp only [List.append_assoc, List.nil_append]
        clear h0
        go_wp2_with fail
        refine (hT.out.one B h x a' c' t _ HOk HIn2.out (by simp; omega) htb2.out HT).mono ?_
        rintro e w1 ⟨rfl, hb1⟩
        have HB1 : Hid (Below w.heap.size w w1) := bel_next (bel_next HB.out HBa.out hsz) hb1 (by simp; omega)
        clear hb1 q0 q1 q2 q3
        go_wp2
        go_roundw
        case rel =>
          refine ⟨k + 1, _, _, by omega, by go_num, rfl, ?_, HDn.out.1, HB1, HDn.out.2⟩
          have h1 := HDn.out
          rw [h1.1, Sy.txt_size]
          have h2 := congrArg Sy.wt h1.2
          rw [Sy.wt_app] at h2
          rw [Sy.wt_app]
          have h3 := hwt.out
          have h4 : Sy.wt [⟨#[40]⟩] = 2 := rfl
          omega
        case measure => simp [intOf]; omega
    · have HDn : Hid (s ++ ⟨#[41, 32]⟩ = r) := by
        have := HD.out
        rw [List.drop_of_length_le (by omega)] at this
        unfold Hid
        rw [HR.out, HS.out, ← this]
        apply Sy.bytes_ext
        simp [Sy.txt_list, Sy.flat_app, Sy.flat_cons, Sy.flat_nil, Sy.listT]
      go_wp2
      go_ret
      exact ⟨by rw [← HDn.out]; rfl, HB.out⟩

end Go.Proofs.YtbbklahhnepiaaaDoor
