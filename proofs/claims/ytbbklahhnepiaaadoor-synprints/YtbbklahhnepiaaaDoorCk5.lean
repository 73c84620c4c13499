/- The walks of the checker's stat and body. -/
import Derived.Test.YtbbklahhnepiaaaDoorCk4
namespace Go.Proofs.YtbbklahhnepiaaaDoor
open Go.RowKit

theorem eight_cell {w : World} {b : Nat} {v0 v1 v2 v3 v4 v5 v6 v7 : Value} {t : TypeId} (h : w.heap[b]? = some (.cells #[v0, v1, v2, v3, v4, v5, v6, v7] t (0, 0))) :
    w.cell? ⟨b, 0, none⟩ = some v0 ∧ w.cell? ⟨b, 1, none⟩ = some v1 ∧ w.cell? ⟨b, 2, none⟩ = some v2 ∧ w.cell? ⟨b, 3, none⟩ = some v3 ∧
    w.cell? ⟨b, 4, none⟩ = some v4 ∧ w.cell? ⟨b, 5, none⟩ = some v5 ∧ w.cell? ⟨b, 6, none⟩ = some v6 ∧ w.cell? ⟨b, 7, none⟩ = some v7 := by simp [World.cell?, h]

/-- What a look at statements says, for the statements at d levels. -/
def StC (C B : Nat) (num : Int) (d : Nat) : Prop :=
  ∀ (h : Nat) (s : Sy.St) (xa : Option Addr) (xc : Nat) (ba : Option Addr) (bc : Nat) (ea : Option Addr) (ec n : Nat) (deep : Int) (r : Except Int Nat) (w : World), deep = 41 - d → d ≤ 41 → Hid (StIn B w h s xa ba ea) → Hid (CK w C num n) → n ≤ 2000 → Hid (r = Sy.stW d s n) →
      Calls Tryd.prog 50 #[.pointer (some ⟨C, 0, none⟩), stV s xa xc ba bc ea ec, .int .i64 deep] w fun e w' => w.grownBy w' (some C) ∧ Fate C num r e w'

set_option maxRecDepth 100000 in
set_option maxHeartbeats 2000000 in
theorem body_of (C B d : Nat) (num : Int) (hBC : B ≤ C) (hS : Hid (StC C B num d)) (h : Nat) (l : List Sy.St) (a : Option Addr) (c n : Nat) (deep : Int) (r : Except Int Nat) (w : World)
    (hdeep : deep = 41 - d) (hd : d ≤ 41) (hX : Hid (BodyIn B w h l a)) (hC : Hid (CK w C num n)) (hn : n ≤ 2000) (hr : Hid (r = Sy.bodyOf (Sy.stW d) l n)) :
    Calls Tryd.prog 33 #[.pointer (some ⟨C, 0, none⟩), .slice a l.length c, .int .i64 deep] w fun e w' => w.grownBy w' (some C) ∧ Fate C num r e w' := by
  have HD : Hid (deep = 41 - (d : Int)) := hdeep
  clear hdeep
  have hlen := hX.out.1
  have hCl := hC.out.lt
  unfold maxLen at hlen
  by_cases h50 : 50 < l.length
  · have HT : Hid (r = .error 5) := by have := hr.out; unfold Sy.bodyOf at this; rw [if_pos h50] at this; exact this
    have HK : Hid ((5 : Int) = if (50 : Int) < (l.length : Int) then 5 else 0) := by rw [if_pos (by omega)]; rfl
    clear h50
    go_enter Tryd.func33, Tryd.ntmps33
    go_wp2_with fail
    refine (Calls.bad0 5 (atMost_any C n num l.length 50 5 _ hC HK) rfl (by decide)).mono ?_
    rintro e w2 ⟨rfl, hg⟩
    go_wp2
    exact ⟨rfl, grown_some hg _, by rw [HT.out]; rfl⟩
  · have HT : Hid (r = Sy.runs (Sy.stW d) l n) := by have := hr.out; unfold Sy.bodyOf at this; rw [if_neg h50] at this; exact this
    have HK : Hid ((0 : Int) = if (50 : Int) < (l.length : Int) then 5 else 0) := by rw [if_neg (by omega)]; rfl
    clear h50
    go_enter Tryd.func33, Tryd.ntmps33
    go_wp2_with fail
    refine (Calls.ok0 (atMost_any C n num l.length 50 0 _ hC HK) rfl).mono ?_
    rintro e w2 ⟨rfl, hg⟩
    have HG2 : Hid (w.grownBy w2 (some C)) := grown_some hg _
    have HC2 : Hid (CK w2 C num n) := hC.out.keep hg (by simp)
    clear hg
    go_wp2
    go_loopw [14] (fun i wr => ∃ k m : Nat, k ≤ l.length ∧ i = .int .i64 k ∧ m ≤ 2000 ∧ Hid (CK wr C num m) ∧ Hid (w.grownBy wr (some C)) ∧ Hid (r = Sy.runs (Sy.stW d) (l.drop k) m)) (fun i _ => l.length - (intOf i).toNat)
    case atStart => exact ⟨0, n, Nat.zero_le _, rfl, hn, HC2, HG2, by rw [List.drop_zero]; exact HT⟩
    case round =>
      obtain ⟨k, m, hk, rfl, hm, HCr, HGr, HRr⟩ := hrel
      by_cases hlt : k < l.length
      · obtain ⟨s, hs⟩ : ∃ s, l[k]? = some s := ⟨_, List.getElem?_eq_getElem hlt⟩
        have HS : Hid (l[k]? = some s) := hs
        obtain ⟨b, off, xa, xc, ba, bc, ea, ec, rfl, hb, c0, c1, c2, c3, c4, c5, c6, c7, hin⟩ := hX.out.2 k s hs
        have hsame := same_grown (B := B) HGr.out (by intro c e; cases e; exact hBC) (by omega)
        rw [← hsame _ _ hb] at c0 c1 c2 c3 c4 c5 c6 c7
        have HIn : Hid (StIn B wr h s xa ba ea) := hin.same hsame
        clear hin hsame hs
        obtain ⟨r2, hr2⟩ : ∃ r2, r2 = Sy.stW d s m := ⟨_, rfl⟩
        have HR2 : Hid (r2 = Sy.stW d s m) := hr2
        clear hr2
        go_wp2_with fail
        refine (hS.out h s xa xc ba bc ea ec m deep r2 _ HD.out hd (HIn.out.same (same_grown (World.grownBy_alloc _ _ none) (by simp) (by have := HGr.out.size; omega))) (HCr.out.alloc _) hm HR2).mono ?_
        rintro e w3 ⟨hg, hf⟩
        have HG3 : Hid (w.grownBy w3 (some C)) := grown_trans HGr.out (alloc_grown hg)
        cases r2 with
        | ok m2 =>
          obtain ⟨rfl, hck⟩ := hf
          have HC3 : Hid (CK w3 C num m2) := hck
          have hm2 : m2 ≤ 2000 := Sy.stW_le _ _ _ _ hm HR2.out.symm
          have HR3 : Hid (r = Sy.runs (Sy.stW d) (l.drop (k + 1)) m2) := HRr.out.trans (runs_ok HS.out HR2.out.symm)
          clear hg hck c0 c1 c2 c3 c4 c5 c6 c7
          go_wp2
          go_roundw
          case rel => exact ⟨k + 1, m2, by omega, by go_num, hm2, HC3, HG3, HR3⟩
          case measure => simp [intOf]; omega
        | error er =>
          obtain rfl : e = .panicked [fltE er num] := hf
          have HR3 : Hid (r = .error er) := HRr.out.trans (runs_err HS.out HR2.out.symm)
          clear hg c0 c1 c2 c3 c4 c5 c6 c7
          go_wp2
          exact ⟨rfl, HG3.out, by rw [HR3.out]; rfl⟩
      · have HR3 : Hid (r = .ok m) := by
          have := HRr.out
          rw [List.drop_of_length_le (by omega)] at this
          exact this
        go_wp2
        go_end0
        exact ⟨HGr.out, by rw [HR3.out]; exact ⟨rfl, HCr.out⟩⟩

end Go.Proofs.YtbbklahhnepiaaaDoor
