/- The walk of the document's look at an expression. -/
import Derived.Test.YtbbklahhnepiaaaDoorRc1
namespace Go.Proofs.YtbbklahhnepiaaaDoor
open Go.RowKit

/-- What the walk knows behind the head of an expression. -/
def RMid (w : World) (C : Nat) (o : Obj) (n : Nat) (w1 : World) : Prop := w.grownBy w1 (some C) ∧ CT w1 C n ∧ w1.heap[w.heap.size]? = some o

theorem RMid.on {w : World} {C : Nat} {o : Obj} {n : Nat} {w1 w2 : World} (h : RMid w C o n w1) (hg : w1.grownBy w2 none) : RMid w C o n w2 :=
  ⟨grown_trans h.1 (grown_some hg _), h.2.1.keep hg (by simp), box_on h.2.2 hg (by simp)⟩
theorem RMid.past {w : World} {C : Nat} {o : Obj} {n m : Nat} {w1 w2 : World} (h : RMid w C o n w1) (hC : C < w.heap.size) (hg : w1.grownBy w2 (some C)) (hk : CT w2 C m) : RMid w C o m w2 :=
  ⟨grown_trans h.1 hg, hk, box_on h.2.2 hg (by simp; omega)⟩
theorem RMid.same {w : World} {B C : Nat} {o : Obj} {n : Nat} {w1 : World} (h : RMid w C o n w1) (hBC : B ≤ C) (hC : C < w.heap.size) : Go.Proofs.YtbbklahhnepiaaaDoor.Same B w w1 :=
  same_grown h.1 (by intro c e; cases e; exact hBC) (by omega)

abbrev exO (x : Sy.Ex) (a : Option Addr) (c : Nat) : Obj := .cells #[.int .i64 x.kind, .int .i64 x.n, .string x.name, .slice a x.kids.length c] 70 (0, 0)

theorem grown_of_below {w w1 : World} (hb : Below w.heap.size w w1) : w.grownBy w1 none := ⟨hb.os, hb.tape, hb.output, hb.size, fun k hk _ => hb.block k hk⟩

/-- The document's test of the number of kids. -/
theorem kids_test {x : Sy.Ex} (h1 : 1 ≤ x.kind) (h2 : x.kind ≤ 24) : (0 ≤ kidN x.kind ∧ (x.kids.length : Int) ≠ kidN x.kind ∨ 6 < (x.kids.length : Int)) ↔ exTail x ≠ 0 := by
  unfold exTail kidN Sy.least Sy.most
  have hL0 : (0 : Int) ≤ (x.kids.length : Int) := by omega
  generalize (x.kids.length : Int) = L at *
  have hk : x.kind = 1 ∨ x.kind = 2 ∨ x.kind = 3 ∨ x.kind = 4 ∨ x.kind = 5 ∨ x.kind = 6 ∨ x.kind = 7 ∨ x.kind = 8 ∨ x.kind = 9 ∨ x.kind = 10 ∨ x.kind = 11 ∨ x.kind = 12 ∨ x.kind = 13 ∨ x.kind = 14 ∨ x.kind = 15 ∨ x.kind = 16 ∨ x.kind = 17 ∨ x.kind = 18 ∨ x.kind = 19 ∨ x.kind = 20 ∨ x.kind = 21 ∨ x.kind = 22 ∨ x.kind = 23 ∨ x.kind = 24 := by omega
  rcases hk with h | h | h | h | h | h | h | h | h | h | h | h | h | h | h | h | h | h | h | h | h | h | h | h
  all_goals
    rw [h]
    simp
    try omega

theorem exTail_five {x : Sy.Ex} (h : exTail x ≠ 0) : exTail x = 5 := by
  unfold exTail at h ⊢
  split
  · rfl
  · rename_i h2; rw [if_neg h2] at h; exact absurd rfl h






set_option maxRecDepth 100000 in
set_option maxHeartbeats 8000000 in
theorem rexpr_step (C B d : Nat) (hBC : B ≤ C)
    (ih : ∀ (h : Nat) (x : Sy.Ex) (a : Option Addr) (c n : Nat) (deep : Int) (r : Except Int Nat) (w : World), deep = 41 - d → d ≤ 41 → Hid (ExIn B w h x a) → Hid (CT w C n) → n ≤ 2000 → Hid (r = Sy.exW d x n) →
      Calls Tryd.prog 53 #[.pointer (some ⟨C, 0, none⟩), exV x a c, .int .i64 deep] w fun e w' => w.grownBy w' (some C) ∧ FateR C r e w')
    (h : Nat) (x : Sy.Ex) (a : Option Addr) (c n : Nat) (deep : Int) (r : Except Int Nat) (w : World) (hdeep : deep = 41 - ((d + 1 : Nat) : Int)) (hd : d + 1 ≤ 41) (hX : Hid (ExIn B w (h + 1) x a)) (hC : Hid (CT w C n)) (hn : n ≤ 2000) (hr : Hid (r = Sy.exW (d + 1) x n)) :
    Calls Tryd.prog 53 #[.pointer (some ⟨C, 0, none⟩), exV x a c, .int .i64 deep] w fun e w' => w.grownBy w' (some C) ∧ FateR C r e w' := by
  have HD : Hid (deep = 41 - ((d + 1 : Nat) : Int)) := hdeep
  have hdp0 : 0 ≤ deep := by omega
  have hdp1 : deep ≤ 40 := by omega
  clear hdeep
  have hlen := hX.out.2.1
  have hname := hX.out.1
  have hCl := hC.out.lt
  unfold maxLen at hlen
  have HC0 : Hid (CT (w.alloc (exO x a c)) C n) := hC.out.alloc _
  by_cases hmore : n + 1 ≤ 2000
  · have HB1 : Hid (true = decide (n + 1 ≤ 2000 ∧ d + 1 ≠ 0)) := by rw [decide_eq_true ⟨hmore, by omega⟩]; rfl
    by_cases hlow : x.kind < 1
    · have HT : Hid (r = .error 1) := hr.out.trans (by rw [exW_bad (by unfold Sy.nodeW; rw [if_neg (by omega), if_pos (.inl hlow)]; decide)]; unfold Sy.nodeW; rw [if_neg (by omega), if_pos (.inl hlow)])
      clear hmore
      go_enter Tryd.func53, Tryd.ntmps53
      go_wp2_with fail
      refine (more_any C n (d + 1) deep true _ HC0 hn HD HB1).mono ?_
      rintro e w1 ⟨rfl, hg, hck⟩
      have HM : Hid (RMid w C (exO x a c) (n + 1) w1) := ⟨alloc_grown hg, hck, box_in hg (by simp; omega)⟩
      clear hg hck
      obtain ⟨b0, b1, b2, b3⟩ := four_cell HM.out.2.2
      go_wp2
      go_ret
      exact ⟨HM.out.1, by rw [HT.out]; exact ⟨rfl, by decide⟩⟩
    · by_cases hhigh : 24 < x.kind
      · have HT : Hid (r = .error 1) := hr.out.trans (by rw [exW_bad (by unfold Sy.nodeW; rw [if_neg (by omega), if_pos (.inr hhigh)]; decide)]; unfold Sy.nodeW; rw [if_neg (by omega), if_pos (.inr hhigh)])
        clear hmore
        go_enter Tryd.func53, Tryd.ntmps53
        go_wp2_with fail
        refine (more_any C n (d + 1) deep true _ HC0 hn HD HB1).mono ?_
        rintro e w1 ⟨rfl, hg, hck⟩
        have HM : Hid (RMid w C (exO x a c) (n + 1) w1) := ⟨alloc_grown hg, hck, box_in hg (by simp; omega)⟩
        clear hg hck
        obtain ⟨b0, b1, b2, b3⟩ := four_cell HM.out.2.2
        go_wp2
        go_ret
        exact ⟨HM.out.1, by rw [HT.out]; exact ⟨rfl, by decide⟩⟩
      · have hk1 : 1 ≤ x.kind := by omega
        have hk2 : x.kind ≤ 24 := by omega
        have hn1 := hmore
        have HN : Hid (Sy.nodeW x.kind 24 (d + 1) n = 0) := by unfold Sy.nodeW; rw [if_neg (by omega), if_neg (by omega)]; rfl
        clear hmore hlow hhigh
        rcases (show x.kind = 1 ∨ x.kind = 2 ∨ (x.kind = 3 ∨ x.kind = 19 ∨ x.kind = 20 ∨ x.kind = 22) ∨ (x.kind ≠ 1 ∧ x.kind ≠ 2 ∧ x.kind ≠ 3 ∧ x.kind ≠ 19 ∧ x.kind ≠ 20 ∧ x.kind ≠ 22) by omega) with h1 | h1 | h1 | h1
        · have e1 : (x.kind == 1) = true := by simp; omega
          have e2 : (x.kind == 2) = false := by simp; omega
          have e3 : (x.kind == 3) = false := by simp; omega
          have e19 : (x.kind == 19) = false := by simp; omega
          have e20 : (x.kind == 20) = false := by simp; omega
          have e22 : (x.kind == 22) = false := by simp; omega
          have hh := exHead_num h1
          clear h1
          by_cases hr1 : x.n < 0
          · have HT : Hid (r = .error 3) := hr.out.trans (exW_head HN.out 3 (by rw [hh, if_pos (.inl hr1)]) (by decide))
            clear hh
            go_enter Tryd.func53, Tryd.ntmps53
            go_wp2_with fail
            refine (more_any C n (d + 1) deep true _ HC0 hn HD HB1).mono ?_
            rintro e w1 ⟨rfl, hg, hck⟩
            have HM : Hid (RMid w C (exO x a c) (n + 1) w1) := ⟨alloc_grown hg, hck, box_in hg (by simp; omega)⟩
            clear hg hck
            obtain ⟨b0, b1, b2, b3⟩ := four_cell HM.out.2.2
            go_wp2
            go_ret
            exact ⟨HM.out.1, by rw [HT.out]; exact ⟨rfl, by decide⟩⟩
          · by_cases hr2 : 999999999999999 < x.n
            · have HT : Hid (r = .error 3) := hr.out.trans (exW_head HN.out 3 (by rw [hh, if_pos (.inr hr2)]) (by decide))
              clear hh
              go_enter Tryd.func53, Tryd.ntmps53
              go_wp2_with fail
              refine (more_any C n (d + 1) deep true _ HC0 hn HD HB1).mono ?_
              rintro e w1 ⟨rfl, hg, hck⟩
              have HM : Hid (RMid w C (exO x a c) (n + 1) w1) := ⟨alloc_grown hg, hck, box_in hg (by simp; omega)⟩
              clear hg hck
              obtain ⟨b0, b1, b2, b3⟩ := four_cell HM.out.2.2
              go_wp2
              go_ret
              exact ⟨HM.out.1, by rw [HT.out]; exact ⟨rfl, by decide⟩⟩
            · have HT : Hid (r = if exTail x ≠ 0 then .error (exTail x) else Sy.runs (Sy.exW d) x.kids (n + 1)) := by
                rw [if_neg (by omega)] at hh
                by_cases ht : exTail x = 0
                · rw [if_neg (by simpa using ht)]; exact hr.out.trans (exW_kids HN.out (by rw [hh, ht]))
                · rw [if_pos (by simpa using ht)]; exact hr.out.trans (exW_head HN.out _ hh ht)
              clear hh
              go_enter Tryd.func53, Tryd.ntmps53
              go_wp2_with fail
              refine (more_any C n (d + 1) deep true _ HC0 hn HD HB1).mono ?_
              rintro e w1 ⟨rfl, hg, hck⟩
              have HM : Hid (RMid w C (exO x a c) (n + 1) w1) := ⟨alloc_grown hg, hck, box_in hg (by simp; omega)⟩
              clear hg hck
              obtain ⟨b0, b1, b2, b3⟩ := four_cell HM.out.2.2
              go_wp2_with fail
              refine (kidsN_any x.kind _ hk1 hk2).mono ?_
              rintro e w3 ⟨rfl, hg⟩
              have HM3 : Hid (RMid w C (exO x a c) (n + 1) w3) := HM.out.on hg
              clear hg b0 b1 b2 b3 HM
              have HM := HM3
              clear HM3
              obtain ⟨b0, b1, b2, b3⟩ := four_cell HM.out.2.2
              by_cases ht : exTail x = 0
              · have HT2 : Hid (r = Sy.runs (Sy.exW d) x.kids (n + 1)) := by
                  have := HT.out; rw [if_neg (by simpa using ht)] at this; exact this
                have hq := mt (kids_test hk1 hk2).1 (by simpa using ht)
                have l6 : (x.kids.length : Int) ≤ 6 := by omega
                obtain ⟨kn, hkn⟩ : ∃ kn, kidN x.kind = kn := ⟨_, rfl⟩
                rw [hkn] at hq
                rw [hkn]
                have g0 : (decide (kn ≥ 0) && ((x.kids.length : Int) != kn)) = false := by
                  rw [Bool.and_eq_false_iff]
                  by_cases h0 : 0 ≤ kn
                  · right; simp; omega
                  · left; simp; omega
                have g1 : kn < 0 ∨ (0 ≤ kn ∧ ((x.kids.length : Int) != kn) = false) := by
                  by_cases h0 : 0 ≤ kn
                  · right; exact ⟨h0, by simp; omega⟩
                  · left; omega
                clear hq ht hkn g0
                rcases g1 with g1 | ⟨g1, g2⟩
                all_goals
                  go_wp2
                  go_loopw [96] (fun i wr => ∃ k m : Nat, k ≤ x.kids.length ∧ i = .int .i64 k ∧ m ≤ 2000 ∧ Hid (CT wr C m) ∧ Hid (w.grownBy wr (some C)) ∧ Hid (r = Sy.runs (Sy.exW d) (x.kids.drop k) m)) (fun i _ => x.kids.length - (intOf i).toNat)
                  case atStart => exact ⟨0, n + 1, Nat.zero_le _, rfl, hn1, HM.out.2.1, HM.out.1, by rw [List.drop_zero]; exact HT2⟩
                  case round =>
                    obtain ⟨k, m, hk, rfl, hm, HCr, HGr, HRr⟩ := hrel
                    clear b0 b1 b2 b3
                    by_cases hlt : k < x.kids.length
                    · obtain ⟨kid, hkid⟩ : ∃ kid, x.kids[k]? = some kid := ⟨_, List.getElem?_eq_getElem hlt⟩
                      have HKid : Hid (x.kids[k]? = some kid) := hkid
                      obtain ⟨b, off, a', c', rfl, hb, c0, c1, c2, c3, hin⟩ := hX.out.2.2 k kid hkid
                      have hsame := same_grown (B := B) HGr.out (by intro c e; cases e; exact hBC) (by omega)
                      rw [← hsame _ _ hb] at c0 c1 c2 c3
                      have HIn : Hid (ExIn B wr h kid a') := hin.same hsame
                      clear hin hsame hkid
                      obtain ⟨r2, hr2⟩ : ∃ r2, r2 = Sy.exW d kid m := ⟨_, rfl⟩
                      have HR2 : Hid (r2 = Sy.exW d kid m) := hr2
                      clear hr2
                      go_wp2_with fail
                      refine (ih h kid a' c' m (deep + 1) r2 _ (by have := HD.out; omega) (by omega) (HIn.out.same (same_grown (World.grownBy_alloc _ _ none) (by simp) (by have := HGr.out.size; omega))) (HCr.out.alloc _) hm HR2).mono ?_
                      rintro e w4 ⟨hg, hf⟩
                      have HG3 : Hid (w.grownBy w4 (some C)) := grown_trans HGr.out (alloc_grown hg)
                      cases r2 with
                      | ok m2 =>
                        obtain ⟨rfl, hck⟩ := hf
                        have HC3 : Hid (CT w4 C m2) := hck
                        have hm2 : m2 ≤ 2000 := Sy.exW_le _ _ _ _ hm HR2.out.symm
                        have HR3 : Hid (r = Sy.runs (Sy.exW d) (x.kids.drop (k + 1)) m2) := HRr.out.trans (runs_ok HKid.out HR2.out.symm)
                        clear hg hck c0 c1 c2 c3
                        go_wp2
                        go_roundw
                        case rel => exact ⟨k + 1, m2, by omega, by go_num, hm2, HC3, HG3, HR3⟩
                        case measure => simp [intOf]; omega
                      | error er =>
                        obtain ⟨rfl, hne⟩ := hf
                        have HR3 : Hid (r = .error er) := HRr.out.trans (runs_err HKid.out HR2.out.symm)
                        have e0 : (er != 0) = true := by simp; exact hne
                        have HNe : Hid (er ≠ 0) := hne
                        clear hg c0 c1 c2 c3 hne
                        go_wp2
                        go_ret
                        exact ⟨HG3.out, by rw [HR3.out]; exact ⟨rfl, HNe.out⟩⟩
                    · have HR3 : Hid (r = .ok m) := by
                        have := HRr.out
                        rw [List.drop_of_length_le (by omega)] at this
                        exact this
                      go_wp2
                      go_ret
                      exact ⟨HGr.out, by rw [HR3.out]; exact ⟨rfl, HCr.out⟩⟩
              · have HT2 : Hid (r = .error 5) := by
                  have := HT.out; rw [if_pos (by simpa using ht), exTail_five ht] at this; exact this
                have hq := (kids_test hk1 hk2).2 ht
                obtain ⟨kn, hkn⟩ : ∃ kn, kidN x.kind = kn := ⟨_, rfl⟩
                rw [hkn] at hq
                rw [hkn]
                have g1 : (0 ≤ kn ∧ ((x.kids.length : Int) != kn) = true) ∨ (kn < 0 ∧ 6 < (x.kids.length : Int)) ∨ (0 ≤ kn ∧ ((x.kids.length : Int) != kn) = false ∧ 6 < (x.kids.length : Int)) := by
                  by_cases h0 : 0 ≤ kn
                  · by_cases h1 : (x.kids.length : Int) = kn
                    · right; right; exact ⟨h0, by simp; omega, by omega⟩
                    · left; exact ⟨h0, by simp; omega⟩
                  · right; left; exact ⟨by omega, by omega⟩
                clear hq ht hkn
                rcases g1 with ⟨g1, g2⟩ | ⟨g1, g2⟩ | ⟨g1, g2, g3⟩
                all_goals
                  go_wp2
                  go_ret
                  exact ⟨HM.out.1, by rw [HT2.out]; exact ⟨rfl, by decide⟩⟩
        · have e1 : (x.kind == 1) = false := by simp; omega
          have e2 : (x.kind == 2) = true := by simp; omega
          have e3 : (x.kind == 3) = false := by simp; omega
          have e19 : (x.kind == 19) = false := by simp; omega
          have e20 : (x.kind == 20) = false := by simp; omega
          have e22 : (x.kind == 22) = false := by simp; omega
          have hh := exHead_bool h1
          clear h1
          by_cases hr1 : x.n < 0
          · have HT : Hid (r = .error 3) := hr.out.trans (exW_head HN.out 3 (by rw [hh, if_pos (.inl hr1)]) (by decide))
            clear hh
            go_enter Tryd.func53, Tryd.ntmps53
            go_wp2_with fail
            refine (more_any C n (d + 1) deep true _ HC0 hn HD HB1).mono ?_
            rintro e w1 ⟨rfl, hg, hck⟩
            have HM : Hid (RMid w C (exO x a c) (n + 1) w1) := ⟨alloc_grown hg, hck, box_in hg (by simp; omega)⟩
            clear hg hck
            obtain ⟨b0, b1, b2, b3⟩ := four_cell HM.out.2.2
            go_wp2
            go_ret
            exact ⟨HM.out.1, by rw [HT.out]; exact ⟨rfl, by decide⟩⟩
          · by_cases hr2 : 1 < x.n
            · have HT : Hid (r = .error 3) := hr.out.trans (exW_head HN.out 3 (by rw [hh, if_pos (.inr hr2)]) (by decide))
              clear hh
              go_enter Tryd.func53, Tryd.ntmps53
              go_wp2_with fail
              refine (more_any C n (d + 1) deep true _ HC0 hn HD HB1).mono ?_
              rintro e w1 ⟨rfl, hg, hck⟩
              have HM : Hid (RMid w C (exO x a c) (n + 1) w1) := ⟨alloc_grown hg, hck, box_in hg (by simp; omega)⟩
              clear hg hck
              obtain ⟨b0, b1, b2, b3⟩ := four_cell HM.out.2.2
              go_wp2
              go_ret
              exact ⟨HM.out.1, by rw [HT.out]; exact ⟨rfl, by decide⟩⟩
            · have HT : Hid (r = if exTail x ≠ 0 then .error (exTail x) else Sy.runs (Sy.exW d) x.kids (n + 1)) := by
                rw [if_neg (by omega)] at hh
                by_cases ht : exTail x = 0
                · rw [if_neg (by simpa using ht)]; exact hr.out.trans (exW_kids HN.out (by rw [hh, ht]))
                · rw [if_pos (by simpa using ht)]; exact hr.out.trans (exW_head HN.out _ hh ht)
              clear hh
              go_enter Tryd.func53, Tryd.ntmps53
              go_wp2_with fail
              refine (more_any C n (d + 1) deep true _ HC0 hn HD HB1).mono ?_
              rintro e w1 ⟨rfl, hg, hck⟩
              have HM : Hid (RMid w C (exO x a c) (n + 1) w1) := ⟨alloc_grown hg, hck, box_in hg (by simp; omega)⟩
              clear hg hck
              obtain ⟨b0, b1, b2, b3⟩ := four_cell HM.out.2.2
              go_wp2_with fail
              refine (kidsN_any x.kind _ hk1 hk2).mono ?_
              rintro e w3 ⟨rfl, hg⟩
              have HM3 : Hid (RMid w C (exO x a c) (n + 1) w3) := HM.out.on hg
              clear hg b0 b1 b2 b3 HM
              have HM := HM3
              clear HM3
              obtain ⟨b0, b1, b2, b3⟩ := four_cell HM.out.2.2
              by_cases ht : exTail x = 0
              · have HT2 : Hid (r = Sy.runs (Sy.exW d) x.kids (n + 1)) := by
                  have := HT.out; rw [if_neg (by simpa using ht)] at this; exact this
                have hq := mt (kids_test hk1 hk2).1 (by simpa using ht)
                have l6 : (x.kids.length : Int) ≤ 6 := by omega
                obtain ⟨kn, hkn⟩ : ∃ kn, kidN x.kind = kn := ⟨_, rfl⟩
                rw [hkn] at hq
                rw [hkn]
                have g0 : (decide (kn ≥ 0) && ((x.kids.length : Int) != kn)) = false := by
                  rw [Bool.and_eq_false_iff]
                  by_cases h0 : 0 ≤ kn
                  · right; simp; omega
                  · left; simp; omega
                have g1 : kn < 0 ∨ (0 ≤ kn ∧ ((x.kids.length : Int) != kn) = false) := by
                  by_cases h0 : 0 ≤ kn
                  · right; exact ⟨h0, by simp; omega⟩
                  · left; omega
                clear hq ht hkn g0
                rcases g1 with g1 | ⟨g1, g2⟩
                all_goals
                  go_wp2
                  go_loopw [96] (fun i wr => ∃ k m : Nat, k ≤ x.kids.length ∧ i = .int .i64 k ∧ m ≤ 2000 ∧ Hid (CT wr C m) ∧ Hid (w.grownBy wr (some C)) ∧ Hid (r = Sy.runs (Sy.exW d) (x.kids.drop k) m)) (fun i _ => x.kids.length - (intOf i).toNat)
                  case atStart => exact ⟨0, n + 1, Nat.zero_le _, rfl, hn1, HM.out.2.1, HM.out.1, by rw [List.drop_zero]; exact HT2⟩
                  case round =>
                    obtain ⟨k, m, hk, rfl, hm, HCr, HGr, HRr⟩ := hrel
                    clear b0 b1 b2 b3
                    by_cases hlt : k < x.kids.length
                    · obtain ⟨kid, hkid⟩ : ∃ kid, x.kids[k]? = some kid := ⟨_, List.getElem?_eq_getElem hlt⟩
                      have HKid : Hid (x.kids[k]? = some kid) := hkid
                      obtain ⟨b, off, a', c', rfl, hb, c0, c1, c2, c3, hin⟩ := hX.out.2.2 k kid hkid
                      have hsame := same_grown (B := B) HGr.out (by intro c e; cases e; exact hBC) (by omega)
                      rw [← hsame _ _ hb] at c0 c1 c2 c3
                      have HIn : Hid (ExIn B wr h kid a') := hin.same hsame
                      clear hin hsame hkid
                      obtain ⟨r2, hr2⟩ : ∃ r2, r2 = Sy.exW d kid m := ⟨_, rfl⟩
                      have HR2 : Hid (r2 = Sy.exW d kid m) := hr2
                      clear hr2
                      go_wp2_with fail
                      refine (ih h kid a' c' m (deep + 1) r2 _ (by have := HD.out; omega) (by omega) (HIn.out.same (same_grown (World.grownBy_alloc _ _ none) (by simp) (by have := HGr.out.size; omega))) (HCr.out.alloc _) hm HR2).mono ?_
                      rintro e w4 ⟨hg, hf⟩
                      have HG3 : Hid (w.grownBy w4 (some C)) := grown_trans HGr.out (alloc_grown hg)
                      cases r2 with
                      | ok m2 =>
                        obtain ⟨rfl, hck⟩ := hf
                        have HC3 : Hid (CT w4 C m2) := hck
                        have hm2 : m2 ≤ 2000 := Sy.exW_le _ _ _ _ hm HR2.out.symm
                        have HR3 : Hid (r = Sy.runs (Sy.exW d) (x.kids.drop (k + 1)) m2) := HRr.out.trans (runs_ok HKid.out HR2.out.symm)
                        clear hg hck c0 c1 c2 c3
                        go_wp2
                        go_roundw
                        case rel => exact ⟨k + 1, m2, by omega, by go_num, hm2, HC3, HG3, HR3⟩
                        case measure => simp [intOf]; omega
                      | error er =>
                        obtain ⟨rfl, hne⟩ := hf
                        have HR3 : Hid (r = .error er) := HRr.out.trans (runs_err HKid.out HR2.out.symm)
                        have e0 : (er != 0) = true := by simp; exact hne
                        have HNe : Hid (er ≠ 0) := hne
                        clear hg c0 c1 c2 c3 hne
                        go_wp2
                        go_ret
                        exact ⟨HG3.out, by rw [HR3.out]; exact ⟨rfl, HNe.out⟩⟩
                    · have HR3 : Hid (r = .ok m) := by
                        have := HRr.out
                        rw [List.drop_of_length_le (by omega)] at this
                        exact this
                      go_wp2
                      go_ret
                      exact ⟨HGr.out, by rw [HR3.out]; exact ⟨rfl, HCr.out⟩⟩
              · have HT2 : Hid (r = .error 5) := by
                  have := HT.out; rw [if_pos (by simpa using ht), exTail_five ht] at this; exact this
                have hq := (kids_test hk1 hk2).2 ht
                obtain ⟨kn, hkn⟩ : ∃ kn, kidN x.kind = kn := ⟨_, rfl⟩
                rw [hkn] at hq
                rw [hkn]
                have g1 : (0 ≤ kn ∧ ((x.kids.length : Int) != kn) = true) ∨ (kn < 0 ∧ 6 < (x.kids.length : Int)) ∨ (0 ≤ kn ∧ ((x.kids.length : Int) != kn) = false ∧ 6 < (x.kids.length : Int)) := by
                  by_cases h0 : 0 ≤ kn
                  · by_cases h1 : (x.kids.length : Int) = kn
                    · right; right; exact ⟨h0, by simp; omega, by omega⟩
                    · left; exact ⟨h0, by simp; omega⟩
                  · right; left; exact ⟨by omega, by omega⟩
                clear hq ht hkn
                rcases g1 with ⟨g1, g2⟩ | ⟨g1, g2⟩ | ⟨g1, g2, g3⟩
                all_goals
                  go_wp2
                  go_ret
                  exact ⟨HM.out.1, by rw [HT2.out]; exact ⟨rfl, by decide⟩⟩
        · have hh := exHead_name h1
          cases hnm : Sy.nm x.name
          · have HT : Hid (r = .error 7) := hr.out.trans (exW_head HN.out 7 (by rw [hh, if_pos hnm]) (by decide))
            have HNm : Hid (Lx.named x.name.toList = false) := hnm
            clear hh hnm
            rcases h1 with h1 | h1 | h1 | h1
            · have e1 : (x.kind == 1) = false := by simp; omega
              have e2 : (x.kind == 2) = false := by simp; omega
              have e3 : (x.kind == 3) = true := by simp; omega
              have e19 : (x.kind == 19) = false := by simp; omega
              have e20 : (x.kind == 20) = false := by simp; omega
              have e22 : (x.kind == 22) = false := by simp; omega
              clear h1
              go_enter Tryd.func53, Tryd.ntmps53
              go_wp2_with fail
              refine (more_any C n (d + 1) deep true _ HC0 hn HD HB1).mono ?_
              rintro e w1 ⟨rfl, hg, hck⟩
              have HM : Hid (RMid w C (exO x a c) (n + 1) w1) := ⟨alloc_grown hg, hck, box_in hg (by simp; omega)⟩
              clear hg hck
              obtain ⟨b0, b1, b2, b3⟩ := four_cell HM.out.2.2
              go_wp2_with fail
              refine (refNamed_any x.name _ hname).mono ?_
              rintro e w2 ⟨rfl, hb⟩
              rw [HNm.out]
              have HG2 : Hid (w.grownBy w2 (some C)) := grown_trans HM.out.1 (grown_some (grown_of_below hb) _)
              clear hb
              go_wp2
              go_ret
              exact ⟨HG2.out, by rw [HT.out]; exact ⟨rfl, by decide⟩⟩
            · have e1 : (x.kind == 1) = false := by simp; omega
              have e2 : (x.kind == 2) = false := by simp; omega
              have e3 : (x.kind == 3) = false := by simp; omega
              have e19 : (x.kind == 19) = true := by simp; omega
              have e20 : (x.kind == 20) = false := by simp; omega
              have e22 : (x.kind == 22) = false := by simp; omega
              clear h1
              go_enter Tryd.func53, Tryd.ntmps53
              go_wp2_with fail
              refine (more_any C n (d + 1) deep true _ HC0 hn HD HB1).mono ?_
              rintro e w1 ⟨rfl, hg, hck⟩
              have HM : Hid (RMid w C (exO x a c) (n + 1) w1) := ⟨alloc_grown hg, hck, box_in hg (by simp; omega)⟩
              clear hg hck
              obtain ⟨b0, b1, b2, b3⟩ := four_cell HM.out.2.2
              go_wp2_with fail
              refine (refNamed_any x.name _ hname).mono ?_
              rintro e w2 ⟨rfl, hb⟩
              rw [HNm.out]
              have HG2 : Hid (w.grownBy w2 (some C)) := grown_trans HM.out.1 (grown_some (grown_of_below hb) _)
              clear hb
              go_wp2
              go_ret
              exact ⟨HG2.out, by rw [HT.out]; exact ⟨rfl, by decide⟩⟩
            · have e1 : (x.kind == 1) = false := by simp; omega
              have e2 : (x.kind == 2) = false := by simp; omega
              have e3 : (x.kind == 3) = false := by simp; omega
              have e19 : (x.kind == 19) = false := by simp; omega
              have e20 : (x.kind == 20) = true := by simp; omega
              have e22 : (x.kind == 22) = false := by simp; omega
              clear h1
              go_enter Tryd.func53, Tryd.ntmps53
              go_wp2_with fail
              refine (more_any C n (d + 1) deep true _ HC0 hn HD HB1).mono ?_
              rintro e w1 ⟨rfl, hg, hck⟩
              have HM : Hid (RMid w C (exO x a c) (n + 1) w1) := ⟨alloc_grown hg, hck, box_in hg (by simp; omega)⟩
              clear hg hck
              obtain ⟨b0, b1, b2, b3⟩ := four_cell HM.out.2.2
              go_wp2_with fail
              refine (refNamed_any x.name _ hname).mono ?_
              rintro e w2 ⟨rfl, hb⟩
              rw [HNm.out]
              have HG2 : Hid (w.grownBy w2 (some C)) := grown_trans HM.out.1 (grown_some (grown_of_below hb) _)
              clear hb
              go_wp2
              go_ret
              exact ⟨HG2.out, by rw [HT.out]; exact ⟨rfl, by decide⟩⟩
            · have e1 : (x.kind == 1) = false := by simp; omega
              have e2 : (x.kind == 2) = false := by simp; omega
              have e3 : (x.kind == 3) = false := by simp; omega
              have e19 : (x.kind == 19) = false := by simp; omega
              have e20 : (x.kind == 20) = false := by simp; omega
              have e22 : (x.kind == 22) = true := by simp; omega
              clear h1
              go_enter Tryd.func53, Tryd.ntmps53
              go_wp2_with fail
              refine (more_any C n (d + 1) deep true _ HC0 hn HD HB1).mono ?_
              rintro e w1 ⟨rfl, hg, hck⟩
              have HM : Hid (RMid w C (exO x a c) (n + 1) w1) := ⟨alloc_grown hg, hck, box_in hg (by simp; omega)⟩
              clear hg hck
              obtain ⟨b0, b1, b2, b3⟩ := four_cell HM.out.2.2
              go_wp2_with fail
              refine (refNamed_any x.name _ hname).mono ?_
              rintro e w2 ⟨rfl, hb⟩
              rw [HNm.out]
              have HG2 : Hid (w.grownBy w2 (some C)) := grown_trans HM.out.1 (grown_some (grown_of_below hb) _)
              clear hb
              go_wp2
              go_ret
              exact ⟨HG2.out, by rw [HT.out]; exact ⟨rfl, by decide⟩⟩
          · have HT : Hid (r = if exTail x ≠ 0 then .error (exTail x) else Sy.runs (Sy.exW d) x.kids (n + 1)) := by
              rw [if_neg (by rw [hnm]; decide)] at hh
              by_cases ht : exTail x = 0
              · rw [if_neg (by simpa using ht)]; exact hr.out.trans (exW_kids HN.out (by rw [hh, ht]))
              · rw [if_pos (by simpa using ht)]; exact hr.out.trans (exW_head HN.out _ hh ht)
            have HNm : Hid (Lx.named x.name.toList = true) := hnm
            clear hh hnm
            rcases h1 with h1 | h1 | h1 | h1
            · have e1 : (x.kind == 1) = false := by simp; omega
              have e2 : (x.kind == 2) = false := by simp; omega
              have e3 : (x.kind == 3) = true := by simp; omega
              have e19 : (x.kind == 19) = false := by simp; omega
              have e20 : (x.kind == 20) = false := by simp; omega
              have e22 : (x.kind == 22) = false := by simp; omega
              clear h1
              go_enter Tryd.func53, Tryd.ntmps53
              go_wp2_with fail
              refine (more_any C n (d + 1) deep true _ HC0 hn HD HB1).mono ?_
              rintro e w1 ⟨rfl, hg, hck⟩
              have HM : Hid (RMid w C (exO x a c) (n + 1) w1) := ⟨alloc_grown hg, hck, box_in hg (by simp; omega)⟩
              clear hg hck
              obtain ⟨b0, b1, b2, b3⟩ := four_cell HM.out.2.2
              go_wp2_with fail
              refine (refNamed_any x.name _ hname).mono ?_
              rintro e w2 ⟨rfl, hb⟩
              rw [HNm.out]
              have hg := grown_of_below hb
              clear hb
              have HM2 : Hid (RMid w C (exO x a c) (n + 1) w2) := HM.out.on hg
              clear hg b0 b1 b2 b3 HM
              have HM := HM2
              clear HM2
              obtain ⟨b0, b1, b2, b3⟩ := four_cell HM.out.2.2
              go_wp2_with fail
              refine (kidsN_any x.kind _ hk1 hk2).mono ?_
              rintro e w3 ⟨rfl, hg⟩
              have HM3 : Hid (RMid w C (exO x a c) (n + 1) w3) := HM.out.on hg
              clear hg b0 b1 b2 b3 HM
              have HM := HM3
              clear HM3
              obtain ⟨b0, b1, b2, b3⟩ := four_cell HM.out.2.2
              by_cases ht : exTail x = 0
              · have HT2 : Hid (r = Sy.runs (Sy.exW d) x.kids (n + 1)) := by
                  have := HT.out; rw [if_neg (by simpa using ht)] at this; exact this
                have hq := mt (kids_test hk1 hk2).1 (by simpa using ht)
                have l6 : (x.kids.length : Int) ≤ 6 := by omega
                obtain ⟨kn, hkn⟩ : ∃ kn, kidN x.kind = kn := ⟨_, rfl⟩
                rw [hkn] at hq
                rw [hkn]
                have g0 : (decide (kn ≥ 0) && ((x.kids.length : Int) != kn)) = false := by
                  rw [Bool.and_eq_false_iff]
                  by_cases h0 : 0 ≤ kn
                  · right; simp; omega
                  · left; simp; omega
                have g1 : kn < 0 ∨ (0 ≤ kn ∧ ((x.kids.length : Int) != kn) = false) := by
                  by_cases h0 : 0 ≤ kn
                  · right; exact ⟨h0, by simp; omega⟩
                  · left; omega
                clear hq ht hkn g0
                rcases g1 with g1 | ⟨g1, g2⟩
                all_goals
                  go_wp2
                  go_loopw [96] (fun i wr => ∃ k m : Nat, k ≤ x.kids.length ∧ i = .int .i64 k ∧ m ≤ 2000 ∧ Hid (CT wr C m) ∧ Hid (w.grownBy wr (some C)) ∧ Hid (r = Sy.runs (Sy.exW d) (x.kids.drop k) m)) (fun i _ => x.kids.length - (intOf i).toNat)
                  case atStart => exact ⟨0, n + 1, Nat.zero_le _, rfl, hn1, HM.out.2.1, HM.out.1, by rw [List.drop_zero]; exact HT2⟩
                  case round =>
                    obtain ⟨k, m, hk, rfl, hm, HCr, HGr, HRr⟩ := hrel
                    clear b0 b1 b2 b3
                    by_cases hlt : k < x.kids.length
                    · obtain ⟨kid, hkid⟩ : ∃ kid, x.kids[k]? = some kid := ⟨_, List.getElem?_eq_getElem hlt⟩
                      have HKid : Hid (x.kids[k]? = some kid) := hkid
                      obtain ⟨b, off, a', c', rfl, hb, c0, c1, c2, c3, hin⟩ := hX.out.2.2 k kid hkid
                      have hsame := same_grown (B := B) HGr.out (by intro c e; cases e; exact hBC) (by omega)
                      rw [← hsame _ _ hb] at c0 c1 c2 c3
                      have HIn : Hid (ExIn B wr h kid a') := hin.same hsame
                      clear hin hsame hkid
                      obtain ⟨r2, hr2⟩ : ∃ r2, r2 = Sy.exW d kid m := ⟨_, rfl⟩
                      have HR2 : Hid (r2 = Sy.exW d kid m) := hr2
                      clear hr2
                      go_wp2_with fail
                      refine (ih h kid a' c' m (deep + 1) r2 _ (by have := HD.out; omega) (by omega) (HIn.out.same (same_grown (World.grownBy_alloc _ _ none) (by simp) (by have := HGr.out.size; omega))) (HCr.out.alloc _) hm HR2).mono ?_
                      rintro e w4 ⟨hg, hf⟩
                      have HG3 : Hid (w.grownBy w4 (some C)) := grown_trans HGr.out (alloc_grown hg)
                      cases r2 with
                      | ok m2 =>
                        obtain ⟨rfl, hck⟩ := hf
                        have HC3 : Hid (CT w4 C m2) := hck
                        have hm2 : m2 ≤ 2000 := Sy.exW_le _ _ _ _ hm HR2.out.symm
                        have HR3 : Hid (r = Sy.runs (Sy.exW d) (x.kids.drop (k + 1)) m2) := HRr.out.trans (runs_ok HKid.out HR2.out.symm)
                        clear hg hck c0 c1 c2 c3
                        go_wp2
                        go_roundw
                        case rel => exact ⟨k + 1, m2, by omega, by go_num, hm2, HC3, HG3, HR3⟩
                        case measure => simp [intOf]; omega
                      | error er =>
                        obtain ⟨rfl, hne⟩ := hf
                        have HR3 : Hid (r = .error er) := HRr.out.trans (runs_err HKid.out HR2.out.symm)
                        have e0 : (er != 0) = true := by simp; exact hne
                        have HNe : Hid (er ≠ 0) := hne
                        clear hg c0 c1 c2 c3 hne
                        go_wp2
                        go_ret
                        exact ⟨HG3.out, by rw [HR3.out]; exact ⟨rfl, HNe.out⟩⟩
                    · have HR3 : Hid (r = .ok m) := by
                        have := HRr.out
                        rw [List.drop_of_length_le (by omega)] at this
                        exact this
                      go_wp2
                      go_ret
                      exact ⟨HGr.out, by rw [HR3.out]; exact ⟨rfl, HCr.out⟩⟩
              · have HT2 : Hid (r = .error 5) := by
                  have := HT.out; rw [if_pos (by simpa using ht), exTail_five ht] at this; exact this
                have hq := (kids_test hk1 hk2).2 ht
                obtain ⟨kn, hkn⟩ : ∃ kn, kidN x.kind = kn := ⟨_, rfl⟩
                rw [hkn] at hq
                rw [hkn]
                have g1 : (0 ≤ kn ∧ ((x.kids.length : Int) != kn) = true) ∨ (kn < 0 ∧ 6 < (x.kids.length : Int)) ∨ (0 ≤ kn ∧ ((x.kids.length : Int) != kn) = false ∧ 6 < (x.kids.length : Int)) := by
                  by_cases h0 : 0 ≤ kn
                  · by_cases h1 : (x.kids.length : Int) = kn
                    · right; right; exact ⟨h0, by simp; omega, by omega⟩
                    · left; exact ⟨h0, by simp; omega⟩
                  · right; left; exact ⟨by omega, by omega⟩
                clear hq ht hkn
                rcases g1 with ⟨g1, g2⟩ | ⟨g1, g2⟩ | ⟨g1, g2, g3⟩
                all_goals
                  go_wp2
                  go_ret
                  exact ⟨HM.out.1, by rw [HT2.out]; exact ⟨rfl, by decide⟩⟩
            · have e1 : (x.kind == 1) = false := by simp; omega
              have e2 : (x.kind == 2) = false := by simp; omega
              have e3 : (x.kind == 3) = false := by simp; omega
              have e19 : (x.kind == 19) = true := by simp; omega
              have e20 : (x.kind == 20) = false := by simp; omega
              have e22 : (x.kind == 22) = false := by simp; omega
              clear h1
              go_enter Tryd.func53, Tryd.ntmps53
              go_wp2_with fail
              refine (more_any C n (d + 1) deep true _ HC0 hn HD HB1).mono ?_
              rintro e w1 ⟨rfl, hg, hck⟩
              have HM : Hid (RMid w C (exO x a c) (n + 1) w1) := ⟨alloc_grown hg, hck, box_in hg (by simp; omega)⟩
              clear hg hck
              obtain ⟨b0, b1, b2, b3⟩ := four_cell HM.out.2.2
              go_wp2_with fail
              refine (refNamed_any x.name _ hname).mono ?_
              rintro e w2 ⟨rfl, hb⟩
              rw [HNm.out]
              have hg := grown_of_below hb
              clear hb
              have HM2 : Hid (RMid w C (exO x a c) (n + 1) w2) := HM.out.on hg
              clear hg b0 b1 b2 b3 HM
              have HM := HM2
              clear HM2
              obtain ⟨b0, b1, b2, b3⟩ := four_cell HM.out.2.2
              go_wp2_with fail
              refine (kidsN_any x.kind _ hk1 hk2).mono ?_
              rintro e w3 ⟨rfl, hg⟩
              have HM3 : Hid (RMid w C (exO x a c) (n + 1) w3) := HM.out.on hg
              clear hg b0 b1 b2 b3 HM
              have HM := HM3
              clear HM3
              obtain ⟨b0, b1, b2, b3⟩ := four_cell HM.out.2.2
              by_cases ht : exTail x = 0
              · have HT2 : Hid (r = Sy.runs (Sy.exW d) x.kids (n + 1)) := by
                  have := HT.out; rw [if_neg (by simpa using ht)] at this; exact this
                have hq := mt (kids_test hk1 hk2).1 (by simpa using ht)
                have l6 : (x.kids.length : Int) ≤ 6 := by omega
                obtain ⟨kn, hkn⟩ : ∃ kn, kidN x.kind = kn := ⟨_, rfl⟩
                rw [hkn] at hq
                rw [hkn]
                have g0 : (decide (kn ≥ 0) && ((x.kids.length : Int) != kn)) = false := by
                  rw [Bool.and_eq_false_iff]
                  by_cases h0 : 0 ≤ kn
                  · right; simp; omega
                  · left; simp; omega
                have g1 : kn < 0 ∨ (0 ≤ kn ∧ ((x.kids.length : Int) != kn) = false) := by
                  by_cases h0 : 0 ≤ kn
                  · right; exact ⟨h0, by simp; omega⟩
                  · left; omega
                clear hq ht hkn g0
                rcases g1 with g1 | ⟨g1, g2⟩
                all_goals
                  go_wp2
                  go_loopw [96] (fun i wr => ∃ k m : Nat, k ≤ x.kids.length ∧ i = .int .i64 k ∧ m ≤ 2000 ∧ Hid (CT wr C m) ∧ Hid (w.grownBy wr (some C)) ∧ Hid (r = Sy.runs (Sy.exW d) (x.kids.drop k) m)) (fun i _ => x.kids.length - (intOf i).toNat)
                  case atStart => exact ⟨0, n + 1, Nat.zero_le _, rfl, hn1, HM.out.2.1, HM.out.1, by rw [List.drop_zero]; exact HT2⟩
                  case round =>
                    obtain ⟨k, m, hk, rfl, hm, HCr, HGr, HRr⟩ := hrel
                    clear b0 b1 b2 b3
                    by_cases hlt : k < x.kids.length
                    · obtain ⟨kid, hkid⟩ : ∃ kid, x.kids[k]? = some kid := ⟨_, List.getElem?_eq_getElem hlt⟩
                      have HKid : Hid (x.kids[k]? = some kid) := hkid
                      obtain ⟨b, off, a', c', rfl, hb, c0, c1, c2, c3, hin⟩ := hX.out.2.2 k kid hkid
                      have hsame := same_grown (B := B) HGr.out (by intro c e; cases e; exact hBC) (by omega)
                      rw [← hsame _ _ hb] at c0 c1 c2 c3
                      have HIn : Hid (ExIn B wr h kid a') := hin.same hsame
                      clear hin hsame hkid
                      obtain ⟨r2, hr2⟩ : ∃ r2, r2 = Sy.exW d kid m := ⟨_, rfl⟩
                      have HR2 : Hid (r2 = Sy.exW d kid m) := hr2
                      clear hr2
                      go_wp2_with fail
                      refine (ih h kid a' c' m (deep + 1) r2 _ (by have := HD.out; omega) (by omega) (HIn.out.same (same_grown (World.grownBy_alloc _ _ none) (by simp) (by have := HGr.out.size; omega))) (HCr.out.alloc _) hm HR2).mono ?_
                      rintro e w4 ⟨hg, hf⟩
                      have HG3 : Hid (w.grownBy w4 (some C)) := grown_trans HGr.out (alloc_grown hg)
                      cases r2 with
                      | ok m2 =>
                        obtain ⟨rfl, hck⟩ := hf
                        have HC3 : Hid (CT w4 C m2) := hck
                        have hm2 : m2 ≤ 2000 := Sy.exW_le _ _ _ _ hm HR2.out.symm
                        have HR3 : Hid (r = Sy.runs (Sy.exW d) (x.kids.drop (k + 1)) m2) := HRr.out.trans (runs_ok HKid.out HR2.out.symm)
                        clear hg hck c0 c1 c2 c3
                        go_wp2
                        go_roundw
                        case rel => exact ⟨k + 1, m2, by omega, by go_num, hm2, HC3, HG3, HR3⟩
                        case measure => simp [intOf]; omega
                      | error er =>
                        obtain ⟨rfl, hne⟩ := hf
                        have HR3 : Hid (r = .error er) := HRr.out.trans (runs_err HKid.out HR2.out.symm)
                        have e0 : (er != 0) = true := by simp; exact hne
                        have HNe : Hid (er ≠ 0) := hne
                        clear hg c0 c1 c2 c3 hne
                        go_wp2
                        go_ret
                        exact ⟨HG3.out, by rw [HR3.out]; exact ⟨rfl, HNe.out⟩⟩
                    · have HR3 : Hid (r = .ok m) := by
                        have := HRr.out
                        rw [List.drop_of_length_le (by omega)] at this
                        exact this
                      go_wp2
                      go_ret
                      exact ⟨HGr.out, by rw [HR3.out]; exact ⟨rfl, HCr.out⟩⟩
              · have HT2 : Hid (r = .error 5) := by
                  have := HT.out; rw [if_pos (by simpa using ht), exTail_five ht] at this; exact this
                have hq := (kids_test hk1 hk2).2 ht
                obtain ⟨kn, hkn⟩ : ∃ kn, kidN x.kind = kn := ⟨_, rfl⟩
                rw [hkn] at hq
                rw [hkn]
                have g1 : (0 ≤ kn ∧ ((x.kids.length : Int) != kn) = true) ∨ (kn < 0 ∧ 6 < (x.kids.length : Int)) ∨ (0 ≤ kn ∧ ((x.kids.length : Int) != kn) = false ∧ 6 < (x.kids.length : Int)) := by
                  by_cases h0 : 0 ≤ kn
                  · by_cases h1 : (x.kids.length : Int) = kn
                    · right; right; exact ⟨h0, by simp; omega, by omega⟩
                    · left; exact ⟨h0, by simp; omega⟩
                  · right; left; exact ⟨by omega, by omega⟩
                clear hq ht hkn
                rcases g1 with ⟨g1, g2⟩ | ⟨g1, g2⟩ | ⟨g1, g2, g3⟩
                all_goals
                  go_wp2
                  go_ret
                  exact ⟨HM.out.1, by rw [HT2.out]; exact ⟨rfl, by decide⟩⟩
            · have e1 : (x.kind == 1) = false := by simp; omega
              have e2 : (x.kind == 2) = false := by simp; omega
              have e3 : (x.kind == 3) = false := by simp; omega
              have e19 : (x.kind == 19) = false := by simp; omega
              have e20 : (x.kind == 20) = true := by simp; omega
              have e22 : (x.kind == 22) = false := by simp; omega
              clear h1
              go_enter Tryd.func53, Tryd.ntmps53
              go_wp2_with fail
              refine (more_any C n (d + 1) deep true _ HC0 hn HD HB1).mono ?_
              rintro e w1 ⟨rfl, hg, hck⟩
              have HM : Hid (RMid w C (exO x a c) (n + 1) w1) := ⟨alloc_grown hg, hck, box_in hg (by simp; omega)⟩
              clear hg hck
              obtain ⟨b0, b1, b2, b3⟩ := four_cell HM.out.2.2
              go_wp2_with fail
              refine (refNamed_any x.name _ hname).mono ?_
              rintro e w2 ⟨rfl, hb⟩
              rw [HNm.out]
              have hg := grown_of_below hb
              clear hb
              have HM2 : Hid (RMid w C (exO x a c) (n + 1) w2) := HM.out.on hg
              clear hg b0 b1 b2 b3 HM
              have HM := HM2
              clear HM2
              obtain ⟨b0, b1, b2, b3⟩ := four_cell HM.out.2.2
              go_wp2_with fail
              refine (kidsN_any x.kind _ hk1 hk2).mono ?_
              rintro e w3 ⟨rfl, hg⟩
              have HM3 : Hid (RMid w C (exO x a c) (n + 1) w3) := HM.out.on hg
              clear hg b0 b1 b2 b3 HM
              have HM := HM3
              clear HM3
              obtain ⟨b0, b1, b2, b3⟩ := four_cell HM.out.2.2
              by_cases ht : exTail x = 0
              · have HT2 : Hid (r = Sy.runs (Sy.exW d) x.kids (n + 1)) := by
                  have := HT.out; rw [if_neg (by simpa using ht)] at this; exact this
                have hq := mt (kids_test hk1 hk2).1 (by simpa using ht)
                have l6 : (x.kids.length : Int) ≤ 6 := by omega
                obtain ⟨kn, hkn⟩ : ∃ kn, kidN x.kind = kn := ⟨_, rfl⟩
                rw [hkn] at hq
                rw [hkn]
                have g0 : (decide (kn ≥ 0) && ((x.kids.length : Int) != kn)) = false := by
                  rw [Bool.and_eq_false_iff]
                  by_cases h0 : 0 ≤ kn
                  · right; simp; omega
                  · left; simp; omega
                have g1 : kn < 0 ∨ (0 ≤ kn ∧ ((x.kids.length : Int) != kn) = false) := by
                  by_cases h0 : 0 ≤ kn
                  · right; exact ⟨h0, by simp; omega⟩
                  · left; omega
                clear hq ht hkn g0
                rcases g1 with g1 | ⟨g1, g2⟩
                all_goals
                  go_wp2
                  go_loopw [96] (fun i wr => ∃ k m : Nat, k ≤ x.kids.length ∧ i = .int .i64 k ∧ m ≤ 2000 ∧ Hid (CT wr C m) ∧ Hid (w.grownBy wr (some C)) ∧ Hid (r = Sy.runs (Sy.exW d) (x.kids.drop k) m)) (fun i _ => x.kids.length - (intOf i).toNat)
                  case atStart => exact ⟨0, n + 1, Nat.zero_le _, rfl, hn1, HM.out.2.1, HM.out.1, by rw [List.drop_zero]; exact HT2⟩
                  case round =>
                    obtain ⟨k, m, hk, rfl, hm, HCr, HGr, HRr⟩ := hrel
                    clear b0 b1 b2 b3
                    by_cases hlt : k < x.kids.length
                    · obtain ⟨kid, hkid⟩ : ∃ kid, x.kids[k]? = some kid := ⟨_, List.getElem?_eq_getElem hlt⟩
                      have HKid : Hid (x.kids[k]? = some kid) := hkid
                      obtain ⟨b, off, a', c', rfl, hb, c0, c1, c2, c3, hin⟩ := hX.out.2.2 k kid hkid
                      have hsame := same_grown (B := B) HGr.out (by intro c e; cases e; exact hBC) (by omega)
                      rw [← hsame _ _ hb] at c0 c1 c2 c3
                      have HIn : Hid (ExIn B wr h kid a') := hin.same hsame
                      clear hin hsame hkid
                      obtain ⟨r2, hr2⟩ : ∃ r2, r2 = Sy.exW d kid m := ⟨_, rfl⟩
                      have HR2 : Hid (r2 = Sy.exW d kid m) := hr2
                      clear hr2
                      go_wp2_with fail
                      refine (ih h kid a' c' m (deep + 1) r2 _ (by have := HD.out; omega) (by omega) (HIn.out.same (same_grown (World.grownBy_alloc _ _ none) (by simp) (by have := HGr.out.size; omega))) (HCr.out.alloc _) hm HR2).mono ?_
                      rintro e w4 ⟨hg, hf⟩
                      have HG3 : Hid (w.grownBy w4 (some C)) := grown_trans HGr.out (alloc_grown hg)
                      cases r2 with
                      | ok m2 =>
                        obtain ⟨rfl, hck⟩ := hf
                        have HC3 : Hid (CT w4 C m2) := hck
                        have hm2 : m2 ≤ 2000 := Sy.exW_le _ _ _ _ hm HR2.out.symm
                        have HR3 : Hid (r = Sy.runs (Sy.exW d) (x.kids.drop (k + 1)) m2) := HRr.out.trans (runs_ok HKid.out HR2.out.symm)
                        clear hg hck c0 c1 c2 c3
                        go_wp2
                        go_roundw
                        case rel => exact ⟨k + 1, m2, by omega, by go_num, hm2, HC3, HG3, HR3⟩
                        case measure => simp [intOf]; omega
                      | error er =>
                        obtain ⟨rfl, hne⟩ := hf
                        have HR3 : Hid (r = .error er) := HRr.out.trans (runs_err HKid.out HR2.out.symm)
                        have e0 : (er != 0) = true := by simp; exact hne
                        have HNe : Hid (er ≠ 0) := hne
                        clear hg c0 c1 c2 c3 hne
                        go_wp2
                        go_ret
                        exact ⟨HG3.out, by rw [HR3.out]; exact ⟨rfl, HNe.out⟩⟩
                    · have HR3 : Hid (r = .ok m) := by
                        have := HRr.out
                        rw [List.drop_of_length_le (by omega)] at this
                        exact this
                      go_wp2
                      go_ret
                      exact ⟨HGr.out, by rw [HR3.out]; exact ⟨rfl, HCr.out⟩⟩
              · have HT2 : Hid (r = .error 5) := by
                  have := HT.out; rw [if_pos (by simpa using ht), exTail_five ht] at this; exact this
                have hq := (kids_test hk1 hk2).2 ht
                obtain ⟨kn, hkn⟩ : ∃ kn, kidN x.kind = kn := ⟨_, rfl⟩
                rw [hkn] at hq
                rw [hkn]
                have g1 : (0 ≤ kn ∧ ((x.kids.length : Int) != kn) = true) ∨ (kn < 0 ∧ 6 < (x.kids.length : Int)) ∨ (0 ≤ kn ∧ ((x.kids.length : Int) != kn) = false ∧ 6 < (x.kids.length : Int)) := by
                  by_cases h0 : 0 ≤ kn
                  · by_cases h1 : (x.kids.length : Int) = kn
                    · right; right; exact ⟨h0, by simp; omega, by omega⟩
                    · left; exact ⟨h0, by simp; omega⟩
                  · right; left; exact ⟨by omega, by omega⟩
                clear hq ht hkn
                rcases g1 with ⟨g1, g2⟩ | ⟨g1, g2⟩ | ⟨g1, g2, g3⟩
                all_goals
                  go_wp2
                  go_ret
                  exact ⟨HM.out.1, by rw [HT2.out]; exact ⟨rfl, by decide⟩⟩
            · have e1 : (x.kind == 1) = false := by simp; omega
              have e2 : (x.kind == 2) = false := by simp; omega
              have e3 : (x.kind == 3) = false := by simp; omega
              have e19 : (x.kind == 19) = false := by simp; omega
              have e20 : (x.kind == 20) = false := by simp; omega
              have e22 : (x.kind == 22) = true := by simp; omega
              clear h1
              go_enter Tryd.func53, Tryd.ntmps53
              go_wp2_with fail
              refine (more_any C n (d + 1) deep true _ HC0 hn HD HB1).mono ?_
              rintro e w1 ⟨rfl, hg, hck⟩
              have HM : Hid (RMid w C (exO x a c) (n + 1) w1) := ⟨alloc_grown hg, hck, box_in hg (by simp; omega)⟩
              clear hg hck
              obtain ⟨b0, b1, b2, b3⟩ := four_cell HM.out.2.2
              go_wp2_with fail
              refine (refNamed_any x.name _ hname).mono ?_
              rintro e w2 ⟨rfl, hb⟩
              rw [HNm.out]
              have hg := grown_of_below hb
              clear hb
              have HM2 : Hid (RMid w C (exO x a c) (n + 1) w2) := HM.out.on hg
              clear hg b0 b1 b2 b3 HM
              have HM := HM2
              clear HM2
              obtain ⟨b0, b1, b2, b3⟩ := four_cell HM.out.2.2
              go_wp2_with fail
              refine (kidsN_any x.kind _ hk1 hk2).mono ?_
              rintro e w3 ⟨rfl, hg⟩
              have HM3 : Hid (RMid w C (exO x a c) (n + 1) w3) := HM.out.on hg
              clear hg b0 b1 b2 b3 HM
              have HM := HM3
              clear HM3
              obtain ⟨b0, b1, b2, b3⟩ := four_cell HM.out.2.2
              by_cases ht : exTail x = 0
              · have HT2 : Hid (r = Sy.runs (Sy.exW d) x.kids (n + 1)) := by
                  have := HT.out; rw [if_neg (by simpa using ht)] at this; exact this
                have hq := mt (kids_test hk1 hk2).1 (by simpa using ht)
                have l6 : (x.kids.length : Int) ≤ 6 := by omega
                obtain ⟨kn, hkn⟩ : ∃ kn, kidN x.kind = kn := ⟨_, rfl⟩
                rw [hkn] at hq
                rw [hkn]
                have g0 : (decide (kn ≥ 0) && ((x.kids.length : Int) != kn)) = false := by
                  rw [Bool.and_eq_false_iff]
                  by_cases h0 : 0 ≤ kn
                  · right; simp; omega
                  · left; simp; omega
                have g1 : kn < 0 ∨ (0 ≤ kn ∧ ((x.kids.length : Int) != kn) = false) := by
                  by_cases h0 : 0 ≤ kn
                  · right; exact ⟨h0, by simp; omega⟩
                  · left; omega
                clear hq ht hkn g0
                rcases g1 with g1 | ⟨g1, g2⟩
                all_goals
                  go_wp2
                  go_loopw [96] (fun i wr => ∃ k m : Nat, k ≤ x.kids.length ∧ i = .int .i64 k ∧ m ≤ 2000 ∧ Hid (CT wr C m) ∧ Hid (w.grownBy wr (some C)) ∧ Hid (r = Sy.runs (Sy.exW d) (x.kids.drop k) m)) (fun i _ => x.kids.length - (intOf i).toNat)
                  case atStart => exact ⟨0, n + 1, Nat.zero_le _, rfl, hn1, HM.out.2.1, HM.out.1, by rw [List.drop_zero]; exact HT2⟩
                  case round =>
                    obtain ⟨k, m, hk, rfl, hm, HCr, HGr, HRr⟩ := hrel
                    clear b0 b1 b2 b3
                    by_cases hlt : k < x.kids.length
                    · obtain ⟨kid, hkid⟩ : ∃ kid, x.kids[k]? = some kid := ⟨_, List.getElem?_eq_getElem hlt⟩
                      have HKid : Hid (x.kids[k]? = some kid) := hkid
                      obtain ⟨b, off, a', c', rfl, hb, c0, c1, c2, c3, hin⟩ := hX.out.2.2 k kid hkid
                      have hsame := same_grown (B := B) HGr.out (by intro c e; cases e; exact hBC) (by omega)
                      rw [← hsame _ _ hb] at c0 c1 c2 c3
                      have HIn : Hid (ExIn B wr h kid a') := hin.same hsame
                      clear hin hsame hkid
                      obtain ⟨r2, hr2⟩ : ∃ r2, r2 = Sy.exW d kid m := ⟨_, rfl⟩
                      have HR2 : Hid (r2 = Sy.exW d kid m) := hr2
                      clear hr2
                      go_wp2_with fail
                      refine (ih h kid a' c' m (deep + 1) r2 _ (by have := HD.out; omega) (by omega) (HIn.out.same (same_grown (World.grownBy_alloc _ _ none) (by simp) (by have := HGr.out.size; omega))) (HCr.out.alloc _) hm HR2).mono ?_
                      rintro e w4 ⟨hg, hf⟩
                      have HG3 : Hid (w.grownBy w4 (some C)) := grown_trans HGr.out (alloc_grown hg)
                      cases r2 with
                      | ok m2 =>
                        obtain ⟨rfl, hck⟩ := hf
                        have HC3 : Hid (CT w4 C m2) := hck
                        have hm2 : m2 ≤ 2000 := Sy.exW_le _ _ _ _ hm HR2.out.symm
                        have HR3 : Hid (r = Sy.runs (Sy.exW d) (x.kids.drop (k + 1)) m2) := HRr.out.trans (runs_ok HKid.out HR2.out.symm)
                        clear hg hck c0 c1 c2 c3
                        go_wp2
                        go_roundw
                        case rel => exact ⟨k + 1, m2, by omega, by go_num, hm2, HC3, HG3, HR3⟩
                        case measure => simp [intOf]; omega
                      | error er =>
                        obtain ⟨rfl, hne⟩ := hf
                        have HR3 : Hid (r = .error er) := HRr.out.trans (runs_err HKid.out HR2.out.symm)
                        have e0 : (er != 0) = true := by simp; exact hne
                        have HNe : Hid (er ≠ 0) := hne
                        clear hg c0 c1 c2 c3 hne
                        go_wp2
                        go_ret
                        exact ⟨HG3.out, by rw [HR3.out]; exact ⟨rfl, HNe.out⟩⟩
                    · have HR3 : Hid (r = .ok m) := by
                        have := HRr.out
                        rw [List.drop_of_length_le (by omega)] at this
                        exact this
                      go_wp2
                      go_ret
                      exact ⟨HGr.out, by rw [HR3.out]; exact ⟨rfl, HCr.out⟩⟩
              · have HT2 : Hid (r = .error 5) := by
                  have := HT.out; rw [if_pos (by simpa using ht), exTail_five ht] at this; exact this
                have hq := (kids_test hk1 hk2).2 ht
                obtain ⟨kn, hkn⟩ : ∃ kn, kidN x.kind = kn := ⟨_, rfl⟩
                rw [hkn] at hq
                rw [hkn]
                have g1 : (0 ≤ kn ∧ ((x.kids.length : Int) != kn) = true) ∨ (kn < 0 ∧ 6 < (x.kids.length : Int)) ∨ (0 ≤ kn ∧ ((x.kids.length : Int) != kn) = false ∧ 6 < (x.kids.length : Int)) := by
                  by_cases h0 : 0 ≤ kn
                  · by_cases h1 : (x.kids.length : Int) = kn
                    · right; right; exact ⟨h0, by simp; omega, by omega⟩
                    · left; exact ⟨h0, by simp; omega⟩
                  · right; left; exact ⟨by omega, by omega⟩
                clear hq ht hkn
                rcases g1 with ⟨g1, g2⟩ | ⟨g1, g2⟩ | ⟨g1, g2, g3⟩
                all_goals
                  go_wp2
                  go_ret
                  exact ⟨HM.out.1, by rw [HT2.out]; exact ⟨rfl, by decide⟩⟩
        · have e1 : (x.kind == 1) = false := by simp; omega
          have e2 : (x.kind == 2) = false := by simp; omega
          have e3 : (x.kind == 3) = false := by simp; omega
          have e19 : (x.kind == 19) = false := by simp; omega
          have e20 : (x.kind == 20) = false := by simp; omega
          have e22 : (x.kind == 22) = false := by simp; omega
          have hh := exHead_else h1
          clear h1
          have HT : Hid (r = if exTail x ≠ 0 then .error (exTail x) else Sy.runs (Sy.exW d) x.kids (n + 1)) := by
            by_cases ht : exTail x = 0
            · rw [if_neg (by simpa using ht)]; exact hr.out.trans (exW_kids HN.out (by rw [hh, ht]))
            · rw [if_pos (by simpa using ht)]; exact hr.out.trans (exW_head HN.out _ hh ht)
          clear hh
          go_enter Tryd.func53, Tryd.ntmps53
          go_wp2_with fail
          refine (more_any C n (d + 1) deep true _ HC0 hn HD HB1).mono ?_
          rintro e w1 ⟨rfl, hg, hck⟩
          have HM : Hid (RMid w C (exO x a c) (n + 1) w1) := ⟨alloc_grown hg, hck, box_in hg (by simp; omega)⟩
          clear hg hck
          obtain ⟨b0, b1, b2, b3⟩ := four_cell HM.out.2.2
          go_wp2_with fail
          refine (kidsN_any x.kind _ hk1 hk2).mono ?_
          rintro e w3 ⟨rfl, hg⟩
          have HM3 : Hid (RMid w C (exO x a c) (n + 1) w3) := HM.out.on hg
          clear hg b0 b1 b2 b3 HM
          have HM := HM3
          clear HM3
          obtain ⟨b0, b1, b2, b3⟩ := four_cell HM.out.2.2
          by_cases ht : exTail x = 0
          · have HT2 : Hid (r = Sy.runs (Sy.exW d) x.kids (n + 1)) := by
              have := HT.out; rw [if_neg (by simpa using ht)] at this; exact this
            have hq := mt (kids_test hk1 hk2).1 (by simpa using ht)
            have l6 : (x.kids.length : Int) ≤ 6 := by omega
            obtain ⟨kn, hkn⟩ : ∃ kn, kidN x.kind = kn := ⟨_, rfl⟩
            rw [hkn] at hq
            rw [hkn]
            have g0 : (decide (kn ≥ 0) && ((x.kids.length : Int) != kn)) = false := by
              rw [Bool.and_eq_false_iff]
              by_cases h0 : 0 ≤ kn
              · right; simp; omega
              · left; simp; omega
            have g1 : kn < 0 ∨ (0 ≤ kn ∧ ((x.kids.length : Int) != kn) = false) := by
              by_cases h0 : 0 ≤ kn
              · right; exact ⟨h0, by simp; omega⟩
              · left; omega
            clear hq ht hkn g0
            rcases g1 with g1 | ⟨g1, g2⟩
            all_goals
              go_wp2
              go_loopw [96] (fun i wr => ∃ k m : Nat, k ≤ x.kids.length ∧ i = .int .i64 k ∧ m ≤ 2000 ∧ Hid (CT wr C m) ∧ Hid (w.grownBy wr (some C)) ∧ Hid (r = Sy.runs (Sy.exW d) (x.kids.drop k) m)) (fun i _ => x.kids.length - (intOf i).toNat)
              case atStart => exact ⟨0, n + 1, Nat.zero_le _, rfl, hn1, HM.out.2.1, HM.out.1, by rw [List.drop_zero]; exact HT2⟩
              case round =>
                obtain ⟨k, m, hk, rfl, hm, HCr, HGr, HRr⟩ := hrel
                clear b0 b1 b2 b3
                by_cases hlt : k < x.kids.length
                · obtain ⟨kid, hkid⟩ : ∃ kid, x.kids[k]? = some kid := ⟨_, List.getElem?_eq_getElem hlt⟩
                  have HKid : Hid (x.kids[k]? = some kid) := hkid
                  obtain ⟨b, off, a', c', rfl, hb, c0, c1, c2, c3, hin⟩ := hX.out.2.2 k kid hkid
                  have hsame := same_grown (B := B) HGr.out (by intro c e; cases e; exact hBC) (by omega)
                  rw [← hsame _ _ hb] at c0 c1 c2 c3
                  have HIn : Hid (ExIn B wr h kid a') := hin.same hsame
                  clear hin hsame hkid
                  obtain ⟨r2, hr2⟩ : ∃ r2, r2 = Sy.exW d kid m := ⟨_, rfl⟩
                  have HR2 : Hid (r2 = Sy.exW d kid m) := hr2
                  clear hr2
                  go_wp2_with fail
                  refine (ih h kid a' c' m (deep + 1) r2 _ (by have := HD.out; omega) (by omega) (HIn.out.same (same_grown (World.grownBy_alloc _ _ none) (by simp) (by have := HGr.out.size; omega))) (HCr.out.alloc _) hm HR2).mono ?_
                  rintro e w4 ⟨hg, hf⟩
                  have HG3 : Hid (w.grownBy w4 (some C)) := grown_trans HGr.out (alloc_grown hg)
                  cases r2 with
                  | ok m2 =>
                    obtain ⟨rfl, hck⟩ := hf
                    have HC3 : Hid (CT w4 C m2) := hck
                    have hm2 : m2 ≤ 2000 := Sy.exW_le _ _ _ _ hm HR2.out.symm
                    have HR3 : Hid (r = Sy.runs (Sy.exW d) (x.kids.drop (k + 1)) m2) := HRr.out.trans (runs_ok HKid.out HR2.out.symm)
                    clear hg hck c0 c1 c2 c3
                    go_wp2
                    go_roundw
                    case rel => exact ⟨k + 1, m2, by omega, by go_num, hm2, HC3, HG3, HR3⟩
                    case measure => simp [intOf]; omega
                  | error er =>
                    obtain ⟨rfl, hne⟩ := hf
                    have HR3 : Hid (r = .error er) := HRr.out.trans (runs_err HKid.out HR2.out.symm)
                    have e0 : (er != 0) = true := by simp; exact hne
                    have HNe : Hid (er ≠ 0) := hne
                    clear hg c0 c1 c2 c3 hne
                    go_wp2
                    go_ret
                    exact ⟨HG3.out, by rw [HR3.out]; exact ⟨rfl, HNe.out⟩⟩
                · have HR3 : Hid (r = .ok m) := by
                    have := HRr.out
                    rw [List.drop_of_length_le (by omega)] at this
                    exact this
                  go_wp2
                  go_ret
                  exact ⟨HGr.out, by rw [HR3.out]; exact ⟨rfl, HCr.out⟩⟩
          · have HT2 : Hid (r = .error 5) := by
              have := HT.out; rw [if_pos (by simpa using ht), exTail_five ht] at this; exact this
            have hq := (kids_test hk1 hk2).2 ht
            obtain ⟨kn, hkn⟩ : ∃ kn, kidN x.kind = kn := ⟨_, rfl⟩
            rw [hkn] at hq
            rw [hkn]
            have g1 : (0 ≤ kn ∧ ((x.kids.length : Int) != kn) = true) ∨ (kn < 0 ∧ 6 < (x.kids.length : Int)) ∨ (0 ≤ kn ∧ ((x.kids.length : Int) != kn) = false ∧ 6 < (x.kids.length : Int)) := by
              by_cases h0 : 0 ≤ kn
              · by_cases h1 : (x.kids.length : Int) = kn
                · right; right; exact ⟨h0, by simp; omega, by omega⟩
                · left; exact ⟨h0, by simp; omega⟩
              · right; left; exact ⟨by omega, by omega⟩
            clear hq ht hkn
            rcases g1 with ⟨g1, g2⟩ | ⟨g1, g2⟩ | ⟨g1, g2, g3⟩
            all_goals
              go_wp2
              go_ret
              exact ⟨HM.out.1, by rw [HT2.out]; exact ⟨rfl, by decide⟩⟩
  · have HT : Hid (r = .error 4) := hr.out.trans (by rw [exW_bad (by unfold Sy.nodeW; rw [if_pos (.inl (by omega))]; decide)]; unfold Sy.nodeW; rw [if_pos (.inl (by omega))])
    have HB1 : Hid (false = decide (n + 1 ≤ 2000 ∧ d + 1 ≠ 0)) := by rw [decide_eq_false (by omega)]; rfl
    clear hmore
    go_enter Tryd.func53, Tryd.ntmps53
    go_wp2_with fail
    refine (more_any C n (d + 1) deep false _ HC0 hn HD HB1).mono ?_
    rintro e w1 ⟨rfl, hg, hck⟩
    have HG : Hid (w.grownBy w1 (some C)) := alloc_grown hg
    clear hg hck
    go_wp2
    go_ret
    exact ⟨HG.out, by rw [HT.out]; exact ⟨rfl, by decide⟩⟩

set_option maxRecDepth 100000 in
set_option maxHeartbeats 400000 in
theorem rexpr_zero (C : Nat) (x : Sy.Ex) (a : Option Addr) (c n : Nat) (deep : Int) (r : Except Int Nat) (w : World) (hdeep : deep = 41 - ((0 : Nat) : Int)) (hC : Hid (CT w C n)) (hn : n ≤ 2000) (hr : Hid (r = Sy.exW 0 x n)) :
    Calls Tryd.prog 53 #[.pointer (some ⟨C, 0, none⟩), exV x a c, .int .i64 deep] w fun e w' => w.grownBy w' (some C) ∧ FateR C r e w' := by
  have HD : Hid (deep = 41 - ((0 : Nat) : Int)) := hdeep
  clear hdeep
  have HC0 : Hid (CT (w.alloc (exO x a c)) C n) := hC.out.alloc _
  have HT : Hid (r = .error 4) := hr.out
  have HB1 : Hid (false = decide (n + 1 ≤ 2000 ∧ (0 : Nat) ≠ 0)) := by rw [decide_eq_false (by omega)]; rfl
  go_enter Tryd.func53, Tryd.ntmps53
  go_wp2_with fail
  refine (more_any C n 0 deep false _ HC0 hn HD HB1).mono ?_
  rintro e w1 ⟨rfl, hg, hck⟩
  have HG : Hid (w.grownBy w1 (some C)) := alloc_grown hg
  clear hg hck
  go_wp2
  go_ret
  exact ⟨HG.out, by rw [HT.out]; exact ⟨rfl, by decide⟩⟩

theorem rexpr_any (C B : Nat) (hBC : B ≤ C) : ∀ (d : Nat) (h : Nat) (x : Sy.Ex) (a : Option Addr) (c n : Nat) (deep : Int) (r : Except Int Nat) (w : World), deep = 41 - d → d ≤ 41 → Hid (ExIn B w h x a) → Hid (CT w C n) → n ≤ 2000 → Hid (r = Sy.exW d x n) →
      Calls Tryd.prog 53 #[.pointer (some ⟨C, 0, none⟩), exV x a c, .int .i64 deep] w fun e w' => w.grownBy w' (some C) ∧ FateR C r e w'
  | _, 0, _, _, _, _, _, _, _, _, _, hX, _, _, _ => hX.out.elim
  | d + 1, h + 1, x, a, c, n, deep, r, w, hdeep, hd, hX, hC, hn, hr => rexpr_step C B d hBC (rexpr_any C B hBC d) h x a c n deep r w hdeep hd hX hC hn hr
  | 0, _ + 1, x, a, c, n, deep, r, w, hdeep, _, _, hC, hn, hr => rexpr_zero C x a c n deep r w hdeep hC hn hr

end Go.Proofs.YtbbklahhnepiaaaDoor
