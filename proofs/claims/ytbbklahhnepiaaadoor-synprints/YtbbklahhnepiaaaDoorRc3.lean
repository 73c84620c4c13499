/- The walk of the document's look at statements. -/
import Derived.Test.YtbbklahhnepiaaaDoorRc2
namespace Go.Proofs.YtbbklahhnepiaaaDoor
open Go.RowKit















/-- What the document's look at a body says, for the statements at d levels. -/
def RBody (C B : Nat) (d : Nat) : Prop :=
  ∀ (h : Nat) (l : List Sy.St) (a : Option Addr) (c n : Nat) (deep : Int) (r : Except Int Nat) (w : World), deep = 41 - d → d ≤ 41 → Hid (BodyIn B w h l a) → Hid (CT w C n) → n ≤ 2000 → Hid (r = Sy.bodyOf (Sy.stW d) l n) →
    Calls Tryd.prog 37 #[.pointer (some ⟨C, 0, none⟩), .slice a l.length c, .int .i64 deep] w fun e w' => w.grownBy w' (some C) ∧ FateR C r e w'



set_option maxRecDepth 100000 in
set_option maxHeartbeats 8000000 in
theorem rbody_step (C B d : Nat) (hBC : B ≤ C) (ih : Hid (RBody C B d)) : RBody C B (d + 1) := by
  intro h l a c n deep r w hdeep hd hX hC hn hr
  cases h with
  | zero =>
    have hl : l = [] := by
      cases l with
      | nil => rfl
      | cons s l => obtain ⟨_, _, _, _, _, _, _, _, _, _, _, _, _, _, _, _, _, _, hin⟩ := hX.out.2 0 s rfl; exact hin.elim
    subst hl
    have HT : Hid (r = .ok n) := hr.out
    go_enter Tryd.func37, Tryd.ntmps37
    go_wp2
    go_loopw [17] (fun i wr => i = .int .i64 0 ∧ wr = w) (fun _ _ => 0)
    case atStart => exact ⟨rfl, rfl⟩
    case round =>
      obtain ⟨rfl, rfl⟩ := hrel
      go_wp2
      go_ret
      exact ⟨grown_refl _ _, by rw [HT.out]; exact ⟨rfl, hC.out⟩⟩
  | succ h =>
    have HD : Hid (deep = 41 - ((d + 1 : Nat) : Int)) := hdeep
    have hdp0 : 0 ≤ deep := by omega
    have hdp1 : deep ≤ 40 := by omega
    clear hdeep
    have hlen := hX.out.1
    have hCl := hC.out.lt
    unfold maxLen at hlen
    by_cases h50 : 50 < l.length
    · have HT : Hid (r = .error 5) := by have := hr.out; unfold Sy.bodyOf at this; rw [if_pos h50] at this; exact this
      have g50 : 50 < (l.length : Int) := by omega
      clear h50
      go_enter Tryd.func37, Tryd.ntmps37
      go_wp2
      go_ret
      exact ⟨grown_refl _ _, by rw [HT.out]; exact ⟨rfl, by decide⟩⟩
    · have HT0 : Hid (r = Sy.runs (Sy.stW (d + 1)) l n) := by have := hr.out; unfold Sy.bodyOf at this; rw [if_neg h50] at this; exact this
      have g50 : (l.length : Int) ≤ 50 := by omega
      clear h50
      go_enter Tryd.func37, Tryd.ntmps37
      go_wp2
      go_loopw [17] (fun i wr => ∃ k m : Nat, k ≤ l.length ∧ i = .int .i64 k ∧ m ≤ 2000 ∧ Hid (CT wr C m) ∧ Hid (w.grownBy wr (some C)) ∧ Hid (r = Sy.runs (Sy.stW (d + 1)) (l.drop k) m)) (fun i _ => l.length - (intOf i).toNat)
      case atStart => exact ⟨0, n, Nat.zero_le _, rfl, hn, hC, grown_refl _ _, by rw [List.drop_zero]; exact HT0⟩
      case round =>
        obtain ⟨k, m, hk, rfl, hm, HCr, HGr, HRr⟩ := hrel
        by_cases hlt : k < l.length
        · obtain ⟨s, hs⟩ : ∃ s, l[k]? = some s := ⟨_, List.getElem?_eq_getElem hlt⟩
          have HS : Hid (l[k]? = some s) := hs
          obtain ⟨b, off, xa, xc, ba, bc, ea, ec, rfl, hb, c0, c1, c2, c3, c4, c5, c6, c7, hin⟩ := hX.out.2 k s hs
          have hsame := same_grown (B := B) HGr.out (by intro c e; cases e; exact hBC) (by omega)
          rw [← hsame _ _ hb] at c0 c1 c2 c3 c4 c5 c6 c7
          have HSt : Hid (StIn B wr (h + 1) s xa ba ea) := hin.same hsame
          have hname := HSt.out.1
          have hCr : C < wr.heap.size := HCr.out.lt
          have HC0 : Hid (CT (wr.alloc (stO s xa xc ba bc ea ec)) C m) := HCr.out.alloc _
          clear hin hsame hs
          by_cases hmore : m + 1 ≤ 2000
          · have HB1 : Hid (true = decide (m + 1 ≤ 2000 ∧ d + 1 ≠ 0)) := by rw [decide_eq_true ⟨hmore, by omega⟩]; rfl
            have hm1 := hmore
            clear hmore
            by_cases hlow : s.kind < 1
            · have HT : Hid (r = .error 1) := HRr.out.trans (runs_err HS.out (by rw [stW_bad (by unfold Sy.nodeW; rw [if_neg (by omega), if_pos (.inl hlow)]; decide)]; unfold Sy.nodeW; rw [if_neg (by omega), if_pos (.inl hlow)]))
              go_wp2_with fail
              refine (more_any C m (d + 1) deep true _ HC0 hm HD HB1).mono ?_
              rintro e w1 ⟨rfl, hg, hck⟩
              have HM : Hid (RMid wr C (stO s xa xc ba bc ea ec) (m + 1) w1) := ⟨alloc_grown hg, hck, box_in hg (by simp; omega)⟩
              clear hg hck c0 c1 c2 c3 c4 c5 c6 c7
              obtain ⟨b0, b1, b2, b3, b4, b5, b6, b7⟩ := eight_cell HM.out.2.2
              go_wp2
              go_ret
              exact ⟨grown_trans HGr.out HM.out.1, by rw [HT.out]; exact ⟨rfl, by decide⟩⟩
            · by_cases hhigh : 9 < s.kind
              · have HT : Hid (r = .error 1) := HRr.out.trans (runs_err HS.out (by rw [stW_bad (by unfold Sy.nodeW; rw [if_neg (by omega), if_pos (.inr hhigh)]; decide)]; unfold Sy.nodeW; rw [if_neg (by omega), if_pos (.inr hhigh)]))
                go_wp2_with fail
                refine (more_any C m (d + 1) deep true _ HC0 hm HD HB1).mono ?_
                rintro e w1 ⟨rfl, hg, hck⟩
                have HM : Hid (RMid wr C (stO s xa xc ba bc ea ec) (m + 1) w1) := ⟨alloc_grown hg, hck, box_in hg (by simp; omega)⟩
                clear hg hck c0 c1 c2 c3 c4 c5 c6 c7
                obtain ⟨b0, b1, b2, b3, b4, b5, b6, b7⟩ := eight_cell HM.out.2.2
                go_wp2
                go_ret
                exact ⟨grown_trans HGr.out HM.out.1, by rw [HT.out]; exact ⟨rfl, by decide⟩⟩
              · have HN : Hid (Sy.nodeW s.kind 9 (d + 1) m = 0) := by unfold Sy.nodeW; rw [if_neg (by omega), if_neg (by omega)]; rfl
                have hk1 : 1 ≤ s.kind := by omega
                have hk2 : s.kind ≤ 9 := by omega
                clear hlow hhigh
                rcases (show s.kind = 1 ∨ s.kind = 2 ∨ s.kind = 3 ∨ s.kind = 4 ∨ s.kind = 5 ∨ s.kind = 6 ∨ s.kind = 7 ∨ s.kind = 8 ∨ s.kind = 9 by omega) with hk | hk | hk | hk | hk | hk | hk | hk | hk
                · have e1 : (s.kind == 1) = true := by simp; omega
                  have e2 : (s.kind == 2) = false := by simp; omega
                  have e7 : (s.kind == 7) = false := by simp; omega
                  have e6 : (s.kind == 6) = false := by simp; omega
                  have e3 : (s.kind == 3) = false := by simp; omega
                  have e4 : (s.kind == 4) = false := by simp; omega
                  have HKd : Hid (s.kind = 1) := hk
                  clear hk
                  cases hnm : Sy.nm s.name
                  · have HT : Hid (r = .error 7) := HRr.out.trans (runs_err HS.out (stW_noname HN.out ⟨by have := HKd.out; omega, hnm⟩))
                    have HNm : Hid (Lx.named s.name.toList = false) := hnm
                    clear hnm
                    go_wp2_with fail
                    refine (more_any C m (d + 1) deep true _ HC0 hm HD HB1).mono ?_
                    rintro e w1 ⟨rfl, hg, hck⟩
                    have HM : Hid (RMid wr C (stO s xa xc ba bc ea ec) (m + 1) w1) := ⟨alloc_grown hg, hck, box_in hg (by simp; omega)⟩
                    clear hg hck c0 c1 c2 c3 c4 c5 c6 c7
                    obtain ⟨b0, b1, b2, b3, b4, b5, b6, b7⟩ := eight_cell HM.out.2.2
                    go_wp2_with fail
                    refine (refNamed_any s.name _ hname).mono ?_
                    rintro e w2 ⟨rfl, hb⟩
                    rw [HNm.out]
                    have HG2 : Hid (w.grownBy w2 (some C)) := grown_trans HGr.out (grown_trans HM.out.1 (grown_some (grown_of_below hb) _))
                    clear hb
                    go_wp2
                    go_ret
                    exact ⟨HG2.out, by rw [HT.out]; exact ⟨rfl, by decide⟩⟩
                  · have HNm : Hid (Lx.named s.name.toList = true) := hnm
                    clear hnm
                    go_wp2_with fail
                    refine (more_any C m (d + 1) deep true _ HC0 hm HD HB1).mono ?_
                    rintro e w1 ⟨rfl, hg, hck⟩
                    have HM : Hid (RMid wr C (stO s xa xc ba bc ea ec) (m + 1) w1) := ⟨alloc_grown hg, hck, box_in hg (by simp; omega)⟩
                    clear hg hck c0 c1 c2 c3 c4 c5 c6 c7
                    obtain ⟨b0, b1, b2, b3, b4, b5, b6, b7⟩ := eight_cell HM.out.2.2
                    go_wp2_with fail
                    refine (refNamed_any s.name _ hname).mono ?_
                    rintro e w0 ⟨rfl, hb⟩
                    rw [HNm.out]
                    have HM2 : Hid (RMid wr C (stO s xa xc ba bc ea ec) (m + 1) w0) := HM.out.on (grown_of_below hb)
                    clear hb
                    clear b0 b1 b2 b3 b4 b5 b6 b7 HM
                    have HM := HM2
                    clear HM2
                    obtain ⟨b0, b1, b2, b3, b4, b5, b6, b7⟩ := eight_cell HM.out.2.2
                    obtain ⟨hx, hin⟩ := HSt.out.2.1
                    have HIn : Hid (ExIn B w0 hx s.x xa) := hin.same (HM.out.same hBC hCr)
                    clear hin
                    obtain ⟨r2, hr2⟩ : ∃ r2, r2 = Sy.exW d s.x (m + 1) := ⟨_, rfl⟩
                    have HR2 : Hid (r2 = Sy.exW d s.x (m + 1)) := hr2
                    clear hr2
                    go_wp2_with fail
                    refine (rexpr_any C B hBC d hx s.x xa xc (m + 1) (deep + 1) r2 _ (by have := HD.out; omega) (by omega) HIn HM.out.2.1 hm1 HR2).mono ?_
                    rintro e w2 ⟨hg, hf⟩
                    cases r2 with
                    | error er =>
                      have HT : Hid (r = .error er) := HRr.out.trans (runs_err HS.out (stW_xe HN.out (by rintro ⟨_, hq⟩; rw [show Sy.nm s.name = true from HNm.out] at hq; exact absurd hq (by decide)) (by have := HKd.out; omega) HR2.out.symm))
                      obtain ⟨rfl, hne⟩ := hf
                      have e0 : (er != 0) = true := by simp; exact hne
                      have HNe : Hid (er ≠ 0) := hne
                      have HG : Hid (w.grownBy w2 (some C)) := grown_trans HGr.out (grown_trans HM.out.1 hg)
                      clear hg hne b0 b1 b2 b3 b4 b5 b6 b7
                      go_wp2
                      go_ret
                      exact ⟨HG.out, by rw [HT.out]; exact ⟨rfl, HNe.out⟩⟩
                    | ok m2 =>
                      have hm2 : m2 ≤ 2000 := Sy.exW_le _ _ _ _ hm1 HR2.out.symm
                      have HS1 : Hid (Sy.stW (d + 1) s m = Sy.stTail (Sy.stW d) s m2) := stW_xo HN.out (by rintro ⟨_, hq⟩; rw [show Sy.nm s.name = true from HNm.out] at hq; exact absurd hq (by decide)) (by have := HKd.out; omega) HR2.out.symm
                      obtain ⟨rfl, hck⟩ := hf
                      have HM2 : Hid (RMid wr C (stO s xa xc ba bc ea ec) m2 w2) := HM.out.past hCr hg hck
                      clear hg hck
                      clear b0 b1 b2 b3 b4 b5 b6 b7 HM
                      have HM := HM2
                      clear HM2
                      obtain ⟨b0, b1, b2, b3, b4, b5, b6, b7⟩ := eight_cell HM.out.2.2
                      have HNext : Hid (r = Sy.runs (Sy.stW (d + 1)) (l.drop (k + 1)) m2) := HRr.out.trans (runs_ok HS.out (HS1.out.trans (tail_plain (by have := HKd.out; omega))))
                      go_wp2
                      go_roundw
                      case rel => exact ⟨k + 1, m2, by omega, by go_num, hm2, HM.out.2.1, grown_trans HGr.out HM.out.1, HNext⟩
                      case measure => simp [intOf]; omega
                · have e1 : (s.kind == 1) = false := by simp; omega
                  have e2 : (s.kind == 2) = true := by simp; omega
                  have e7 : (s.kind == 7) = false := by simp; omega
                  have e6 : (s.kind == 6) = false := by simp; omega
                  have e3 : (s.kind == 3) = false := by simp; omega
                  have e4 : (s.kind == 4) = false := by simp; omega
                  have HKd : Hid (s.kind = 2) := hk
                  clear hk
                  cases hnm : Sy.nm s.name
                  · have HT : Hid (r = .error 7) := HRr.out.trans (runs_err HS.out (stW_noname HN.out ⟨by have := HKd.out; omega, hnm⟩))
                    have HNm : Hid (Lx.named s.name.toList = false) := hnm
                    clear hnm
                    go_wp2_with fail
                    refine (more_any C m (d + 1) deep true _ HC0 hm HD HB1).mono ?_
                    rintro e w1 ⟨rfl, hg, hck⟩
                    have HM : Hid (RMid wr C (stO s xa xc ba bc ea ec) (m + 1) w1) := ⟨alloc_grown hg, hck, box_in hg (by simp; omega)⟩
                    clear hg hck c0 c1 c2 c3 c4 c5 c6 c7
                    obtain ⟨b0, b1, b2, b3, b4, b5, b6, b7⟩ := eight_cell HM.out.2.2
                    go_wp2_with fail
                    refine (refNamed_any s.name _ hname).mono ?_
                    rintro e w2 ⟨rfl, hb⟩
                    rw [HNm.out]
                    have HG2 : Hid (w.grownBy w2 (some C)) := grown_trans HGr.out (grown_trans HM.out.1 (grown_some (grown_of_below hb) _))
                    clear hb
                    go_wp2
                    go_ret
                    exact ⟨HG2.out, by rw [HT.out]; exact ⟨rfl, by decide⟩⟩
                  · have HNm : Hid (Lx.named s.name.toList = true) := hnm
                    clear hnm
                    go_wp2_with fail
                    refine (more_any C m (d + 1) deep true _ HC0 hm HD HB1).mono ?_
                    rintro e w1 ⟨rfl, hg, hck⟩
                    have HM : Hid (RMid wr C (stO s xa xc ba bc ea ec) (m + 1) w1) := ⟨alloc_grown hg, hck, box_in hg (by simp; omega)⟩
                    clear hg hck c0 c1 c2 c3 c4 c5 c6 c7
                    obtain ⟨b0, b1, b2, b3, b4, b5, b6, b7⟩ := eight_cell HM.out.2.2
                    go_wp2_with fail
                    refine (refNamed_any s.name _ hname).mono ?_
                    rintro e w0 ⟨rfl, hb⟩
                    rw [HNm.out]
                    have HM2 : Hid (RMid wr C (stO s xa xc ba bc ea ec) (m + 1) w0) := HM.out.on (grown_of_below hb)
                    clear hb
                    clear b0 b1 b2 b3 b4 b5 b6 b7 HM
                    have HM := HM2
                    clear HM2
                    obtain ⟨b0, b1, b2, b3, b4, b5, b6, b7⟩ := eight_cell HM.out.2.2
                    obtain ⟨hx, hin⟩ := HSt.out.2.1
                    have HIn : Hid (ExIn B w0 hx s.x xa) := hin.same (HM.out.same hBC hCr)
                    clear hin
                    obtain ⟨r2, hr2⟩ : ∃ r2, r2 = Sy.exW d s.x (m + 1) := ⟨_, rfl⟩
                    have HR2 : Hid (r2 = Sy.exW d s.x (m + 1)) := hr2
                    clear hr2
                    go_wp2_with fail
                    refine (rexpr_any C B hBC d hx s.x xa xc (m + 1) (deep + 1) r2 _ (by have := HD.out; omega) (by omega) HIn HM.out.2.1 hm1 HR2).mono ?_
                    rintro e w2 ⟨hg, hf⟩
                    cases r2 with
                    | error er =>
                      have HT : Hid (r = .error er) := HRr.out.trans (runs_err HS.out (stW_xe HN.out (by rintro ⟨_, hq⟩; rw [show Sy.nm s.name = true from HNm.out] at hq; exact absurd hq (by decide)) (by have := HKd.out; omega) HR2.out.symm))
                      obtain ⟨rfl, hne⟩ := hf
                      have e0 : (er != 0) = true := by simp; exact hne
                      have HNe : Hid (er ≠ 0) := hne
                      have HG : Hid (w.grownBy w2 (some C)) := grown_trans HGr.out (grown_trans HM.out.1 hg)
                      clear hg hne b0 b1 b2 b3 b4 b5 b6 b7
                      go_wp2
                      go_ret
                      exact ⟨HG.out, by rw [HT.out]; exact ⟨rfl, HNe.out⟩⟩
                    | ok m2 =>
                      have hm2 : m2 ≤ 2000 := Sy.exW_le _ _ _ _ hm1 HR2.out.symm
                      have HS1 : Hid (Sy.stW (d + 1) s m = Sy.stTail (Sy.stW d) s m2) := stW_xo HN.out (by rintro ⟨_, hq⟩; rw [show Sy.nm s.name = true from HNm.out] at hq; exact absurd hq (by decide)) (by have := HKd.out; omega) HR2.out.symm
                      obtain ⟨rfl, hck⟩ := hf
                      have HM2 : Hid (RMid wr C (stO s xa xc ba bc ea ec) m2 w2) := HM.out.past hCr hg hck
                      clear hg hck
                      clear b0 b1 b2 b3 b4 b5 b6 b7 HM
                      have HM := HM2
                      clear HM2
                      obtain ⟨b0, b1, b2, b3, b4, b5, b6, b7⟩ := eight_cell HM.out.2.2
                      have HNext : Hid (r = Sy.runs (Sy.stW (d + 1)) (l.drop (k + 1)) m2) := HRr.out.trans (runs_ok HS.out (HS1.out.trans (tail_plain (by have := HKd.out; omega))))
                      go_wp2
                      go_roundw
                      case rel => exact ⟨k + 1, m2, by omega, by go_num, hm2, HM.out.2.1, grown_trans HGr.out HM.out.1, HNext⟩
                      case measure => simp [intOf]; omega
                · have e1 : (s.kind == 1) = false := by simp; omega
                  have e2 : (s.kind == 2) = false := by simp; omega
                  have e7 : (s.kind == 7) = false := by simp; omega
                  have e6 : (s.kind == 6) = false := by simp; omega
                  have e3 : (s.kind == 3) = true := by simp; omega
                  have e4 : (s.kind == 4) = false := by simp; omega
                  have HKd : Hid (s.kind = 3) := hk
                  clear hk
                  go_wp2_with fail
                  refine (more_any C m (d + 1) deep true _ HC0 hm HD HB1).mono ?_
                  rintro e w1 ⟨rfl, hg, hck⟩
                  have HM : Hid (RMid wr C (stO s xa xc ba bc ea ec) (m + 1) w1) := ⟨alloc_grown hg, hck, box_in hg (by simp; omega)⟩
                  clear hg hck c0 c1 c2 c3 c4 c5 c6 c7
                  obtain ⟨b0, b1, b2, b3, b4, b5, b6, b7⟩ := eight_cell HM.out.2.2
                  obtain ⟨hx, hin⟩ := HSt.out.2.1
                  have HIn : Hid (ExIn B w1 hx s.x xa) := hin.same (HM.out.same hBC hCr)
                  clear hin
                  obtain ⟨r2, hr2⟩ : ∃ r2, r2 = Sy.exW d s.x (m + 1) := ⟨_, rfl⟩
                  have HR2 : Hid (r2 = Sy.exW d s.x (m + 1)) := hr2
                  clear hr2
                  go_wp2_with fail
                  refine (rexpr_any C B hBC d hx s.x xa xc (m + 1) (deep + 1) r2 _ (by have := HD.out; omega) (by omega) HIn HM.out.2.1 hm1 HR2).mono ?_
                  rintro e w2 ⟨hg, hf⟩
                  cases r2 with
                  | error er =>
                    have HT : Hid (r = .error er) := HRr.out.trans (runs_err HS.out (stW_xe HN.out (by rintro ⟨hq, _⟩; have := HKd.out; omega) (by have := HKd.out; omega) HR2.out.symm))
                    obtain ⟨rfl, hne⟩ := hf
                    have e0 : (er != 0) = true := by simp; exact hne
                    have HNe : Hid (er ≠ 0) := hne
                    have HG : Hid (w.grownBy w2 (some C)) := grown_trans HGr.out (grown_trans HM.out.1 hg)
                    clear hg hne b0 b1 b2 b3 b4 b5 b6 b7
                    go_wp2
                    go_ret
                    exact ⟨HG.out, by rw [HT.out]; exact ⟨rfl, HNe.out⟩⟩
                  | ok m2 =>
                    have hm2 : m2 ≤ 2000 := Sy.exW_le _ _ _ _ hm1 HR2.out.symm
                    have HS1 : Hid (Sy.stW (d + 1) s m = Sy.stTail (Sy.stW d) s m2) := stW_xo HN.out (by rintro ⟨hq, _⟩; have := HKd.out; omega) (by have := HKd.out; omega) HR2.out.symm
                    obtain ⟨rfl, hck⟩ := hf
                    have HM2 : Hid (RMid wr C (stO s xa xc ba bc ea ec) m2 w2) := HM.out.past hCr hg hck
                    clear hg hck
                    clear b0 b1 b2 b3 b4 b5 b6 b7 HM
                    have HM := HM2
                    clear HM2
                    obtain ⟨b0, b1, b2, b3, b4, b5, b6, b7⟩ := eight_cell HM.out.2.2
                    have HB : Hid (BodyIn B w2 h s.body ba) := BodyIn.same (HM.out.same hBC hCr) ⟨HSt.out.2.2.1, HSt.out.2.2.2.2.1⟩
                    obtain ⟨r3, hr3⟩ : ∃ r3, r3 = Sy.bodyOf (Sy.stW d) s.body m2 := ⟨_, rfl⟩
                    have HR3 : Hid (r3 = Sy.bodyOf (Sy.stW d) s.body m2) := hr3
                    clear hr3
                    go_wp2_with fail
                    refine (ih.out h s.body ba bc m2 (deep + 1) r3 _ (by have := HD.out; omega) (by omega) HB HM.out.2.1 hm2 HR3).mono ?_
                    rintro e w3 ⟨hg, hf⟩
                    cases r3 with
                    | error er =>
                      have HT : Hid (r = .error er) := HRr.out.trans (runs_err HS.out (HS1.out.trans (tail_be (by have := HKd.out; omega) HR3.out.symm)))
                      obtain ⟨rfl, hne⟩ := hf
                      have e0 : (er != 0) = true := by simp; exact hne
                      have HNe : Hid (er ≠ 0) := hne
                      have HG : Hid (w.grownBy w3 (some C)) := grown_trans HGr.out (grown_trans HM.out.1 hg)
                      clear hg hne b0 b1 b2 b3 b4 b5 b6 b7
                      go_wp2
                      go_ret
                      exact ⟨HG.out, by rw [HT.out]; exact ⟨rfl, HNe.out⟩⟩
                    | ok m3 =>
                      have hm3 : m3 ≤ 2000 := Sy.bodyOf_le (Sy.stW_le d) hm2 HR3.out.symm
                      obtain ⟨rfl, hck⟩ := hf
                      have HM2 : Hid (RMid wr C (stO s xa xc ba bc ea ec) m3 w3) := HM.out.past hCr hg hck
                      clear hg hck
                      clear b0 b1 b2 b3 b4 b5 b6 b7 HM
                      have HM := HM2
                      clear HM2
                      obtain ⟨b0, b1, b2, b3, b4, b5, b6, b7⟩ := eight_cell HM.out.2.2
                      have HB2 : Hid (BodyIn B w3 h s.els ea) := BodyIn.same (HM.out.same hBC hCr) ⟨HSt.out.2.2.2.1, HSt.out.2.2.2.2.2⟩
                      obtain ⟨r4, hr4⟩ : ∃ r4, r4 = Sy.bodyOf (Sy.stW d) s.els m3 := ⟨_, rfl⟩
                      have HR4 : Hid (r4 = Sy.bodyOf (Sy.stW d) s.els m3) := hr4
                      clear hr4
                      go_wp2_with fail
                      refine (ih.out h s.els ea ec m3 (deep + 1) r4 _ (by have := HD.out; omega) (by omega) HB2 HM.out.2.1 hm3 HR4).mono ?_
                      rintro e w4 ⟨hg, hf⟩
                      cases r4 with
                      | error er =>
                        have HT : Hid (r = .error er) := HRr.out.trans (runs_err HS.out ((HS1.out.trans (tail_b3 HKd.out HR3.out.symm)).trans HR4.out.symm))
                        obtain ⟨rfl, hne⟩ := hf
                        have e0 : (er != 0) = true := by simp; exact hne
                        have HNe : Hid (er ≠ 0) := hne
                        have HG : Hid (w.grownBy w4 (some C)) := grown_trans HGr.out (grown_trans HM.out.1 hg)
                        clear hg hne b0 b1 b2 b3 b4 b5 b6 b7
                        go_wp2
                        go_ret
                        exact ⟨HG.out, by rw [HT.out]; exact ⟨rfl, HNe.out⟩⟩
                      | ok m4 =>
                        have hm4 : m4 ≤ 2000 := Sy.bodyOf_le (Sy.stW_le d) hm3 HR4.out.symm
                        have HNext : Hid (r = Sy.runs (Sy.stW (d + 1)) (l.drop (k + 1)) m4) := HRr.out.trans (runs_ok HS.out ((HS1.out.trans (tail_b3 HKd.out HR3.out.symm)).trans HR4.out.symm))
                        obtain ⟨rfl, hck⟩ := hf
                        have HM2 : Hid (RMid wr C (stO s xa xc ba bc ea ec) m4 w4) := HM.out.past hCr hg hck
                        clear hg hck
                        clear b0 b1 b2 b3 b4 b5 b6 b7 HM
                        have HM := HM2
                        clear HM2
                        obtain ⟨b0, b1, b2, b3, b4, b5, b6, b7⟩ := eight_cell HM.out.2.2
                        go_wp2
                        go_roundw
                        case rel => exact ⟨k + 1, m4, by omega, by go_num, hm4, HM.out.2.1, grown_trans HGr.out HM.out.1, HNext⟩
                        case measure => simp [intOf]; omega
                · have e1 : (s.kind == 1) = false := by simp; omega
                  have e2 : (s.kind == 2) = false := by simp; omega
                  have e7 : (s.kind == 7) = false := by simp; omega
                  have e6 : (s.kind == 6) = false := by simp; omega
                  have e3 : (s.kind == 3) = false := by simp; omega
                  have e4 : (s.kind == 4) = true := by simp; omega
                  have HKd : Hid (s.kind = 4) := hk
                  clear hk
                  go_wp2_with fail
                  refine (more_any C m (d + 1) deep true _ HC0 hm HD HB1).mono ?_
                  rintro e w1 ⟨rfl, hg, hck⟩
                  have HM : Hid (RMid wr C (stO s xa xc ba bc ea ec) (m + 1) w1) := ⟨alloc_grown hg, hck, box_in hg (by simp; omega)⟩
                  clear hg hck c0 c1 c2 c3 c4 c5 c6 c7
                  obtain ⟨b0, b1, b2, b3, b4, b5, b6, b7⟩ := eight_cell HM.out.2.2
                  obtain ⟨hx, hin⟩ := HSt.out.2.1
                  have HIn : Hid (ExIn B w1 hx s.x xa) := hin.same (HM.out.same hBC hCr)
                  clear hin
                  obtain ⟨r2, hr2⟩ : ∃ r2, r2 = Sy.exW d s.x (m + 1) := ⟨_, rfl⟩
                  have HR2 : Hid (r2 = Sy.exW d s.x (m + 1)) := hr2
                  clear hr2
                  go_wp2_with fail
                  refine (rexpr_any C B hBC d hx s.x xa xc (m + 1) (deep + 1) r2 _ (by have := HD.out; omega) (by omega) HIn HM.out.2.1 hm1 HR2).mono ?_
                  rintro e w2 ⟨hg, hf⟩
                  cases r2 with
                  | error er =>
                    have HT : Hid (r = .error er) := HRr.out.trans (runs_err HS.out (stW_xe HN.out (by rintro ⟨hq, _⟩; have := HKd.out; omega) (by have := HKd.out; omega) HR2.out.symm))
                    obtain ⟨rfl, hne⟩ := hf
                    have e0 : (er != 0) = true := by simp; exact hne
                    have HNe : Hid (er ≠ 0) := hne
                    have HG : Hid (w.grownBy w2 (some C)) := grown_trans HGr.out (grown_trans HM.out.1 hg)
                    clear hg hne b0 b1 b2 b3 b4 b5 b6 b7
                    go_wp2
                    go_ret
                    exact ⟨HG.out, by rw [HT.out]; exact ⟨rfl, HNe.out⟩⟩
                  | ok m2 =>
                    have hm2 : m2 ≤ 2000 := Sy.exW_le _ _ _ _ hm1 HR2.out.symm
                    have HS1 : Hid (Sy.stW (d + 1) s m = Sy.stTail (Sy.stW d) s m2) := stW_xo HN.out (by rintro ⟨hq, _⟩; have := HKd.out; omega) (by have := HKd.out; omega) HR2.out.symm
                    obtain ⟨rfl, hck⟩ := hf
                    have HM2 : Hid (RMid wr C (stO s xa xc ba bc ea ec) m2 w2) := HM.out.past hCr hg hck
                    clear hg hck
                    clear b0 b1 b2 b3 b4 b5 b6 b7 HM
                    have HM := HM2
                    clear HM2
                    obtain ⟨b0, b1, b2, b3, b4, b5, b6, b7⟩ := eight_cell HM.out.2.2
                    have HB : Hid (BodyIn B w2 h s.body ba) := BodyIn.same (HM.out.same hBC hCr) ⟨HSt.out.2.2.1, HSt.out.2.2.2.2.1⟩
                    obtain ⟨r3, hr3⟩ : ∃ r3, r3 = Sy.bodyOf (Sy.stW d) s.body m2 := ⟨_, rfl⟩
                    have HR3 : Hid (r3 = Sy.bodyOf (Sy.stW d) s.body m2) := hr3
                    clear hr3
                    go_wp2_with fail
                    refine (ih.out h s.body ba bc m2 (deep + 1) r3 _ (by have := HD.out; omega) (by omega) HB HM.out.2.1 hm2 HR3).mono ?_
                    rintro e w3 ⟨hg, hf⟩
                    cases r3 with
                    | error er =>
                      have HT : Hid (r = .error er) := HRr.out.trans (runs_err HS.out (HS1.out.trans (tail_be (by have := HKd.out; omega) HR3.out.symm)))
                      obtain ⟨rfl, hne⟩ := hf
                      have e0 : (er != 0) = true := by simp; exact hne
                      have HNe : Hid (er ≠ 0) := hne
                      have HG : Hid (w.grownBy w3 (some C)) := grown_trans HGr.out (grown_trans HM.out.1 hg)
                      clear hg hne b0 b1 b2 b3 b4 b5 b6 b7
                      go_wp2
                      go_ret
                      exact ⟨HG.out, by rw [HT.out]; exact ⟨rfl, HNe.out⟩⟩
                    | ok m3 =>
                      have hm3 : m3 ≤ 2000 := Sy.bodyOf_le (Sy.stW_le d) hm2 HR3.out.symm
                      obtain ⟨rfl, hck⟩ := hf
                      have HM2 : Hid (RMid wr C (stO s xa xc ba bc ea ec) m3 w3) := HM.out.past hCr hg hck
                      clear hg hck
                      clear b0 b1 b2 b3 b4 b5 b6 b7 HM
                      have HM := HM2
                      clear HM2
                      obtain ⟨b0, b1, b2, b3, b4, b5, b6, b7⟩ := eight_cell HM.out.2.2
                      have HNext : Hid (r = Sy.runs (Sy.stW (d + 1)) (l.drop (k + 1)) m3) := HRr.out.trans (runs_ok HS.out (HS1.out.trans (tail_b4 HKd.out HR3.out.symm)))
                      go_wp2
                      go_roundw
                      case rel => exact ⟨k + 1, m3, by omega, by go_num, hm3, HM.out.2.1, grown_trans HGr.out HM.out.1, HNext⟩
                      case measure => simp [intOf]; omega
                · have e1 : (s.kind == 1) = false := by simp; omega
                  have e2 : (s.kind == 2) = false := by simp; omega
                  have e7 : (s.kind == 7) = false := by simp; omega
                  have e6 : (s.kind == 6) = false := by simp; omega
                  have e3 : (s.kind == 3) = false := by simp; omega
                  have e4 : (s.kind == 4) = false := by simp; omega
                  have HKd : Hid (s.kind = 5) := hk
                  clear hk
                  go_wp2_with fail
                  refine (more_any C m (d + 1) deep true _ HC0 hm HD HB1).mono ?_
                  rintro e w1 ⟨rfl, hg, hck⟩
                  have HM : Hid (RMid wr C (stO s xa xc ba bc ea ec) (m + 1) w1) := ⟨alloc_grown hg, hck, box_in hg (by simp; omega)⟩
                  clear hg hck c0 c1 c2 c3 c4 c5 c6 c7
                  obtain ⟨b0, b1, b2, b3, b4, b5, b6, b7⟩ := eight_cell HM.out.2.2
                  obtain ⟨hx, hin⟩ := HSt.out.2.1
                  have HIn : Hid (ExIn B w1 hx s.x xa) := hin.same (HM.out.same hBC hCr)
                  clear hin
                  obtain ⟨r2, hr2⟩ : ∃ r2, r2 = Sy.exW d s.x (m + 1) := ⟨_, rfl⟩
                  have HR2 : Hid (r2 = Sy.exW d s.x (m + 1)) := hr2
                  clear hr2
                  go_wp2_with fail
                  refine (rexpr_any C B hBC d hx s.x xa xc (m + 1) (deep + 1) r2 _ (by have := HD.out; omega) (by omega) HIn HM.out.2.1 hm1 HR2).mono ?_
                  rintro e w2 ⟨hg, hf⟩
                  cases r2 with
                  | error er =>
                    have HT : Hid (r = .error er) := HRr.out.trans (runs_err HS.out (stW_xe HN.out (by rintro ⟨hq, _⟩; have := HKd.out; omega) (by have := HKd.out; omega) HR2.out.symm))
                    obtain ⟨rfl, hne⟩ := hf
                    have e0 : (er != 0) = true := by simp; exact hne
                    have HNe : Hid (er ≠ 0) := hne
                    have HG : Hid (w.grownBy w2 (some C)) := grown_trans HGr.out (grown_trans HM.out.1 hg)
                    clear hg hne b0 b1 b2 b3 b4 b5 b6 b7
                    go_wp2
                    go_ret
                    exact ⟨HG.out, by rw [HT.out]; exact ⟨rfl, HNe.out⟩⟩
                  | ok m2 =>
                    have hm2 : m2 ≤ 2000 := Sy.exW_le _ _ _ _ hm1 HR2.out.symm
                    have HS1 : Hid (Sy.stW (d + 1) s m = Sy.stTail (Sy.stW d) s m2) := stW_xo HN.out (by rintro ⟨hq, _⟩; have := HKd.out; omega) (by have := HKd.out; omega) HR2.out.symm
                    obtain ⟨rfl, hck⟩ := hf
                    have HM2 : Hid (RMid wr C (stO s xa xc ba bc ea ec) m2 w2) := HM.out.past hCr hg hck
                    clear hg hck
                    clear b0 b1 b2 b3 b4 b5 b6 b7 HM
                    have HM := HM2
                    clear HM2
                    obtain ⟨b0, b1, b2, b3, b4, b5, b6, b7⟩ := eight_cell HM.out.2.2
                    have HNext : Hid (r = Sy.runs (Sy.stW (d + 1)) (l.drop (k + 1)) m2) := HRr.out.trans (runs_ok HS.out (HS1.out.trans (tail_plain (by have := HKd.out; omega))))
                    go_wp2
                    go_roundw
                    case rel => exact ⟨k + 1, m2, by omega, by go_num, hm2, HM.out.2.1, grown_trans HGr.out HM.out.1, HNext⟩
                    case measure => simp [intOf]; omega
                · have e1 : (s.kind == 1) = false := by simp; omega
                  have e2 : (s.kind == 2) = false := by simp; omega
                  have e7 : (s.kind == 7) = false := by simp; omega
                  have e6 : (s.kind == 6) = true := by simp; omega
                  have e3 : (s.kind == 3) = false := by simp; omega
                  have e4 : (s.kind == 4) = false := by simp; omega
                  have HKd : Hid (s.kind = 6) := hk
                  clear hk
                  obtain ⟨m9, hm9e⟩ : ∃ m9, m9 = m + 1 := ⟨_, rfl⟩
                  have hm9 : m9 ≤ 2000 := by omega
                  have HNext : Hid (r = Sy.runs (Sy.stW (d + 1)) (l.drop (k + 1)) m9) := HRr.out.trans (runs_ok HS.out (by rw [hm9e]; exact stW_stop HN.out HKd.out))
                  have HM9 : Hid (m9 = m + 1) := hm9e
                  clear hm9e
                  go_wp2_with fail
                  refine (more_any C m (d + 1) deep true _ HC0 hm HD HB1).mono ?_
                  rintro e w1 ⟨rfl, hg, hck⟩
                  have HM : Hid (RMid wr C (stO s xa xc ba bc ea ec) (m + 1) w1) := ⟨alloc_grown hg, hck, box_in hg (by simp; omega)⟩
                  clear hg hck c0 c1 c2 c3 c4 c5 c6 c7
                  obtain ⟨b0, b1, b2, b3, b4, b5, b6, b7⟩ := eight_cell HM.out.2.2
                  rw [← HM9.out] at HM
                  go_wp2
                  go_roundw
                  case rel => exact ⟨k + 1, m9, by omega, by go_num, hm9, HM.out.2.1, grown_trans HGr.out HM.out.1, HNext⟩
                  case measure => simp [intOf]; omega
                · have e1 : (s.kind == 1) = false := by simp; omega
                  have e2 : (s.kind == 2) = false := by simp; omega
                  have e7 : (s.kind == 7) = true := by simp; omega
                  have e6 : (s.kind == 6) = false := by simp; omega
                  have e3 : (s.kind == 3) = false := by simp; omega
                  have e4 : (s.kind == 4) = false := by simp; omega
                  have HKd : Hid (s.kind = 7) := hk
                  clear hk
                  cases hnm : Sy.nm s.name
                  · have HT : Hid (r = .error 7) := HRr.out.trans (runs_err HS.out (stW_noname HN.out ⟨by have := HKd.out; omega, hnm⟩))
                    have HNm : Hid (Lx.named s.name.toList = false) := hnm
                    clear hnm
                    go_wp2_with fail
                    refine (more_any C m (d + 1) deep true _ HC0 hm HD HB1).mono ?_
                    rintro e w1 ⟨rfl, hg, hck⟩
                    have HM : Hid (RMid wr C (stO s xa xc ba bc ea ec) (m + 1) w1) := ⟨alloc_grown hg, hck, box_in hg (by simp; omega)⟩
                    clear hg hck c0 c1 c2 c3 c4 c5 c6 c7
                    obtain ⟨b0, b1, b2, b3, b4, b5, b6, b7⟩ := eight_cell HM.out.2.2
                    go_wp2_with fail
                    refine (refNamed_any s.name _ hname).mono ?_
                    rintro e w2 ⟨rfl, hb⟩
                    rw [HNm.out]
                    have HG2 : Hid (w.grownBy w2 (some C)) := grown_trans HGr.out (grown_trans HM.out.1 (grown_some (grown_of_below hb) _))
                    clear hb
                    go_wp2
                    go_ret
                    exact ⟨HG2.out, by rw [HT.out]; exact ⟨rfl, by decide⟩⟩
                  · have HNm : Hid (Lx.named s.name.toList = true) := hnm
                    clear hnm
                    go_wp2_with fail
                    refine (more_any C m (d + 1) deep true _ HC0 hm HD HB1).mono ?_
                    rintro e w1 ⟨rfl, hg, hck⟩
                    have HM : Hid (RMid wr C (stO s xa xc ba bc ea ec) (m + 1) w1) := ⟨alloc_grown hg, hck, box_in hg (by simp; omega)⟩
                    clear hg hck c0 c1 c2 c3 c4 c5 c6 c7
                    obtain ⟨b0, b1, b2, b3, b4, b5, b6, b7⟩ := eight_cell HM.out.2.2
                    go_wp2_with fail
                    refine (refNamed_any s.name _ hname).mono ?_
                    rintro e w0 ⟨rfl, hb⟩
                    rw [HNm.out]
                    have HM2 : Hid (RMid wr C (stO s xa xc ba bc ea ec) (m + 1) w0) := HM.out.on (grown_of_below hb)
                    clear hb
                    clear b0 b1 b2 b3 b4 b5 b6 b7 HM
                    have HM := HM2
                    clear HM2
                    obtain ⟨b0, b1, b2, b3, b4, b5, b6, b7⟩ := eight_cell HM.out.2.2
                    obtain ⟨hx, hin⟩ := HSt.out.2.1
                    have HIn : Hid (ExIn B w0 hx s.x xa) := hin.same (HM.out.same hBC hCr)
                    clear hin
                    obtain ⟨r2, hr2⟩ : ∃ r2, r2 = Sy.exW d s.x (m + 1) := ⟨_, rfl⟩
                    have HR2 : Hid (r2 = Sy.exW d s.x (m + 1)) := hr2
                    clear hr2
                    go_wp2_with fail
                    refine (rexpr_any C B hBC d hx s.x xa xc (m + 1) (deep + 1) r2 _ (by have := HD.out; omega) (by omega) HIn HM.out.2.1 hm1 HR2).mono ?_
                    rintro e w2 ⟨hg, hf⟩
                    cases r2 with
                    | error er =>
                      have HT : Hid (r = .error er) := HRr.out.trans (runs_err HS.out (stW_xe HN.out (by rintro ⟨_, hq⟩; rw [show Sy.nm s.name = true from HNm.out] at hq; exact absurd hq (by decide)) (by have := HKd.out; omega) HR2.out.symm))
                      obtain ⟨rfl, hne⟩ := hf
                      have e0 : (er != 0) = true := by simp; exact hne
                      have HNe : Hid (er ≠ 0) := hne
                      have HG : Hid (w.grownBy w2 (some C)) := grown_trans HGr.out (grown_trans HM.out.1 hg)
                      clear hg hne b0 b1 b2 b3 b4 b5 b6 b7
                      go_wp2
                      go_ret
                      exact ⟨HG.out, by rw [HT.out]; exact ⟨rfl, HNe.out⟩⟩
                    | ok m2 =>
                      have hm2 : m2 ≤ 2000 := Sy.exW_le _ _ _ _ hm1 HR2.out.symm
                      have HS1 : Hid (Sy.stW (d + 1) s m = Sy.stTail (Sy.stW d) s m2) := stW_xo HN.out (by rintro ⟨_, hq⟩; rw [show Sy.nm s.name = true from HNm.out] at hq; exact absurd hq (by decide)) (by have := HKd.out; omega) HR2.out.symm
                      obtain ⟨rfl, hck⟩ := hf
                      have HM2 : Hid (RMid wr C (stO s xa xc ba bc ea ec) m2 w2) := HM.out.past hCr hg hck
                      clear hg hck
                      clear b0 b1 b2 b3 b4 b5 b6 b7 HM
                      have HM := HM2
                      clear HM2
                      obtain ⟨b0, b1, b2, b3, b4, b5, b6, b7⟩ := eight_cell HM.out.2.2
                      have HNext : Hid (r = Sy.runs (Sy.stW (d + 1)) (l.drop (k + 1)) m2) := HRr.out.trans (runs_ok HS.out (HS1.out.trans (tail_plain (by have := HKd.out; omega))))
                      go_wp2
                      go_roundw
                      case rel => exact ⟨k + 1, m2, by omega, by go_num, hm2, HM.out.2.1, grown_trans HGr.out HM.out.1, HNext⟩
                      case measure => simp [intOf]; omega
                · have e1 : (s.kind == 1) = false := by simp; omega
                  have e2 : (s.kind == 2) = false := by simp; omega
                  have e7 : (s.kind == 7) = false := by simp; omega
                  have e6 : (s.kind == 6) = false := by simp; omega
                  have e3 : (s.kind == 3) = false := by simp; omega
                  have e4 : (s.kind == 4) = false := by simp; omega
                  have HKd : Hid (s.kind = 8) := hk
                  clear hk
                  go_wp2_with fail
                  refine (more_any C m (d + 1) deep true _ HC0 hm HD HB1).mono ?_
                  rintro e w1 ⟨rfl, hg, hck⟩
                  have HM : Hid (RMid wr C (stO s xa xc ba bc ea ec) (m + 1) w1) := ⟨alloc_grown hg, hck, box_in hg (by simp; omega)⟩
                  clear hg hck c0 c1 c2 c3 c4 c5 c6 c7
                  obtain ⟨b0, b1, b2, b3, b4, b5, b6, b7⟩ := eight_cell HM.out.2.2
                  obtain ⟨hx, hin⟩ := HSt.out.2.1
                  have HIn : Hid (ExIn B w1 hx s.x xa) := hin.same (HM.out.same hBC hCr)
                  clear hin
                  obtain ⟨r2, hr2⟩ : ∃ r2, r2 = Sy.exW d s.x (m + 1) := ⟨_, rfl⟩
                  have HR2 : Hid (r2 = Sy.exW d s.x (m + 1)) := hr2
                  clear hr2
                  go_wp2_with fail
                  refine (rexpr_any C B hBC d hx s.x xa xc (m + 1) (deep + 1) r2 _ (by have := HD.out; omega) (by omega) HIn HM.out.2.1 hm1 HR2).mono ?_
                  rintro e w2 ⟨hg, hf⟩
                  cases r2 with
                  | error er =>
                    have HT : Hid (r = .error er) := HRr.out.trans (runs_err HS.out (stW_xe HN.out (by rintro ⟨hq, _⟩; have := HKd.out; omega) (by have := HKd.out; omega) HR2.out.symm))
                    obtain ⟨rfl, hne⟩ := hf
                    have e0 : (er != 0) = true := by simp; exact hne
                    have HNe : Hid (er ≠ 0) := hne
                    have HG : Hid (w.grownBy w2 (some C)) := grown_trans HGr.out (grown_trans HM.out.1 hg)
                    clear hg hne b0 b1 b2 b3 b4 b5 b6 b7
                    go_wp2
                    go_ret
                    exact ⟨HG.out, by rw [HT.out]; exact ⟨rfl, HNe.out⟩⟩
                  | ok m2 =>
                    have hm2 : m2 ≤ 2000 := Sy.exW_le _ _ _ _ hm1 HR2.out.symm
                    have HS1 : Hid (Sy.stW (d + 1) s m = Sy.stTail (Sy.stW d) s m2) := stW_xo HN.out (by rintro ⟨hq, _⟩; have := HKd.out; omega) (by have := HKd.out; omega) HR2.out.symm
                    obtain ⟨rfl, hck⟩ := hf
                    have HM2 : Hid (RMid wr C (stO s xa xc ba bc ea ec) m2 w2) := HM.out.past hCr hg hck
                    clear hg hck
                    clear b0 b1 b2 b3 b4 b5 b6 b7 HM
                    have HM := HM2
                    clear HM2
                    obtain ⟨b0, b1, b2, b3, b4, b5, b6, b7⟩ := eight_cell HM.out.2.2
                    have HNext : Hid (r = Sy.runs (Sy.stW (d + 1)) (l.drop (k + 1)) m2) := HRr.out.trans (runs_ok HS.out (HS1.out.trans (tail_plain (by have := HKd.out; omega))))
                    go_wp2
                    go_roundw
                    case rel => exact ⟨k + 1, m2, by omega, by go_num, hm2, HM.out.2.1, grown_trans HGr.out HM.out.1, HNext⟩
                    case measure => simp [intOf]; omega
                · have e1 : (s.kind == 1) = false := by simp; omega
                  have e2 : (s.kind == 2) = false := by simp; omega
                  have e7 : (s.kind == 7) = false := by simp; omega
                  have e6 : (s.kind == 6) = false := by simp; omega
                  have e3 : (s.kind == 3) = false := by simp; omega
                  have e4 : (s.kind == 4) = false := by simp; omega
                  have HKd : Hid (s.kind = 9) := hk
                  clear hk
                  go_wp2_with fail
                  refine (more_any C m (d + 1) deep true _ HC0 hm HD HB1).mono ?_
                  rintro e w1 ⟨rfl, hg, hck⟩
                  have HM : Hid (RMid wr C (stO s xa xc ba bc ea ec) (m + 1) w1) := ⟨alloc_grown hg, hck, box_in hg (by simp; omega)⟩
                  clear hg hck c0 c1 c2 c3 c4 c5 c6 c7
                  obtain ⟨b0, b1, b2, b3, b4, b5, b6, b7⟩ := eight_cell HM.out.2.2
                  obtain ⟨hx, hin⟩ := HSt.out.2.1
                  have HIn : Hid (ExIn B w1 hx s.x xa) := hin.same (HM.out.same hBC hCr)
                  clear hin
                  obtain ⟨r2, hr2⟩ : ∃ r2, r2 = Sy.exW d s.x (m + 1) := ⟨_, rfl⟩
                  have HR2 : Hid (r2 = Sy.exW d s.x (m + 1)) := hr2
                  clear hr2
                  go_wp2_with fail
                  refine (rexpr_any C B hBC d hx s.x xa xc (m + 1) (deep + 1) r2 _ (by have := HD.out; omega) (by omega) HIn HM.out.2.1 hm1 HR2).mono ?_
                  rintro e w2 ⟨hg, hf⟩
                  cases r2 with
                  | error er =>
                    have HT : Hid (r = .error er) := HRr.out.trans (runs_err HS.out (stW_xe HN.out (by rintro ⟨hq, _⟩; have := HKd.out; omega) (by have := HKd.out; omega) HR2.out.symm))
                    obtain ⟨rfl, hne⟩ := hf
                    have e0 : (er != 0) = true := by simp; exact hne
                    have HNe : Hid (er ≠ 0) := hne
                    have HG : Hid (w.grownBy w2 (some C)) := grown_trans HGr.out (grown_trans HM.out.1 hg)
                    clear hg hne b0 b1 b2 b3 b4 b5 b6 b7
                    go_wp2
                    go_ret
                    exact ⟨HG.out, by rw [HT.out]; exact ⟨rfl, HNe.out⟩⟩
                  | ok m2 =>
                    have hm2 : m2 ≤ 2000 := Sy.exW_le _ _ _ _ hm1 HR2.out.symm
                    have HS1 : Hid (Sy.stW (d + 1) s m = Sy.stTail (Sy.stW d) s m2) := stW_xo HN.out (by rintro ⟨hq, _⟩; have := HKd.out; omega) (by have := HKd.out; omega) HR2.out.symm
                    obtain ⟨rfl, hck⟩ := hf
                    have HM2 : Hid (RMid wr C (stO s xa xc ba bc ea ec) m2 w2) := HM.out.past hCr hg hck
                    clear hg hck
                    clear b0 b1 b2 b3 b4 b5 b6 b7 HM
                    have HM := HM2
                    clear HM2
                    obtain ⟨b0, b1, b2, b3, b4, b5, b6, b7⟩ := eight_cell HM.out.2.2
                    have HNext : Hid (r = Sy.runs (Sy.stW (d + 1)) (l.drop (k + 1)) m2) := HRr.out.trans (runs_ok HS.out (HS1.out.trans (tail_plain (by have := HKd.out; omega))))
                    go_wp2
                    go_roundw
                    case rel => exact ⟨k + 1, m2, by omega, by go_num, hm2, HM.out.2.1, grown_trans HGr.out HM.out.1, HNext⟩
                    case measure => simp [intOf]; omega
          · have HT : Hid (r = .error 4) := HRr.out.trans (runs_err HS.out (by rw [stW_bad (by unfold Sy.nodeW; rw [if_pos (.inl (by omega))]; decide)]; unfold Sy.nodeW; rw [if_pos (.inl (by omega))]))
            have HB1 : Hid (false = decide (m + 1 ≤ 2000 ∧ d + 1 ≠ 0)) := by rw [decide_eq_false (by omega)]; rfl
            clear hmore
            go_wp2_with fail
            refine (more_any C m (d + 1) deep false _ HC0 hm HD HB1).mono ?_
            rintro e w1 ⟨rfl, hg, hck⟩
            have HG : Hid (w.grownBy w1 (some C)) := grown_trans HGr.out (alloc_grown hg)
            clear hg hck c0 c1 c2 c3 c4 c5 c6 c7
            go_wp2
            go_ret
            exact ⟨HG.out, by rw [HT.out]; exact ⟨rfl, by decide⟩⟩
        · have HR3 : Hid (r = .ok m) := by
            have := HRr.out
            rw [List.drop_of_length_le (by omega)] at this
            exact this
          go_wp2
          go_ret
          exact ⟨HGr.out, by rw [HR3.out]; exact ⟨rfl, HCr.out⟩⟩

end Go.Proofs.YtbbklahhnepiaaaDoor
