/- The walks of the document's look at a definition, and of its Wrong. -/
import Derived.Test.YtbbklahhnepiaaaDoorRc3
namespace Go.Proofs.YtbbklahhnepiaaaDoor
open Go.RowKit

set_option maxRecDepth 100000 in
set_option maxHeartbeats 2000000 in
theorem rbody_zero (C B : Nat) : RBody C B 0 := by
  intro h l a c n deep r w hdeep hd hX hC hn hr
  have HD : Hid (deep = 41 - ((0 : Nat) : Int)) := hdeep
  clear hdeep hd
  have hlen := hX.out.1
  have hCl := hC.out.lt
  unfold maxLen at hlen
  by_cases h50 : 50 < l.length
  · have HT : Hid (r = .error 5) := by have := hr.out; unfold Sy.bodyOf at this; rw [if_pos h50] at this; exact this
    have g50 : 50 < (l.length : Int) := by omega
    clear h50
    go_enter Tryd.func37, Tryd.ntmps37
    go_wp2
    go_ret
    exact ⟨grown_refl _ _, by rw [HT.out]; exact ⟨rfl, by decide⟩⟩
  · have HT0 : Hid (r = Sy.runs (Sy.stW 0) l n) := by have := hr.out; unfold Sy.bodyOf at this; rw [if_neg h50] at this; exact this
    have g50 : (l.length : Int) ≤ 50 := by omega
    clear h50
    go_enter Tryd.func37, Tryd.ntmps37
    go_wp2
    go_loopw [17] (fun i wr => i = .int .i64 0 ∧ wr = w) (fun _ _ => 0)
    case atStart => exact ⟨rfl, rfl⟩
    case round =>
      obtain ⟨rfl, rfl⟩ := hrel
      by_cases hlt : 0 < l.length
      · obtain ⟨s, hs⟩ : ∃ s, l[0]? = some s := ⟨_, List.getElem?_eq_getElem hlt⟩
        obtain ⟨b, off, xa, xc, ba, bc, ea, ec, rfl, hb, c0, c1, c2, c3, c4, c5, c6, c7, hin⟩ := hX.out.2 0 s hs
        have HT : Hid (r = .error 4) := by
          have h2 := runs_err (f := Sy.stW 0) (k := 0) (n := n) (e := 4) hs rfl
          rw [List.drop_zero] at h2
          exact HT0.out.trans h2
        have HC0 : Hid (CT (wr.alloc (stO s xa xc ba bc ea ec)) C n) := hC.out.alloc _
        have HB1 : Hid (false = decide (n + 1 ≤ 2000 ∧ (0 : Nat) ≠ 0)) := by rw [decide_eq_false (by omega)]; rfl
        simp only [Nat.zero_mul, Nat.add_zero] at c0 c1 c2 c3 c4 c5 c6 c7
        clear hin hs
        go_wp2_with fail
        refine (more_any C n 0 deep false _ HC0 hn HD HB1).mono ?_
        rintro e w1 ⟨rfl, hg, hck⟩
        have HG : Hid (wr.grownBy w1 (some C)) := alloc_grown hg
        clear hg hck c0 c1 c2 c3 c4 c5 c6 c7
        go_wp2
        go_ret
        exact ⟨HG.out, by rw [HT.out]; exact ⟨rfl, by decide⟩⟩
      · have HT : Hid (r = .ok n) := by
          have hl : l = [] := List.length_eq_zero_iff.1 (by omega)
          have := HT0.out; rw [hl] at this; exact this
        have g0 : l.length = 0 := by omega
        go_wp2
        go_ret
        exact ⟨grown_refl _ _, by rw [HT.out]; exact ⟨rfl, hC.out⟩⟩

theorem rbody_any (C B : Nat) (hBC : B ≤ C) : ∀ d : Nat, RBody C B d
  | 0 => rbody_zero C B
  | d + 1 => rbody_step C B d hBC (rbody_any C B hBC d)

theorem rest_p {d : Sy.Df} {er : Int} (h : d.kind = 2 ∨ d.kind = 3) (hp : pmsE d = er) (hne : er ≠ 0) : dfRest d = er := by
  rcases h with h | h
  · rw [rest_2 h, hp, if_pos hne]
  · rw [rest_3 h, hp, if_pos hne]













set_option maxRecDepth 100000 in
set_option maxHeartbeats 8000000 in
theorem rdef_any (C B : Nat) (hBC : B ≤ C) (d : Sy.Df) (pa : Option Addr) (pc : Nat) (ba : Option Addr) (bc n : Nat) (r : Except Int Nat) (w : World) (hX : Hid (DfIn B w d pa ba)) (hC : Hid (CT w C n)) (hn : n ≤ 2000) (hr : Hid (r = Sy.dfW d n)) :
    Calls Tryd.prog 18 #[.pointer (some ⟨C, 0, none⟩), dfV d pa pc ba bc] w fun e w' => w.grownBy w' (some C) ∧ FateR C r e w' := by
  have HD : Hid ((1 : Int) = 41 - ((40 : Nat) : Int)) := by unfold Hid; decide
  have hname := hX.out.1
  have htyn := hX.out.2.1
  have htkn := hX.out.2.2.1
  have hplen := hX.out.2.2.2.1.1
  unfold maxLen at hplen
  have hCl := hC.out.lt
  have HC0 : Hid (CT (w.alloc (dfO d pa pc ba bc)) C n) := hC.out.alloc _
  by_cases hmore : n + 1 ≤ 2000
  · have HB1 : Hid (true = decide (n + 1 ≤ 2000 ∧ 40 ≠ 0)) := by rw [decide_eq_true ⟨hmore, by omega⟩]; rfl
    by_cases hlow : d.kind < 1
    · have HT : Hid (r = .error 1) := hr.out.trans (dfW_bad (by rw [dfHead_node (by unfold Sy.nodeW; rw [if_neg (by omega), if_pos (.inl hlow)]; decide)]; unfold Sy.nodeW; rw [if_neg (by omega), if_pos (.inl hlow)]) (by decide))
      clear hmore
      go_enter Tryd.func18, Tryd.ntmps18
      go_wp2_with fail
      refine (more_any C n 40 1 true _ HC0 hn HD HB1).mono ?_
      rintro e w1 ⟨rfl, hg, hck⟩
      have HM : Hid (RMid w C (dfO d pa pc ba bc) (n + 1) w1) := ⟨alloc_grown hg, hck, box_in hg (by simp; omega)⟩
      clear hg hck
      obtain ⟨b0, b1, b2, b3, b4, b5, b6, b7, b8⟩ := nine_cell HM.out.2.2
      go_wp2
      go_ret
      exact ⟨HM.out.1, by rw [HT.out]; exact ⟨rfl, by decide⟩⟩
    · by_cases hhigh : 4 < d.kind
      · have HT : Hid (r = .error 1) := hr.out.trans (dfW_bad (by rw [dfHead_node (by unfold Sy.nodeW; rw [if_neg (by omega), if_pos (.inr hhigh)]; decide)]; unfold Sy.nodeW; rw [if_neg (by omega), if_pos (.inr hhigh)]) (by decide))
        clear hmore
        go_enter Tryd.func18, Tryd.ntmps18
        go_wp2_with fail
        refine (more_any C n 40 1 true _ HC0 hn HD HB1).mono ?_
        rintro e w1 ⟨rfl, hg, hck⟩
        have HM : Hid (RMid w C (dfO d pa pc ba bc) (n + 1) w1) := ⟨alloc_grown hg, hck, box_in hg (by simp; omega)⟩
        clear hg hck
        obtain ⟨b0, b1, b2, b3, b4, b5, b6, b7, b8⟩ := nine_cell HM.out.2.2
        go_wp2
        go_ret
        exact ⟨HM.out.1, by rw [HT.out]; exact ⟨rfl, by decide⟩⟩
      · have hk1 : 1 ≤ d.kind := by omega
        have hk2 : d.kind ≤ 4 := by omega
        have hn1 := hmore
        have HN : Hid (Sy.nodeW d.kind 4 40 n = 0) := by unfold Sy.nodeW; rw [if_neg (by omega), if_neg (by omega)]; rfl
        clear hmore hlow hhigh
        cases hnm : Sy.nm d.name
        · have HT : Hid (r = .error 7) := hr.out.trans (dfW_bad (dfHead_name HN.out hnm) (by decide))
          have HNm : Hid (Lx.named d.name.toList = false) := hnm
          clear hnm
          go_enter Tryd.func18, Tryd.ntmps18
          go_wp2_with fail
          refine (more_any C n 40 1 true _ HC0 hn HD HB1).mono ?_
          rintro e w1 ⟨rfl, hg, hck⟩
          have HM : Hid (RMid w C (dfO d pa pc ba bc) (n + 1) w1) := ⟨alloc_grown hg, hck, box_in hg (by simp; omega)⟩
          clear hg hck
          obtain ⟨b0, b1, b2, b3, b4, b5, b6, b7, b8⟩ := nine_cell HM.out.2.2
          go_wp2_with fail
          refine (refNamed_any d.name _ hname).mono ?_
          rintro e w2 ⟨rfl, hb⟩
          rw [HNm.out]
          have HM2 : Hid (RMid w C (dfO d pa pc ba bc) (n + 1) w2) := HM.out.on (grown_of_below hb)
          clear hb
          clear b0 b1 b2 b3 b4 b5 b6 b7 b8 HM
          have HM := HM2
          clear HM2
          obtain ⟨b0, b1, b2, b3, b4, b5, b6, b7, b8⟩ := nine_cell HM.out.2.2
          go_wp2
          go_ret
          exact ⟨HM.out.1, by rw [HT.out]; exact ⟨rfl, by decide⟩⟩
        · have HRest : Hid (Sy.dfHead d n = dfRest d) := dfHead_rest HN.out hnm
          have HNm : Hid (Lx.named d.name.toList = true) := hnm
          clear hnm
          rcases (show d.kind = 1 ∨ d.kind = 2 ∨ d.kind = 3 ∨ d.kind = 4 by omega) with hk | hk | hk | hk
          · have e1 : (d.kind == 1) = true := by simp; omega
            have e2 : (d.kind == 2) = false := by simp; omega
            have e3 : (d.kind == 3) = false := by simp; omega
            have l4 : d.kind < 4 := by omega
            have HV : Hid _ := rest_1 hk
            have HKd : Hid (d.kind = 1) := hk
            clear hk
            go_enter Tryd.func18, Tryd.ntmps18
            go_wp2_with fail
            refine (more_any C n 40 1 true _ HC0 hn HD HB1).mono ?_
            rintro e w1 ⟨rfl, hg, hck⟩
            have HM : Hid (RMid w C (dfO d pa pc ba bc) (n + 1) w1) := ⟨alloc_grown hg, hck, box_in hg (by simp; omega)⟩
            clear hg hck
            obtain ⟨b0, b1, b2, b3, b4, b5, b6, b7, b8⟩ := nine_cell HM.out.2.2
            go_wp2_with fail
            refine (refNamed_any d.name _ hname).mono ?_
            rintro e w2 ⟨rfl, hb⟩
            rw [HNm.out]
            have HM2 : Hid (RMid w C (dfO d pa pc ba bc) (n + 1) w2) := HM.out.on (grown_of_below hb)
            clear hb
            clear b0 b1 b2 b3 b4 b5 b6 b7 b8 HM
            have HM := HM2
            clear HM2
            obtain ⟨b0, b1, b2, b3, b4, b5, b6, b7, b8⟩ := nine_cell HM.out.2.2
            obtain ⟨er, hE⟩ : ∃ er : Int, er = Sy.tyW d.ty := ⟨_, rfl⟩
            have HE : Hid (er = Sy.tyW d.ty) := hE
            have hgen := htyn
            clear hE
            go_wp2_with fail
            refine (rty_any d.ty er _ hgen HE).mono ?_
            rintro e wz ⟨rfl, hg⟩
            have HM2 : Hid (RMid w C (dfO d pa pc ba bc) (n + 1) wz) := HM.out.on hg
            clear hg
            clear b0 b1 b2 b3 b4 b5 b6 b7 b8 HM
            have HM := HM2
            clear HM2
            obtain ⟨b0, b1, b2, b3, b4, b5, b6, b7, b8⟩ := nine_cell HM.out.2.2
            by_cases h0 : er = 0
            · have HZ0 : Hid (Sy.tyW d.ty = 0) := HE.out.symm.trans h0
              subst h0
              clear HE
              by_cases hc1 : d.cap < 1
              · have HT : Hid (r = .error 3) := by
                  refine hr.out.trans (dfW_bad (HRest.out.trans ?_) (by decide))
                  have h := HV.out
                  rw [if_neg (by simpa using HZ0.out)] at h
                  rw [h]; unfold capE; rw [if_pos (.inl hc1)]
                go_wp2
                go_ret
                exact ⟨HM.out.1, by rw [HT.out]; exact ⟨rfl, by decide⟩⟩
              · by_cases hc2 : 20 < d.cap
                · have HT : Hid (r = .error 3) := by
                    refine hr.out.trans (dfW_bad (HRest.out.trans ?_) (by decide))
                    have h := HV.out
                    rw [if_neg (by simpa using HZ0.out)] at h
                    rw [h]; unfold capE; rw [if_pos (.inr hc2)]
                  go_wp2
                  go_ret
                  exact ⟨HM.out.1, by rw [HT.out]; exact ⟨rfl, by decide⟩⟩
                · have HT : Hid (r = .ok (n + 1)) := by
                    have hz : Sy.dfHead d n = 0 := by
                      refine HRest.out.trans ?_
                      have h := HV.out
                      rw [if_neg (by simpa using HZ0.out)] at h
                      rw [h]; unfold capE; rw [if_neg (by omega)]
                    have := hr.out; unfold Sy.dfW at this; rw [hz, if_neg (by decide), if_pos HKd.out] at this; exact this
                  go_wp2
                  go_ret
                  exact ⟨HM.out.1, by rw [HT.out]; exact ⟨rfl, HM.out.2.1⟩⟩
            · have HT : Hid (r = .error er) := by
                refine hr.out.trans (dfW_bad (HRest.out.trans ?_) h0)
                have h := HV.out
                rw [if_pos (by rw [← HE.out]; exact h0), ← HE.out] at h
                exact h
              have e0 : (er != 0) = true := by simp; exact h0
              have HNe : Hid (er ≠ 0) := h0
              clear h0 b0 b1 b2 b3 b4 b5 b6 b7 b8
              go_wp2
              go_ret
              exact ⟨HM.out.1, by rw [HT.out]; exact ⟨rfl, HNe.out⟩⟩
          · have e1 : (d.kind == 1) = false := by simp; omega
            have e2 : (d.kind == 2) = true := by simp; omega
            have e3 : (d.kind == 3) = false := by simp; omega
            have l4 : d.kind < 4 := by omega
            have HV : Hid _ := rest_2 hk
            have HKd : Hid (d.kind = 2) := hk
            clear hk
            by_cases h6 : 6 < d.params.length
            · have HT : Hid (r = .error 5) := hr.out.trans (dfW_bad (HRest.out.trans (rest_p (by have := HKd.out; omega) (by unfold pmsE; rw [if_pos h6]) (by decide))) (by decide))
              have g6 : 6 < (d.params.length : Int) := by omega
              clear h6
              go_enter Tryd.func18, Tryd.ntmps18
              go_wp2_with fail
              refine (more_any C n 40 1 true _ HC0 hn HD HB1).mono ?_
              rintro e w1 ⟨rfl, hg, hck⟩
              have HM : Hid (RMid w C (dfO d pa pc ba bc) (n + 1) w1) := ⟨alloc_grown hg, hck, box_in hg (by simp; omega)⟩
              clear hg hck
              obtain ⟨b0, b1, b2, b3, b4, b5, b6, b7, b8⟩ := nine_cell HM.out.2.2
              go_wp2_with fail
              refine (refNamed_any d.name _ hname).mono ?_
              rintro e w2 ⟨rfl, hb⟩
              rw [HNm.out]
              have HM2 : Hid (RMid w C (dfO d pa pc ba bc) (n + 1) w2) := HM.out.on (grown_of_below hb)
              clear hb
              clear b0 b1 b2 b3 b4 b5 b6 b7 b8 HM
              have HM := HM2
              clear HM2
              obtain ⟨b0, b1, b2, b3, b4, b5, b6, b7, b8⟩ := nine_cell HM.out.2.2
              go_wp2
              go_ret
              exact ⟨HM.out.1, by rw [HT.out]; exact ⟨rfl, by decide⟩⟩
            · have HPe : Hid (∀ er : Int, Sy.pmsW d.params = er → er ≠ 0 → r = .error er) := by
                intro er hp hne
                exact hr.out.trans (dfW_bad (HRest.out.trans (rest_p (by have := HKd.out; omega) (by unfold pmsE; rw [if_neg h6]; exact hp) hne)) hne)
              have g6 : (d.params.length : Int) ≤ 6 := by omega
              clear h6
              go_enter Tryd.func18, Tryd.ntmps18
              go_wp2_with fail
              refine (more_any C n 40 1 true _ HC0 hn HD HB1).mono ?_
              rintro e w1 ⟨rfl, hg, hck⟩
              have HM : Hid (RMid w C (dfO d pa pc ba bc) (n + 1) w1) := ⟨alloc_grown hg, hck, box_in hg (by simp; omega)⟩
              clear hg hck
              obtain ⟨b0, b1, b2, b3, b4, b5, b6, b7, b8⟩ := nine_cell HM.out.2.2
              go_wp2_with fail
              refine (refNamed_any d.name _ hname).mono ?_
              rintro e w2 ⟨rfl, hb⟩
              rw [HNm.out]
              have HM2 : Hid (RMid w C (dfO d pa pc ba bc) (n + 1) w2) := HM.out.on (grown_of_below hb)
              clear hb
              clear b0 b1 b2 b3 b4 b5 b6 b7 b8 HM
              have HM := HM2
              clear HM2
              obtain ⟨b0, b1, b2, b3, b4, b5, b6, b7, b8⟩ := nine_cell HM.out.2.2
              go_wp2
              go_loopw [40] (fun i wr => ∃ k : Nat, k ≤ d.params.length ∧ i = .int .i64 k ∧ Hid (RMid w C (dfO d pa pc ba bc) (n + 1) wr) ∧ Hid (Sy.pmsW d.params = Sy.pmsW (d.params.drop k))) (fun i _ => d.params.length - (intOf i).toNat)
              case atStart => exact ⟨0, Nat.zero_le _, rfl, HM, rfl⟩
              case round =>
                obtain ⟨k, hk, rfl, HMr, HEr⟩ := hrel
                clear b0 b1 b2 b3 b4 b5 b6 b7 b8 HM
                have HM := HMr
                clear HMr
                by_cases hlt : k < d.params.length
                · obtain ⟨p, hp⟩ : ∃ p, d.params[k]? = some p := ⟨_, List.getElem?_eq_getElem hlt⟩
                  have hPr := (hX.out.2.2.2.1).same (HM.out.same hBC hCl)
                  obtain ⟨b, off, hab, hb, c0, c1, c2, s0, s1⟩ := hPr.2 k p hp
                  subst hab
                  have HE2 : Hid (Sy.pmsW d.params = if Sy.nm p.name = false then 7 else if Sy.tyW p.ty ≠ 0 then Sy.tyW p.ty else Sy.pmsW (d.params.drop (k + 1))) := HEr.out.trans (pmsW_at hp)
                  clear hPr hp HEr
                  cases hnm : Sy.nm p.name
                  · have HT : Hid (r = .error 7) := HPe.out 7 (by have := HE2.out; rw [if_pos hnm] at this; exact this) (by decide)
                    have HNp : Hid (Lx.named p.name.toList = false) := hnm
                    clear hnm
                    go_wp2_with fail
                    refine (refNamed_any p.name _ s0).mono ?_
                    rintro e w6 ⟨rfl, hb6⟩
                    rw [HNp.out]
                    have HG6 : Hid (w.grownBy w6 (some C)) := grown_trans HM.out.1 (grown_some (alloc_grown (grown_of_below hb6)) _)
                    clear hb6 c0 c1 c2
                    go_wp2
                    go_ret
                    exact ⟨HG6.out, by rw [HT.out]; exact ⟨rfl, by decide⟩⟩
                  · have HE3 : Hid (Sy.pmsW d.params = if Sy.tyW p.ty ≠ 0 then Sy.tyW p.ty else Sy.pmsW (d.params.drop (k + 1))) := by have := HE2.out; rw [if_neg (by rw [hnm]; decide)] at this; exact this
                    have HNp : Hid (Lx.named p.name.toList = true) := hnm
                    clear hnm HE2
                    go_wp2_with fail
                    refine (refNamed_any p.name _ s0).mono ?_
                    rintro e w6 ⟨rfl, hb6⟩
                    rw [HNp.out]
                    have hg6 := grown_of_below hb6
                    obtain ⟨t0, t1, t2⟩ := three_cell (box_in hg6 (by simp))
                    have HM6 : Hid (RMid w C (dfO d (some ⟨b, off, none⟩) pc ba bc) (n + 1) w6) := HM.out.on (alloc_grown hg6)
                    obtain ⟨er, hE⟩ : ∃ er : Int, er = Sy.tyW p.ty := ⟨_, rfl⟩
                    have HE : Hid (er = Sy.tyW p.ty) := hE
                    clear hb6 c0 c1 c2 hg6 HM hE
                    have HM := HM6
                    clear HM6
                    go_wp2_with fail
                    refine (rty_any p.ty er _ s1 HE).mono ?_
                    rintro e w7 ⟨rfl, hg7⟩
                    have HM7 : Hid (RMid w C (dfO d (some ⟨b, off, none⟩) pc ba bc) (n + 1) w7) := HM.out.on hg7
                    clear hg7 t0 t1 t2 HM
                    by_cases h0 : er = 0
                    · have HE5 : Hid (Sy.pmsW d.params = Sy.pmsW (d.params.drop (k + 1))) := by
                        have := HE3.out; rw [if_neg (by rw [← HE.out]; simp [h0])] at this; exact this
                      subst h0
                      clear HE
                      go_wp2
                      go_roundw
                      case rel => exact ⟨k + 1, by omega, by go_num, HM7, HE5⟩
                      case measure => simp [intOf]; omega
                    · have HT : Hid (r = .error er) := HPe.out er (by have := HE3.out; rw [if_pos (by rw [← HE.out]; exact h0), ← HE.out] at this; exact this) h0
                      have e0 : (er != 0) = true := by simp; exact h0
                      have HNe : Hid (er ≠ 0) := h0
                      clear h0
                      go_wp2
                      go_ret
                      exact ⟨HM7.out.1, by rw [HT.out]; exact ⟨rfl, HNe.out⟩⟩
                · have HP0 : Hid (pmsE d = 0) := by
                    have := HEr.out
                    rw [List.drop_of_length_le (by omega)] at this
                    unfold pmsE; rw [if_neg (by omega)]; exact this
                  obtain ⟨b0, b1, b2, b3, b4, b5, b6, b7, b8⟩ := nine_cell HM.out.2.2
                  obtain ⟨er, hE⟩ : ∃ er : Int, er = Sy.tyW d.ty := ⟨_, rfl⟩
                  have HE : Hid (er = Sy.tyW d.ty) := hE
                  have hgen := htyn
                  clear hE
                  go_wp2_with fail
                  refine (rty_any d.ty er _ hgen HE).mono ?_
                  rintro e wz ⟨rfl, hg⟩
                  have HM2 : Hid (RMid w C (dfO d pa pc ba bc) (n + 1) wz) := HM.out.on hg
                  clear hg
                  clear b0 b1 b2 b3 b4 b5 b6 b7 b8 HM
                  have HM := HM2
                  clear HM2
                  obtain ⟨b0, b1, b2, b3, b4, b5, b6, b7, b8⟩ := nine_cell HM.out.2.2
                  by_cases h0 : er = 0
                  · have HZ : Hid (Sy.tyW d.ty = 0) := HE.out.symm.trans h0
                    subst h0
                    clear HE
                    have HT : Hid (r = Sy.bodyW 39 d.body (n + 1)) := by
                      have hz : Sy.dfHead d n = 0 := by
                        refine HRest.out.trans ?_
                        have h := HV.out
                        rw [if_neg (by simpa using HP0.out), HZ.out] at h
                        exact h
                      have := hr.out; unfold Sy.dfW at this; rw [hz, if_neg (by decide), if_neg (by have := HKd.out; omega)] at this; exact this
                    obtain ⟨hb, hbin⟩ := hX.out.2.2.2.2
                    have HBo : Hid (BodyIn B wz hb d.body ba) := hbin.same (HM.out.same hBC hCl)
                    clear hbin
                    go_wp2_with fail
                    refine (rbody_any C B hBC 39 hb d.body ba bc (n + 1) 2 r _ (by decide) (by decide) HBo HM.out.2.1 hn1 HT).mono ?_
                    rintro e w4 ⟨hg, hf⟩
                    have HG : Hid (w.grownBy w4 (some C)) := grown_trans HM.out.1 hg
                    have HF : Hid (FateR C r e w4) := hf
                    clear hg b0 b1 b2 b3 b4 b5 b6 b7 b8
                    cases r with
                    | error er =>
                      obtain ⟨rfl, hne⟩ := hf
                      clear hne
                      go_wp2
                      go_ret
                      exact ⟨HG.out, HF.out⟩
                    | ok m3 =>
                      obtain ⟨rfl, hck⟩ := hf
                      clear hck
                      go_wp2
                      go_ret
                      exact ⟨HG.out, HF.out⟩
                  · have HT : Hid (r = .error er) := by
                      refine hr.out.trans (dfW_bad (HRest.out.trans ?_) h0)
                      have h := HV.out
                      rw [if_neg (by simpa using HP0.out)] at h
                      rw [← HE.out] at h
                      exact h
                    have e0 : (er != 0) = true := by simp; exact h0
                    have HNe : Hid (er ≠ 0) := h0
                    clear h0 b0 b1 b2 b3 b4 b5 b6 b7 b8
                    go_wp2
                    go_ret
                    exact ⟨HM.out.1, by rw [HT.out]; exact ⟨rfl, HNe.out⟩⟩
          · have e1 : (d.kind == 1) = false := by simp; omega
            have e2 : (d.kind == 2) = false := by simp; omega
            have e3 : (d.kind == 3) = true := by simp; omega
            have l4 : d.kind < 4 := by omega
            have HV : Hid _ := rest_3 hk
            have HKd : Hid (d.kind = 3) := hk
            clear hk
            by_cases h6 : 6 < d.params.length
            · have HT : Hid (r = .error 5) := hr.out.trans (dfW_bad (HRest.out.trans (rest_p (by have := HKd.out; omega) (by unfold pmsE; rw [if_pos h6]) (by decide))) (by decide))
              have g6 : 6 < (d.params.length : Int) := by omega
              clear h6
              go_enter Tryd.func18, Tryd.ntmps18
              go_wp2_with fail
              refine (more_any C n 40 1 true _ HC0 hn HD HB1).mono ?_
              rintro e w1 ⟨rfl, hg, hck⟩
              have HM : Hid (RMid w C (dfO d pa pc ba bc) (n + 1) w1) := ⟨alloc_grown hg, hck, box_in hg (by simp; omega)⟩
              clear hg hck
              obtain ⟨b0, b1, b2, b3, b4, b5, b6, b7, b8⟩ := nine_cell HM.out.2.2
              go_wp2_with fail
              refine (refNamed_any d.name _ hname).mono ?_
              rintro e w2 ⟨rfl, hb⟩
              rw [HNm.out]
              have HM2 : Hid (RMid w C (dfO d pa pc ba bc) (n + 1) w2) := HM.out.on (grown_of_below hb)
              clear hb
              clear b0 b1 b2 b3 b4 b5 b6 b7 b8 HM
              have HM := HM2
              clear HM2
              obtain ⟨b0, b1, b2, b3, b4, b5, b6, b7, b8⟩ := nine_cell HM.out.2.2
              go_wp2
              go_ret
              exact ⟨HM.out.1, by rw [HT.out]; exact ⟨rfl, by decide⟩⟩
            · have HPe : Hid (∀ er : Int, Sy.pmsW d.params = er → er ≠ 0 → r = .error er) := by
                intro er hp hne
                exact hr.out.trans (dfW_bad (HRest.out.trans (rest_p (by have := HKd.out; omega) (by unfold pmsE; rw [if_neg h6]; exact hp) hne)) hne)
              have g6 : (d.params.length : Int) ≤ 6 := by omega
              clear h6
              go_enter Tryd.func18, Tryd.ntmps18
              go_wp2_with fail
              refine (more_any C n 40 1 true _ HC0 hn HD HB1).mono ?_
              rintro e w1 ⟨rfl, hg, hck⟩
              have HM : Hid (RMid w C (dfO d pa pc ba bc) (n + 1) w1) := ⟨alloc_grown hg, hck, box_in hg (by simp; omega)⟩
              clear hg hck
              obtain ⟨b0, b1, b2, b3, b4, b5, b6, b7, b8⟩ := nine_cell HM.out.2.2
              go_wp2_with fail
              refine (refNamed_any d.name _ hname).mono ?_
              rintro e w2 ⟨rfl, hb⟩
              rw [HNm.out]
              have HM2 : Hid (RMid w C (dfO d pa pc ba bc) (n + 1) w2) := HM.out.on (grown_of_below hb)
              clear hb
              clear b0 b1 b2 b3 b4 b5 b6 b7 b8 HM
              have HM := HM2
              clear HM2
              obtain ⟨b0, b1, b2, b3, b4, b5, b6, b7, b8⟩ := nine_cell HM.out.2.2
              go_wp2
              go_loopw [40] (fun i wr => ∃ k : Nat, k ≤ d.params.length ∧ i = .int .i64 k ∧ Hid (RMid w C (dfO d pa pc ba bc) (n + 1) wr) ∧ Hid (Sy.pmsW d.params = Sy.pmsW (d.params.drop k))) (fun i _ => d.params.length - (intOf i).toNat)
              case atStart => exact ⟨0, Nat.zero_le _, rfl, HM, rfl⟩
              case round =>
                obtain ⟨k, hk, rfl, HMr, HEr⟩ := hrel
                clear b0 b1 b2 b3 b4 b5 b6 b7 b8 HM
                have HM := HMr
                clear HMr
                by_cases hlt : k < d.params.length
                · obtain ⟨p, hp⟩ : ∃ p, d.params[k]? = some p := ⟨_, List.getElem?_eq_getElem hlt⟩
                  have hPr := (hX.out.2.2.2.1).same (HM.out.same hBC hCl)
                  obtain ⟨b, off, hab, hb, c0, c1, c2, s0, s1⟩ := hPr.2 k p hp
                  subst hab
                  have HE2 : Hid (Sy.pmsW d.params = if Sy.nm p.name = false then 7 else if Sy.tyW p.ty ≠ 0 then Sy.tyW p.ty else Sy.pmsW (d.params.drop (k + 1))) := HEr.out.trans (pmsW_at hp)
                  clear hPr hp HEr
                  cases hnm : Sy.nm p.name
                  · have HT : Hid (r = .error 7) := HPe.out 7 (by have := HE2.out; rw [if_pos hnm] at this; exact this) (by decide)
                    have HNp : Hid (Lx.named p.name.toList = false) := hnm
                    clear hnm
                    go_wp2_with fail
                    refine (refNamed_any p.name _ s0).mono ?_
                    rintro e w6 ⟨rfl, hb6⟩
                    rw [HNp.out]
                    have HG6 : Hid (w.grownBy w6 (some C)) := grown_trans HM.out.1 (grown_some (alloc_grown (grown_of_below hb6)) _)
                    clear hb6 c0 c1 c2
                    go_wp2
                    go_ret
                    exact ⟨HG6.out, by rw [HT.out]; exact ⟨rfl, by decide⟩⟩
                  · have HE3 : Hid (Sy.pmsW d.params = if Sy.tyW p.ty ≠ 0 then Sy.tyW p.ty else Sy.pmsW (d.params.drop (k + 1))) := by have := HE2.out; rw [if_neg (by rw [hnm]; decide)] at this; exact this
                    have HNp : Hid (Lx.named p.name.toList = true) := hnm
                    clear hnm HE2
                    go_wp2_with fail
                    refine (refNamed_any p.name _ s0).mono ?_
                    rintro e w6 ⟨rfl, hb6⟩
                    rw [HNp.out]
                    have hg6 := grown_of_below hb6
                    obtain ⟨t0, t1, t2⟩ := three_cell (box_in hg6 (by simp))
                    have HM6 : Hid (RMid w C (dfO d (some ⟨b, off, none⟩) pc ba bc) (n + 1) w6) := HM.out.on (alloc_grown hg6)
                    obtain ⟨er, hE⟩ : ∃ er : Int, er = Sy.tyW p.ty := ⟨_, rfl⟩
                    have HE : Hid (er = Sy.tyW p.ty) := hE
                    clear hb6 c0 c1 c2 hg6 HM hE
                    have HM := HM6
                    clear HM6
                    go_wp2_with fail
                    refine (rty_any p.ty er _ s1 HE).mono ?_
                    rintro e w7 ⟨rfl, hg7⟩
                    have HM7 : Hid (RMid w C (dfO d (some ⟨b, off, none⟩) pc ba bc) (n + 1) w7) := HM.out.on hg7
                    clear hg7 t0 t1 t2 HM
                    by_cases h0 : er = 0
                    · have HE5 : Hid (Sy.pmsW d.params = Sy.pmsW (d.params.drop (k + 1))) := by
                        have := HE3.out; rw [if_neg (by rw [← HE.out]; simp [h0])] at this; exact this
                      subst h0
                      clear HE
                      go_wp2
                      go_roundw
                      case rel => exact ⟨k + 1, by omega, by go_num, HM7, HE5⟩
                      case measure => simp [intOf]; omega
                    · have HT : Hid (r = .error er) := HPe.out er (by have := HE3.out; rw [if_pos (by rw [← HE.out]; exact h0), ← HE.out] at this; exact this) h0
                      have e0 : (er != 0) = true := by simp; exact h0
                      have HNe : Hid (er ≠ 0) := h0
                      clear h0
                      go_wp2
                      go_ret
                      exact ⟨HM7.out.1, by rw [HT.out]; exact ⟨rfl, HNe.out⟩⟩
                · have HP0 : Hid (pmsE d = 0) := by
                    have := HEr.out
                    rw [List.drop_of_length_le (by omega)] at this
                    unfold pmsE; rw [if_neg (by omega)]; exact this
                  obtain ⟨b0, b1, b2, b3, b4, b5, b6, b7, b8⟩ := nine_cell HM.out.2.2
                  obtain ⟨er, hE⟩ : ∃ er : Int, er = Sy.tyW d.takes := ⟨_, rfl⟩
                  have HE : Hid (er = Sy.tyW d.takes) := hE
                  have hgen := htkn
                  clear hE
                  go_wp2_with fail
                  refine (rty_any d.takes er _ hgen HE).mono ?_
                  rintro e wz ⟨rfl, hg⟩
                  have HM2 : Hid (RMid w C (dfO d pa pc ba bc) (n + 1) wz) := HM.out.on hg
                  clear hg
                  clear b0 b1 b2 b3 b4 b5 b6 b7 b8 HM
                  have HM := HM2
                  clear HM2
                  obtain ⟨b0, b1, b2, b3, b4, b5, b6, b7, b8⟩ := nine_cell HM.out.2.2
                  by_cases h0 : er = 0
                  · have HZ1 : Hid (Sy.tyW d.takes = 0) := HE.out.symm.trans h0
                    subst h0
                    clear HE hgen
                    obtain ⟨er, hE⟩ : ∃ er : Int, er = Sy.tyW d.ty := ⟨_, rfl⟩
                    have HE : Hid (er = Sy.tyW d.ty) := hE
                    have hgen := htyn
                    clear hE
                    go_wp2_with fail
                    refine (rty_any d.ty er _ hgen HE).mono ?_
                    rintro e wz ⟨rfl, hg⟩
                    have HM2 : Hid (RMid w C (dfO d pa pc ba bc) (n + 1) wz) := HM.out.on hg
                    clear hg
                    clear b0 b1 b2 b3 b4 b5 b6 b7 b8 HM
                    have HM := HM2
                    clear HM2
                    obtain ⟨b0, b1, b2, b3, b4, b5, b6, b7, b8⟩ := nine_cell HM.out.2.2
                    by_cases h0 : er = 0
                    · have HZ : Hid (Sy.tyW d.ty = 0) := HE.out.symm.trans h0
                      subst h0
                      clear HE
                      have HT : Hid (r = Sy.bodyW 39 d.body (n + 1)) := by
                        have hz : Sy.dfHead d n = 0 := by
                          refine HRest.out.trans ?_
                          have h := HV.out
                          rw [if_neg (by simpa using HP0.out), if_neg (by simpa using HZ1.out), HZ.out] at h
                          exact h
                        have := hr.out; unfold Sy.dfW at this; rw [hz, if_neg (by decide), if_neg (by have := HKd.out; omega)] at this; exact this
                      obtain ⟨hb, hbin⟩ := hX.out.2.2.2.2
                      have HBo : Hid (BodyIn B wz hb d.body ba) := hbin.same (HM.out.same hBC hCl)
                      clear hbin
                      go_wp2_with fail
                      refine (rbody_any C B hBC 39 hb d.body ba bc (n + 1) 2 r _ (by decide) (by decide) HBo HM.out.2.1 hn1 HT).mono ?_
                      rintro e w4 ⟨hg, hf⟩
                      have HG : Hid (w.grownBy w4 (some C)) := grown_trans HM.out.1 hg
                      have HF : Hid (FateR C r e w4) := hf
                      clear hg b0 b1 b2 b3 b4 b5 b6 b7 b8
                      cases r with
                      | error er =>
                        obtain ⟨rfl, hne⟩ := hf
                        clear hne
                        go_wp2
                        go_ret
                        exact ⟨HG.out, HF.out⟩
                      | ok m3 =>
                        obtain ⟨rfl, hck⟩ := hf
                        clear hck
                        go_wp2
                        go_ret
                        exact ⟨HG.out, HF.out⟩
                    · have HT : Hid (r = .error er) := by
                        refine hr.out.trans (dfW_bad (HRest.out.trans ?_) h0)
                        have h := HV.out
                        rw [if_neg (by simpa using HP0.out)] at h
                        rw [if_neg (by simpa using HZ1.out)] at h
                        rw [← HE.out] at h
                        exact h
                      have e0 : (er != 0) = true := by simp; exact h0
                      have HNe : Hid (er ≠ 0) := h0
                      clear h0 b0 b1 b2 b3 b4 b5 b6 b7 b8
                      go_wp2
                      go_ret
                      exact ⟨HM.out.1, by rw [HT.out]; exact ⟨rfl, HNe.out⟩⟩
                  · have HT : Hid (r = .error er) := by
                      refine hr.out.trans (dfW_bad (HRest.out.trans ?_) h0)
                      have h := HV.out
                      rw [if_neg (by simpa using HP0.out)] at h
                      rw [if_pos (by rw [← HE.out]; exact h0), ← HE.out] at h
                      exact h
                    have e0 : (er != 0) = true := by simp; exact h0
                    have HNe : Hid (er ≠ 0) := h0
                    clear h0 b0 b1 b2 b3 b4 b5 b6 b7 b8
                    go_wp2
                    go_ret
                    exact ⟨HM.out.1, by rw [HT.out]; exact ⟨rfl, HNe.out⟩⟩
          · have e1 : (d.kind == 1) = false := by simp; omega
            have e2 : (d.kind == 2) = false := by simp; omega
            have e3 : (d.kind == 3) = false := by simp; omega
            have l4 : 4 ≤ d.kind := by omega
            have HV : Hid _ := rest_4 hk
            have HKd : Hid (d.kind = 4) := hk
            clear hk
            have HT : Hid (r = Sy.bodyW 39 d.body (n + 1)) := by
              have hz : Sy.dfHead d n = 0 := HRest.out.trans HV.out
              have := hr.out; unfold Sy.dfW at this; rw [hz, if_neg (by decide), if_neg (by have := HKd.out; omega)] at this; exact this
            go_enter Tryd.func18, Tryd.ntmps18
            go_wp2_with fail
            refine (more_any C n 40 1 true _ HC0 hn HD HB1).mono ?_
            rintro e w1 ⟨rfl, hg, hck⟩
            have HM : Hid (RMid w C (dfO d pa pc ba bc) (n + 1) w1) := ⟨alloc_grown hg, hck, box_in hg (by simp; omega)⟩
            clear hg hck
            obtain ⟨b0, b1, b2, b3, b4, b5, b6, b7, b8⟩ := nine_cell HM.out.2.2
            go_wp2_with fail
            refine (refNamed_any d.name _ hname).mono ?_
            rintro e w2 ⟨rfl, hb⟩
            rw [HNm.out]
            have HM2 : Hid (RMid w C (dfO d pa pc ba bc) (n + 1) w2) := HM.out.on (grown_of_below hb)
            clear hb
            clear b0 b1 b2 b3 b4 b5 b6 b7 b8 HM
            have HM := HM2
            clear HM2
            obtain ⟨b0, b1, b2, b3, b4, b5, b6, b7, b8⟩ := nine_cell HM.out.2.2
            obtain ⟨hb, hbin⟩ := hX.out.2.2.2.2
            have HBo : Hid (BodyIn B w2 hb d.body ba) := hbin.same (HM.out.same hBC hCl)
            clear hbin
            go_wp2_with fail
            refine (rbody_any C B hBC 39 hb d.body ba bc (n + 1) 2 r _ (by decide) (by decide) HBo HM.out.2.1 hn1 HT).mono ?_
            rintro e w4 ⟨hg, hf⟩
            have HG : Hid (w.grownBy w4 (some C)) := grown_trans HM.out.1 hg
            have HF : Hid (FateR C r e w4) := hf
            clear hg b0 b1 b2 b3 b4 b5 b6 b7 b8
            cases r with
            | error er =>
              obtain ⟨rfl, hne⟩ := hf
              clear hne
              go_wp2
              go_ret
              exact ⟨HG.out, HF.out⟩
            | ok m3 =>
              obtain ⟨rfl, hck⟩ := hf
              clear hck
              go_wp2
              go_ret
              exact ⟨HG.out, HF.out⟩
  · have HT : Hid (r = .error 4) := hr.out.trans (dfW_bad (by rw [dfHead_node (by unfold Sy.nodeW; rw [if_pos (.inl (by omega))]; decide)]; unfold Sy.nodeW; rw [if_pos (.inl (by omega))]) (by decide))
    have HB1 : Hid (false = decide (n + 1 ≤ 2000 ∧ 40 ≠ 0)) := by rw [decide_eq_false (by omega)]; rfl
    clear hmore
    go_enter Tryd.func18, Tryd.ntmps18
    go_wp2_with fail
    refine (more_any C n 40 1 false _ HC0 hn HD HB1).mono ?_
    rintro e w1 ⟨rfl, hg, hck⟩
    have HG : Hid (w.grownBy w1 (some C)) := alloc_grown hg
    clear hg hck
    go_wp2
    go_ret
    exact ⟨HG.out, by rw [HT.out]; exact ⟨rfl, by decide⟩⟩

end Go.Proofs.YtbbklahhnepiaaaDoor
