/- The walk of the checker's def. -/
import Derived.Test.YtbbklahhnepiaaaDoorCk6
namespace Go.Proofs.YtbbklahhnepiaaaDoor
open Go.RowKit

theorem nine_cell {w : World} {b : Nat} {v0 v1 v2 v3 v4 v5 v6 v7 v8 : Value} {t : TypeId} (h : w.heap[b]? = some (.cells #[v0, v1, v2, v3, v4, v5, v6, v7, v8] t (0, 0))) :
    w.cell? ⟨b, 0, none⟩ = some v0 ∧ w.cell? ⟨b, 1, none⟩ = some v1 ∧ w.cell? ⟨b, 2, none⟩ = some v2 ∧ w.cell? ⟨b, 3, none⟩ = some v3 ∧
    w.cell? ⟨b, 4, none⟩ = some v4 ∧ w.cell? ⟨b, 5, none⟩ = some v5 ∧ w.cell? ⟨b, 6, none⟩ = some v6 ∧ w.cell? ⟨b, 7, none⟩ = some v7 ∧ w.cell? ⟨b, 8, none⟩ = some v8 := by simp [World.cell?, h]

abbrev dfO (d : Sy.Df) (pa : Option Addr) (pc : Nat) (ba : Option Addr) (bc : Nat) : Obj :=
  .cells #[.int .i64 d.kind, .string d.name, .int .i64 d.ty.kind, .string d.ty.gen, .int .i64 d.takes.kind, .string d.takes.gen, .int .i64 d.cap, .slice pa d.params.length pc, .slice ba d.body.length bc] 42 (0, 0)

theorem dfW_bad {d : Sy.Df} {n : Nat} {k : Int} (h : Sy.dfHead d n = k) (hk : k ≠ 0) : Sy.dfW d n = .error k := by unfold Sy.dfW; rw [h, if_pos hk]

/-- What is wrong behind a definition's name. -/
def dfRest (d : Sy.Df) : Int :=
  if (d.kind = 2 ∨ d.kind = 3) ∧ 6 < d.params.length then 5
  else if (d.kind = 2 ∨ d.kind = 3) ∧ Sy.pmsW d.params ≠ 0 then Sy.pmsW d.params
  else if d.kind = 3 ∧ Sy.tyW d.takes ≠ 0 then Sy.tyW d.takes
  else if d.kind ≠ 4 ∧ Sy.tyW d.ty ≠ 0 then Sy.tyW d.ty
  else if d.kind = 1 ∧ (d.cap < 1 ∨ 20 < d.cap) then 3
  else 0

theorem dfHead_node {d : Sy.Df} {n : Nat} (h : Sy.nodeW d.kind 4 40 n ≠ 0) : Sy.dfHead d n = Sy.nodeW d.kind 4 40 n := by unfold Sy.dfHead; rw [if_pos h]
theorem dfHead_name {d : Sy.Df} {n : Nat} (h : Sy.nodeW d.kind 4 40 n = 0) (hn : Sy.nm d.name = false) : Sy.dfHead d n = 7 := by unfold Sy.dfHead; rw [if_neg (by simpa using h), if_pos hn]
theorem dfHead_rest {d : Sy.Df} {n : Nat} (h : Sy.nodeW d.kind 4 40 n = 0) (hn : Sy.nm d.name = true) : Sy.dfHead d n = dfRest d := by
  unfold Sy.dfHead dfRest; rw [if_neg (by simpa using h), if_neg (by rw [hn]; decide)]

/-- The parameters' error. -/
def pmsE (d : Sy.Df) : Int := if 6 < d.params.length then 5 else Sy.pmsW d.params

/-- The places' error. -/
def capE (d : Sy.Df) : Int := if d.cap < 1 ∨ 20 < d.cap then 3 else 0

theorem rest_1 {d : Sy.Df} (h : d.kind = 1) : dfRest d = if Sy.tyW d.ty ≠ 0 then Sy.tyW d.ty else capE d := by
  unfold dfRest capE
  rw [if_neg (by omega), if_neg (by omega), if_neg (by omega)]
  by_cases ht : Sy.tyW d.ty = 0
  · simp [ht, h]
  · simp [ht, h]
theorem rest_2 {d : Sy.Df} (h : d.kind = 2) : dfRest d = if pmsE d ≠ 0 then pmsE d else Sy.tyW d.ty := by
  unfold dfRest pmsE
  by_cases hp : 6 < d.params.length
  · simp [hp, h]
  · simp only [hp, h, and_false, if_false, true_or, true_and]
    by_cases h1 : Sy.pmsW d.params = 0
    · simp [h1]; intro hq; exact hq.symm
    · simp [h1]
theorem rest_3 {d : Sy.Df} (h : d.kind = 3) : dfRest d = if pmsE d ≠ 0 then pmsE d else if Sy.tyW d.takes ≠ 0 then Sy.tyW d.takes else Sy.tyW d.ty := by
  unfold dfRest pmsE
  by_cases hp : 6 < d.params.length
  · simp [hp, h]
  · simp only [hp, h, and_false, if_false, or_true, true_and]
    by_cases h1 : Sy.pmsW d.params = 0
    · by_cases h2 : Sy.tyW d.takes = 0
      · simp [h1, h2]; intro hq; exact hq.symm
      · simp [h1, h2]
    · simp [h1]
theorem rest_4 {d : Sy.Df} (h : d.kind = 4) : dfRest d = 0 := by
  unfold dfRest
  simp [h]








set_option maxRecDepth 100000 in
set_option maxHeartbeats 4000000 in
theorem def_any (C B : Nat) (num : Int) (hBC : B ≤ C) (d : Sy.Df) (pa : Option Addr) (pc : Nat) (ba : Option Addr) (bc n : Nat) (r : Except Int Nat) (w : World) (hX : Hid (DfIn B w d pa ba)) (hC : Hid (CK w C num n)) (hn : n ≤ 2000) (hr : Hid (r = Sy.dfW d n)) :
    Calls Tryd.prog 17 #[.pointer (some ⟨C, 0, none⟩), dfV d pa pc ba bc] w fun e w' => w.grownBy w' (some C) ∧ Fate C num r e w' := by
  have hname := hX.out.1
  have htyn := hX.out.2.1
  have htkn := hX.out.2.2.1
  have hCl := hC.out.lt
  have HC0 : Hid (CK (w.alloc (dfO d pa pc ba bc)) C num n) := hC.out.alloc _
  obtain ⟨r1, hr1⟩ : ∃ r1, r1 = nodeR d.kind 4 40 n := ⟨_, rfl⟩
  have HR1 : Hid (r1 = nodeR d.kind 4 40 n) := hr1
  by_cases hnode : Sy.nodeW d.kind 4 40 n = 0
  · have hr1' : r1 = .ok (n + 1) := by rw [hr1]; unfold nodeR; rw [if_neg (by simpa using hnode)]
    obtain ⟨hn1, hk1, hk2, _⟩ := Sy.nodeW_zero hnode
    have HN : Hid (Sy.nodeW d.kind 4 40 n = 0) := hnode
    clear hnode hr1
    subst hr1'
    cases hnm : Sy.nm d.name
    · have HT : Hid (r = .error 7) := hr.out.trans (dfW_bad (dfHead_name HN.out hnm) (by decide))
      have HK : Hid ((7 : Int) = if Sy.nm d.name = false then 7 else 0) := by rw [if_pos hnm]; rfl
      clear hnm
      go_enter Tryd.func17, Tryd.ntmps17
      go_wp2_with fail
      refine (node_any C n 40 num d.kind 4 1 _ _ HC0 hn (by decide) HR1).mono ?_
      rintro e w1 ⟨hg, hf⟩
      obtain ⟨rfl, hck⟩ := hf
      have HM : Hid (StMid w C num (dfO d pa pc ba bc) (n + 1) w1) := ⟨alloc_grown hg, hck, box_in hg (by simp; omega)⟩
      clear hg hck
      obtain ⟨b0, b1, b2, b3, b4, b5, b6, b7, b8⟩ := nine_cell HM.out.2.2
      go_wp2_with fail
      refine (Calls.bad0 7 (cname_any C (n + 1) num 7 d.name _ HM.out.2.1 hname HK) rfl (by decide)).mono ?_
      rintro e w2 ⟨rfl, hg⟩
      go_wp2
      exact ⟨rfl, grown_trans HM.out.1 (grown_some hg _), by rw [HT.out]; rfl⟩
    · have HK : Hid ((0 : Int) = if Sy.nm d.name = false then 7 else 0) := by rw [if_neg (by rw [hnm]; decide)]; rfl
      have HRest : Hid (Sy.dfHead d n = dfRest d) := dfHead_rest HN.out hnm
      clear hnm
      rcases (show d.kind = 1 ∨ d.kind = 2 ∨ d.kind = 3 ∨ d.kind = 4 by omega) with hk | hk | hk | hk
      · have e1 : (d.kind == 1) = true := by simp; omega
        have e2 : (d.kind == 2) = false := by simp; omega
        have e3 : (d.kind == 3) = false := by simp; omega
        have n4 : (d.kind != 4) = true := by simp; omega
        have HRv := rest_1 hk
        have HKd : Hid (d.kind = 1) := hk
        have HRv2 := HRest.out.trans HRv
        clear hk HRv
        have HV : Hid _ := HRv2
        clear HRv2
        go_enter Tryd.func17, Tryd.ntmps17
        go_wp2_with fail
        refine (node_any C n 40 num d.kind 4 1 _ _ HC0 hn (by decide) HR1).mono ?_
        rintro e w1 ⟨hg, hf⟩
        obtain ⟨rfl, hck⟩ := hf
        have HM : Hid (StMid w C num (dfO d pa pc ba bc) (n + 1) w1) := ⟨alloc_grown hg, hck, box_in hg (by simp; omega)⟩
        clear hg hck
        obtain ⟨b0, b1, b2, b3, b4, b5, b6, b7, b8⟩ := nine_cell HM.out.2.2
        go_wp2_with fail
        refine (Calls.ok0 (cname_any C (n + 1) num 0 d.name _ HM.out.2.1 hname HK) rfl).mono ?_
        rintro e w2 ⟨rfl, hg⟩
        have HM2 : Hid (StMid w C num (dfO d pa pc ba bc) (n + 1) w2) := HM.out.on hg
        clear hg
        clear b0 b1 b2 b3 b4 b5 b6 b7 b8 HM
        have HM := HM2
        clear HM2
        obtain ⟨b0, b1, b2, b3, b4, b5, b6, b7, b8⟩ := nine_cell HM.out.2.2
        obtain ⟨er, hE⟩ : ∃ er : Int, er = Sy.tyW d.ty := ⟨_, rfl⟩
        have HE : Hid (er = Sy.tyW d.ty) := hE
        have HD1 : Hid (er ≠ 0 → dfRest d = er) := by
          intro h0
          have h := HRest.out.symm.trans HV.out
          rw [if_pos (by rw [← hE]; exact h0), ← hE] at h
          exact h
        clear hE
        go_wp2_with fail
        refine (ty_any C (n + 1) num er d.ty _ HM.out.2.1 htyn HE).mono ?_
        rintro e wz hf
        have HF : Hid (Fate0 num er _ e wz) := hf
        clear hf
        by_cases h0 : er = 0
        · have HZ0 : Hid ((Sy.tyW d.ty) = 0) := HE.out.symm.trans h0
          obtain rfl := fate0_not HF.out h0
          have HM2 : Hid (StMid w C num (dfO d pa pc ba bc) (n + 1) wz) := HM.out.on HF.out.1
          clear HF
          clear b0 b1 b2 b3 b4 b5 b6 b7 b8 HM
          have HM := HM2
          clear HM2
          obtain ⟨b0, b1, b2, b3, b4, b5, b6, b7, b8⟩ := nine_cell HM.out.2.2
          clear h0 HE HD1 er
          obtain ⟨er, hE⟩ : ∃ er : Int, er = capE d := ⟨_, rfl⟩
          have HE : Hid (er = capE d) := hE
          have HD1 : Hid (er ≠ 0 → dfRest d = er) := by
            intro h0
            have h := HRest.out.symm.trans HV.out
            rw [if_neg (by simpa using HZ0.out)] at h
            rw [← hE] at h
            exact h
          clear hE
          go_wp2_with fail
          refine (within_any C (n + 1) num d.cap 1 20 er _ HM.out.2.1 HE).mono ?_
          rintro e wz hf
          have HF : Hid (Fate0 num er _ e wz) := hf
          clear hf
          by_cases h0 : er = 0
          · have HZ1 : Hid ((capE d) = 0) := HE.out.symm.trans h0
            obtain rfl := fate0_not HF.out h0
            have HM2 : Hid (StMid w C num (dfO d pa pc ba bc) (n + 1) wz) := HM.out.on HF.out.1
            clear HF
            clear b0 b1 b2 b3 b4 b5 b6 b7 b8 HM
            have HM := HM2
            clear HM2
            obtain ⟨b0, b1, b2, b3, b4, b5, b6, b7, b8⟩ := nine_cell HM.out.2.2
            clear h0 HE HD1 er
            have HT : Hid (r = .ok (n + 1)) := by
              have hz : Sy.dfHead d n = 0 := by
                have h := HV.out
                rw [if_neg (by simpa using HZ0.out)] at h
                rw [HZ1.out] at h
                exact h
              have := hr.out; unfold Sy.dfW at this; rw [hz, if_neg (by decide), if_pos HKd.out] at this; exact this
            go_wp2
            refine bodyPost_ret (results_none rfl _ _ _) rfl ?_
            exact ⟨HM.out.1, by rw [HT.out]; exact ⟨rfl, HM.out.2.1⟩⟩
          · skip
            obtain rfl := fate0_err HF.out h0
            have HT : Hid (r = .error er) := hr.out.trans (dfW_bad (HRest.out.trans (HD1.out h0)) h0)
            have HG : Hid (w.grownBy wz (some C)) := grown_trans HM.out.1 (grown_some HF.out.1 _)
            clear h0 b0 b1 b2 b3 b4 b5 b6 b7 b8
            go_wp2
            exact ⟨rfl, HG.out, by rw [HT.out]; rfl⟩
        · skip
          obtain rfl := fate0_err HF.out h0
          have HT : Hid (r = .error er) := hr.out.trans (dfW_bad (HRest.out.trans (HD1.out h0)) h0)
          have HG : Hid (w.grownBy wz (some C)) := grown_trans HM.out.1 (grown_some HF.out.1 _)
          clear h0 b0 b1 b2 b3 b4 b5 b6 b7 b8
          go_wp2
          exact ⟨rfl, HG.out, by rw [HT.out]; rfl⟩
      · have e1 : (d.kind == 1) = false := by simp; omega
        have e2 : (d.kind == 2) = true := by simp; omega
        have e3 : (d.kind == 3) = false := by simp; omega
        have n4 : (d.kind != 4) = true := by simp; omega
        have HRv := rest_2 hk
        have HKd : Hid (d.kind = 2) := hk
        have HRv2 := HRest.out.trans HRv
        clear hk HRv
        have HV : Hid _ := HRv2
        clear HRv2
        go_enter Tryd.func17, Tryd.ntmps17
        go_wp2_with fail
        refine (node_any C n 40 num d.kind 4 1 _ _ HC0 hn (by decide) HR1).mono ?_
        rintro e w1 ⟨hg, hf⟩
        obtain ⟨rfl, hck⟩ := hf
        have HM : Hid (StMid w C num (dfO d pa pc ba bc) (n + 1) w1) := ⟨alloc_grown hg, hck, box_in hg (by simp; omega)⟩
        clear hg hck
        obtain ⟨b0, b1, b2, b3, b4, b5, b6, b7, b8⟩ := nine_cell HM.out.2.2
        go_wp2_with fail
        refine (Calls.ok0 (cname_any C (n + 1) num 0 d.name _ HM.out.2.1 hname HK) rfl).mono ?_
        rintro e w2 ⟨rfl, hg⟩
        have HM2 : Hid (StMid w C num (dfO d pa pc ba bc) (n + 1) w2) := HM.out.on hg
        clear hg
        clear b0 b1 b2 b3 b4 b5 b6 b7 b8 HM
        have HM := HM2
        clear HM2
        obtain ⟨b0, b1, b2, b3, b4, b5, b6, b7, b8⟩ := nine_cell HM.out.2.2
        obtain ⟨er, hE⟩ : ∃ er : Int, er = pmsE d := ⟨_, rfl⟩
        have HE : Hid (er = pmsE d) := hE
        have HD1 : Hid (er ≠ 0 → dfRest d = er) := by
          intro h0
          have h := HRest.out.symm.trans HV.out
          rw [if_pos (by rw [← hE]; exact h0), ← hE] at h
          exact h
        clear hE
        go_wp2_with fail
        refine (params_any C B (n + 1) num er d.params pa pc _ hBC HM.out.2.1 (hX.out.2.2.2.1.same (HM.out.same hBC hCl)) HE).mono ?_
        rintro e wz hf
        have HF : Hid (Fate0 num er _ e wz) := hf
        clear hf
        by_cases h0 : er = 0
        · have HZ0 : Hid ((pmsE d) = 0) := HE.out.symm.trans h0
          obtain rfl := fate0_not HF.out h0
          have HM2 : Hid (StMid w C num (dfO d pa pc ba bc) (n + 1) wz) := HM.out.on HF.out.1
          clear HF
          clear b0 b1 b2 b3 b4 b5 b6 b7 b8 HM
          have HM := HM2
          clear HM2
          obtain ⟨b0, b1, b2, b3, b4, b5, b6, b7, b8⟩ := nine_cell HM.out.2.2
          clear h0 HE HD1 er
          obtain ⟨er, hE⟩ : ∃ er : Int, er = Sy.tyW d.ty := ⟨_, rfl⟩
          have HE : Hid (er = Sy.tyW d.ty) := hE
          have HD1 : Hid (er ≠ 0 → dfRest d = er) := by
            intro h0
            have h := HRest.out.symm.trans HV.out
            rw [if_neg (by simpa using HZ0.out)] at h
            rw [← hE] at h
            exact h
          clear hE
          go_wp2_with fail
          refine (ty_any C (n + 1) num er d.ty _ HM.out.2.1 htyn HE).mono ?_
          rintro e wz hf
          have HF : Hid (Fate0 num er _ e wz) := hf
          clear hf
          by_cases h0 : er = 0
          · have HZ1 : Hid ((Sy.tyW d.ty) = 0) := HE.out.symm.trans h0
            obtain rfl := fate0_not HF.out h0
            have HM2 : Hid (StMid w C num (dfO d pa pc ba bc) (n + 1) wz) := HM.out.on HF.out.1
            clear HF
            clear b0 b1 b2 b3 b4 b5 b6 b7 b8 HM
            have HM := HM2
            clear HM2
            obtain ⟨b0, b1, b2, b3, b4, b5, b6, b7, b8⟩ := nine_cell HM.out.2.2
            clear h0 HE HD1 er
            have HT : Hid (r = Sy.bodyW 39 d.body (n + 1)) := by
              have hz : Sy.dfHead d n = 0 := by
                have h := HV.out
                rw [if_neg (by simpa using HZ0.out)] at h
                rw [HZ1.out] at h
                exact h
              have := hr.out; unfold Sy.dfW at this; rw [hz, if_neg (by decide), if_neg (by have := HKd.out; omega)] at this; exact this
            obtain ⟨hb, hbin⟩ := hX.out.2.2.2.2
            have HB : Hid (BodyIn B wz hb d.body ba) := hbin.same (HM.out.same hBC hCl)
            clear hbin
            go_wp2_with fail
            refine (body_any C B num hBC 39 hb d.body ba bc (n + 1) 2 r _ (by decide) (by decide) HB HM.out.2.1 hn1 HT).mono ?_
            rintro e w4 ⟨hg, hf⟩
            have HG : Hid (w.grownBy w4 (some C)) := grown_trans HM.out.1 hg
            have HF : Hid (Fate C num r e w4) := hf
            clear hg b0 b1 b2 b3 b4 b5 b6 b7 b8
            cases r with
            | error er =>
              obtain rfl : e = .panicked [fltE er num] := hf
              go_wp2
              exact ⟨rfl, HG.out, rfl⟩
            | ok m3 =>
              obtain ⟨rfl, hck⟩ := hf
              clear hck
              go_wp2
              go_end0
              exact ⟨HG.out, HF.out⟩
          · skip
            obtain rfl := fate0_err HF.out h0
            have HT : Hid (r = .error er) := hr.out.trans (dfW_bad (HRest.out.trans (HD1.out h0)) h0)
            have HG : Hid (w.grownBy wz (some C)) := grown_trans HM.out.1 (grown_some HF.out.1 _)
            clear h0 b0 b1 b2 b3 b4 b5 b6 b7 b8
            go_wp2
            exact ⟨rfl, HG.out, by rw [HT.out]; rfl⟩
        · skip
          obtain rfl := fate0_err HF.out h0
          have HT : Hid (r = .error er) := hr.out.trans (dfW_bad (HRest.out.trans (HD1.out h0)) h0)
          have HG : Hid (w.grownBy wz (some C)) := grown_trans HM.out.1 (grown_some HF.out.1 _)
          clear h0 b0 b1 b2 b3 b4 b5 b6 b7 b8
          go_wp2
          exact ⟨rfl, HG.out, by rw [HT.out]; rfl⟩
      · have e1 : (d.kind == 1) = false := by simp; omega
        have e2 : (d.kind == 2) = false := by simp; omega
        have e3 : (d.kind == 3) = true := by simp; omega
        have n4 : (d.kind != 4) = true := by simp; omega
        have HRv := rest_3 hk
        have HKd : Hid (d.kind = 3) := hk
        have HRv2 := HRest.out.trans HRv
        clear hk HRv
        have HV : Hid _ := HRv2
        clear HRv2
        go_enter Tryd.func17, Tryd.ntmps17
        go_wp2_with fail
        refine (node_any C n 40 num d.kind 4 1 _ _ HC0 hn (by decide) HR1).mono ?_
        rintro e w1 ⟨hg, hf⟩
        obtain ⟨rfl, hck⟩ := hf
        have HM : Hid (StMid w C num (dfO d pa pc ba bc) (n + 1) w1) := ⟨alloc_grown hg, hck, box_in hg (by simp; omega)⟩
        clear hg hck
        obtain ⟨b0, b1, b2, b3, b4, b5, b6, b7, b8⟩ := nine_cell HM.out.2.2
        go_wp2_with fail
        refine (Calls.ok0 (cname_any C (n + 1) num 0 d.name _ HM.out.2.1 hname HK) rfl).mono ?_
        rintro e w2 ⟨rfl, hg⟩
        have HM2 : Hid (StMid w C num (dfO d pa pc ba bc) (n + 1) w2) := HM.out.on hg
        clear hg
        clear b0 b1 b2 b3 b4 b5 b6 b7 b8 HM
        have HM := HM2
        clear HM2
        obtain ⟨b0, b1, b2, b3, b4, b5, b6, b7, b8⟩ := nine_cell HM.out.2.2
        obtain ⟨er, hE⟩ : ∃ er : Int, er = pmsE d := ⟨_, rfl⟩
        have HE : Hid (er = pmsE d) := hE
        have HD1 : Hid (er ≠ 0 → dfRest d = er) := by
          intro h0
          have h := HRest.out.symm.trans HV.out
          rw [if_pos (by rw [← hE]; exact h0), ← hE] at h
          exact h
        clear hE
        go_wp2_with fail
        refine (params_any C B (n + 1) num er d.params pa pc _ hBC HM.out.2.1 (hX.out.2.2.2.1.same (HM.out.same hBC hCl)) HE).mono ?_
        rintro e wz hf
        have HF : Hid (Fate0 num er _ e wz) := hf
        clear hf
        by_cases h0 : er = 0
        · have HZ0 : Hid ((pmsE d) = 0) := HE.out.symm.trans h0
          obtain rfl := fate0_not HF.out h0
          have HM2 : Hid (StMid w C num (dfO d pa pc ba bc) (n + 1) wz) := HM.out.on HF.out.1
          clear HF
          clear b0 b1 b2 b3 b4 b5 b6 b7 b8 HM
          have HM := HM2
          clear HM2
          obtain ⟨b0, b1, b2, b3, b4, b5, b6, b7, b8⟩ := nine_cell HM.out.2.2
          clear h0 HE HD1 er
          obtain ⟨er, hE⟩ : ∃ er : Int, er = Sy.tyW d.takes := ⟨_, rfl⟩
          have HE : Hid (er = Sy.tyW d.takes) := hE
          have HD1 : Hid (er ≠ 0 → dfRest d = er) := by
            intro h0
            have h := HRest.out.symm.trans HV.out
            rw [if_neg (by simpa using HZ0.out)] at h
            rw [if_pos (by rw [← hE]; exact h0), ← hE] at h
            exact h
          clear hE
          go_wp2_with fail
          refine (ty_any C (n + 1) num er d.takes _ HM.out.2.1 htkn HE).mono ?_
          rintro e wz hf
          have HF : Hid (Fate0 num er _ e wz) := hf
          clear hf
          by_cases h0 : er = 0
          · have HZ1 : Hid ((Sy.tyW d.takes) = 0) := HE.out.symm.trans h0
            obtain rfl := fate0_not HF.out h0
            have HM2 : Hid (StMid w C num (dfO d pa pc ba bc) (n + 1) wz) := HM.out.on HF.out.1
            clear HF
            clear b0 b1 b2 b3 b4 b5 b6 b7 b8 HM
            have HM := HM2
            clear HM2
            obtain ⟨b0, b1, b2, b3, b4, b5, b6, b7, b8⟩ := nine_cell HM.out.2.2
            clear h0 HE HD1 er
            obtain ⟨er, hE⟩ : ∃ er : Int, er = Sy.tyW d.ty := ⟨_, rfl⟩
            have HE : Hid (er = Sy.tyW d.ty) := hE
            have HD1 : Hid (er ≠ 0 → dfRest d = er) := by
              intro h0
              have h := HRest.out.symm.trans HV.out
              rw [if_neg (by simpa using HZ0.out)] at h
              rw [if_neg (by simpa using HZ1.out)] at h
              rw [← hE] at h
              exact h
            clear hE
            go_wp2_with fail
            refine (ty_any C (n + 1) num er d.ty _ HM.out.2.1 htyn HE).mono ?_
            rintro e wz hf
            have HF : Hid (Fate0 num er _ e wz) := hf
            clear hf
            by_cases h0 : er = 0
            · have HZ2 : Hid ((Sy.tyW d.ty) = 0) := HE.out.symm.trans h0
              obtain rfl := fate0_not HF.out h0
              have HM2 : Hid (StMid w C num (dfO d pa pc ba bc) (n + 1) wz) := HM.out.on HF.out.1
              clear HF
              clear b0 b1 b2 b3 b4 b5 b6 b7 b8 HM
              have HM := HM2
              clear HM2
              obtain ⟨b0, b1, b2, b3, b4, b5, b6, b7, b8⟩ := nine_cell HM.out.2.2
              clear h0 HE HD1 er
              have HT : Hid (r = Sy.bodyW 39 d.body (n + 1)) := by
                have hz : Sy.dfHead d n = 0 := by
                  have h := HV.out
                  rw [if_neg (by simpa using HZ0.out)] at h
                  rw [if_neg (by simpa using HZ1.out)] at h
                  rw [HZ2.out] at h
                  exact h
                have := hr.out; unfold Sy.dfW at this; rw [hz, if_neg (by decide), if_neg (by have := HKd.out; omega)] at this; exact this
              obtain ⟨hb, hbin⟩ := hX.out.2.2.2.2
              have HB : Hid (BodyIn B wz hb d.body ba) := hbin.same (HM.out.same hBC hCl)
              clear hbin
              go_wp2_with fail
              refine (body_any C B num hBC 39 hb d.body ba bc (n + 1) 2 r _ (by decide) (by decide) HB HM.out.2.1 hn1 HT).mono ?_
              rintro e w4 ⟨hg, hf⟩
              have HG : Hid (w.grownBy w4 (some C)) := grown_trans HM.out.1 hg
              have HF : Hid (Fate C num r e w4) := hf
              clear hg b0 b1 b2 b3 b4 b5 b6 b7 b8
              cases r with
              | error er =>
                obtain rfl : e = .panicked [fltE er num] := hf
                go_wp2
                exact ⟨rfl, HG.out, rfl⟩
              | ok m3 =>
                obtain ⟨rfl, hck⟩ := hf
                clear hck
                go_wp2
                go_end0
                exact ⟨HG.out, HF.out⟩
            · skip
              obtain rfl := fate0_err HF.out h0
              have HT : Hid (r = .error er) := hr.out.trans (dfW_bad (HRest.out.trans (HD1.out h0)) h0)
              have HG : Hid (w.grownBy wz (some C)) := grown_trans HM.out.1 (grown_some HF.out.1 _)
              clear h0 b0 b1 b2 b3 b4 b5 b6 b7 b8
              go_wp2
              exact ⟨rfl, HG.out, by rw [HT.out]; rfl⟩
          · skip
            obtain rfl := fate0_err HF.out h0
            have HT : Hid (r = .error er) := hr.out.trans (dfW_bad (HRest.out.trans (HD1.out h0)) h0)
            have HG : Hid (w.grownBy wz (some C)) := grown_trans HM.out.1 (grown_some HF.out.1 _)
            clear h0 b0 b1 b2 b3 b4 b5 b6 b7 b8
            go_wp2
            exact ⟨rfl, HG.out, by rw [HT.out]; rfl⟩
        · skip
          obtain rfl := fate0_err HF.out h0
          have HT : Hid (r = .error er) := hr.out.trans (dfW_bad (HRest.out.trans (HD1.out h0)) h0)
          have HG : Hid (w.grownBy wz (some C)) := grown_trans HM.out.1 (grown_some HF.out.1 _)
          clear h0 b0 b1 b2 b3 b4 b5 b6 b7 b8
          go_wp2
          exact ⟨rfl, HG.out, by rw [HT.out]; rfl⟩
      · have e1 : (d.kind == 1) = false := by simp; omega
        have e2 : (d.kind == 2) = false := by simp; omega
        have e3 : (d.kind == 3) = false := by simp; omega
        have n4 : (d.kind != 4) = false := by simp; omega
        have HRv := rest_4 hk
        have HKd : Hid (d.kind = 4) := hk
        have HRv2 := HRest.out.trans HRv
        clear hk HRv
        have HV : Hid _ := HRv2
        clear HRv2
        go_enter Tryd.func17, Tryd.ntmps17
        go_wp2_with fail
        refine (node_any C n 40 num d.kind 4 1 _ _ HC0 hn (by decide) HR1).mono ?_
        rintro e w1 ⟨hg, hf⟩
        obtain ⟨rfl, hck⟩ := hf
        have HM : Hid (StMid w C num (dfO d pa pc ba bc) (n + 1) w1) := ⟨alloc_grown hg, hck, box_in hg (by simp; omega)⟩
        clear hg hck
        obtain ⟨b0, b1, b2, b3, b4, b5, b6, b7, b8⟩ := nine_cell HM.out.2.2
        go_wp2_with fail
        refine (Calls.ok0 (cname_any C (n + 1) num 0 d.name _ HM.out.2.1 hname HK) rfl).mono ?_
        rintro e w2 ⟨rfl, hg⟩
        have HM2 : Hid (StMid w C num (dfO d pa pc ba bc) (n + 1) w2) := HM.out.on hg
        clear hg
        clear b0 b1 b2 b3 b4 b5 b6 b7 b8 HM
        have HM := HM2
        clear HM2
        obtain ⟨b0, b1, b2, b3, b4, b5, b6, b7, b8⟩ := nine_cell HM.out.2.2
        have HT : Hid (r = Sy.bodyW 39 d.body (n + 1)) := by
          have hz : Sy.dfHead d n = 0 := HV.out
          have := hr.out; unfold Sy.dfW at this; rw [hz, if_neg (by decide), if_neg (by have := HKd.out; omega)] at this; exact this
        obtain ⟨hb, hbin⟩ := hX.out.2.2.2.2
        have HB : Hid (BodyIn B w2 hb d.body ba) := hbin.same (HM.out.same hBC hCl)
        clear hbin
        go_wp2_with fail
        refine (body_any C B num hBC 39 hb d.body ba bc (n + 1) 2 r _ (by decide) (by decide) HB HM.out.2.1 hn1 HT).mono ?_
        rintro e w4 ⟨hg, hf⟩
        have HG : Hid (w.grownBy w4 (some C)) := grown_trans HM.out.1 hg
        have HF : Hid (Fate C num r e w4) := hf
        clear hg b0 b1 b2 b3 b4 b5 b6 b7 b8
        cases r with
        | error er =>
          obtain rfl : e = .panicked [fltE er num] := hf
          go_wp2
          exact ⟨rfl, HG.out, rfl⟩
        | ok m3 =>
          obtain ⟨rfl, hck⟩ := hf
          clear hck
          go_wp2
          go_end0
          exact ⟨HG.out, HF.out⟩
  · have hr1' : r1 = .error (Sy.nodeW d.kind 4 40 n) := by rw [hr1]; unfold nodeR; rw [if_pos (by simpa using hnode)]
    have HR : Hid (r = .error (Sy.nodeW d.kind 4 40 n)) := hr.out.trans (dfW_bad (dfHead_node (by simpa using hnode)) (by simpa using hnode))
    obtain ⟨er, her⟩ : ∃ er, er = Sy.nodeW d.kind 4 40 n := ⟨_, rfl⟩
    rw [← her] at hr1' HR
    clear hr1 hnode her
    subst hr1'
    go_enter Tryd.func17, Tryd.ntmps17
    go_wp2_with fail
    refine (node_any C n 40 num d.kind 4 1 _ _ HC0 hn (by decide) HR1).mono ?_
    rintro e w1 ⟨hg, hf⟩
    obtain rfl : e = .panicked [fltE er num] := hf
    go_wp2
    exact ⟨rfl, alloc_grown hg, by rw [HR.out]; rfl⟩

end Go.Proofs.YtbbklahhnepiaaaDoor
