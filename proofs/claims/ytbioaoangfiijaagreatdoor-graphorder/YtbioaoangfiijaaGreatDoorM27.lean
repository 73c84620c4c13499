/- The walk of the checker's def. -/
import Derived.Test.YtbioaoangfiijaaGreatDoorM26
set_option maxRecDepth 100000
set_option maxHeartbeats 4000000
namespace Go.Proofs.YtbioaoangfiijaaGreatDoor
open Go.RowKit
theorem nine_cell {w:World} {b:Nat} {v0 v1 v2 v3 v4 v5 v6 v7 v8:Value} {t:TypeId} (h:w.heap[b]? = some (.cells #[v0,v1,v2,v3,v4,v5,v6,v7,v8] t (0,0))) :
  w.cell? ⟨b,0,none⟩ = some v0 ∧ w.cell? ⟨b,1,none⟩ = some v1 ∧ w.cell? ⟨b,2,none⟩ = some v2 ∧ w.cell? ⟨b,3,none⟩ = some v3 ∧
  w.cell? ⟨b,4,none⟩ = some v4 ∧ w.cell? ⟨b,5,none⟩ = some v5 ∧ w.cell? ⟨b,6,none⟩ = some v6 ∧ w.cell? ⟨b,7,none⟩ = some v7 ∧ w.cell? ⟨b,8,none⟩ = some v8:=by simp [World.cell?,h]
abbrev dfO (d:Sy.Df) (pa:Option Addr) (pc:Nat) (ba:Option Addr) (bc:Nat):Obj :=
 .cells #[.int .i64 d.kind,.string d.name,.int .i64 d.ty.kind,.string d.ty.gen,.int .i64 d.takes.kind,.string d.takes.gen,.int .i64 d.cap,.slice pa d.params.length pc,.slice ba d.body.length bc] 39 (0,0)
theorem dfW_bad {d:Sy.Df} {n:Nat} {k:Int} (h:Sy.dfHead d n = k) (hk:k ≠ 0):Sy.dfW d n = .error k:=by unfold Sy.dfW; rw [h,if_pos hk]
def dfRest (d:Sy.Df):Int :=
 if (d.kind = 2 ∨ d.kind = 3) ∧ 6 < d.params.length then 5
 else if (d.kind = 2 ∨ d.kind = 3) ∧ Sy.pmsW d.params ≠ 0 then Sy.pmsW d.params
 else if d.kind = 3 ∧ Sy.tyW d.takes ≠ 0 then Sy.tyW d.takes
 else if d.kind ≠ 4 ∧ Sy.tyW d.ty ≠ 0 then Sy.tyW d.ty
 else if d.kind = 1 ∧ (d.cap < 1 ∨ 20 < d.cap) then 3
 else 0
theorem dfHead_node {d:Sy.Df} {n:Nat} (h:Sy.nodeW d.kind 4 40 n ≠ 0):Sy.dfHead d n = Sy.nodeW d.kind 4 40 n:=by unfold Sy.dfHead; rw [if_pos h]
theorem dfHead_name {d:Sy.Df} {n:Nat} (h:Sy.nodeW d.kind 4 40 n = 0) (hn:Sy.nm d.name = false):Sy.dfHead d n = 7:=by unfold Sy.dfHead; rw [if_neg (by simpa using h),if_pos hn]
theorem dfHead_rest {d:Sy.Df} {n:Nat} (h:Sy.nodeW d.kind 4 40 n = 0) (hn:Sy.nm d.name = true):Sy.dfHead d n = dfRest d:=by
 unfold Sy.dfHead dfRest; rw [if_neg (by simpa using h),if_neg (by rw [hn]; decide)]
def pmsE (d:Sy.Df):Int:=if 6 < d.params.length then 5 else Sy.pmsW d.params
def capE (d:Sy.Df):Int:=if d.cap < 1 ∨ 20 < d.cap then 3 else 0
theorem rest_1 {d:Sy.Df} (h:d.kind = 1):dfRest d = if Sy.tyW d.ty ≠ 0 then Sy.tyW d.ty else capE d:=by
 unfold dfRest capE
 rw [if_neg (by omega),if_neg (by omega),if_neg (by omega)]
 by_cases ht:Sy.tyW d.ty = 0
 ·simp [ht,h]
 ·simp [ht,h]
theorem rest_2 {d:Sy.Df} (h:d.kind = 2):dfRest d = if pmsE d ≠ 0 then pmsE d else Sy.tyW d.ty:=by
 unfold dfRest pmsE
 by_cases hp:6 < d.params.length
 ·simp [hp,h]
 ·simp only [hp,h,and_false,if_false,true_or,true_and]
  by_cases h1:Sy.pmsW d.params = 0
  ·simp [h1]; intro hq; exact hq.symm
  ·simp [h1]
theorem rest_3 {d:Sy.Df} (h:d.kind = 3):dfRest d = if pmsE d ≠ 0 then pmsE d else if Sy.tyW d.takes ≠ 0 then Sy.tyW d.takes else Sy.tyW d.ty:=by
 unfold dfRest pmsE
 by_cases hp:6 < d.params.length
 ·simp [hp,h]
 ·simp only [hp,h,and_false,if_false,or_true,true_and]
  by_cases h1:Sy.pmsW d.params = 0
  ·by_cases h2:Sy.tyW d.takes = 0
   ·simp [h1,h2]; intro hq; exact hq.symm
   ·simp [h1,h2]
  ·simp [h1]
theorem rest_4 {d:Sy.Df} (h:d.kind = 4):dfRest d = 0:=by
 unfold dfRest
 simp [h]
theorem def_any (C B:Nat) (num:Int) (hBC:B ≤ C) (d:Sy.Df) (pa:Option Addr) (pc:Nat) (ba:Option Addr) (bc n:Nat) (r:Except Int Nat) (w:World) (hX:Hid (DfIn B w d pa ba)) (hC:Hid (CK w C num n)) (hn:n ≤ 2000) (hr:Hid (r = Sy.dfW d n)) :
  Calls Tryz.prog 34 #[.pointer (some ⟨C,0,none⟩),dfV d pa pc ba bc] w fun e w' => w.grownBy w' (some C) ∧ Fate C num r e w':=by
 have hname:=hX.out.1
 have htyn:=hX.out.2.1
 have htkn:=hX.out.2.2.1
 have hCl:=hC.out.lt
 have HC0:Hid (CK (w.alloc (dfO d pa pc ba bc)) C num n):=hC.out.alloc _
 obtain ⟨r1,hr1⟩:∃ r1,r1 = nodeR d.kind 4 40 n:=⟨_,rfl⟩
 have HR1:Hid (r1 = nodeR d.kind 4 40 n):=hr1
 by_cases hnode:Sy.nodeW d.kind 4 40 n = 0
 ·have hr1':r1 = .ok (n + 1):=by rw [hr1]; unfold nodeR; rw [if_neg (by simpa using hnode)]
  obtain ⟨hn1,hk1,hk2,_⟩:=Sy.nodeW_zero hnode
  have HN:Hid (Sy.nodeW d.kind 4 40 n = 0):=hnode
  clear hnode hr1
  subst hr1'
  cases hnm:Sy.nm d.name
  ·have HT:Hid (r = .error 7):=hr.out.trans (dfW_bad (dfHead_name HN.out hnm) (by decide))
   have HK:Hid ((7:Int) = if Sy.nm d.name = false then 7 else 0):=by rw [if_pos hnm]; rfl
   clear hnm
   go_enter Tryz.func34,Tryz.ntmps34
   go_wp2_with fail
   refine (node_any C n 40 num d.kind 4 1 _ _ HC0 hn (by decide) HR1).mono ?_
   rintro e w1 ⟨hg,hf⟩
   obtain ⟨rfl,hck⟩:=hf
   have HM:Hid (StMid w C num (dfO d pa pc ba bc) (n + 1) w1):=⟨alloc_grown hg,hck,box_in hg (by simp; omega)⟩
   clear hg hck
   obtain ⟨b0,b1,b2,b3,b4,b5,b6,b7,b8⟩:=nine_cell HM.out.2.2
   go_wp2_with fail
   refine (Calls.bad0 7 (cname_any C (n + 1) num 7 d.name _ HM.out.2.1 hname HK) rfl (by decide)).mono ?_
   rintro e w2 ⟨rfl,hg⟩
   go_wp2
   exact ⟨rfl,grown_trans HM.out.1 (grown_some hg _),by rw [HT.out]; rfl⟩
  ·have HK:Hid ((0:Int) = if Sy.nm d.name = false then 7 else 0):=by rw [if_neg (by rw [hnm]; decide)]; rfl
   have HRest:Hid (Sy.dfHead d n = dfRest d):=dfHead_rest HN.out hnm
   clear hnm
   rcases (show d.kind = 1 ∨ d.kind = 2 ∨ d.kind = 3 ∨ d.kind = 4 by omega) with hk | hk | hk | hk
   ·have e1:(d.kind == 1) = true:=by simp; omega
    have e2:(d.kind == 2) = false:=by simp; omega
    have e3:(d.kind == 3) = false:=by simp; omega
    have n4:(d.kind != 4) = true:=by simp; omega
    have HRv:=rest_1 hk
    have HKd:Hid (d.kind = 1):=hk
    have HRv2:=HRest.out.trans HRv
    clear hk HRv
    have HV:Hid _:=HRv2
    clear HRv2
    go_enter Tryz.func34,Tryz.ntmps34
    go_wp2_with fail
    refine (node_any C n 40 num d.kind 4 1 _ _ HC0 hn (by decide) HR1).mono ?_
    rintro e w1 ⟨hg,hf⟩
    obtain ⟨rfl,hck⟩:=hf
    have HM:Hid (StMid w C num (dfO d pa pc ba bc) (n + 1) w1):=⟨alloc_grown hg,hck,box_in hg (by simp; omega)⟩
    clear hg hck
    obtain ⟨b0,b1,b2,b3,b4,b5,b6,b7,b8⟩:=nine_cell HM.out.2.2
    go_wp2_with fail
    refine (Calls.ok0 (cname_any C (n + 1) num 0 d.name _ HM.out.2.1 hname HK) rfl).mono ?_
    rintro e w2 ⟨rfl,hg⟩
    have HM2:Hid (StMid w C num (dfO d pa pc ba bc) (n + 1) w2):=HM.out.on hg
    clear hg
    clear b0 b1 b2 b3 b4 b5 b6 b7 b8 HM
    have HM:=HM2
    clear HM2
    obtain ⟨b0,b1,b2,b3,b4,b5,b6,b7,b8⟩:=nine_cell HM.out.2.2
    obtain ⟨er,hE⟩:∃ er:Int,er = Sy.tyW d.ty:=⟨_,rfl⟩
    have HE:Hid (er = Sy.tyW d.ty):=hE
    have HD1:Hid (er ≠ 0 → dfRest d = er):=by
     intro h0
     have h:=HRest.out.symm.trans HV.out
     rw [if_pos (by rw [← hE]; exact h0),← hE] at h
     exact h
    clear hE
    go_wp2_with fail
    refine (ty_any C (n + 1) num er d.ty _ HM.out.2.1 htyn HE).mono ?_
    rintro e wz hf
    have HF:Hid (Fate0 num er _ e wz):=hf
    clear hf
    by_cases h0:er = 0
    ·have HZ0:Hid ((Sy.tyW d.ty) = 0):=HE.out.symm.trans h0
     obtain rfl:=fate0_not HF.out h0
     have HM2:Hid (StMid w C num (dfO d pa pc ba bc) (n + 1) wz):=HM.out.on HF.out.1
     clear HF
     clear b0 b1 b2 b3 b4 b5 b6 b7 b8 HM
     have HM:=HM2
     clear HM2
     obtain ⟨b0,b1,b2,b3,b4,b5,b6,b7,b8⟩:=nine_cell HM.out.2.2
     clear h0 HE HD1 er
     obtain ⟨er,hE⟩:∃ er:Int,er = capE d:=⟨_,rfl⟩
     have HE:Hid (er = capE d):=hE
     have HD1:Hid (er ≠ 0 → dfRest d = er):=by
      intro h0
      have h:=HRest.out.symm.trans HV.out
      rw [if_neg (by simpa using HZ0.out)] at h
      rw [← hE] at h
      exact h
     clear hE
     go_wp2_with fail
     refine (within_any C (n + 1) num d.cap 1 20 er _ HM.out.2.1 HE).mono ?_
     rintro e wz hf
     have HF:Hid (Fate0 num er _ e wz):=hf
     clear hf
     by_cases h0:er = 0
     ·have HZ1:Hid ((capE d) = 0):=HE.out.symm.trans h0
      obtain rfl:=fate0_not HF.out h0
      have HM2:Hid (StMid w C num (dfO d pa pc ba bc) (n + 1) wz):=HM.out.on HF.out.1
      clear HF
      clear b0 b1 b2 b3 b4 b5 b6 b7 b8 HM
      have HM:=HM2
      clear HM2
      obtain ⟨b0,b1,b2,b3,b4,b5,b6,b7,b8⟩:=nine_cell HM.out.2.2
      clear h0 HE HD1 er
      have HT:Hid (r = .ok (n + 1)):=by
       have hz:Sy.dfHead d n = 0:=by
        have h:=HV.out
        rw [if_neg (by simpa using HZ0.out)] at h
        rw [HZ1.out] at h
        exact h
       have:=hr.out; unfold Sy.dfW at this; rw [hz,if_neg (by decide),if_pos HKd.out] at this; exact this
      go_wp2
      refine bodyPost_ret (results_none rfl _ _ _) rfl ?_
      exact ⟨HM.out.1,by rw [HT.out]; exact ⟨rfl,HM.out.2.1⟩⟩
     ·skip
      obtain rfl:=fate0_err HF.out h0
      have HT:Hid (r = .error er):=hr.out.trans (dfW_bad (HRest.out.trans (HD1.out h0)) h0)
      have HG:Hid (w.grownBy wz (some C)):=grown_trans HM.out.1 (grown_some HF.out.1 _)
      clear h0 b0 b1 b2 b3 b4 b5 b6 b7 b8
      go_wp2
      exact ⟨rfl,HG.out,by rw [HT.out]; rfl⟩
    ·skip
     obtain rfl:=fate0_err HF.out h0
     have HT:Hid (r = .error er):=hr.out.trans (dfW_bad (HRest.out.trans (HD1.out h0)) h0)
     have HG:Hid (w.grownBy wz (some C)):=grown_trans HM.out.1 (grown_some HF.out.1 _)
     clear h0 b0 b1 b2 b3 b4 b5 b6 b7 b8
     go_wp2
     exact ⟨rfl,HG.out,by rw [HT.out]; rfl⟩
   ·have e1:(d.kind == 1) = false:=by simp; omega
    have e2:(d.kind == 2) = true:=by simp; omega
    have e3:(d.kind == 3) = false:=by simp; omega
    have n4:(d.kind != 4) = true:=by simp; omega
    have HRv:=rest_2 hk
    have HKd:Hid (d.kind = 2):=hk
    have HRv2:=HRest.out.trans HRv
    clear hk HRv
    have HV:Hid _:=HRv2
    clear HRv2
    go_enter Tryz.func34,Tryz.ntmps34
    go_wp2_with fail
    refine (node_any C n 40 num d.kind 4 1 _ _ HC0 hn (by decide) HR1).mono ?_
    rintro e w1 ⟨hg,hf⟩
    obtain ⟨rfl,hck⟩:=hf
    have HM:Hid (StMid w C num (dfO d pa pc ba bc) (n + 1) w1):=⟨alloc_grown hg,hck,box_in hg (by simp; omega)⟩
    clear hg hck
    obtain ⟨b0,b1,b2,b3,b4,b5,b6,b7,b8⟩:=nine_cell HM.out.2.2
    go_wp2_with fail
    refine (Calls.ok0 (cname_any C (n + 1) num 0 d.name _ HM.out.2.1 hname HK) rfl).mono ?_
    rintro e w2 ⟨rfl,hg⟩
    have HM2:Hid (StMid w C num (dfO d pa pc ba bc) (n + 1) w2):=HM.out.on hg
    clear hg
    clear b0 b1 b2 b3 b4 b5 b6 b7 b8 HM
    have HM:=HM2
    clear HM2
    obtain ⟨b0,b1,b2,b3,b4,b5,b6,b7,b8⟩:=nine_cell HM.out.2.2
    obtain ⟨er,hE⟩:∃ er:Int,er = pmsE d:=⟨_,rfl⟩
    have HE:Hid (er = pmsE d):=hE
    have HD1:Hid (er ≠ 0 → dfRest d = er):=by
     intro h0
     have h:=HRest.out.symm.trans HV.out
     rw [if_pos (by rw [← hE]; exact h0),← hE] at h
     exact h
    clear hE
    go_wp2_with fail
    refine (params_any C B (n + 1) num er d.params pa pc _ hBC HM.out.2.1 (hX.out.2.2.2.1.same (HM.out.same hBC hCl)) HE).mono ?_
    rintro e wz hf
    have HF:Hid (Fate0 num er _ e wz):=hf
    clear hf
    by_cases h0:er = 0
    ·have HZ0:Hid ((pmsE d) = 0):=HE.out.symm.trans h0
     obtain rfl:=fate0_not HF.out h0
     have HM2:Hid (StMid w C num (dfO d pa pc ba bc) (n + 1) wz):=HM.out.on HF.out.1
     clear HF
     clear b0 b1 b2 b3 b4 b5 b6 b7 b8 HM
     have HM:=HM2
     clear HM2
     obtain ⟨b0,b1,b2,b3,b4,b5,b6,b7,b8⟩:=nine_cell HM.out.2.2
     clear h0 HE HD1 er
     obtain ⟨er,hE⟩:∃ er:Int,er = Sy.tyW d.ty:=⟨_,rfl⟩
     have HE:Hid (er = Sy.tyW d.ty):=hE
     have HD1:Hid (er ≠ 0 → dfRest d = er):=by
      intro h0
      have h:=HRest.out.symm.trans HV.out
      rw [if_neg (by simpa using HZ0.out)] at h
      rw [← hE] at h
      exact h
     clear hE
     go_wp2_with fail
     refine (ty_any C (n + 1) num er d.ty _ HM.out.2.1 htyn HE).mono ?_
     rintro e wz hf
     have HF:Hid (Fate0 num er _ e wz):=hf
     clear hf
     by_cases h0:er = 0
     ·have HZ1:Hid ((Sy.tyW d.ty) = 0):=HE.out.symm.trans h0
      obtain rfl:=fate0_not HF.out h0
      have HM2:Hid (StMid w C num (dfO d pa pc ba bc) (n + 1) wz):=HM.out.on HF.out.1
      clear HF
      clear b0 b1 b2 b3 b4 b5 b6 b7 b8 HM
      have HM:=HM2
      clear HM2
      obtain ⟨b0,b1,b2,b3,b4,b5,b6,b7,b8⟩:=nine_cell HM.out.2.2
      clear h0 HE HD1 er
      have HT:Hid (r = Sy.bodyW 39 d.body (n + 1)):=by
       have hz:Sy.dfHead d n = 0:=by
        have h:=HV.out
        rw [if_neg (by simpa using HZ0.out)] at h
        rw [HZ1.out] at h
        exact h
       have:=hr.out; unfold Sy.dfW at this; rw [hz,if_neg (by decide),if_neg (by have:=HKd.out; omega)] at this; exact this
      obtain ⟨hb,hbin⟩:=hX.out.2.2.2.2
      have HB:Hid (BodyIn B wz hb d.body ba):=hbin.same (HM.out.same hBC hCl)
      clear hbin
      go_wp2_with fail
      refine (body_any C B num hBC 39 hb d.body ba bc (n + 1) 2 r _ (by decide) (by decide) HB HM.out.2.1 hn1 HT).mono ?_
      rintro e w4 ⟨hg,hf⟩
      have HG:Hid (w.grownBy w4 (some C)):=grown_trans HM.out.1 hg
      have HF:Hid (Fate C num r e w4):=hf
      clear hg b0 b1 b2 b3 b4 b5 b6 b7 b8
      cases r with
      | error er =>
       obtain rfl:e = .panicked [fltE er num]:=hf
       go_wp2
       exact ⟨rfl,HG.out,rfl⟩
      | ok m3 =>
       obtain ⟨rfl,hck⟩:=hf
       clear hck
       go_wp2
       go_end0
       exact ⟨HG.out,HF.out⟩
     ·skip
      obtain rfl:=fate0_err HF.out h0
      have HT:Hid (r = .error er):=hr.out.trans (dfW_bad (HRest.out.trans (HD1.out h0)) h0)
      have HG:Hid (w.grownBy wz (some C)):=grown_trans HM.out.1 (grown_some HF.out.1 _)
      clear h0 b0 b1 b2 b3 b4 b5 b6 b7 b8
      go_wp2
      exact ⟨rfl,HG.out,by rw [HT.out]; rfl⟩
    ·skip
     obtain rfl:=fate0_err HF.out h0
     have HT:Hid (r = .error er):=hr.out.trans (dfW_bad (HRest.out.trans (HD1.out h0)) h0)
     have HG:Hid (w.grownBy wz (some C)):=grown_trans HM.out.1 (grown_some HF.out.1 _)
     clear h0 b0 b1 b2 b3 b4 b5 b6 b7 b8
     go_wp2
     exact ⟨rfl,HG.out,by rw [HT.out]; rfl⟩
   ·have e1:(d.kind == 1) = false:=by simp; omega
    have e2:(d.kind == 2) = false:=by simp; omega
    have e3:(d.kind == 3) = true:=by simp; omega
    have n4:(d.kind != 4) = true:=by simp; omega
    have HRv:=rest_3 hk
    have HKd:Hid (d.kind = 3):=hk
    have HRv2:=HRest.out.trans HRv
    clear hk HRv
    have HV:Hid _:=HRv2
    clear HRv2
    go_enter Tryz.func34,Tryz.ntmps34
    go_wp2_with fail
    refine (node_any C n 40 num d.kind 4 1 _ _ HC0 hn (by decide) HR1).mono ?_
    rintro e w1 ⟨hg,hf⟩
    obtain ⟨rfl,hck⟩:=hf
    have HM:Hid (StMid w C num (dfO d pa pc ba bc) (n + 1) w1):=⟨alloc_grown hg,hck,box_in hg (by simp; omega)⟩
    clear hg hck
    obtain ⟨b0,b1,b2,b3,b4,b5,b6,b7,b8⟩:=nine_cell HM.out.2.2
    go_wp2_with fail
    refine (Calls.ok0 (cname_any C (n + 1) num 0 d.name _ HM.out.2.1 hname HK) rfl).mono ?_
    rintro e w2 ⟨rfl,hg⟩
    have HM2:Hid (StMid w C num (dfO d pa pc ba bc) (n + 1) w2):=HM.out.on hg
    clear hg
    clear b0 b1 b2 b3 b4 b5 b6 b7 b8 HM
    have HM:=HM2
    clear HM2
    obtain ⟨b0,b1,b2,b3,b4,b5,b6,b7,b8⟩:=nine_cell HM.out.2.2
    obtain ⟨er,hE⟩:∃ er:Int,er = pmsE d:=⟨_,rfl⟩
    have HE:Hid (er = pmsE d):=hE
    have HD1:Hid (er ≠ 0 → dfRest d = er):=by
     intro h0
     have h:=HRest.out.symm.trans HV.out
     rw [if_pos (by rw [← hE]; exact h0),← hE] at h
     exact h
    clear hE
    go_wp2_with fail
    refine (params_any C B (n + 1) num er d.params pa pc _ hBC HM.out.2.1 (hX.out.2.2.2.1.same (HM.out.same hBC hCl)) HE).mono ?_
    rintro e wz hf
    have HF:Hid (Fate0 num er _ e wz):=hf
    clear hf
    by_cases h0:er = 0
    ·have HZ0:Hid ((pmsE d) = 0):=HE.out.symm.trans h0
     obtain rfl:=fate0_not HF.out h0
     have HM2:Hid (StMid w C num (dfO d pa pc ba bc) (n + 1) wz):=HM.out.on HF.out.1
     clear HF
     clear b0 b1 b2 b3 b4 b5 b6 b7 b8 HM
     have HM:=HM2
     clear HM2
     obtain ⟨b0,b1,b2,b3,b4,b5,b6,b7,b8⟩:=nine_cell HM.out.2.2
     clear h0 HE HD1 er
     obtain ⟨er,hE⟩:∃ er:Int,er = Sy.tyW d.takes:=⟨_,rfl⟩
     have HE:Hid (er = Sy.tyW d.takes):=hE
     have HD1:Hid (er ≠ 0 → dfRest d = er):=by
      intro h0
      have h:=HRest.out.symm.trans HV.out
      rw [if_neg (by simpa using HZ0.out)] at h
      rw [if_pos (by rw [← hE]; exact h0),← hE] at h
      exact h
     clear hE
     go_wp2_with fail
     refine (ty_any C (n + 1) num er d.takes _ HM.out.2.1 htkn HE).mono ?_
     rintro e wz hf
     have HF:Hid (Fate0 num er _ e wz):=hf
     clear hf
     by_cases h0:er = 0
     ·have HZ1:Hid ((Sy.tyW d.takes) = 0):=HE.out.symm.trans h0
      obtain rfl:=fate0_not HF.out h0
      have HM2:Hid (StMid w C num (dfO d pa pc ba bc) (n + 1) wz):=HM.out.on HF.out.1
      clear HF
      clear b0 b1 b2 b3 b4 b5 b6 b7 b8 HM
      have HM:=HM2
      clear HM2
      obtain ⟨b0,b1,b2,b3,b4,b5,b6,b7,b8⟩:=nine_cell HM.out.2.2
      clear h0 HE HD1 er
      obtain ⟨er,hE⟩:∃ er:Int,er = Sy.tyW d.ty:=⟨_,rfl⟩
      have HE:Hid (er = Sy.tyW d.ty):=hE
      have HD1:Hid (er ≠ 0 → dfRest d = er):=by
       intro h0
       have h:=HRest.out.symm.trans HV.out
       rw [if_neg (by simpa using HZ0.out)] at h
       rw [if_neg (by simpa using HZ1.out)] at h
       rw [← hE] at h
       exact h
      clear hE
      go_wp2_with fail
      refine (ty_any C (n + 1) num er d.ty _ HM.out.2.1 htyn HE).mono ?_
      rintro e wz hf
      have HF:Hid (Fate0 num er _ e wz):=hf
      clear hf
      by_cases h0:er = 0
      ·have HZ2:Hid ((Sy.tyW d.ty) = 0):=HE.out.symm.trans h0
       obtain rfl:=fate0_not HF.out h0
       have HM2:Hid (StMid w C num (dfO d pa pc ba bc) (n + 1) wz):=HM.out.on HF.out.1
       clear HF
       clear b0 b1 b2 b3 b4 b5 b6 b7 b8 HM
       have HM:=HM2
       clear HM2
       obtain ⟨b0,b1,b2,b3,b4,b5,b6,b7,b8⟩:=nine_cell HM.out.2.2
       clear h0 HE HD1 er
       have HT:Hid (r = Sy.bodyW 39 d.body (n + 1)):=by
        have hz:Sy.dfHead d n = 0:=by
         have h:=HV.out
         rw [if_neg (by simpa using HZ0.out)] at h
         rw [if_neg (by simpa using HZ1.out)] at h
         rw [HZ2.out] at h
         exact h
        have:=hr.out; unfold Sy.dfW at this; rw [hz,if_neg (by decide),if_neg (by have:=HKd.out; omega)] at this; exact this
       obtain ⟨hb,hbin⟩:=hX.out.2.2.2.2
       have HB:Hid (BodyIn B wz hb d.body ba):=hbin.same (HM.out.same hBC hCl)
       clear hbin
       go_wp2_with fail
       refine (body_any C B num hBC 39 hb d.body ba bc (n + 1) 2 r _ (by decide) (by decide) HB HM.out.2.1 hn1 HT).mono ?_
       rintro e w4 ⟨hg,hf⟩
       have HG:Hid (w.grownBy w4 (some C)):=grown_trans HM.out.1 hg
       have HF:Hid (Fate C num r e w4):=hf
       clear hg b0 b1 b2 b3 b4 b5 b6 b7 b8
       cases r with
       | error er =>
        obtain rfl:e = .panicked [fltE er num]:=hf
        go_wp2
        exact ⟨rfl,HG.out,rfl⟩
       | ok m3 =>
        obtain ⟨rfl,hck⟩:=hf
        clear hck
        go_wp2
        go_end0
        exact ⟨HG.out,HF.out⟩
      ·skip
       obtain rfl:=fate0_err HF.out h0
       have HT:Hid (r = .error er):=hr.out.trans (dfW_bad (HRest.out.trans (HD1.out h0)) h0)
       have HG:Hid (w.grownBy wz (some C)):=grown_trans HM.out.1 (grown_some HF.out.1 _)
       clear h0 b0 b1 b2 b3 b4 b5 b6 b7 b8
       go_wp2
       exact ⟨rfl,HG.out,by rw [HT.out]; rfl⟩
     ·skip
      obtain rfl:=fate0_err HF.out h0
      have HT:Hid (r = .error er):=hr.out.trans (dfW_bad (HRest.out.trans (HD1.out h0)) h0)
      have HG:Hid (w.grownBy wz (some C)):=grown_trans HM.out.1 (grown_some HF.out.1 _)
      clear h0 b0 b1 b2 b3 b4 b5 b6 b7 b8
      go_wp2
      exact ⟨rfl,HG.out,by rw [HT.out]; rfl⟩
    ·skip
     obtain rfl:=fate0_err HF.out h0
     have HT:Hid (r = .error er):=hr.out.trans (dfW_bad (HRest.out.trans (HD1.out h0)) h0)
     have HG:Hid (w.grownBy wz (some C)):=grown_trans HM.out.1 (grown_some HF.out.1 _)
     clear h0 b0 b1 b2 b3 b4 b5 b6 b7 b8
     go_wp2
     exact ⟨rfl,HG.out,by rw [HT.out]; rfl⟩
   ·have e1:(d.kind == 1) = false:=by simp; omega
    have e2:(d.kind == 2) = false:=by simp; omega
    have e3:(d.kind == 3) = false:=by simp; omega
    have n4:(d.kind != 4) = false:=by simp; omega
    have HRv:=rest_4 hk
    have HKd:Hid (d.kind = 4):=hk
    have HRv2:=HRest.out.trans HRv
    clear hk HRv
    have HV:Hid _:=HRv2
    clear HRv2
    go_enter Tryz.func34,Tryz.ntmps34
    go_wp2_with fail
    refine (node_any C n 40 num d.kind 4 1 _ _ HC0 hn (by decide) HR1).mono ?_
    rintro e w1 ⟨hg,hf⟩
    obtain ⟨rfl,hck⟩:=hf
    have HM:Hid (StMid w C num (dfO d pa pc ba bc) (n + 1) w1):=⟨alloc_grown hg,hck,box_in hg (by simp; omega)⟩
    clear hg hck
    obtain ⟨b0,b1,b2,b3,b4,b5,b6,b7,b8⟩:=nine_cell HM.out.2.2
    go_wp2_with fail
    refine (Calls.ok0 (cname_any C (n + 1) num 0 d.name _ HM.out.2.1 hname HK) rfl).mono ?_
    rintro e w2 ⟨rfl,hg⟩
    have HM2:Hid (StMid w C num (dfO d pa pc ba bc) (n + 1) w2):=HM.out.on hg
    clear hg
    clear b0 b1 b2 b3 b4 b5 b6 b7 b8 HM
    have HM:=HM2
    clear HM2
    obtain ⟨b0,b1,b2,b3,b4,b5,b6,b7,b8⟩:=nine_cell HM.out.2.2
    have HT:Hid (r = Sy.bodyW 39 d.body (n + 1)):=by
     have hz:Sy.dfHead d n = 0:=HV.out
     have:=hr.out; unfold Sy.dfW at this; rw [hz,if_neg (by decide),if_neg (by have:=HKd.out; omega)] at this; exact this
    obtain ⟨hb,hbin⟩:=hX.out.2.2.2.2
    have HB:Hid (BodyIn B w2 hb d.body ba):=hbin.same (HM.out.same hBC hCl)
    clear hbin
    go_wp2_with fail
    refine (body_any C B num hBC 39 hb d.body ba bc (n + 1) 2 r _ (by decide) (by decide) HB HM.out.2.1 hn1 HT).mono ?_
    rintro e w4 ⟨hg,hf⟩
    have HG:Hid (w.grownBy w4 (some C)):=grown_trans HM.out.1 hg
    have HF:Hid (Fate C num r e w4):=hf
    clear hg b0 b1 b2 b3 b4 b5 b6 b7 b8
    cases r with
    | error er =>
     obtain rfl:e = .panicked [fltE er num]:=hf
     go_wp2
     exact ⟨rfl,HG.out,rfl⟩
    | ok m3 =>
     obtain ⟨rfl,hck⟩:=hf
     clear hck
     go_wp2
     go_end0
     exact ⟨HG.out,HF.out⟩
 ·have hr1':r1 = .error (Sy.nodeW d.kind 4 40 n):=by rw [hr1]; unfold nodeR; rw [if_pos (by simpa using hnode)]
  have HR:Hid (r = .error (Sy.nodeW d.kind 4 40 n)):=hr.out.trans (dfW_bad (dfHead_node (by simpa using hnode)) (by simpa using hnode))
  obtain ⟨er,her⟩:∃ er,er = Sy.nodeW d.kind 4 40 n:=⟨_,rfl⟩
  rw [← her] at hr1' HR
  clear hr1 hnode her
  subst hr1'
  go_enter Tryz.func34,Tryz.ntmps34
  go_wp2_with fail
  refine (node_any C n 40 num d.kind 4 1 _ _ HC0 hn (by decide) HR1).mono ?_
  rintro e w1 ⟨hg,hf⟩
  obtain rfl:e = .panicked [fltE er num]:=hf
  go_wp2
  exact ⟨rfl,alloc_grown hg,by rw [HR.out]; rfl⟩
theorem defs_at {l:List Sy.Df} {k:Nat} {d:Sy.Df} (h:l[k]? = some d) (i n:Nat) :
  Sy.defsW (l.drop k) i n = match Sy.dfW d n with | .error e => (e,i) | .ok m => Sy.defsW (l.drop (k + 1)) (i + 1) m:=by
 obtain ⟨hk,rfl⟩:=List.getElem?_eq_some_iff.1 h
 rw [List.drop_eq_getElem_cons hk]
 rfl
theorem defs_ok {l:List Sy.Df} {k i n m:Nat} {d:Sy.Df} (h:l[k]? = some d) (hd:Sy.dfW d n = .ok m):Sy.defsW (l.drop k) i n = Sy.defsW (l.drop (k + 1)) (i + 1) m:=by rw [defs_at h,hd]
theorem defs_err {l:List Sy.Df} {k i n:Nat} {d:Sy.Df} {e:Int} (h:l[k]? = some d) (hd:Sy.dfW d n = .error e):Sy.defsW (l.drop k) i n = (e,i):=by rw [defs_at h,hd]
theorem dfW_le {d:Sy.Df} {n m:Nat} (h:Sy.dfW d n = .ok m):m ≤ 2000:=by
 unfold Sy.dfW at h
 split at h
 ·simp at h
 ·rename_i h0
  have hz:Sy.nodeW d.kind 4 40 n = 0:=by
   have h1:Sy.dfHead d n = 0:=by simpa using h0
   unfold Sy.dfHead at h1
   split at h1
   ·rename_i h2; exact absurd h1 h2
   ·rename_i h2; simpa using h2
  have:=Sy.nodeW_zero hz
  split at h
  ·simp at h; omega
  ·exact Sy.bodyOf_le (Sy.stW_le 39) (by omega) h
def Thrown (er num:Int) (e:Ending):Prop:=e = if er = 0 then .returned (.tuple #[]) else .panicked [fltE er num]
theorem thrown_ok {er num:Int} (h:er = 0):Thrown er num (.returned (.tuple #[])):=by unfold Thrown; rw [if_pos h]
theorem thrown_bad {er num k:Int} (h:er = k) (hk:k ≠ 0):Thrown er num (.panicked [fltE k num]):=by unfold Thrown; rw [h,if_neg hk]
theorem dfW_ne {d:Sy.Df} {n:Nat} {e:Int} (h:Sy.dfW d n = .error e):e ≠ 0:=by
 have hr:∀ {α:Type} (f:α → Nat → Except Int Nat),(∀ a n e,f a n = .error e → e ≠ 0) → ∀ (l:List α) (n:Nat) (e:Int),Sy.runs f l n = .error e → e ≠ 0:=by
  intro α f hf l
  induction l with
  | nil => intro n e h; simp [Sy.runs] at h
  | cons a l ih =>
   intro n e h
   unfold Sy.runs at h
   cases ha:f a n with
   | error e' => rw [ha] at h; simp at h; subst h; exact hf a n e' ha
   | ok m => rw [ha] at h; exact ih m e h
 have hx:∀ (k:Nat) (x:Sy.Ex) (n:Nat) (e:Int),Sy.exW k x n = .error e → e ≠ 0:=by
  intro k
  induction k with
  | zero => intro x n e h; simp [Sy.exW] at h; omega
  | succ k ih =>
   intro x n e h
   unfold Sy.exW at h
   split at h
   ·simp at h; subst h; assumption
   ·split at h
    ·simp at h; subst h; assumption
    ·exact hr _ ih _ _ _ h
 have hb:∀ (f:Sy.St → Nat → Except Int Nat),(∀ a n e,f a n = .error e → e ≠ 0) → ∀ (l:List Sy.St) (n:Nat) (e:Int),Sy.bodyOf f l n = .error e → e ≠ 0:=by
  intro f hf l n e h
  unfold Sy.bodyOf at h
  split at h
  ·simp at h; omega
  ·exact hr f hf _ _ _ h
 have hs:∀ (k:Nat) (s:Sy.St) (n:Nat) (e:Int),Sy.stW k s n = .error e → e ≠ 0:=by
  intro k
  induction k with
  | zero => intro x n e h; simp [Sy.stW] at h; omega
  | succ k ih =>
   intro s n e h
   unfold Sy.stW at h
   split at h
   ·simp at h; subst h; assumption
   ·split at h
    ·simp at h; omega
    ·split at h
     ·simp at h
     ·cases he:Sy.exW k s.x (n + 1) with
      | error e' => rw [he] at h; simp at h; subst h; exact hx _ _ _ _ he
      | ok m =>
       rw [he] at h
       simp only [Sy.stTail] at h
       split at h
       ·cases hbb:Sy.bodyOf (Sy.stW k) s.body m with
        | error e' => rw [hbb] at h; simp at h; subst h; exact hb _ ih _ _ _ hbb
        | ok m2 =>
         rw [hbb] at h
         simp only at h
         split at h
         ·exact hb _ ih _ _ _ h
         ·simp at h
       ·simp at h
 unfold Sy.dfW at h
 split at h
 ·simp at h; subst h; assumption
 ·split at h
  ·simp at h
  ·exact hb _ (hs 39) _ _ _ h
theorem wrongf_any (B L:Nat) (l:List Sy.Df) (a:Option Addr) (c:Nat) (er:Int) (at':Nat) (w:World) (hL:w.heap[L]? = some (.cells #[.slice a l.length c] 22 (0,0))) (hX:Hid (DfsIn B w l a)) (hB:B ≤ w.heap.size) (hr:Hid ((er,at') = Sy.wrongL l)) :
  Calls Tryz.prog 32 #[.pointer (some ⟨L,0,none⟩)] w fun e w' => w.grownBy w' none ∧ Thrown er at' e:=by
 have hLl:=lt_of_block hL
 have HL:Hid (w.heap[L]? = some (.cells #[.slice a l.length c] 22 (0,0))):=hL
 have cL:=cell_of_one hL
 have hlen:=hX.out.1
 unfold maxLen at hlen
 have HC0:Hid (CK (w.alloc (.cells #[.int .i64 0,.int .i64 0] 87)) w.heap.size 0 0):=heap_alloc_new w _
 clear hL
 by_cases h30:30 < l.length
 ·have HT:Hid (er = 5 ∧ at' = 0):=by
   have:=hr.out; unfold Sy.wrongL at this; rw [if_pos h30] at this; exact ⟨congrArg Prod.fst this,congrArg Prod.snd this⟩
  have HK:Hid ((5:Int) = if (30:Int) < (l.length:Int) then 5 else 0):=by rw [if_pos (by omega)]; rfl
  clear h30
  go_enter Tryz.func32,Tryz.ntmps32
  go_wp2_with fail
  refine (Calls.bad0 5 (atMost_any w.heap.size 0 0 l.length 30 5 _ HC0 HK) rfl (by decide)).mono ?_
  rintro e w2 ⟨rfl,hg⟩
  go_wp2
  exact ⟨rfl,alloc_grown hg,by rw [HT.out.2]; exact thrown_bad HT.out.1 (by decide)⟩
 ·have HT:Hid ((er,at') = Sy.defsW l 0 0):=by have:=hr.out; unfold Sy.wrongL at this; rw [if_neg h30] at this; exact this
  have HK:Hid ((0:Int) = if (30:Int) < (l.length:Int) then 5 else 0):=by rw [if_neg (by omega)]; rfl
  clear h30
  go_enter Tryz.func32,Tryz.ntmps32
  go_wp2_with fail
  refine (Calls.ok0 (atMost_any w.heap.size 0 0 l.length 30 0 _ HC0 HK) rfl).mono ?_
  rintro e w2 ⟨rfl,hg⟩
  have HG2:Hid (w.grownBy w2 none):=alloc_grown hg
  have HC2:Hid (CK w2 w.heap.size 0 0):=HC0.out.keep hg (by simp)
  have cL2:=cell_of_one (box_on HL.out HG2.out (by simp))
  clear hg
  go_wp2
  go_loopw [9] (fun i wr => ∃ k m:Nat,k ≤ l.length ∧ i = .int .i64 k ∧ m ≤ 2000 ∧ Hid (∃ num,CK wr w.heap.size num m) ∧ Hid (w.grownBy wr none) ∧ Hid ((er,at') = Sy.defsW (l.drop k) k m)) (fun i _ => l.length - (intOf i).toNat)
  case atStart => exact ⟨0,0,Nat.zero_le _,rfl,Nat.zero_le _,⟨0,HC2.out⟩,HG2,by rw [List.drop_zero]; exact HT⟩
  case round =>
   obtain ⟨k,m,hk,rfl,hm,HCr,HGr,HRr⟩:=hrel
   clear cL cL2
   by_cases hlt:k < l.length
   ·obtain ⟨d,hd⟩:∃ d,l[k]? = some d:=⟨_,List.getElem?_eq_getElem hlt⟩
    have HD:Hid (l[k]? = some d):=hd
    obtain ⟨b,off,pa,pc,ba,bc,rfl,hb,c0,c1,c2,c3,c4,c5,c6,c7,c8,hin⟩:=hX.out.2 k d hd
    have hsame:=same_grown (B:=B) HGr.out (by simp) (by omega)
    rw [← hsame _ _ hb] at c0 c1 c2 c3 c4 c5 c6 c7 c8
    have HIn:Hid (DfIn B wr d pa ba):=hin.same hsame
    clear hin hsame hd
    obtain ⟨num,hck⟩:=HCr.out
    obtain ⟨r2,hr2⟩:∃ r2,r2 = Sy.dfW d m:=⟨_,rfl⟩
    have HR2:Hid (r2 = Sy.dfW d m):=hr2
    have HCk:Hid (CK wr w.heap.size num m):=hck
    have hnz:=CK.cells hck
    obtain ⟨q0,q1,q2,q3⟩:=hnz
    have hwr:w.heap.size < wr.heap.size:=hck.lt
    clear hr2 HCr hck
    have HC3:Hid (CK ((wr.setCell ⟨w.heap.size,0,none⟩ (.int .i64 (k:Int))).alloc (dfO d pa pc ba bc)) w.heap.size k m):=HCk.out.set0.alloc _
    have HG3:Hid (wr.grownBy ((wr.setCell ⟨w.heap.size,0,none⟩ (.int .i64 (k:Int))).alloc (dfO d pa pc ba bc)) (some w.heap.size)):=grown_trans (grown_at _ _ _ _) (World.grownBy_alloc _ _ _)
    go_wp2_with fail
    refine (def_any w.heap.size B k hB d pa pc ba bc m r2 _ (HIn.out.same (same_grown HG3.out (by intro c e; cases e; exact hB) (by omega))) HC3 hm HR2).mono ?_
    rintro e w3 ⟨hg,hf⟩
    have HG4:Hid (w.grownBy w3 none):=by
     have h1:=grown_trans HG3.out hg
     exact ⟨h1.os.trans HGr.out.os,h1.tape.trans HGr.out.tape,h1.output.trans HGr.out.output,Nat.le_trans HGr.out.size h1.size,fun j hj _ => (h1.block j (by have:=HGr.out.size; omega) (by simp; omega)).trans (HGr.out.block j hj (by simp))⟩
    cases r2 with
    | ok m2 =>
     obtain ⟨rfl,hck⟩:=hf
     have HC4:Hid (∃ num,CK w3 w.heap.size num m2):=⟨_,hck⟩
     have hm2:m2 ≤ 2000:=dfW_le HR2.out.symm
     have HR3:Hid ((er,at') = Sy.defsW (l.drop (k + 1)) (k + 1) m2):=HRr.out.trans (defs_ok HD.out HR2.out.symm)
     clear hg hck c0 c1 c2 c3 c4 c5 c6 c7 c8 q0 q1 q2 q3
     go_wp2
     go_roundw
     case rel => exact ⟨k + 1,m2,by omega,by go_num,hm2,HC4,HG4,HR3⟩
     case measure => simp [intOf]; omega
    | error er2 =>
     obtain rfl:e = .panicked [fltE er2 k]:=hf
     have HR3:Hid (er = er2 ∧ at' = k):=by
      have:=HRr.out.trans (defs_err HD.out HR2.out.symm)
      exact ⟨congrArg Prod.fst this,congrArg Prod.snd this⟩
     have hne:Hid (er2 ≠ 0):=dfW_ne HR2.out.symm
     clear hg c0 c1 c2 c3 c4 c5 c6 c7 c8 q0 q1 q2 q3
     go_wp2
     exact ⟨rfl,HG4.out,by rw [HR3.out.2]; exact thrown_bad HR3.out.1 hne.out⟩
   ·have HR3:Hid (er = 0 ∧ at' = 0):=by
     have:=HRr.out
     rw [List.drop_of_length_le (by omega)] at this
     exact ⟨congrArg Prod.fst this,congrArg Prod.snd this⟩
    go_wp2
    go_end0
    exact ⟨HGr.out,thrown_ok HR3.out.1⟩
theorem assert_fault (v:Value) (w:World):(Instr.typeAssert (.iface 27 v) 20 27 false).run Tryz.prog w = .ok v w:=by kernel_rfl
theorem catch_thrown (F:Nat) (er num:Int) (older:List PanicEntry) (w:World) (hF:w.heap[F]? = some (.cells #[.int .i64 0,.int .i64 0] 27 (0,0))) :
  CallsD Tryz.prog 27 #[.pointer (some ⟨F,0,none⟩)] (.panicking (fltE er num :: older)) w fun e u' w' =>
   e = .returned (.tuple #[]) ∧ u' = .panicking ({ v:=.iface 27 (.agg #[.int .i64 er,.int .i64 num]),recovered:=true } :: older) ∧ w' = (w.setCell ⟨F,0,none⟩ (.int .i64 er)).setCell ⟨F,1,none⟩ (.int .i64 num):=by
 obtain ⟨c0,c1,f0,f1⟩:=two_cell hF
 refine callsD_of_wpS Tryz.func27 rfl fun c₀ cs hu => ?_
 apply wpS_seq
 apply wpS_region
 simp [wpOpsS,go_sem,recoverD,hu,Tryz.ntmps27,Exit.thenS]
 apply wpS_seq
 apply wpS_region
 simp [wpOpsS,go_sem,Exit.thenS]
 refine wpS_cond (t:=true) (by simp [Act.eval,Array.replicate]) ?_
 simp only [if_true]
 apply wpS_region
 simp [wpOpsS,go_sem,assert_fault,c0,c1,f0,f1,bodyPostS,results,Tryz.results27]
theorem catch_none (F:Nat) (w:World) :
  CallsD Tryz.prog 27 #[.pointer (some ⟨F,0,none⟩)] .returning w fun e u' w' => e = .returned (.tuple #[]) ∧ u' = .returning ∧ w' = w:=by
 refine callsD_of_wpS Tryz.func27 rfl fun c₀ cs hu => ?_
 apply wpS_seq
 apply wpS_region
 simp [wpOpsS,go_sem,recoverD,hu,Tryz.ntmps27,Exit.thenS]
 apply wpS_seq
 apply wpS_region
 simp [wpOpsS,go_sem,Exit.thenS]
 refine wpS_cond (t:=false) (by simp [Act.eval,Array.replicate]) ?_
 simp only [Bool.false_eq_true,if_false]
 refine wpS_of_wp (wp_skip ?_)
 cases c₀
 simp_all [bodyPostS,results,Tryz.results27]
end Go.Proofs.YtbioaoangfiijaaGreatDoor
