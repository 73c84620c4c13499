/- The walks of the checker's stat and body. -/
import Derived.Test.YtbioaoangfiijaaGreatDoorM25
set_option maxRecDepth 100000
set_option maxHeartbeats 4000000
namespace Go.Proofs.YtbioaoangfiijaaGreatDoor
open Go.RowKit
theorem eight_cell {w:World} {b:Nat} {v0 v1 v2 v3 v4 v5 v6 v7:Value} {t:TypeId} (h:w.heap[b]? = some (.cells #[v0,v1,v2,v3,v4,v5,v6,v7] t (0,0))) :
  w.cell? ⟨b,0,none⟩ = some v0 ∧ w.cell? ⟨b,1,none⟩ = some v1 ∧ w.cell? ⟨b,2,none⟩ = some v2 ∧ w.cell? ⟨b,3,none⟩ = some v3 ∧
  w.cell? ⟨b,4,none⟩ = some v4 ∧ w.cell? ⟨b,5,none⟩ = some v5 ∧ w.cell? ⟨b,6,none⟩ = some v6 ∧ w.cell? ⟨b,7,none⟩ = some v7:=by simp [World.cell?,h]
def StC (C B:Nat) (num:Int) (d:Nat):Prop :=
 ∀ (h:Nat) (s:Sy.St) (xa:Option Addr) (xc:Nat) (ba:Option Addr) (bc:Nat) (ea:Option Addr) (ec n:Nat) (deep:Int) (r:Except Int Nat) (w:World),deep = 41 - d → d ≤ 41 → Hid (StIn B w h s xa ba ea) → Hid (CK w C num n) → n ≤ 2000 → Hid (r = Sy.stW d s n) →
   Calls Tryz.prog 90 #[.pointer (some ⟨C,0,none⟩),stV s xa xc ba bc ea ec,.int .i64 deep] w fun e w' => w.grownBy w' (some C) ∧ Fate C num r e w'
theorem body_of (C B d:Nat) (num:Int) (hBC:B ≤ C) (hS:Hid (StC C B num d)) (h:Nat) (l:List Sy.St) (a:Option Addr) (c n:Nat) (deep:Int) (r:Except Int Nat) (w:World)
  (hdeep:deep = 41 - d) (hd:d ≤ 41) (hX:Hid (BodyIn B w h l a)) (hC:Hid (CK w C num n)) (hn:n ≤ 2000) (hr:Hid (r = Sy.bodyOf (Sy.stW d) l n)) :
  Calls Tryz.prog 62 #[.pointer (some ⟨C,0,none⟩),.slice a l.length c,.int .i64 deep] w fun e w' => w.grownBy w' (some C) ∧ Fate C num r e w':=by
 have HD:Hid (deep = 41 - (d:Int)):=hdeep
 clear hdeep
 have hlen:=hX.out.1
 have hCl:=hC.out.lt
 unfold maxLen at hlen
 by_cases h50:50 < l.length
 ·have HT:Hid (r = .error 5):=by have:=hr.out; unfold Sy.bodyOf at this; rw [if_pos h50] at this; exact this
  have HK:Hid ((5:Int) = if (50:Int) < (l.length:Int) then 5 else 0):=by rw [if_pos (by omega)]; rfl
  clear h50
  go_enter Tryz.func62,Tryz.ntmps62
  go_wp2_with fail
  refine (Calls.bad0 5 (atMost_any C n num l.length 50 5 _ hC HK) rfl (by decide)).mono ?_
  rintro e w2 ⟨rfl,hg⟩
  go_wp2
  exact ⟨rfl,grown_some hg _,by rw [HT.out]; rfl⟩
 ·have HT:Hid (r = Sy.runs (Sy.stW d) l n):=by have:=hr.out; unfold Sy.bodyOf at this; rw [if_neg h50] at this; exact this
  have HK:Hid ((0:Int) = if (50:Int) < (l.length:Int) then 5 else 0):=by rw [if_neg (by omega)]; rfl
  clear h50
  go_enter Tryz.func62,Tryz.ntmps62
  go_wp2_with fail
  refine (Calls.ok0 (atMost_any C n num l.length 50 0 _ hC HK) rfl).mono ?_
  rintro e w2 ⟨rfl,hg⟩
  have HG2:Hid (w.grownBy w2 (some C)):=grown_some hg _
  have HC2:Hid (CK w2 C num n):=hC.out.keep hg (by simp)
  clear hg
  go_wp2
  go_loopw [14] (fun i wr => ∃ k m:Nat,k ≤ l.length ∧ i = .int .i64 k ∧ m ≤ 2000 ∧ Hid (CK wr C num m) ∧ Hid (w.grownBy wr (some C)) ∧ Hid (r = Sy.runs (Sy.stW d) (l.drop k) m)) (fun i _ => l.length - (intOf i).toNat)
  case atStart => exact ⟨0,n,Nat.zero_le _,rfl,hn,HC2,HG2,by rw [List.drop_zero]; exact HT⟩
  case round =>
   obtain ⟨k,m,hk,rfl,hm,HCr,HGr,HRr⟩:=hrel
   by_cases hlt:k < l.length
   ·obtain ⟨s,hs⟩:∃ s,l[k]? = some s:=⟨_,List.getElem?_eq_getElem hlt⟩
    have HS:Hid (l[k]? = some s):=hs
    obtain ⟨b,off,xa,xc,ba,bc,ea,ec,rfl,hb,c0,c1,c2,c3,c4,c5,c6,c7,hin⟩:=hX.out.2 k s hs
    have hsame:=same_grown (B:=B) HGr.out (by intro c e; cases e; exact hBC) (by omega)
    rw [← hsame _ _ hb] at c0 c1 c2 c3 c4 c5 c6 c7
    have HIn:Hid (StIn B wr h s xa ba ea):=hin.same hsame
    clear hin hsame hs
    obtain ⟨r2,hr2⟩:∃ r2,r2 = Sy.stW d s m:=⟨_,rfl⟩
    have HR2:Hid (r2 = Sy.stW d s m):=hr2
    clear hr2
    go_wp2_with fail
    refine (hS.out h s xa xc ba bc ea ec m deep r2 _ HD.out hd (HIn.out.same (same_grown (World.grownBy_alloc _ _ none) (by simp) (by have:=HGr.out.size; omega))) (HCr.out.alloc _) hm HR2).mono ?_
    rintro e w3 ⟨hg,hf⟩
    have HG3:Hid (w.grownBy w3 (some C)):=grown_trans HGr.out (alloc_grown hg)
    cases r2 with
    | ok m2 =>
     obtain ⟨rfl,hck⟩:=hf
     have HC3:Hid (CK w3 C num m2):=hck
     have hm2:m2 ≤ 2000:=Sy.stW_le _ _ _ _ hm HR2.out.symm
     have HR3:Hid (r = Sy.runs (Sy.stW d) (l.drop (k + 1)) m2):=HRr.out.trans (runs_ok HS.out HR2.out.symm)
     clear hg hck c0 c1 c2 c3 c4 c5 c6 c7
     go_wp2
     go_roundw
     case rel => exact ⟨k + 1,m2,by omega,by go_num,hm2,HC3,HG3,HR3⟩
     case measure => simp [intOf]; omega
    | error er =>
     obtain rfl:e = .panicked [fltE er num]:=hf
     have HR3:Hid (r = .error er):=HRr.out.trans (runs_err HS.out HR2.out.symm)
     clear hg c0 c1 c2 c3 c4 c5 c6 c7
     go_wp2
     exact ⟨rfl,HG3.out,by rw [HR3.out]; rfl⟩
   ·have HR3:Hid (r = .ok m):=by
     have:=HRr.out
     rw [List.drop_of_length_le (by omega)] at this
     exact this
    go_wp2
    go_end0
    exact ⟨HGr.out,by rw [HR3.out]; exact ⟨rfl,HCr.out⟩⟩
theorem stW_bad {d:Nat} {s:Sy.St} {n:Nat} (h:Sy.nodeW s.kind 9 (d + 1) n ≠ 0):Sy.stW (d + 1) s n = .error (Sy.nodeW s.kind 9 (d + 1) n):=by
 unfold Sy.stW; rw [if_pos h]
theorem stW_noname {d:Nat} {s:Sy.St} {n:Nat} (h:Sy.nodeW s.kind 9 (d + 1) n = 0) (hk:(s.kind = 1 ∨ s.kind = 2 ∨ s.kind = 7) ∧ Sy.nm s.name = false):Sy.stW (d + 1) s n = .error 7:=by
 unfold Sy.stW; rw [if_neg (by simpa using h),if_pos hk]
theorem stW_stop {d:Nat} {s:Sy.St} {n:Nat} (h:Sy.nodeW s.kind 9 (d + 1) n = 0) (hk:s.kind = 6):Sy.stW (d + 1) s n = .ok (n + 1):=by
 unfold Sy.stW; rw [if_neg (by simpa using h),if_neg (by omega),if_pos hk]
theorem stW_x {d:Nat} {s:Sy.St} {n:Nat} (h:Sy.nodeW s.kind 9 (d + 1) n = 0) (hk:¬ ((s.kind = 1 ∨ s.kind = 2 ∨ s.kind = 7) ∧ Sy.nm s.name = false)) (h6:s.kind ≠ 6) :
  Sy.stW (d + 1) s n = match Sy.exW d s.x (n + 1) with | .error e => .error e | .ok m => Sy.stTail (Sy.stW d) s m:=by
 conv => lhs; unfold Sy.stW
 rw [if_neg (by simpa using h),if_neg hk,if_neg h6]
 cases Sy.exW d s.x (n + 1) <;> rfl
theorem stW_xe {d:Nat} {s:Sy.St} {n:Nat} {e:Int} (h:Sy.nodeW s.kind 9 (d + 1) n = 0) (hk:¬ ((s.kind = 1 ∨ s.kind = 2 ∨ s.kind = 7) ∧ Sy.nm s.name = false)) (h6:s.kind ≠ 6) (hx:Sy.exW d s.x (n + 1) = .error e) :
  Sy.stW (d + 1) s n = .error e:=by rw [stW_x h hk h6,hx]
theorem stW_xo {d:Nat} {s:Sy.St} {n m:Nat} (h:Sy.nodeW s.kind 9 (d + 1) n = 0) (hk:¬ ((s.kind = 1 ∨ s.kind = 2 ∨ s.kind = 7) ∧ Sy.nm s.name = false)) (h6:s.kind ≠ 6) (hx:Sy.exW d s.x (n + 1) = .ok m) :
  Sy.stW (d + 1) s n = Sy.stTail (Sy.stW d) s m:=by rw [stW_x h hk h6,hx]
theorem tail_plain {f:Sy.St → Nat → Except Int Nat} {s:Sy.St} {m:Nat} (h:¬ (s.kind = 3 ∨ s.kind = 4)):Sy.stTail f s m = .ok m:=by unfold Sy.stTail; rw [if_neg h]
theorem tail_be {f:Sy.St → Nat → Except Int Nat} {s:Sy.St} {m:Nat} {e:Int} (h:s.kind = 3 ∨ s.kind = 4) (hb:Sy.bodyOf f s.body m = .error e):Sy.stTail f s m = .error e:=by unfold Sy.stTail; rw [if_pos h,hb]
theorem tail_b4 {f:Sy.St → Nat → Except Int Nat} {s:Sy.St} {m m2:Nat} (h:s.kind = 4) (hb:Sy.bodyOf f s.body m = .ok m2):Sy.stTail f s m = .ok m2:=by unfold Sy.stTail; rw [if_pos (.inr h),hb]; simp only []; rw [if_neg (by omega)]
theorem tail_b3 {f:Sy.St → Nat → Except Int Nat} {s:Sy.St} {m m2:Nat} (h:s.kind = 3) (hb:Sy.bodyOf f s.body m = .ok m2):Sy.stTail f s m = Sy.bodyOf f s.els m2:=by unfold Sy.stTail; rw [if_pos (.inl h),hb]; simp only []; rw [if_pos h]
abbrev stO (s:Sy.St) (xa:Option Addr) (xc:Nat) (ba:Option Addr) (bc:Nat) (ea:Option Addr) (ec:Nat):Obj :=
 .cells #[.int .i64 s.kind,.string s.name,.int .i64 s.x.kind,.int .i64 s.x.n,.string s.x.name,.slice xa s.x.kids.length xc,.slice ba s.body.length bc,.slice ea s.els.length ec] 139 (0,0)
def StMid (w:World) (C:Nat) (num:Int) (o:Obj) (n:Nat) (w1:World):Prop:=w.grownBy w1 (some C) ∧ CK w1 C num n ∧ w1.heap[w.heap.size]? = some o
theorem StMid.on {w:World} {C:Nat} {num:Int} {o:Obj} {n:Nat} {w1 w2:World} (h:StMid w C num o n w1) (hg:w1.grownBy w2 none):StMid w C num o n w2 :=
 ⟨grown_trans h.1 (grown_some hg _),h.2.1.keep hg (by simp),box_on h.2.2 hg (by simp)⟩
theorem StMid.past {w:World} {C:Nat} {num:Int} {o:Obj} {n m:Nat} {w1 w2:World} (h:StMid w C num o n w1) (hC:C < w.heap.size) (hg:w1.grownBy w2 (some C)) (hk:CK w2 C num m):StMid w C num o m w2 :=
 ⟨grown_trans h.1 hg,hk,box_on h.2.2 hg (by simp; omega)⟩
theorem StMid.same {w:World} {B C:Nat} {num:Int} {o:Obj} {n:Nat} {w1:World} (h:StMid w C num o n w1) (hBC:B ≤ C) (hC:C < w.heap.size):Go.Proofs.YtbioaoangfiijaaGreatDoor.Same B w w1 :=
 same_grown h.1 (by intro c e; cases e; exact hBC) (by omega)
theorem stat_step (C B d:Nat) (num:Int) (hBC:B ≤ C) (hS:Hid (StC C B num d))
  (h:Nat) (s:Sy.St) (xa:Option Addr) (xc:Nat) (ba:Option Addr) (bc:Nat) (ea:Option Addr) (ec n:Nat) (deep:Int) (r:Except Int Nat) (w:World) (hdeep:deep = 41 - ((d + 1:Nat):Int)) (hd:d + 1 ≤ 41) (hX:Hid (StIn B w (h + 1) s xa ba ea)) (hC:Hid (CK w C num n)) (hn:n ≤ 2000) (hr:Hid (r = Sy.stW (d + 1) s n)) :
  Calls Tryz.prog 90 #[.pointer (some ⟨C,0,none⟩),stV s xa xc ba bc ea ec,.int .i64 deep] w fun e w' => w.grownBy w' (some C) ∧ Fate C num r e w':=by
 have HD:Hid (deep = 41 - ((d + 1:Nat):Int)):=hdeep
 have hdp0:0 ≤ deep:=by omega
 have hdp1:deep ≤ 40:=by omega
 clear hdeep
 have hname:=hX.out.1
 have hCl:=hC.out.lt
 have HC0:Hid (CK (w.alloc (stO s xa xc ba bc ea ec)) C num n):=hC.out.alloc _
 obtain ⟨r1,hr1⟩:∃ r1,r1 = nodeR s.kind 9 (d + 1) n:=⟨_,rfl⟩
 have HR1:Hid (r1 = nodeR s.kind 9 (d + 1) n):=hr1
 by_cases hnode:Sy.nodeW s.kind 9 (d + 1) n = 0
 ·have hr1':r1 = .ok (n + 1):=by rw [hr1]; unfold nodeR; rw [if_neg (by simpa using hnode)]
  obtain ⟨hn1,hk1,hk2,_⟩:=Sy.nodeW_zero hnode
  have HN:Hid (Sy.nodeW s.kind 9 (d + 1) n = 0):=hnode
  clear hnode hr1
  subst hr1'
  rcases (show s.kind = 1 ∨ s.kind = 2 ∨ s.kind = 3 ∨ s.kind = 4 ∨ s.kind = 5 ∨ s.kind = 6 ∨ s.kind = 7 ∨ s.kind = 8 ∨ s.kind = 9 by omega) with hk | hk | hk | hk | hk | hk | hk | hk | hk
  ·have e1:(s.kind == 1) = true:=by simp; omega
   have e2:(s.kind == 2) = false:=by simp; omega
   have e7:(s.kind == 7) = false:=by simp; omega
   have e3:(s.kind == 3) = false:=by simp; omega
   have e4:(s.kind == 4) = false:=by simp; omega
   have n6:(s.kind != 6) = true:=by simp; omega
   have HKd:Hid (s.kind = 1):=hk
   clear hk
   cases hnm:Sy.nm s.name
   ·have HT:Hid (r = .error 7):=hr.out.trans (stW_noname HN.out ⟨by have:=HKd.out; omega,hnm⟩)
    have HK:Hid ((7:Int) = if Sy.nm s.name = false then 7 else 0):=by rw [if_pos hnm]; rfl
    clear hnm
    go_enter Tryz.func90,Tryz.ntmps90
    go_wp2_with fail
    refine (node_any C n (d + 1) num s.kind 9 deep _ _ HC0 hn HD.out HR1).mono ?_
    rintro e w1 ⟨hg,hf⟩
    obtain ⟨rfl,hck⟩:=hf
    have HM:Hid (StMid w C num (stO s xa xc ba bc ea ec) (n + 1) w1):=⟨alloc_grown hg,hck,box_in hg (by simp; omega)⟩
    clear hg hck
    obtain ⟨b0,b1,b2,b3,b4,b5,b6,b7⟩:=eight_cell HM.out.2.2
    go_wp2_with fail
    refine (Calls.bad0 7 (cname_any C (n + 1) num 7 s.name _ HM.out.2.1 hname HK) rfl (by decide)).mono ?_
    rintro e w2 ⟨rfl,hg⟩
    go_wp2
    exact ⟨rfl,grown_trans HM.out.1 (grown_some hg _),by rw [HT.out]; rfl⟩
   ·have HK:Hid ((0:Int) = if Sy.nm s.name = false then 7 else 0):=by rw [if_neg (by rw [hnm]; decide)]; rfl
    have HNm:Hid (Sy.nm s.name = true):=hnm
    clear hnm
    go_enter Tryz.func90,Tryz.ntmps90
    go_wp2_with fail
    refine (node_any C n (d + 1) num s.kind 9 deep _ _ HC0 hn HD.out HR1).mono ?_
    rintro e w1 ⟨hg,hf⟩
    obtain ⟨rfl,hck⟩:=hf
    have HM:Hid (StMid w C num (stO s xa xc ba bc ea ec) (n + 1) w1):=⟨alloc_grown hg,hck,box_in hg (by simp; omega)⟩
    clear hg hck
    obtain ⟨b0,b1,b2,b3,b4,b5,b6,b7⟩:=eight_cell HM.out.2.2
    go_wp2_with fail
    refine (Calls.ok0 (cname_any C (n + 1) num 0 s.name _ HM.out.2.1 hname HK) rfl).mono ?_
    rintro e w0 ⟨rfl,hg⟩
    have HM2:Hid (StMid w C num (stO s xa xc ba bc ea ec) (n + 1) w0):=HM.out.on hg
    clear hg
    clear b0 b1 b2 b3 b4 b5 b6 b7 HM
    have HM:=HM2
    clear HM2
    obtain ⟨b0,b1,b2,b3,b4,b5,b6,b7⟩:=eight_cell HM.out.2.2
    obtain ⟨hx,hin⟩:=hX.out.2.1
    have HIn:Hid (ExIn B w0 hx s.x xa):=hin.same (HM.out.same hBC hCl)
    clear hin
    obtain ⟨r2,hr2⟩:∃ r2,r2 = Sy.exW d s.x (n + 1):=⟨_,rfl⟩
    have HR2:Hid (r2 = Sy.exW d s.x (n + 1)):=hr2
    clear hr2
    go_wp2_with fail
    refine (expr_any C B num hBC d hx s.x xa xc (n + 1) (deep + 1) r2 _ (by have:=HD.out; omega) (by omega) HIn HM.out.2.1 hn1 HR2).mono ?_
    rintro e w2 ⟨hg,hf⟩
    cases r2 with
    | error er =>
     have HT:Hid (r = .error er):=hr.out.trans (stW_xe HN.out (by rintro ⟨_,hq⟩; rw [HNm.out] at hq; exact absurd hq (by decide)) (by have:=HKd.out; omega) HR2.out.symm)
     obtain rfl:e = .panicked [fltE er num]:=hf
     have HG:Hid (w.grownBy w2 (some C)):=grown_trans HM.out.1 hg
     clear hg b0 b1 b2 b3 b4 b5 b6 b7
     go_wp2
     exact ⟨rfl,HG.out,by rw [HT.out]; rfl⟩
    | ok m =>
     have hm:m ≤ 2000:=Sy.exW_le _ _ _ _ hn1 HR2.out.symm
     have HS1:Hid (r = Sy.stTail (Sy.stW d) s m):=hr.out.trans (stW_xo HN.out (by rintro ⟨_,hq⟩; rw [HNm.out] at hq; exact absurd hq (by decide)) (by have:=HKd.out; omega) HR2.out.symm)
     obtain ⟨rfl,hck⟩:=hf
     have HM2:Hid (StMid w C num (stO s xa xc ba bc ea ec) m w2):=HM.out.past hCl hg hck
     clear hg hck
     clear b0 b1 b2 b3 b4 b5 b6 b7 HM
     have HM:=HM2
     clear HM2
     obtain ⟨b0,b1,b2,b3,b4,b5,b6,b7⟩:=eight_cell HM.out.2.2
     have HT:Hid (r = .ok m):=HS1.out.trans (tail_plain (by have:=HKd.out; omega))
     go_wp2
     go_end0
     exact ⟨HM.out.1,by rw [HT.out]; exact ⟨rfl,HM.out.2.1⟩⟩
  ·have e1:(s.kind == 1) = false:=by simp; omega
   have e2:(s.kind == 2) = true:=by simp; omega
   have e7:(s.kind == 7) = false:=by simp; omega
   have e3:(s.kind == 3) = false:=by simp; omega
   have e4:(s.kind == 4) = false:=by simp; omega
   have n6:(s.kind != 6) = true:=by simp; omega
   have HKd:Hid (s.kind = 2):=hk
   clear hk
   cases hnm:Sy.nm s.name
   ·have HT:Hid (r = .error 7):=hr.out.trans (stW_noname HN.out ⟨by have:=HKd.out; omega,hnm⟩)
    have HK:Hid ((7:Int) = if Sy.nm s.name = false then 7 else 0):=by rw [if_pos hnm]; rfl
    clear hnm
    go_enter Tryz.func90,Tryz.ntmps90
    go_wp2_with fail
    refine (node_any C n (d + 1) num s.kind 9 deep _ _ HC0 hn HD.out HR1).mono ?_
    rintro e w1 ⟨hg,hf⟩
    obtain ⟨rfl,hck⟩:=hf
    have HM:Hid (StMid w C num (stO s xa xc ba bc ea ec) (n + 1) w1):=⟨alloc_grown hg,hck,box_in hg (by simp; omega)⟩
    clear hg hck
    obtain ⟨b0,b1,b2,b3,b4,b5,b6,b7⟩:=eight_cell HM.out.2.2
    go_wp2_with fail
    refine (Calls.bad0 7 (cname_any C (n + 1) num 7 s.name _ HM.out.2.1 hname HK) rfl (by decide)).mono ?_
    rintro e w2 ⟨rfl,hg⟩
    go_wp2
    exact ⟨rfl,grown_trans HM.out.1 (grown_some hg _),by rw [HT.out]; rfl⟩
   ·have HK:Hid ((0:Int) = if Sy.nm s.name = false then 7 else 0):=by rw [if_neg (by rw [hnm]; decide)]; rfl
    have HNm:Hid (Sy.nm s.name = true):=hnm
    clear hnm
    go_enter Tryz.func90,Tryz.ntmps90
    go_wp2_with fail
    refine (node_any C n (d + 1) num s.kind 9 deep _ _ HC0 hn HD.out HR1).mono ?_
    rintro e w1 ⟨hg,hf⟩
    obtain ⟨rfl,hck⟩:=hf
    have HM:Hid (StMid w C num (stO s xa xc ba bc ea ec) (n + 1) w1):=⟨alloc_grown hg,hck,box_in hg (by simp; omega)⟩
    clear hg hck
    obtain ⟨b0,b1,b2,b3,b4,b5,b6,b7⟩:=eight_cell HM.out.2.2
    go_wp2_with fail
    refine (Calls.ok0 (cname_any C (n + 1) num 0 s.name _ HM.out.2.1 hname HK) rfl).mono ?_
    rintro e w0 ⟨rfl,hg⟩
    have HM2:Hid (StMid w C num (stO s xa xc ba bc ea ec) (n + 1) w0):=HM.out.on hg
    clear hg
    clear b0 b1 b2 b3 b4 b5 b6 b7 HM
    have HM:=HM2
    clear HM2
    obtain ⟨b0,b1,b2,b3,b4,b5,b6,b7⟩:=eight_cell HM.out.2.2
    obtain ⟨hx,hin⟩:=hX.out.2.1
    have HIn:Hid (ExIn B w0 hx s.x xa):=hin.same (HM.out.same hBC hCl)
    clear hin
    obtain ⟨r2,hr2⟩:∃ r2,r2 = Sy.exW d s.x (n + 1):=⟨_,rfl⟩
    have HR2:Hid (r2 = Sy.exW d s.x (n + 1)):=hr2
    clear hr2
    go_wp2_with fail
    refine (expr_any C B num hBC d hx s.x xa xc (n + 1) (deep + 1) r2 _ (by have:=HD.out; omega) (by omega) HIn HM.out.2.1 hn1 HR2).mono ?_
    rintro e w2 ⟨hg,hf⟩
    cases r2 with
    | error er =>
     have HT:Hid (r = .error er):=hr.out.trans (stW_xe HN.out (by rintro ⟨_,hq⟩; rw [HNm.out] at hq; exact absurd hq (by decide)) (by have:=HKd.out; omega) HR2.out.symm)
     obtain rfl:e = .panicked [fltE er num]:=hf
     have HG:Hid (w.grownBy w2 (some C)):=grown_trans HM.out.1 hg
     clear hg b0 b1 b2 b3 b4 b5 b6 b7
     go_wp2
     exact ⟨rfl,HG.out,by rw [HT.out]; rfl⟩
    | ok m =>
     have hm:m ≤ 2000:=Sy.exW_le _ _ _ _ hn1 HR2.out.symm
     have HS1:Hid (r = Sy.stTail (Sy.stW d) s m):=hr.out.trans (stW_xo HN.out (by rintro ⟨_,hq⟩; rw [HNm.out] at hq; exact absurd hq (by decide)) (by have:=HKd.out; omega) HR2.out.symm)
     obtain ⟨rfl,hck⟩:=hf
     have HM2:Hid (StMid w C num (stO s xa xc ba bc ea ec) m w2):=HM.out.past hCl hg hck
     clear hg hck
     clear b0 b1 b2 b3 b4 b5 b6 b7 HM
     have HM:=HM2
     clear HM2
     obtain ⟨b0,b1,b2,b3,b4,b5,b6,b7⟩:=eight_cell HM.out.2.2
     have HT:Hid (r = .ok m):=HS1.out.trans (tail_plain (by have:=HKd.out; omega))
     go_wp2
     go_end0
     exact ⟨HM.out.1,by rw [HT.out]; exact ⟨rfl,HM.out.2.1⟩⟩
  ·have e1:(s.kind == 1) = false:=by simp; omega
   have e2:(s.kind == 2) = false:=by simp; omega
   have e7:(s.kind == 7) = false:=by simp; omega
   have e3:(s.kind == 3) = true:=by simp; omega
   have e4:(s.kind == 4) = false:=by simp; omega
   have n6:(s.kind != 6) = true:=by simp; omega
   have HKd:Hid (s.kind = 3):=hk
   clear hk
   go_enter Tryz.func90,Tryz.ntmps90
   go_wp2_with fail
   refine (node_any C n (d + 1) num s.kind 9 deep _ _ HC0 hn HD.out HR1).mono ?_
   rintro e w1 ⟨hg,hf⟩
   obtain ⟨rfl,hck⟩:=hf
   have HM:Hid (StMid w C num (stO s xa xc ba bc ea ec) (n + 1) w1):=⟨alloc_grown hg,hck,box_in hg (by simp; omega)⟩
   clear hg hck
   obtain ⟨b0,b1,b2,b3,b4,b5,b6,b7⟩:=eight_cell HM.out.2.2
   obtain ⟨hx,hin⟩:=hX.out.2.1
   have HIn:Hid (ExIn B w1 hx s.x xa):=hin.same (HM.out.same hBC hCl)
   clear hin
   obtain ⟨r2,hr2⟩:∃ r2,r2 = Sy.exW d s.x (n + 1):=⟨_,rfl⟩
   have HR2:Hid (r2 = Sy.exW d s.x (n + 1)):=hr2
   clear hr2
   go_wp2_with fail
   refine (expr_any C B num hBC d hx s.x xa xc (n + 1) (deep + 1) r2 _ (by have:=HD.out; omega) (by omega) HIn HM.out.2.1 hn1 HR2).mono ?_
   rintro e w2 ⟨hg,hf⟩
   cases r2 with
   | error er =>
    have HT:Hid (r = .error er):=hr.out.trans (stW_xe HN.out (by rintro ⟨hq,_⟩; have:=HKd.out; omega) (by have:=HKd.out; omega) HR2.out.symm)
    obtain rfl:e = .panicked [fltE er num]:=hf
    have HG:Hid (w.grownBy w2 (some C)):=grown_trans HM.out.1 hg
    clear hg b0 b1 b2 b3 b4 b5 b6 b7
    go_wp2
    exact ⟨rfl,HG.out,by rw [HT.out]; rfl⟩
   | ok m =>
    have hm:m ≤ 2000:=Sy.exW_le _ _ _ _ hn1 HR2.out.symm
    have HS1:Hid (r = Sy.stTail (Sy.stW d) s m):=hr.out.trans (stW_xo HN.out (by rintro ⟨hq,_⟩; have:=HKd.out; omega) (by have:=HKd.out; omega) HR2.out.symm)
    obtain ⟨rfl,hck⟩:=hf
    have HM2:Hid (StMid w C num (stO s xa xc ba bc ea ec) m w2):=HM.out.past hCl hg hck
    clear hg hck
    clear b0 b1 b2 b3 b4 b5 b6 b7 HM
    have HM:=HM2
    clear HM2
    obtain ⟨b0,b1,b2,b3,b4,b5,b6,b7⟩:=eight_cell HM.out.2.2
    have HB:Hid (BodyIn B w2 h s.body ba):=BodyIn.same (HM.out.same hBC hCl) ⟨hX.out.2.2.1,hX.out.2.2.2.2.1⟩
    obtain ⟨r3,hr3⟩:∃ r3,r3 = Sy.bodyOf (Sy.stW d) s.body m:=⟨_,rfl⟩
    have HR3:Hid (r3 = Sy.bodyOf (Sy.stW d) s.body m):=hr3
    clear hr3
    go_wp2_with fail
    refine (body_of C B d num hBC hS h s.body ba bc m (deep + 1) r3 _ (by have:=HD.out; omega) (by omega) HB HM.out.2.1 hm HR3).mono ?_
    rintro e w3 ⟨hg,hf⟩
    cases r3 with
    | error er =>
     have HT:Hid (r = .error er):=HS1.out.trans (tail_be (by have:=HKd.out; omega) HR3.out.symm)
     obtain rfl:e = .panicked [fltE er num]:=hf
     have HG:Hid (w.grownBy w3 (some C)):=grown_trans HM.out.1 hg
     clear hg b0 b1 b2 b3 b4 b5 b6 b7
     go_wp2
     exact ⟨rfl,HG.out,by rw [HT.out]; rfl⟩
    | ok m2 =>
     have hm2:m2 ≤ 2000:=Sy.bodyOf_le (Sy.stW_le d) hm HR3.out.symm
     obtain ⟨rfl,hck⟩:=hf
     have HM2:Hid (StMid w C num (stO s xa xc ba bc ea ec) m2 w3):=HM.out.past hCl hg hck
     clear hg hck
     clear b0 b1 b2 b3 b4 b5 b6 b7 HM
     have HM:=HM2
     clear HM2
     obtain ⟨b0,b1,b2,b3,b4,b5,b6,b7⟩:=eight_cell HM.out.2.2
     have HS2:Hid (r = Sy.bodyOf (Sy.stW d) s.els m2):=HS1.out.trans (tail_b3 HKd.out HR3.out.symm)
     have HB2:Hid (BodyIn B w3 h s.els ea):=BodyIn.same (HM.out.same hBC hCl) ⟨hX.out.2.2.2.1,hX.out.2.2.2.2.2⟩
     go_wp2_with fail
     refine (body_of C B d num hBC hS h s.els ea ec m2 (deep + 1) r _ (by have:=HD.out; omega) (by omega) HB2 HM.out.2.1 hm2 HS2).mono ?_
     rintro e w4 ⟨hg,hf⟩
     have HG:Hid (w.grownBy w4 (some C)):=grown_trans HM.out.1 hg
     have HF:Hid (Fate C num r e w4):=hf
     clear hg b0 b1 b2 b3 b4 b5 b6 b7
     cases r with
     | error er =>
      obtain rfl:e = .panicked [fltE er num]:=hf
      go_wp2
      exact ⟨rfl,HG.out,rfl⟩
     | ok m3 =>
      obtain ⟨rfl,hck⟩:=hf
      clear hck
      go_wp2
      go_end0
      exact ⟨HG.out,HF.out⟩
  ·have e1:(s.kind == 1) = false:=by simp; omega
   have e2:(s.kind == 2) = false:=by simp; omega
   have e7:(s.kind == 7) = false:=by simp; omega
   have e3:(s.kind == 3) = false:=by simp; omega
   have e4:(s.kind == 4) = true:=by simp; omega
   have n6:(s.kind != 6) = true:=by simp; omega
   have HKd:Hid (s.kind = 4):=hk
   clear hk
   go_enter Tryz.func90,Tryz.ntmps90
   go_wp2_with fail
   refine (node_any C n (d + 1) num s.kind 9 deep _ _ HC0 hn HD.out HR1).mono ?_
   rintro e w1 ⟨hg,hf⟩
   obtain ⟨rfl,hck⟩:=hf
   have HM:Hid (StMid w C num (stO s xa xc ba bc ea ec) (n + 1) w1):=⟨alloc_grown hg,hck,box_in hg (by simp; omega)⟩
   clear hg hck
   obtain ⟨b0,b1,b2,b3,b4,b5,b6,b7⟩:=eight_cell HM.out.2.2
   obtain ⟨hx,hin⟩:=hX.out.2.1
   have HIn:Hid (ExIn B w1 hx s.x xa):=hin.same (HM.out.same hBC hCl)
   clear hin
   obtain ⟨r2,hr2⟩:∃ r2,r2 = Sy.exW d s.x (n + 1):=⟨_,rfl⟩
   have HR2:Hid (r2 = Sy.exW d s.x (n + 1)):=hr2
   clear hr2
   go_wp2_with fail
   refine (expr_any C B num hBC d hx s.x xa xc (n + 1) (deep + 1) r2 _ (by have:=HD.out; omega) (by omega) HIn HM.out.2.1 hn1 HR2).mono ?_
   rintro e w2 ⟨hg,hf⟩
   cases r2 with
   | error er =>
    have HT:Hid (r = .error er):=hr.out.trans (stW_xe HN.out (by rintro ⟨hq,_⟩; have:=HKd.out; omega) (by have:=HKd.out; omega) HR2.out.symm)
    obtain rfl:e = .panicked [fltE er num]:=hf
    have HG:Hid (w.grownBy w2 (some C)):=grown_trans HM.out.1 hg
    clear hg b0 b1 b2 b3 b4 b5 b6 b7
    go_wp2
    exact ⟨rfl,HG.out,by rw [HT.out]; rfl⟩
   | ok m =>
    have hm:m ≤ 2000:=Sy.exW_le _ _ _ _ hn1 HR2.out.symm
    have HS1:Hid (r = Sy.stTail (Sy.stW d) s m):=hr.out.trans (stW_xo HN.out (by rintro ⟨hq,_⟩; have:=HKd.out; omega) (by have:=HKd.out; omega) HR2.out.symm)
    obtain ⟨rfl,hck⟩:=hf
    have HM2:Hid (StMid w C num (stO s xa xc ba bc ea ec) m w2):=HM.out.past hCl hg hck
    clear hg hck
    clear b0 b1 b2 b3 b4 b5 b6 b7 HM
    have HM:=HM2
    clear HM2
    obtain ⟨b0,b1,b2,b3,b4,b5,b6,b7⟩:=eight_cell HM.out.2.2
    have HB:Hid (BodyIn B w2 h s.body ba):=BodyIn.same (HM.out.same hBC hCl) ⟨hX.out.2.2.1,hX.out.2.2.2.2.1⟩
    obtain ⟨r3,hr3⟩:∃ r3,r3 = Sy.bodyOf (Sy.stW d) s.body m:=⟨_,rfl⟩
    have HR3:Hid (r3 = Sy.bodyOf (Sy.stW d) s.body m):=hr3
    clear hr3
    go_wp2_with fail
    refine (body_of C B d num hBC hS h s.body ba bc m (deep + 1) r3 _ (by have:=HD.out; omega) (by omega) HB HM.out.2.1 hm HR3).mono ?_
    rintro e w3 ⟨hg,hf⟩
    cases r3 with
    | error er =>
     have HT:Hid (r = .error er):=HS1.out.trans (tail_be (by have:=HKd.out; omega) HR3.out.symm)
     obtain rfl:e = .panicked [fltE er num]:=hf
     have HG:Hid (w.grownBy w3 (some C)):=grown_trans HM.out.1 hg
     clear hg b0 b1 b2 b3 b4 b5 b6 b7
     go_wp2
     exact ⟨rfl,HG.out,by rw [HT.out]; rfl⟩
    | ok m2 =>
     have hm2:m2 ≤ 2000:=Sy.bodyOf_le (Sy.stW_le d) hm HR3.out.symm
     obtain ⟨rfl,hck⟩:=hf
     have HM2:Hid (StMid w C num (stO s xa xc ba bc ea ec) m2 w3):=HM.out.past hCl hg hck
     clear hg hck
     clear b0 b1 b2 b3 b4 b5 b6 b7 HM
     have HM:=HM2
     clear HM2
     obtain ⟨b0,b1,b2,b3,b4,b5,b6,b7⟩:=eight_cell HM.out.2.2
     have HT:Hid (r = .ok m2):=HS1.out.trans (tail_b4 HKd.out HR3.out.symm)
     go_wp2
     go_end0
     exact ⟨HM.out.1,by rw [HT.out]; exact ⟨rfl,HM.out.2.1⟩⟩
  ·have e1:(s.kind == 1) = false:=by simp; omega
   have e2:(s.kind == 2) = false:=by simp; omega
   have e7:(s.kind == 7) = false:=by simp; omega
   have e3:(s.kind == 3) = false:=by simp; omega
   have e4:(s.kind == 4) = false:=by simp; omega
   have n6:(s.kind != 6) = true:=by simp; omega
   have HKd:Hid (s.kind = 5):=hk
   clear hk
   go_enter Tryz.func90,Tryz.ntmps90
   go_wp2_with fail
   refine (node_any C n (d + 1) num s.kind 9 deep _ _ HC0 hn HD.out HR1).mono ?_
   rintro e w1 ⟨hg,hf⟩
   obtain ⟨rfl,hck⟩:=hf
   have HM:Hid (StMid w C num (stO s xa xc ba bc ea ec) (n + 1) w1):=⟨alloc_grown hg,hck,box_in hg (by simp; omega)⟩
   clear hg hck
   obtain ⟨b0,b1,b2,b3,b4,b5,b6,b7⟩:=eight_cell HM.out.2.2
   obtain ⟨hx,hin⟩:=hX.out.2.1
   have HIn:Hid (ExIn B w1 hx s.x xa):=hin.same (HM.out.same hBC hCl)
   clear hin
   obtain ⟨r2,hr2⟩:∃ r2,r2 = Sy.exW d s.x (n + 1):=⟨_,rfl⟩
   have HR2:Hid (r2 = Sy.exW d s.x (n + 1)):=hr2
   clear hr2
   go_wp2_with fail
   refine (expr_any C B num hBC d hx s.x xa xc (n + 1) (deep + 1) r2 _ (by have:=HD.out; omega) (by omega) HIn HM.out.2.1 hn1 HR2).mono ?_
   rintro e w2 ⟨hg,hf⟩
   cases r2 with
   | error er =>
    have HT:Hid (r = .error er):=hr.out.trans (stW_xe HN.out (by rintro ⟨hq,_⟩; have:=HKd.out; omega) (by have:=HKd.out; omega) HR2.out.symm)
    obtain rfl:e = .panicked [fltE er num]:=hf
    have HG:Hid (w.grownBy w2 (some C)):=grown_trans HM.out.1 hg
    clear hg b0 b1 b2 b3 b4 b5 b6 b7
    go_wp2
    exact ⟨rfl,HG.out,by rw [HT.out]; rfl⟩
   | ok m =>
    have hm:m ≤ 2000:=Sy.exW_le _ _ _ _ hn1 HR2.out.symm
    have HS1:Hid (r = Sy.stTail (Sy.stW d) s m):=hr.out.trans (stW_xo HN.out (by rintro ⟨hq,_⟩; have:=HKd.out; omega) (by have:=HKd.out; omega) HR2.out.symm)
    obtain ⟨rfl,hck⟩:=hf
    have HM2:Hid (StMid w C num (stO s xa xc ba bc ea ec) m w2):=HM.out.past hCl hg hck
    clear hg hck
    clear b0 b1 b2 b3 b4 b5 b6 b7 HM
    have HM:=HM2
    clear HM2
    obtain ⟨b0,b1,b2,b3,b4,b5,b6,b7⟩:=eight_cell HM.out.2.2
    have HT:Hid (r = .ok m):=HS1.out.trans (tail_plain (by have:=HKd.out; omega))
    go_wp2
    go_end0
    exact ⟨HM.out.1,by rw [HT.out]; exact ⟨rfl,HM.out.2.1⟩⟩
  ·have e1:(s.kind == 1) = false:=by simp; omega
   have e2:(s.kind == 2) = false:=by simp; omega
   have e7:(s.kind == 7) = false:=by simp; omega
   have e3:(s.kind == 3) = false:=by simp; omega
   have e4:(s.kind == 4) = false:=by simp; omega
   have n6:(s.kind != 6) = false:=by simp; omega
   have HKd:Hid (s.kind = 6):=hk
   clear hk
   have HT:Hid (r = .ok (n + 1)):=hr.out.trans (stW_stop HN.out HKd.out)
   go_enter Tryz.func90,Tryz.ntmps90
   go_wp2_with fail
   refine (node_any C n (d + 1) num s.kind 9 deep _ _ HC0 hn HD.out HR1).mono ?_
   rintro e w1 ⟨hg,hf⟩
   obtain ⟨rfl,hck⟩:=hf
   have HM:Hid (StMid w C num (stO s xa xc ba bc ea ec) (n + 1) w1):=⟨alloc_grown hg,hck,box_in hg (by simp; omega)⟩
   clear hg hck
   obtain ⟨b0,b1,b2,b3,b4,b5,b6,b7⟩:=eight_cell HM.out.2.2
   go_wp2
   go_end0
   exact ⟨HM.out.1,by rw [HT.out]; exact ⟨rfl,HM.out.2.1⟩⟩
  ·have e1:(s.kind == 1) = false:=by simp; omega
   have e2:(s.kind == 2) = false:=by simp; omega
   have e7:(s.kind == 7) = true:=by simp; omega
   have e3:(s.kind == 3) = false:=by simp; omega
   have e4:(s.kind == 4) = false:=by simp; omega
   have n6:(s.kind != 6) = true:=by simp; omega
   have HKd:Hid (s.kind = 7):=hk
   clear hk
   cases hnm:Sy.nm s.name
   ·have HT:Hid (r = .error 7):=hr.out.trans (stW_noname HN.out ⟨by have:=HKd.out; omega,hnm⟩)
    have HK:Hid ((7:Int) = if Sy.nm s.name = false then 7 else 0):=by rw [if_pos hnm]; rfl
    clear hnm
    go_enter Tryz.func90,Tryz.ntmps90
    go_wp2_with fail
    refine (node_any C n (d + 1) num s.kind 9 deep _ _ HC0 hn HD.out HR1).mono ?_
    rintro e w1 ⟨hg,hf⟩
    obtain ⟨rfl,hck⟩:=hf
    have HM:Hid (StMid w C num (stO s xa xc ba bc ea ec) (n + 1) w1):=⟨alloc_grown hg,hck,box_in hg (by simp; omega)⟩
    clear hg hck
    obtain ⟨b0,b1,b2,b3,b4,b5,b6,b7⟩:=eight_cell HM.out.2.2
    go_wp2_with fail
    refine (Calls.bad0 7 (cname_any C (n + 1) num 7 s.name _ HM.out.2.1 hname HK) rfl (by decide)).mono ?_
    rintro e w2 ⟨rfl,hg⟩
    go_wp2
    exact ⟨rfl,grown_trans HM.out.1 (grown_some hg _),by rw [HT.out]; rfl⟩
   ·have HK:Hid ((0:Int) = if Sy.nm s.name = false then 7 else 0):=by rw [if_neg (by rw [hnm]; decide)]; rfl
    have HNm:Hid (Sy.nm s.name = true):=hnm
    clear hnm
    go_enter Tryz.func90,Tryz.ntmps90
    go_wp2_with fail
    refine (node_any C n (d + 1) num s.kind 9 deep _ _ HC0 hn HD.out HR1).mono ?_
    rintro e w1 ⟨hg,hf⟩
    obtain ⟨rfl,hck⟩:=hf
    have HM:Hid (StMid w C num (stO s xa xc ba bc ea ec) (n + 1) w1):=⟨alloc_grown hg,hck,box_in hg (by simp; omega)⟩
    clear hg hck
    obtain ⟨b0,b1,b2,b3,b4,b5,b6,b7⟩:=eight_cell HM.out.2.2
    go_wp2_with fail
    refine (Calls.ok0 (cname_any C (n + 1) num 0 s.name _ HM.out.2.1 hname HK) rfl).mono ?_
    rintro e w0 ⟨rfl,hg⟩
    have HM2:Hid (StMid w C num (stO s xa xc ba bc ea ec) (n + 1) w0):=HM.out.on hg
    clear hg
    clear b0 b1 b2 b3 b4 b5 b6 b7 HM
    have HM:=HM2
    clear HM2
    obtain ⟨b0,b1,b2,b3,b4,b5,b6,b7⟩:=eight_cell HM.out.2.2
    obtain ⟨hx,hin⟩:=hX.out.2.1
    have HIn:Hid (ExIn B w0 hx s.x xa):=hin.same (HM.out.same hBC hCl)
    clear hin
    obtain ⟨r2,hr2⟩:∃ r2,r2 = Sy.exW d s.x (n + 1):=⟨_,rfl⟩
    have HR2:Hid (r2 = Sy.exW d s.x (n + 1)):=hr2
    clear hr2
    go_wp2_with fail
    refine (expr_any C B num hBC d hx s.x xa xc (n + 1) (deep + 1) r2 _ (by have:=HD.out; omega) (by omega) HIn HM.out.2.1 hn1 HR2).mono ?_
    rintro e w2 ⟨hg,hf⟩
    cases r2 with
    | error er =>
     have HT:Hid (r = .error er):=hr.out.trans (stW_xe HN.out (by rintro ⟨_,hq⟩; rw [HNm.out] at hq; exact absurd hq (by decide)) (by have:=HKd.out; omega) HR2.out.symm)
     obtain rfl:e = .panicked [fltE er num]:=hf
     have HG:Hid (w.grownBy w2 (some C)):=grown_trans HM.out.1 hg
     clear hg b0 b1 b2 b3 b4 b5 b6 b7
     go_wp2
     exact ⟨rfl,HG.out,by rw [HT.out]; rfl⟩
    | ok m =>
     have hm:m ≤ 2000:=Sy.exW_le _ _ _ _ hn1 HR2.out.symm
     have HS1:Hid (r = Sy.stTail (Sy.stW d) s m):=hr.out.trans (stW_xo HN.out (by rintro ⟨_,hq⟩; rw [HNm.out] at hq; exact absurd hq (by decide)) (by have:=HKd.out; omega) HR2.out.symm)
     obtain ⟨rfl,hck⟩:=hf
     have HM2:Hid (StMid w C num (stO s xa xc ba bc ea ec) m w2):=HM.out.past hCl hg hck
     clear hg hck
     clear b0 b1 b2 b3 b4 b5 b6 b7 HM
     have HM:=HM2
     clear HM2
     obtain ⟨b0,b1,b2,b3,b4,b5,b6,b7⟩:=eight_cell HM.out.2.2
     have HT:Hid (r = .ok m):=HS1.out.trans (tail_plain (by have:=HKd.out; omega))
     go_wp2
     go_end0
     exact ⟨HM.out.1,by rw [HT.out]; exact ⟨rfl,HM.out.2.1⟩⟩
  ·have e1:(s.kind == 1) = false:=by simp; omega
   have e2:(s.kind == 2) = false:=by simp; omega
   have e7:(s.kind == 7) = false:=by simp; omega
   have e3:(s.kind == 3) = false:=by simp; omega
   have e4:(s.kind == 4) = false:=by simp; omega
   have n6:(s.kind != 6) = true:=by simp; omega
   have HKd:Hid (s.kind = 8):=hk
   clear hk
   go_enter Tryz.func90,Tryz.ntmps90
   go_wp2_with fail
   refine (node_any C n (d + 1) num s.kind 9 deep _ _ HC0 hn HD.out HR1).mono ?_
   rintro e w1 ⟨hg,hf⟩
   obtain ⟨rfl,hck⟩:=hf
   have HM:Hid (StMid w C num (stO s xa xc ba bc ea ec) (n + 1) w1):=⟨alloc_grown hg,hck,box_in hg (by simp; omega)⟩
   clear hg hck
   obtain ⟨b0,b1,b2,b3,b4,b5,b6,b7⟩:=eight_cell HM.out.2.2
   obtain ⟨hx,hin⟩:=hX.out.2.1
   have HIn:Hid (ExIn B w1 hx s.x xa):=hin.same (HM.out.same hBC hCl)
   clear hin
   obtain ⟨r2,hr2⟩:∃ r2,r2 = Sy.exW d s.x (n + 1):=⟨_,rfl⟩
   have HR2:Hid (r2 = Sy.exW d s.x (n + 1)):=hr2
   clear hr2
   go_wp2_with fail
   refine (expr_any C B num hBC d hx s.x xa xc (n + 1) (deep + 1) r2 _ (by have:=HD.out; omega) (by omega) HIn HM.out.2.1 hn1 HR2).mono ?_
   rintro e w2 ⟨hg,hf⟩
   cases r2 with
   | error er =>
    have HT:Hid (r = .error er):=hr.out.trans (stW_xe HN.out (by rintro ⟨hq,_⟩; have:=HKd.out; omega) (by have:=HKd.out; omega) HR2.out.symm)
    obtain rfl:e = .panicked [fltE er num]:=hf
    have HG:Hid (w.grownBy w2 (some C)):=grown_trans HM.out.1 hg
    clear hg b0 b1 b2 b3 b4 b5 b6 b7
    go_wp2
    exact ⟨rfl,HG.out,by rw [HT.out]; rfl⟩
   | ok m =>
    have hm:m ≤ 2000:=Sy.exW_le _ _ _ _ hn1 HR2.out.symm
    have HS1:Hid (r = Sy.stTail (Sy.stW d) s m):=hr.out.trans (stW_xo HN.out (by rintro ⟨hq,_⟩; have:=HKd.out; omega) (by have:=HKd.out; omega) HR2.out.symm)
    obtain ⟨rfl,hck⟩:=hf
    have HM2:Hid (StMid w C num (stO s xa xc ba bc ea ec) m w2):=HM.out.past hCl hg hck
    clear hg hck
    clear b0 b1 b2 b3 b4 b5 b6 b7 HM
    have HM:=HM2
    clear HM2
    obtain ⟨b0,b1,b2,b3,b4,b5,b6,b7⟩:=eight_cell HM.out.2.2
    have HT:Hid (r = .ok m):=HS1.out.trans (tail_plain (by have:=HKd.out; omega))
    go_wp2
    go_end0
    exact ⟨HM.out.1,by rw [HT.out]; exact ⟨rfl,HM.out.2.1⟩⟩
  ·have e1:(s.kind == 1) = false:=by simp; omega
   have e2:(s.kind == 2) = false:=by simp; omega
   have e7:(s.kind == 7) = false:=by simp; omega
   have e3:(s.kind == 3) = false:=by simp; omega
   have e4:(s.kind == 4) = false:=by simp; omega
   have n6:(s.kind != 6) = true:=by simp; omega
   have HKd:Hid (s.kind = 9):=hk
   clear hk
   go_enter Tryz.func90,Tryz.ntmps90
   go_wp2_with fail
   refine (node_any C n (d + 1) num s.kind 9 deep _ _ HC0 hn HD.out HR1).mono ?_
   rintro e w1 ⟨hg,hf⟩
   obtain ⟨rfl,hck⟩:=hf
   have HM:Hid (StMid w C num (stO s xa xc ba bc ea ec) (n + 1) w1):=⟨alloc_grown hg,hck,box_in hg (by simp; omega)⟩
   clear hg hck
   obtain ⟨b0,b1,b2,b3,b4,b5,b6,b7⟩:=eight_cell HM.out.2.2
   obtain ⟨hx,hin⟩:=hX.out.2.1
   have HIn:Hid (ExIn B w1 hx s.x xa):=hin.same (HM.out.same hBC hCl)
   clear hin
   obtain ⟨r2,hr2⟩:∃ r2,r2 = Sy.exW d s.x (n + 1):=⟨_,rfl⟩
   have HR2:Hid (r2 = Sy.exW d s.x (n + 1)):=hr2
   clear hr2
   go_wp2_with fail
   refine (expr_any C B num hBC d hx s.x xa xc (n + 1) (deep + 1) r2 _ (by have:=HD.out; omega) (by omega) HIn HM.out.2.1 hn1 HR2).mono ?_
   rintro e w2 ⟨hg,hf⟩
   cases r2 with
   | error er =>
    have HT:Hid (r = .error er):=hr.out.trans (stW_xe HN.out (by rintro ⟨hq,_⟩; have:=HKd.out; omega) (by have:=HKd.out; omega) HR2.out.symm)
    obtain rfl:e = .panicked [fltE er num]:=hf
    have HG:Hid (w.grownBy w2 (some C)):=grown_trans HM.out.1 hg
    clear hg b0 b1 b2 b3 b4 b5 b6 b7
    go_wp2
    exact ⟨rfl,HG.out,by rw [HT.out]; rfl⟩
   | ok m =>
    have hm:m ≤ 2000:=Sy.exW_le _ _ _ _ hn1 HR2.out.symm
    have HS1:Hid (r = Sy.stTail (Sy.stW d) s m):=hr.out.trans (stW_xo HN.out (by rintro ⟨hq,_⟩; have:=HKd.out; omega) (by have:=HKd.out; omega) HR2.out.symm)
    obtain ⟨rfl,hck⟩:=hf
    have HM2:Hid (StMid w C num (stO s xa xc ba bc ea ec) m w2):=HM.out.past hCl hg hck
    clear hg hck
    clear b0 b1 b2 b3 b4 b5 b6 b7 HM
    have HM:=HM2
    clear HM2
    obtain ⟨b0,b1,b2,b3,b4,b5,b6,b7⟩:=eight_cell HM.out.2.2
    have HT:Hid (r = .ok m):=HS1.out.trans (tail_plain (by have:=HKd.out; omega))
    go_wp2
    go_end0
    exact ⟨HM.out.1,by rw [HT.out]; exact ⟨rfl,HM.out.2.1⟩⟩
 ·have hr1':r1 = .error (Sy.nodeW s.kind 9 (d + 1) n):=by rw [hr1]; unfold nodeR; rw [if_pos (by simpa using hnode)]
  have HR:Hid (r = .error (Sy.nodeW s.kind 9 (d + 1) n)):=hr.out.trans (stW_bad (by simpa using hnode))
  obtain ⟨er,her⟩:∃ er,er = Sy.nodeW s.kind 9 (d + 1) n:=⟨_,rfl⟩
  rw [← her] at hr1' HR
  clear hr1 hnode her
  subst hr1'
  go_enter Tryz.func90,Tryz.ntmps90
  go_wp2_with fail
  refine (node_any C n (d + 1) num s.kind 9 deep _ _ HC0 hn HD.out HR1).mono ?_
  rintro e w1 ⟨hg,hf⟩
  obtain rfl:e = .panicked [fltE er num]:=hf
  go_wp2
  exact ⟨rfl,alloc_grown hg,by rw [HR.out]; rfl⟩
theorem stat_zero (C:Nat) (num:Int) (s:Sy.St) (xa:Option Addr) (xc:Nat) (ba:Option Addr) (bc:Nat) (ea:Option Addr) (ec n:Nat) (deep:Int) (r:Except Int Nat) (w:World) (hdeep:deep = 41 - ((0:Nat):Int)) (hC:Hid (CK w C num n)) (hn:n ≤ 2000) (hr:Hid (r = Sy.stW 0 s n)) :
  Calls Tryz.prog 90 #[.pointer (some ⟨C,0,none⟩),stV s xa xc ba bc ea ec,.int .i64 deep] w fun e w' => w.grownBy w' (some C) ∧ Fate C num r e w':=by
 have HD:Hid (deep = 41 - ((0:Nat):Int)):=hdeep
 clear hdeep
 have HC0:Hid (CK (w.alloc (stO s xa xc ba bc ea ec)) C num n):=hC.out.alloc _
 have HR:Hid (r = .error 4):=hr.out
 have HR1:Hid (Except.error 4 = nodeR s.kind 9 0 n):=by
  have h4:Sy.nodeW s.kind 9 0 n = 4:=by unfold Sy.nodeW; rw [if_pos (.inr rfl)]
  unfold nodeR; rw [h4]; rfl
 go_enter Tryz.func90,Tryz.ntmps90
 go_wp2_with fail
 refine (node_any C n 0 num s.kind 9 deep _ _ HC0 hn HD.out HR1).mono ?_
 rintro e w1 ⟨hg,hf⟩
 obtain rfl:e = .panicked [fltE 4 num]:=hf
 go_wp2
 exact ⟨rfl,alloc_grown hg,by rw [HR.out]; rfl⟩
theorem stat_any (C B:Nat) (num:Int) (hBC:B ≤ C):∀ d:Nat,StC C B num d
 | _,0,_,_,_,_,_,_,_,_,_,_,_,_,_,hX,_,_,_ => hX.out.elim
 | d + 1,h + 1,s,xa,xc,ba,bc,ea,ec,n,deep,r,w,hdeep,hd,hX,hC,hn,hr => stat_step C B d num hBC (stat_any C B num hBC d) h s xa xc ba bc ea ec n deep r w hdeep hd hX hC hn hr
 | 0,_ + 1,s,xa,xc,ba,bc,ea,ec,n,deep,r,w,hdeep,_,_,hC,hn,hr => stat_zero C num s xa xc ba bc ea ec n deep r w hdeep hC hn hr
theorem body_any (C B:Nat) (num:Int) (hBC:B ≤ C) (d h:Nat) (l:List Sy.St) (a:Option Addr) (c n:Nat) (deep:Int) (r:Except Int Nat) (w:World)
  (hdeep:deep = 41 - d) (hd:d ≤ 41) (hX:Hid (BodyIn B w h l a)) (hC:Hid (CK w C num n)) (hn:n ≤ 2000) (hr:Hid (r = Sy.bodyW d l n)) :
  Calls Tryz.prog 62 #[.pointer (some ⟨C,0,none⟩),.slice a l.length c,.int .i64 deep] w fun e w' => w.grownBy w' (some C) ∧ Fate C num r e w' :=
 body_of C B d num hBC (stat_any C B num hBC d) h l a c n deep r w hdeep hd hX hC hn hr
end Go.Proofs.YtbioaoangfiijaaGreatDoor
