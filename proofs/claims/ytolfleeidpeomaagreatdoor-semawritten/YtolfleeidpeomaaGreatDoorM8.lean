/- The walks of the checker's stat and body. -/
import Derived.Test.YtolfleeidpeomaaGreatDoorM7
set_option maxRecDepth 100000
set_option maxHeartbeats 4000000
namespace Go.Proofs.YtolfleeidpeomaaGreatDoor
open Go.RowKit
theorem dQ {w:World}{b:Nat}{v0 v1 v2 v3 v4 v5 v6 v7:Value}{t:TypeId}(h:w.heap[b]?=some (.cells #[v0,v1,v2,v3,v4,v5,v6,v7] t (0,0))) :
  w.cell? ⟨b,0,none⟩=some v0∧w.cell? ⟨b,1,none⟩=some v1∧w.cell? ⟨b,2,none⟩=some v2∧w.cell? ⟨b,3,none⟩=some v3 ∧
  w.cell? ⟨b,4,none⟩=some v4∧w.cell? ⟨b,5,none⟩=some v5∧w.cell? ⟨b,6,none⟩=some v6∧w.cell? ⟨b,7,none⟩=some v7:=by simp [World.cell?,h]
def FJ (C B:Nat)(num:Int)(d:Nat):Prop :=
 ∀ (h:Nat) (s:Sy.St) (xa:Option Addr) (xc:Nat) (ba:Option Addr) (bc:Nat) (ea:Option Addr) (ec n:Nat) (deep:Int) (r:Except Int Nat) (w:World),deep=41 - d→d≤41→Hid (cu B w h s xa ba ea)→Hid (CK w C num n)→n≤2000→Hid (r=Sy.aO d s n) →
   Calls Tryz.prog 82 #[.pointer (some ⟨C,0,none⟩),l7 s xa xc ba bc ea ec,.int .i64 deep] w fun e w'=>w.grownBy w' (some C)∧l8 C num r e w'
theorem Cw (C B d:Nat)(num:Int)(dI:B≤C)(hS:Hid (FJ C B num d))(h:Nat)(l:List Sy.St)(a:Option Addr)(c n:Nat)(deep:Int)(r:Except Int Nat)(w:World)
  (iQ:deep=41 - d) (hd:d≤41) (hX:Hid (iw B w h l a)) (hC:Hid (CK w C num n)) (hn:n≤2000) (hr:Hid (r=Sy.cO (Sy.aO d) l n)) :
  Calls Tryz.prog 53 #[.pointer (some ⟨C,0,none⟩),.slice a l.length c,.int .i64 deep] w fun e w'=>w.grownBy w' (some C)∧l8 C num r e w':=by
 have HD:Hid (deep=41 - (d:Int)):=iQ
 clear iQ
 have hlen:=hX.out.1
 have gI:=hC.out.lt
 unfold maxLen at hlen
 by_cases h50:50<l.length
 ·have HT:Hid (r=.error 5):=by have:=hr.out;unfold Sy.cO at this;rw [if_pos h50] at this;exact this
  have HK:Hid ((5:Int)=if (50:Int)<(l.length:Int) then 5 else 0):=by rw [if_pos (by omega)];rfl
  clear h50
  go_enter Tryz.func53,Tryz.ntmps53
  go_wp2_with fail
  refine (Calls.l9 5 (tQ C n num l.length 50 5 _ hC HK) rfl (by decide)).mono ?_
  rintro e w2 ⟨rfl,hg⟩
  go_wp2
  exact ⟨rfl,iO hg _,by rw [HT.out];rfl⟩
 ·have HT:Hid (r=Sy.runs (Sy.aO d) l n):=by have:=hr.out;unfold Sy.cO at this;rw [if_neg h50] at this;exact this
  have HK:Hid ((0:Int)=if (50:Int)<(l.length:Int) then 5 else 0):=by rw [if_neg (by omega)];rfl
  clear h50
  go_enter Tryz.func53,Tryz.ntmps53
  go_wp2_with fail
  refine (Calls.ok0 (tQ C n num l.length 50 0 _ hC HK) rfl).mono ?_
  rintro e w2 ⟨rfl,hg⟩
  have HG2:Hid (w.grownBy w2 (some C)):=iO hg _
  have iD:Hid (CK w2 C num n):=hC.out.keep hg (by simp)
  clear hg
  go_wp2
  go_loopw [14] (fun i wr=>∃ k m:Nat,k≤l.length∧i=.int .i64 k∧m≤2000∧Hid (CK wr C num m)∧Hid (w.grownBy wr (some C))∧Hid (r=Sy.runs (Sy.aO d) (l.drop k) m)) (fun i _=>l.length - (intOf i).toNat)
  case atStart=>exact ⟨0,n,Nat.zero_le _,rfl,hn,iD,HG2,by rw [List.drop_zero];exact HT⟩
  case round =>
   obtain ⟨k,m,hk,rfl,hm,pF,iP,ae⟩:=hrel
   by_cases hlt:k<l.length
   ·obtain ⟨s,hs⟩:∃ s,l[k]?=some s:=⟨_,List.getElem?_eq_getElem hlt⟩
    have HS:Hid (l[k]?=some s):=hs
    obtain ⟨b,off,xa,xc,ba,bc,ea,ec,rfl,hb,c0,c1,c2,c3,c4,c5,c6,c7,hin⟩:=hX.out.2 k s hs
    have hsame:=dK (B:=B) iP.out (by intro c e;cases e;exact dI) (by omega)
    rw [← hsame _ _ hb] at c0 c1 c2 c3 c4 c5 c6 c7
    have gJ:Hid (cu B wr h s xa ba ea):=hin.same hsame
    clear hin hsame hs
    obtain ⟨r2,hr2⟩:∃ r2,r2=Sy.aO d s m:=⟨_,rfl⟩
    have HR2:Hid (r2=Sy.aO d s m):=hr2
    clear hr2
    go_wp2_with fail
    refine (hS.out h s xa xc ba bc ea ec m deep r2 _ HD.out hd (gJ.out.same (dK (World.grownBy_alloc _ _ none) (by simp) (by have:=iP.out.size;omega))) (pF.out.alloc _) hm HR2).mono ?_
    rintro e w3 ⟨hg,hf⟩
    have aK:Hid (w.grownBy w3 (some C)):=aB iP.out (gu hg)
    cases r2 with
    | ok m2 =>
     obtain ⟨rfl,hck⟩:=hf
     have mK:Hid (CK w3 C num m2):=hck
     have hm2:m2≤2000:=Sy.nJ _ _ _ _ hm HR2.out.symm
     have HR3:Hid (r=Sy.runs (Sy.aO d) (l.drop (k+1)) m2):=ae.out.trans (LY HS.out HR2.out.symm)
     clear hg hck c0 c1 c2 c3 c4 c5 c6 c7
     go_wp2
     go_roundw
     case rel=>exact ⟨k+1,m2,by omega,by go_num,hm2,mK,aK,HR3⟩
     case measure=>simp [intOf];omega
    | error er =>
     obtain rfl:e=.panicked [aH er num]:=hf
     have HR3:Hid (r=.error er):=ae.out.trans (LZ HS.out HR2.out.symm)
     clear hg c0 c1 c2 c3 c4 c5 c6 c7
     go_wp2
     exact ⟨rfl,aK.out,by rw [HR3.out];rfl⟩
   ·have HR3:Hid (r=.ok m):=by
     have:=ae.out
     rw [List.drop_of_length_le (by omega)] at this
     exact this
    go_wp2
    go_end0
    exact ⟨iP.out,by rw [HR3.out];exact ⟨rfl,pF.out⟩⟩
theorem VV {d:Nat}{s:Sy.St}{n:Nat}(h:Sy.bB s.kind 9 (d+1) n≠0):Sy.aO (d+1) s n=.error (Sy.bB s.kind 9 (d+1) n):=by
 unfold Sy.aO;rw [if_pos h]
theorem FK {d:Nat}{s:Sy.St}{n:Nat}(h:Sy.bB s.kind 9 (d+1) n=0)(hk:(s.kind=1∨s.kind=2∨s.kind=7)∧Sy.nm s.name=false):Sy.aO (d+1) s n=.error 7:=by
 unfold Sy.aO;rw [if_neg (by simpa using h),if_pos hk]
theorem VW {d:Nat}{s:Sy.St}{n:Nat}(h:Sy.bB s.kind 9 (d+1) n=0)(hk:s.kind=6):Sy.aO (d+1) s n=.ok (n+1):=by
 unfold Sy.aO;rw [if_neg (by simpa using h),if_neg (by omega),if_pos hk]
theorem L8 {d:Nat}{s:Sy.St}{n:Nat}(h:Sy.bB s.kind 9 (d+1) n=0)(hk:¬ ((s.kind=1∨s.kind=2∨s.kind=7)∧Sy.nm s.name=false))(h6:s.kind≠6) :
  Sy.aO (d+1) s n=match Sy.aF d s.x (n+1) with | .error e=>.error e | .ok m=>Sy.dN (Sy.aO d) s m:=by
 conv=>lhs;unfold Sy.aO
 rw [if_neg (by simpa using h),if_neg hk,if_neg h6]
 cases Sy.aF d s.x (n+1) <;> rfl
theorem uf {d:Nat}{s:Sy.St}{n:Nat}{e:Int}(h:Sy.bB s.kind 9 (d+1) n=0)(hk:¬ ((s.kind=1∨s.kind=2∨s.kind=7)∧Sy.nm s.name=false))(h6:s.kind≠6)(hx:Sy.aF d s.x (n+1)=.error e) :
  Sy.aO (d+1) s n=.error e:=by rw [L8 h hk h6,hx]
theorem uh {d:Nat}{s:Sy.St}{n m:Nat}(h:Sy.bB s.kind 9 (d+1) n=0)(hk:¬ ((s.kind=1∨s.kind=2∨s.kind=7)∧Sy.nm s.name=false))(h6:s.kind≠6)(hx:Sy.aF d s.x (n+1)=.ok m) :
  Sy.aO (d+1) s n=Sy.dN (Sy.aO d) s m:=by rw [L8 h hk h6,hx]
theorem pJ {f:Sy.St→Nat→Except Int Nat}{s:Sy.St}{m:Nat}(h:¬ (s.kind=3∨s.kind=4)):Sy.dN f s m=.ok m:=by unfold Sy.dN;rw [if_neg h]
theorem L9 {f:Sy.St→Nat→Except Int Nat}{s:Sy.St}{m:Nat}{e:Int}(h:s.kind=3∨s.kind=4)(hb:Sy.cO f s.body m=.error e):Sy.dN f s m=.error e:=by unfold Sy.dN;rw [if_pos h,hb]
theorem VX {f:Sy.St→Nat→Except Int Nat}{s:Sy.St}{m m2:Nat}(h:s.kind=4)(hb:Sy.cO f s.body m=.ok m2):Sy.dN f s m=.ok m2:=by unfold Sy.dN;rw [if_pos (.inr h),hb];simp only [];rw [if_neg (by omega)]
theorem VY {f:Sy.St→Nat→Except Int Nat}{s:Sy.St}{m m2:Nat}(h:s.kind=3)(hb:Sy.cO f s.body m=.ok m2):Sy.dN f s m=Sy.cO f s.els m2:=by unfold Sy.dN;rw [if_pos (.inl h),hb];simp only [];rw [if_pos h]
abbrev dC (s:Sy.St) (xa:Option Addr) (xc:Nat) (ba:Option Addr) (bc:Nat) (ea:Option Addr) (ec:Nat):Obj :=
 .cells #[.int .i64 s.kind,.string s.name,.int .i64 s.x.kind,.int .i64 s.x.n,.string s.x.name,.slice xa s.x.kids.length xc,.slice ba s.body.length bc,.slice ea s.els.length ec] 124 (0,0)
def dJ (w:World)(C:Nat)(num:Int)(o:Obj)(n:Nat)(w1:World):Prop:=w.grownBy w1 (some C)∧CK w1 C num n∧w1.heap[w.heap.size]?=some o
theorem dJ.on {w:World}{C:Nat}{num:Int}{o:Obj}{n:Nat}{w1 w2:World}(h:dJ w C num o n w1)(hg:w1.grownBy w2 none):dJ w C num o n w2 :=
 ⟨aB h.1 (iO hg _),h.2.1.keep hg (by simp),vD h.2.2 hg (by simp)⟩
theorem dJ.past {w:World}{C:Nat}{num:Int}{o:Obj}{n m:Nat}{w1 w2:World}(h:dJ w C num o n w1)(hC:C<w.heap.size)(hg:w1.grownBy w2 (some C))(hk:CK w2 C num m):dJ w C num o m w2 :=
 ⟨aB h.1 hg,hk,vD h.2.2 hg (by simp;omega)⟩
theorem dJ.same {w:World}{B C:Nat}{num:Int}{o:Obj}{n:Nat}{w1:World}(h:dJ w C num o n w1)(dI:B≤C)(hC:C<w.heap.size):Go.Proofs.YtolfleeidpeomaaGreatDoor.Same B w w1 :=
 dK h.1 (by intro c e;cases e;exact dI) (by omega)
theorem VZ (C B d:Nat)(num:Int)(dI:B≤C)(hS:Hid (FJ C B num d))
  (h:Nat) (s:Sy.St) (xa:Option Addr) (xc:Nat) (ba:Option Addr) (bc:Nat) (ea:Option Addr) (ec n:Nat) (deep:Int) (r:Except Int Nat) (w:World) (iQ:deep=41 - ((d+1:Nat):Int)) (hd:d+1≤41) (hX:Hid (cu B w (h+1) s xa ba ea)) (hC:Hid (CK w C num n)) (hn:n≤2000) (hr:Hid (r=Sy.aO (d+1) s n)) :
  Calls Tryz.prog 82 #[.pointer (some ⟨C,0,none⟩),l7 s xa xc ba bc ea ec,.int .i64 deep] w fun e w'=>w.grownBy w' (some C)∧l8 C num r e w':=by
 have HD:Hid (deep=41 - ((d+1:Nat):Int)):=iQ
 have VT:0≤deep:=by omega
 have VU:deep≤40:=by omega
 clear iQ
 have hname:=hX.out.1
 have gI:=hC.out.lt
 have eZ:Hid (CK (w.alloc (dC s xa xc ba bc ea ec)) C num n):=hC.out.alloc _
 obtain ⟨r1,hr1⟩:∃ r1,r1=jU s.kind 9 (d+1) n:=⟨_,rfl⟩
 have HR1:Hid (r1=jU s.kind 9 (d+1) n):=hr1
 by_cases iR:Sy.bB s.kind 9 (d+1) n=0
 ·have hr1':r1=.ok (n+1):=by rw [hr1];unfold jU;rw [if_neg (by simpa using iR)]
  obtain ⟨hn1,hk1,hk2,_⟩:=Sy.iC iR
  have HN:Hid (Sy.bB s.kind 9 (d+1) n=0):=iR
  clear iR hr1
  subst hr1'
  rcases (show s.kind=1∨s.kind=2∨s.kind=3∨s.kind=4∨s.kind=5∨s.kind=6∨s.kind=7∨s.kind=8∨s.kind=9 by omega) with hk | hk | hk | hk | hk | hk | hk | hk | hk
  ·have e1:(s.kind==1)=true:=by simp;omega
   have e2:(s.kind==2)=false:=by simp;omega
   have e7:(s.kind==7)=false:=by simp;omega
   have e3:(s.kind==3)=false:=by simp;omega
   have e4:(s.kind==4)=false:=by simp;omega
   have n6:(s.kind != 6)=true:=by simp;omega
   have aI:Hid (s.kind=1):=hk
   clear hk
   cases hnm:Sy.nm s.name
   ·have HT:Hid (r=.error 7):=hr.out.trans (FK HN.out ⟨by have:=aI.out;omega,hnm⟩)
    have HK:Hid ((7:Int)=if Sy.nm s.name=false then 7 else 0):=by rw [if_pos hnm];rfl
    clear hnm
    go_enter Tryz.func82,Tryz.ntmps82
    go_wp2_with fail
    refine (jd C n (d+1) num s.kind 9 deep _ _ eZ hn HD.out HR1).mono ?_
    rintro e w1 ⟨hg,hf⟩
    obtain ⟨rfl,hck⟩:=hf
    have HM:Hid (dJ w C num (dC s xa xc ba bc ea ec) (n+1) w1):=⟨gu hg,hck,je hg (by simp;omega)⟩
    clear hg hck
    obtain ⟨b0,b1,b2,b3,b4,b5,b6,b7⟩:=dQ HM.out.2.2
    go_wp2_with fail
    refine (Calls.l9 7 (jM C (n+1) num 7 s.name _ HM.out.2.1 hname HK) rfl (by decide)).mono ?_
    rintro e w2 ⟨rfl,hg⟩
    go_wp2
    exact ⟨rfl,aB HM.out.1 (iO hg _),by rw [HT.out];rfl⟩
   ·have HK:Hid ((0:Int)=if Sy.nm s.name=false then 7 else 0):=by rw [if_neg (by rw [hnm];decide)];rfl
    have ui:Hid (Sy.nm s.name=true):=hnm
    clear hnm
    go_enter Tryz.func82,Tryz.ntmps82
    go_wp2_with fail
    refine (jd C n (d+1) num s.kind 9 deep _ _ eZ hn HD.out HR1).mono ?_
    rintro e w1 ⟨hg,hf⟩
    obtain ⟨rfl,hck⟩:=hf
    have HM:Hid (dJ w C num (dC s xa xc ba bc ea ec) (n+1) w1):=⟨gu hg,hck,je hg (by simp;omega)⟩
    clear hg hck
    obtain ⟨b0,b1,b2,b3,b4,b5,b6,b7⟩:=dQ HM.out.2.2
    go_wp2_with fail
    refine (Calls.ok0 (jM C (n+1) num 0 s.name _ HM.out.2.1 hname HK) rfl).mono ?_
    rintro e w0 ⟨rfl,hg⟩
    have aU:Hid (dJ w C num (dC s xa xc ba bc ea ec) (n+1) w0):=HM.out.on hg
    clear hg
    clear b0 b1 b2 b3 b4 b5 b6 b7 HM
    have HM:=aU
    clear aU
    obtain ⟨b0,b1,b2,b3,b4,b5,b6,b7⟩:=dQ HM.out.2.2
    obtain ⟨hx,hin⟩:=hX.out.2.1
    have gJ:Hid (aJ B w0 hx s.x xa):=hin.same (HM.out.same dI gI)
    clear hin
    obtain ⟨r2,hr2⟩:∃ r2,r2=Sy.aF d s.x (n+1):=⟨_,rfl⟩
    have HR2:Hid (r2=Sy.aF d s.x (n+1)):=hr2
    clear hr2
    go_wp2_with fail
    refine (jV C B num dI d hx s.x xa xc (n+1) (deep+1) r2 _ (by have:=HD.out;omega) (by omega) gJ HM.out.2.1 hn1 HR2).mono ?_
    rintro e w2 ⟨hg,hf⟩
    cases r2 with
    | error er =>
     have HT:Hid (r=.error er):=hr.out.trans (uf HN.out (by rintro ⟨_,hq⟩;rw [ui.out] at hq;exact absurd hq (by decide)) (by have:=aI.out;omega) HR2.out.symm)
     obtain rfl:e=.panicked [aH er num]:=hf
     have HG:Hid (w.grownBy w2 (some C)):=aB HM.out.1 hg
     clear hg b0 b1 b2 b3 b4 b5 b6 b7
     go_wp2
     exact ⟨rfl,HG.out,by rw [HT.out];rfl⟩
    | ok m =>
     have hm:m≤2000:=Sy.jw _ _ _ _ hn1 HR2.out.symm
     have kv:Hid (r=Sy.dN (Sy.aO d) s m):=hr.out.trans (uh HN.out (by rintro ⟨_,hq⟩;rw [ui.out] at hq;exact absurd hq (by decide)) (by have:=aI.out;omega) HR2.out.symm)
     obtain ⟨rfl,hck⟩:=hf
     have aU:Hid (dJ w C num (dC s xa xc ba bc ea ec) m w2):=HM.out.past gI hg hck
     clear hg hck
     clear b0 b1 b2 b3 b4 b5 b6 b7 HM
     have HM:=aU
     clear aU
     obtain ⟨b0,b1,b2,b3,b4,b5,b6,b7⟩:=dQ HM.out.2.2
     have HT:Hid (r=.ok m):=kv.out.trans (pJ (by have:=aI.out;omega))
     go_wp2
     go_end0
     exact ⟨HM.out.1,by rw [HT.out];exact ⟨rfl,HM.out.2.1⟩⟩
  ·have e1:(s.kind==1)=false:=by simp;omega
   have e2:(s.kind==2)=true:=by simp;omega
   have e7:(s.kind==7)=false:=by simp;omega
   have e3:(s.kind==3)=false:=by simp;omega
   have e4:(s.kind==4)=false:=by simp;omega
   have n6:(s.kind != 6)=true:=by simp;omega
   have aI:Hid (s.kind=2):=hk
   clear hk
   cases hnm:Sy.nm s.name
   ·have HT:Hid (r=.error 7):=hr.out.trans (FK HN.out ⟨by have:=aI.out;omega,hnm⟩)
    have HK:Hid ((7:Int)=if Sy.nm s.name=false then 7 else 0):=by rw [if_pos hnm];rfl
    clear hnm
    go_enter Tryz.func82,Tryz.ntmps82
    go_wp2_with fail
    refine (jd C n (d+1) num s.kind 9 deep _ _ eZ hn HD.out HR1).mono ?_
    rintro e w1 ⟨hg,hf⟩
    obtain ⟨rfl,hck⟩:=hf
    have HM:Hid (dJ w C num (dC s xa xc ba bc ea ec) (n+1) w1):=⟨gu hg,hck,je hg (by simp;omega)⟩
    clear hg hck
    obtain ⟨b0,b1,b2,b3,b4,b5,b6,b7⟩:=dQ HM.out.2.2
    go_wp2_with fail
    refine (Calls.l9 7 (jM C (n+1) num 7 s.name _ HM.out.2.1 hname HK) rfl (by decide)).mono ?_
    rintro e w2 ⟨rfl,hg⟩
    go_wp2
    exact ⟨rfl,aB HM.out.1 (iO hg _),by rw [HT.out];rfl⟩
   ·have HK:Hid ((0:Int)=if Sy.nm s.name=false then 7 else 0):=by rw [if_neg (by rw [hnm];decide)];rfl
    have ui:Hid (Sy.nm s.name=true):=hnm
    clear hnm
    go_enter Tryz.func82,Tryz.ntmps82
    go_wp2_with fail
    refine (jd C n (d+1) num s.kind 9 deep _ _ eZ hn HD.out HR1).mono ?_
    rintro e w1 ⟨hg,hf⟩
    obtain ⟨rfl,hck⟩:=hf
    have HM:Hid (dJ w C num (dC s xa xc ba bc ea ec) (n+1) w1):=⟨gu hg,hck,je hg (by simp;omega)⟩
    clear hg hck
    obtain ⟨b0,b1,b2,b3,b4,b5,b6,b7⟩:=dQ HM.out.2.2
    go_wp2_with fail
    refine (Calls.ok0 (jM C (n+1) num 0 s.name _ HM.out.2.1 hname HK) rfl).mono ?_
    rintro e w0 ⟨rfl,hg⟩
    have aU:Hid (dJ w C num (dC s xa xc ba bc ea ec) (n+1) w0):=HM.out.on hg
    clear hg
    clear b0 b1 b2 b3 b4 b5 b6 b7 HM
    have HM:=aU
    clear aU
    obtain ⟨b0,b1,b2,b3,b4,b5,b6,b7⟩:=dQ HM.out.2.2
    obtain ⟨hx,hin⟩:=hX.out.2.1
    have gJ:Hid (aJ B w0 hx s.x xa):=hin.same (HM.out.same dI gI)
    clear hin
    obtain ⟨r2,hr2⟩:∃ r2,r2=Sy.aF d s.x (n+1):=⟨_,rfl⟩
    have HR2:Hid (r2=Sy.aF d s.x (n+1)):=hr2
    clear hr2
    go_wp2_with fail
    refine (jV C B num dI d hx s.x xa xc (n+1) (deep+1) r2 _ (by have:=HD.out;omega) (by omega) gJ HM.out.2.1 hn1 HR2).mono ?_
    rintro e w2 ⟨hg,hf⟩
    cases r2 with
    | error er =>
     have HT:Hid (r=.error er):=hr.out.trans (uf HN.out (by rintro ⟨_,hq⟩;rw [ui.out] at hq;exact absurd hq (by decide)) (by have:=aI.out;omega) HR2.out.symm)
     obtain rfl:e=.panicked [aH er num]:=hf
     have HG:Hid (w.grownBy w2 (some C)):=aB HM.out.1 hg
     clear hg b0 b1 b2 b3 b4 b5 b6 b7
     go_wp2
     exact ⟨rfl,HG.out,by rw [HT.out];rfl⟩
    | ok m =>
     have hm:m≤2000:=Sy.jw _ _ _ _ hn1 HR2.out.symm
     have kv:Hid (r=Sy.dN (Sy.aO d) s m):=hr.out.trans (uh HN.out (by rintro ⟨_,hq⟩;rw [ui.out] at hq;exact absurd hq (by decide)) (by have:=aI.out;omega) HR2.out.symm)
     obtain ⟨rfl,hck⟩:=hf
     have aU:Hid (dJ w C num (dC s xa xc ba bc ea ec) m w2):=HM.out.past gI hg hck
     clear hg hck
     clear b0 b1 b2 b3 b4 b5 b6 b7 HM
     have HM:=aU
     clear aU
     obtain ⟨b0,b1,b2,b3,b4,b5,b6,b7⟩:=dQ HM.out.2.2
     have HT:Hid (r=.ok m):=kv.out.trans (pJ (by have:=aI.out;omega))
     go_wp2
     go_end0
     exact ⟨HM.out.1,by rw [HT.out];exact ⟨rfl,HM.out.2.1⟩⟩
  ·have e1:(s.kind==1)=false:=by simp;omega
   have e2:(s.kind==2)=false:=by simp;omega
   have e7:(s.kind==7)=false:=by simp;omega
   have e3:(s.kind==3)=true:=by simp;omega
   have e4:(s.kind==4)=false:=by simp;omega
   have n6:(s.kind != 6)=true:=by simp;omega
   have aI:Hid (s.kind=3):=hk
   clear hk
   go_enter Tryz.func82,Tryz.ntmps82
   go_wp2_with fail
   refine (jd C n (d+1) num s.kind 9 deep _ _ eZ hn HD.out HR1).mono ?_
   rintro e w1 ⟨hg,hf⟩
   obtain ⟨rfl,hck⟩:=hf
   have HM:Hid (dJ w C num (dC s xa xc ba bc ea ec) (n+1) w1):=⟨gu hg,hck,je hg (by simp;omega)⟩
   clear hg hck
   obtain ⟨b0,b1,b2,b3,b4,b5,b6,b7⟩:=dQ HM.out.2.2
   obtain ⟨hx,hin⟩:=hX.out.2.1
   have gJ:Hid (aJ B w1 hx s.x xa):=hin.same (HM.out.same dI gI)
   clear hin
   obtain ⟨r2,hr2⟩:∃ r2,r2=Sy.aF d s.x (n+1):=⟨_,rfl⟩
   have HR2:Hid (r2=Sy.aF d s.x (n+1)):=hr2
   clear hr2
   go_wp2_with fail
   refine (jV C B num dI d hx s.x xa xc (n+1) (deep+1) r2 _ (by have:=HD.out;omega) (by omega) gJ HM.out.2.1 hn1 HR2).mono ?_
   rintro e w2 ⟨hg,hf⟩
   cases r2 with
   | error er =>
    have HT:Hid (r=.error er):=hr.out.trans (uf HN.out (by rintro ⟨hq,_⟩;have:=aI.out;omega) (by have:=aI.out;omega) HR2.out.symm)
    obtain rfl:e=.panicked [aH er num]:=hf
    have HG:Hid (w.grownBy w2 (some C)):=aB HM.out.1 hg
    clear hg b0 b1 b2 b3 b4 b5 b6 b7
    go_wp2
    exact ⟨rfl,HG.out,by rw [HT.out];rfl⟩
   | ok m =>
    have hm:m≤2000:=Sy.jw _ _ _ _ hn1 HR2.out.symm
    have kv:Hid (r=Sy.dN (Sy.aO d) s m):=hr.out.trans (uh HN.out (by rintro ⟨hq,_⟩;have:=aI.out;omega) (by have:=aI.out;omega) HR2.out.symm)
    obtain ⟨rfl,hck⟩:=hf
    have aU:Hid (dJ w C num (dC s xa xc ba bc ea ec) m w2):=HM.out.past gI hg hck
    clear hg hck
    clear b0 b1 b2 b3 b4 b5 b6 b7 HM
    have HM:=aU
    clear aU
    obtain ⟨b0,b1,b2,b3,b4,b5,b6,b7⟩:=dQ HM.out.2.2
    have HB:Hid (iw B w2 h s.body ba):=iw.same (HM.out.same dI gI) ⟨hX.out.2.2.1,hX.out.2.2.2.2.1⟩
    obtain ⟨r3,hr3⟩:∃ r3,r3=Sy.cO (Sy.aO d) s.body m:=⟨_,rfl⟩
    have HR3:Hid (r3=Sy.cO (Sy.aO d) s.body m):=hr3
    clear hr3
    go_wp2_with fail
    refine (Cw C B d num dI hS h s.body ba bc m (deep+1) r3 _ (by have:=HD.out;omega) (by omega) HB HM.out.2.1 hm HR3).mono ?_
    rintro e w3 ⟨hg,hf⟩
    cases r3 with
    | error er =>
     have HT:Hid (r=.error er):=kv.out.trans (L9 (by have:=aI.out;omega) HR3.out.symm)
     obtain rfl:e=.panicked [aH er num]:=hf
     have HG:Hid (w.grownBy w3 (some C)):=aB HM.out.1 hg
     clear hg b0 b1 b2 b3 b4 b5 b6 b7
     go_wp2
     exact ⟨rfl,HG.out,by rw [HT.out];rfl⟩
    | ok m2 =>
     have hm2:m2≤2000:=Sy.o8 (Sy.nJ d) hm HR3.out.symm
     obtain ⟨rfl,hck⟩:=hf
     have aU:Hid (dJ w C num (dC s xa xc ba bc ea ec) m2 w3):=HM.out.past gI hg hck
     clear hg hck
     clear b0 b1 b2 b3 b4 b5 b6 b7 HM
     have HM:=aU
     clear aU
     obtain ⟨b0,b1,b2,b3,b4,b5,b6,b7⟩:=dQ HM.out.2.2
     have HS2:Hid (r=Sy.cO (Sy.aO d) s.els m2):=kv.out.trans (VY aI.out HR3.out.symm)
     have HB2:Hid (iw B w3 h s.els ea):=iw.same (HM.out.same dI gI) ⟨hX.out.2.2.2.1,hX.out.2.2.2.2.2⟩
     go_wp2_with fail
     refine (Cw C B d num dI hS h s.els ea ec m2 (deep+1) r _ (by have:=HD.out;omega) (by omega) HB2 HM.out.2.1 hm2 HS2).mono ?_
     rintro e w4 ⟨hg,hf⟩
     have HG:Hid (w.grownBy w4 (some C)):=aB HM.out.1 hg
     have HF:Hid (l8 C num r e w4):=hf
     clear hg b0 b1 b2 b3 b4 b5 b6 b7
     cases r with
     | error er =>
      obtain rfl:e=.panicked [aH er num]:=hf
      go_wp2
      exact ⟨rfl,HG.out,rfl⟩
     | ok m3 =>
      obtain ⟨rfl,hck⟩:=hf
      clear hck
      go_wp2
      go_end0
      exact ⟨HG.out,HF.out⟩
  ·have e1:(s.kind==1)=false:=by simp;omega
   have e2:(s.kind==2)=false:=by simp;omega
   have e7:(s.kind==7)=false:=by simp;omega
   have e3:(s.kind==3)=false:=by simp;omega
   have e4:(s.kind==4)=true:=by simp;omega
   have n6:(s.kind != 6)=true:=by simp;omega
   have aI:Hid (s.kind=4):=hk
   clear hk
   go_enter Tryz.func82,Tryz.ntmps82
   go_wp2_with fail
   refine (jd C n (d+1) num s.kind 9 deep _ _ eZ hn HD.out HR1).mono ?_
   rintro e w1 ⟨hg,hf⟩
   obtain ⟨rfl,hck⟩:=hf
   have HM:Hid (dJ w C num (dC s xa xc ba bc ea ec) (n+1) w1):=⟨gu hg,hck,je hg (by simp;omega)⟩
   clear hg hck
   obtain ⟨b0,b1,b2,b3,b4,b5,b6,b7⟩:=dQ HM.out.2.2
   obtain ⟨hx,hin⟩:=hX.out.2.1
   have gJ:Hid (aJ B w1 hx s.x xa):=hin.same (HM.out.same dI gI)
   clear hin
   obtain ⟨r2,hr2⟩:∃ r2,r2=Sy.aF d s.x (n+1):=⟨_,rfl⟩
   have HR2:Hid (r2=Sy.aF d s.x (n+1)):=hr2
   clear hr2
   go_wp2_with fail
   refine (jV C B num dI d hx s.x xa xc (n+1) (deep+1) r2 _ (by have:=HD.out;omega) (by omega) gJ HM.out.2.1 hn1 HR2).mono ?_
   rintro e w2 ⟨hg,hf⟩
   cases r2 with
   | error er =>
    have HT:Hid (r=.error er):=hr.out.trans (uf HN.out (by rintro ⟨hq,_⟩;have:=aI.out;omega) (by have:=aI.out;omega) HR2.out.symm)
    obtain rfl:e=.panicked [aH er num]:=hf
    have HG:Hid (w.grownBy w2 (some C)):=aB HM.out.1 hg
    clear hg b0 b1 b2 b3 b4 b5 b6 b7
    go_wp2
    exact ⟨rfl,HG.out,by rw [HT.out];rfl⟩
   | ok m =>
    have hm:m≤2000:=Sy.jw _ _ _ _ hn1 HR2.out.symm
    have kv:Hid (r=Sy.dN (Sy.aO d) s m):=hr.out.trans (uh HN.out (by rintro ⟨hq,_⟩;have:=aI.out;omega) (by have:=aI.out;omega) HR2.out.symm)
    obtain ⟨rfl,hck⟩:=hf
    have aU:Hid (dJ w C num (dC s xa xc ba bc ea ec) m w2):=HM.out.past gI hg hck
    clear hg hck
    clear b0 b1 b2 b3 b4 b5 b6 b7 HM
    have HM:=aU
    clear aU
    obtain ⟨b0,b1,b2,b3,b4,b5,b6,b7⟩:=dQ HM.out.2.2
    have HB:Hid (iw B w2 h s.body ba):=iw.same (HM.out.same dI gI) ⟨hX.out.2.2.1,hX.out.2.2.2.2.1⟩
    obtain ⟨r3,hr3⟩:∃ r3,r3=Sy.cO (Sy.aO d) s.body m:=⟨_,rfl⟩
    have HR3:Hid (r3=Sy.cO (Sy.aO d) s.body m):=hr3
    clear hr3
    go_wp2_with fail
    refine (Cw C B d num dI hS h s.body ba bc m (deep+1) r3 _ (by have:=HD.out;omega) (by omega) HB HM.out.2.1 hm HR3).mono ?_
    rintro e w3 ⟨hg,hf⟩
    cases r3 with
    | error er =>
     have HT:Hid (r=.error er):=kv.out.trans (L9 (by have:=aI.out;omega) HR3.out.symm)
     obtain rfl:e=.panicked [aH er num]:=hf
     have HG:Hid (w.grownBy w3 (some C)):=aB HM.out.1 hg
     clear hg b0 b1 b2 b3 b4 b5 b6 b7
     go_wp2
     exact ⟨rfl,HG.out,by rw [HT.out];rfl⟩
    | ok m2 =>
     have hm2:m2≤2000:=Sy.o8 (Sy.nJ d) hm HR3.out.symm
     obtain ⟨rfl,hck⟩:=hf
     have aU:Hid (dJ w C num (dC s xa xc ba bc ea ec) m2 w3):=HM.out.past gI hg hck
     clear hg hck
     clear b0 b1 b2 b3 b4 b5 b6 b7 HM
     have HM:=aU
     clear aU
     obtain ⟨b0,b1,b2,b3,b4,b5,b6,b7⟩:=dQ HM.out.2.2
     have HT:Hid (r=.ok m2):=kv.out.trans (VX aI.out HR3.out.symm)
     go_wp2
     go_end0
     exact ⟨HM.out.1,by rw [HT.out];exact ⟨rfl,HM.out.2.1⟩⟩
  ·have e1:(s.kind==1)=false:=by simp;omega
   have e2:(s.kind==2)=false:=by simp;omega
   have e7:(s.kind==7)=false:=by simp;omega
   have e3:(s.kind==3)=false:=by simp;omega
   have e4:(s.kind==4)=false:=by simp;omega
   have n6:(s.kind != 6)=true:=by simp;omega
   have aI:Hid (s.kind=5):=hk
   clear hk
   go_enter Tryz.func82,Tryz.ntmps82
   go_wp2_with fail
   refine (jd C n (d+1) num s.kind 9 deep _ _ eZ hn HD.out HR1).mono ?_
   rintro e w1 ⟨hg,hf⟩
   obtain ⟨rfl,hck⟩:=hf
   have HM:Hid (dJ w C num (dC s xa xc ba bc ea ec) (n+1) w1):=⟨gu hg,hck,je hg (by simp;omega)⟩
   clear hg hck
   obtain ⟨b0,b1,b2,b3,b4,b5,b6,b7⟩:=dQ HM.out.2.2
   obtain ⟨hx,hin⟩:=hX.out.2.1
   have gJ:Hid (aJ B w1 hx s.x xa):=hin.same (HM.out.same dI gI)
   clear hin
   obtain ⟨r2,hr2⟩:∃ r2,r2=Sy.aF d s.x (n+1):=⟨_,rfl⟩
   have HR2:Hid (r2=Sy.aF d s.x (n+1)):=hr2
   clear hr2
   go_wp2_with fail
   refine (jV C B num dI d hx s.x xa xc (n+1) (deep+1) r2 _ (by have:=HD.out;omega) (by omega) gJ HM.out.2.1 hn1 HR2).mono ?_
   rintro e w2 ⟨hg,hf⟩
   cases r2 with
   | error er =>
    have HT:Hid (r=.error er):=hr.out.trans (uf HN.out (by rintro ⟨hq,_⟩;have:=aI.out;omega) (by have:=aI.out;omega) HR2.out.symm)
    obtain rfl:e=.panicked [aH er num]:=hf
    have HG:Hid (w.grownBy w2 (some C)):=aB HM.out.1 hg
    clear hg b0 b1 b2 b3 b4 b5 b6 b7
    go_wp2
    exact ⟨rfl,HG.out,by rw [HT.out];rfl⟩
   | ok m =>
    have hm:m≤2000:=Sy.jw _ _ _ _ hn1 HR2.out.symm
    have kv:Hid (r=Sy.dN (Sy.aO d) s m):=hr.out.trans (uh HN.out (by rintro ⟨hq,_⟩;have:=aI.out;omega) (by have:=aI.out;omega) HR2.out.symm)
    obtain ⟨rfl,hck⟩:=hf
    have aU:Hid (dJ w C num (dC s xa xc ba bc ea ec) m w2):=HM.out.past gI hg hck
    clear hg hck
    clear b0 b1 b2 b3 b4 b5 b6 b7 HM
    have HM:=aU
    clear aU
    obtain ⟨b0,b1,b2,b3,b4,b5,b6,b7⟩:=dQ HM.out.2.2
    have HT:Hid (r=.ok m):=kv.out.trans (pJ (by have:=aI.out;omega))
    go_wp2
    go_end0
    exact ⟨HM.out.1,by rw [HT.out];exact ⟨rfl,HM.out.2.1⟩⟩
  ·have e1:(s.kind==1)=false:=by simp;omega
   have e2:(s.kind==2)=false:=by simp;omega
   have e7:(s.kind==7)=false:=by simp;omega
   have e3:(s.kind==3)=false:=by simp;omega
   have e4:(s.kind==4)=false:=by simp;omega
   have n6:(s.kind != 6)=false:=by simp;omega
   have aI:Hid (s.kind=6):=hk
   clear hk
   have HT:Hid (r=.ok (n+1)):=hr.out.trans (VW HN.out aI.out)
   go_enter Tryz.func82,Tryz.ntmps82
   go_wp2_with fail
   refine (jd C n (d+1) num s.kind 9 deep _ _ eZ hn HD.out HR1).mono ?_
   rintro e w1 ⟨hg,hf⟩
   obtain ⟨rfl,hck⟩:=hf
   have HM:Hid (dJ w C num (dC s xa xc ba bc ea ec) (n+1) w1):=⟨gu hg,hck,je hg (by simp;omega)⟩
   clear hg hck
   obtain ⟨b0,b1,b2,b3,b4,b5,b6,b7⟩:=dQ HM.out.2.2
   go_wp2
   go_end0
   exact ⟨HM.out.1,by rw [HT.out];exact ⟨rfl,HM.out.2.1⟩⟩
  ·have e1:(s.kind==1)=false:=by simp;omega
   have e2:(s.kind==2)=false:=by simp;omega
   have e7:(s.kind==7)=true:=by simp;omega
   have e3:(s.kind==3)=false:=by simp;omega
   have e4:(s.kind==4)=false:=by simp;omega
   have n6:(s.kind != 6)=true:=by simp;omega
   have aI:Hid (s.kind=7):=hk
   clear hk
   cases hnm:Sy.nm s.name
   ·have HT:Hid (r=.error 7):=hr.out.trans (FK HN.out ⟨by have:=aI.out;omega,hnm⟩)
    have HK:Hid ((7:Int)=if Sy.nm s.name=false then 7 else 0):=by rw [if_pos hnm];rfl
    clear hnm
    go_enter Tryz.func82,Tryz.ntmps82
    go_wp2_with fail
    refine (jd C n (d+1) num s.kind 9 deep _ _ eZ hn HD.out HR1).mono ?_
    rintro e w1 ⟨hg,hf⟩
    obtain ⟨rfl,hck⟩:=hf
    have HM:Hid (dJ w C num (dC s xa xc ba bc ea ec) (n+1) w1):=⟨gu hg,hck,je hg (by simp;omega)⟩
    clear hg hck
    obtain ⟨b0,b1,b2,b3,b4,b5,b6,b7⟩:=dQ HM.out.2.2
    go_wp2_with fail
    refine (Calls.l9 7 (jM C (n+1) num 7 s.name _ HM.out.2.1 hname HK) rfl (by decide)).mono ?_
    rintro e w2 ⟨rfl,hg⟩
    go_wp2
    exact ⟨rfl,aB HM.out.1 (iO hg _),by rw [HT.out];rfl⟩
   ·have HK:Hid ((0:Int)=if Sy.nm s.name=false then 7 else 0):=by rw [if_neg (by rw [hnm];decide)];rfl
    have ui:Hid (Sy.nm s.name=true):=hnm
    clear hnm
    go_enter Tryz.func82,Tryz.ntmps82
    go_wp2_with fail
    refine (jd C n (d+1) num s.kind 9 deep _ _ eZ hn HD.out HR1).mono ?_
    rintro e w1 ⟨hg,hf⟩
    obtain ⟨rfl,hck⟩:=hf
    have HM:Hid (dJ w C num (dC s xa xc ba bc ea ec) (n+1) w1):=⟨gu hg,hck,je hg (by simp;omega)⟩
    clear hg hck
    obtain ⟨b0,b1,b2,b3,b4,b5,b6,b7⟩:=dQ HM.out.2.2
    go_wp2_with fail
    refine (Calls.ok0 (jM C (n+1) num 0 s.name _ HM.out.2.1 hname HK) rfl).mono ?_
    rintro e w0 ⟨rfl,hg⟩
    have aU:Hid (dJ w C num (dC s xa xc ba bc ea ec) (n+1) w0):=HM.out.on hg
    clear hg
    clear b0 b1 b2 b3 b4 b5 b6 b7 HM
    have HM:=aU
    clear aU
    obtain ⟨b0,b1,b2,b3,b4,b5,b6,b7⟩:=dQ HM.out.2.2
    obtain ⟨hx,hin⟩:=hX.out.2.1
    have gJ:Hid (aJ B w0 hx s.x xa):=hin.same (HM.out.same dI gI)
    clear hin
    obtain ⟨r2,hr2⟩:∃ r2,r2=Sy.aF d s.x (n+1):=⟨_,rfl⟩
    have HR2:Hid (r2=Sy.aF d s.x (n+1)):=hr2
    clear hr2
    go_wp2_with fail
    refine (jV C B num dI d hx s.x xa xc (n+1) (deep+1) r2 _ (by have:=HD.out;omega) (by omega) gJ HM.out.2.1 hn1 HR2).mono ?_
    rintro e w2 ⟨hg,hf⟩
    cases r2 with
    | error er =>
     have HT:Hid (r=.error er):=hr.out.trans (uf HN.out (by rintro ⟨_,hq⟩;rw [ui.out] at hq;exact absurd hq (by decide)) (by have:=aI.out;omega) HR2.out.symm)
     obtain rfl:e=.panicked [aH er num]:=hf
     have HG:Hid (w.grownBy w2 (some C)):=aB HM.out.1 hg
     clear hg b0 b1 b2 b3 b4 b5 b6 b7
     go_wp2
     exact ⟨rfl,HG.out,by rw [HT.out];rfl⟩
    | ok m =>
     have hm:m≤2000:=Sy.jw _ _ _ _ hn1 HR2.out.symm
     have kv:Hid (r=Sy.dN (Sy.aO d) s m):=hr.out.trans (uh HN.out (by rintro ⟨_,hq⟩;rw [ui.out] at hq;exact absurd hq (by decide)) (by have:=aI.out;omega) HR2.out.symm)
     obtain ⟨rfl,hck⟩:=hf
     have aU:Hid (dJ w C num (dC s xa xc ba bc ea ec) m w2):=HM.out.past gI hg hck
     clear hg hck
     clear b0 b1 b2 b3 b4 b5 b6 b7 HM
     have HM:=aU
     clear aU
     obtain ⟨b0,b1,b2,b3,b4,b5,b6,b7⟩:=dQ HM.out.2.2
     have HT:Hid (r=.ok m):=kv.out.trans (pJ (by have:=aI.out;omega))
     go_wp2
     go_end0
     exact ⟨HM.out.1,by rw [HT.out];exact ⟨rfl,HM.out.2.1⟩⟩
  ·have e1:(s.kind==1)=false:=by simp;omega
   have e2:(s.kind==2)=false:=by simp;omega
   have e7:(s.kind==7)=false:=by simp;omega
   have e3:(s.kind==3)=false:=by simp;omega
   have e4:(s.kind==4)=false:=by simp;omega
   have n6:(s.kind != 6)=true:=by simp;omega
   have aI:Hid (s.kind=8):=hk
   clear hk
   go_enter Tryz.func82,Tryz.ntmps82
   go_wp2_with fail
   refine (jd C n (d+1) num s.kind 9 deep _ _ eZ hn HD.out HR1).mono ?_
   rintro e w1 ⟨hg,hf⟩
   obtain ⟨rfl,hck⟩:=hf
   have HM:Hid (dJ w C num (dC s xa xc ba bc ea ec) (n+1) w1):=⟨gu hg,hck,je hg (by simp;omega)⟩
   clear hg hck
   obtain ⟨b0,b1,b2,b3,b4,b5,b6,b7⟩:=dQ HM.out.2.2
   obtain ⟨hx,hin⟩:=hX.out.2.1
   have gJ:Hid (aJ B w1 hx s.x xa):=hin.same (HM.out.same dI gI)
   clear hin
   obtain ⟨r2,hr2⟩:∃ r2,r2=Sy.aF d s.x (n+1):=⟨_,rfl⟩
   have HR2:Hid (r2=Sy.aF d s.x (n+1)):=hr2
   clear hr2
   go_wp2_with fail
   refine (jV C B num dI d hx s.x xa xc (n+1) (deep+1) r2 _ (by have:=HD.out;omega) (by omega) gJ HM.out.2.1 hn1 HR2).mono ?_
   rintro e w2 ⟨hg,hf⟩
   cases r2 with
   | error er =>
    have HT:Hid (r=.error er):=hr.out.trans (uf HN.out (by rintro ⟨hq,_⟩;have:=aI.out;omega) (by have:=aI.out;omega) HR2.out.symm)
    obtain rfl:e=.panicked [aH er num]:=hf
    have HG:Hid (w.grownBy w2 (some C)):=aB HM.out.1 hg
    clear hg b0 b1 b2 b3 b4 b5 b6 b7
    go_wp2
    exact ⟨rfl,HG.out,by rw [HT.out];rfl⟩
   | ok m =>
    have hm:m≤2000:=Sy.jw _ _ _ _ hn1 HR2.out.symm
    have kv:Hid (r=Sy.dN (Sy.aO d) s m):=hr.out.trans (uh HN.out (by rintro ⟨hq,_⟩;have:=aI.out;omega) (by have:=aI.out;omega) HR2.out.symm)
    obtain ⟨rfl,hck⟩:=hf
    have aU:Hid (dJ w C num (dC s xa xc ba bc ea ec) m w2):=HM.out.past gI hg hck
    clear hg hck
    clear b0 b1 b2 b3 b4 b5 b6 b7 HM
    have HM:=aU
    clear aU
    obtain ⟨b0,b1,b2,b3,b4,b5,b6,b7⟩:=dQ HM.out.2.2
    have HT:Hid (r=.ok m):=kv.out.trans (pJ (by have:=aI.out;omega))
    go_wp2
    go_end0
    exact ⟨HM.out.1,by rw [HT.out];exact ⟨rfl,HM.out.2.1⟩⟩
  ·have e1:(s.kind==1)=false:=by simp;omega
   have e2:(s.kind==2)=false:=by simp;omega
   have e7:(s.kind==7)=false:=by simp;omega
   have e3:(s.kind==3)=false:=by simp;omega
   have e4:(s.kind==4)=false:=by simp;omega
   have n6:(s.kind != 6)=true:=by simp;omega
   have aI:Hid (s.kind=9):=hk
   clear hk
   go_enter Tryz.func82,Tryz.ntmps82
   go_wp2_with fail
   refine (jd C n (d+1) num s.kind 9 deep _ _ eZ hn HD.out HR1).mono ?_
   rintro e w1 ⟨hg,hf⟩
   obtain ⟨rfl,hck⟩:=hf
   have HM:Hid (dJ w C num (dC s xa xc ba bc ea ec) (n+1) w1):=⟨gu hg,hck,je hg (by simp;omega)⟩
   clear hg hck
   obtain ⟨b0,b1,b2,b3,b4,b5,b6,b7⟩:=dQ HM.out.2.2
   obtain ⟨hx,hin⟩:=hX.out.2.1
   have gJ:Hid (aJ B w1 hx s.x xa):=hin.same (HM.out.same dI gI)
   clear hin
   obtain ⟨r2,hr2⟩:∃ r2,r2=Sy.aF d s.x (n+1):=⟨_,rfl⟩
   have HR2:Hid (r2=Sy.aF d s.x (n+1)):=hr2
   clear hr2
   go_wp2_with fail
   refine (jV C B num dI d hx s.x xa xc (n+1) (deep+1) r2 _ (by have:=HD.out;omega) (by omega) gJ HM.out.2.1 hn1 HR2).mono ?_
   rintro e w2 ⟨hg,hf⟩
   cases r2 with
   | error er =>
    have HT:Hid (r=.error er):=hr.out.trans (uf HN.out (by rintro ⟨hq,_⟩;have:=aI.out;omega) (by have:=aI.out;omega) HR2.out.symm)
    obtain rfl:e=.panicked [aH er num]:=hf
    have HG:Hid (w.grownBy w2 (some C)):=aB HM.out.1 hg
    clear hg b0 b1 b2 b3 b4 b5 b6 b7
    go_wp2
    exact ⟨rfl,HG.out,by rw [HT.out];rfl⟩
   | ok m =>
    have hm:m≤2000:=Sy.jw _ _ _ _ hn1 HR2.out.symm
    have kv:Hid (r=Sy.dN (Sy.aO d) s m):=hr.out.trans (uh HN.out (by rintro ⟨hq,_⟩;have:=aI.out;omega) (by have:=aI.out;omega) HR2.out.symm)
    obtain ⟨rfl,hck⟩:=hf
    have aU:Hid (dJ w C num (dC s xa xc ba bc ea ec) m w2):=HM.out.past gI hg hck
    clear hg hck
    clear b0 b1 b2 b3 b4 b5 b6 b7 HM
    have HM:=aU
    clear aU
    obtain ⟨b0,b1,b2,b3,b4,b5,b6,b7⟩:=dQ HM.out.2.2
    have HT:Hid (r=.ok m):=kv.out.trans (pJ (by have:=aI.out;omega))
    go_wp2
    go_end0
    exact ⟨HM.out.1,by rw [HT.out];exact ⟨rfl,HM.out.2.1⟩⟩
 ·have hr1':r1=.error (Sy.bB s.kind 9 (d+1) n):=by rw [hr1];unfold jU;rw [if_pos (by simpa using iR)]
  have HR:Hid (r=.error (Sy.bB s.kind 9 (d+1) n)):=hr.out.trans (VV (by simpa using iR))
  obtain ⟨er,her⟩:∃ er,er=Sy.bB s.kind 9 (d+1) n:=⟨_,rfl⟩
  rw [← her] at hr1' HR
  clear hr1 iR her
  subst hr1'
  go_enter Tryz.func82,Tryz.ntmps82
  go_wp2_with fail
  refine (jd C n (d+1) num s.kind 9 deep _ _ eZ hn HD.out HR1).mono ?_
  rintro e w1 ⟨hg,hf⟩
  obtain rfl:e=.panicked [aH er num]:=hf
  go_wp2
  exact ⟨rfl,gu hg,by rw [HR.out];rfl⟩
theorem V4 (C:Nat)(num:Int)(s:Sy.St)(xa:Option Addr)(xc:Nat)(ba:Option Addr)(bc:Nat)(ea:Option Addr)(ec n:Nat)(deep:Int)(r:Except Int Nat)(w:World)(iQ:deep=41 - ((0:Nat):Int))(hC:Hid (CK w C num n))(hn:n≤2000)(hr:Hid (r=Sy.aO 0 s n)) :
  Calls Tryz.prog 82 #[.pointer (some ⟨C,0,none⟩),l7 s xa xc ba bc ea ec,.int .i64 deep] w fun e w'=>w.grownBy w' (some C)∧l8 C num r e w':=by
 have HD:Hid (deep=41 - ((0:Nat):Int)):=iQ
 clear iQ
 have eZ:Hid (CK (w.alloc (dC s xa xc ba bc ea ec)) C num n):=hC.out.alloc _
 have HR:Hid (r=.error 4):=hr.out
 have HR1:Hid (Except.error 4=jU s.kind 9 0 n):=by
  have h4:Sy.bB s.kind 9 0 n=4:=by unfold Sy.bB;rw [if_pos (.inr rfl)]
  unfold jU;rw [h4];rfl
 go_enter Tryz.func82,Tryz.ntmps82
 go_wp2_with fail
 refine (jd C n 0 num s.kind 9 deep _ _ eZ hn HD.out HR1).mono ?_
 rintro e w1 ⟨hg,hf⟩
 obtain rfl:e=.panicked [aH 4 num]:=hf
 go_wp2
 exact ⟨rfl,gu hg,by rw [HR.out];rfl⟩
theorem xJ (C B:Nat)(num:Int)(dI:B≤C):∀ d:Nat,FJ C B num d
 | _,0,_,_,_,_,_,_,_,_,_,_,_,_,_,hX,_,_,_=>hX.out.elim
 | d+1,h+1,s,xa,xc,ba,bc,ea,ec,n,deep,r,w,iQ,hd,hX,hC,hn,hr=>VZ C B d num dI (xJ C B num dI d) h s xa xc ba bc ea ec n deep r w iQ hd hX hC hn hr
 | 0,_+1,s,xa,xc,ba,bc,ea,ec,n,deep,r,w,iQ,_,_,hC,hn,hr=>V4 C num s xa xc ba bc ea ec n deep r w iQ hC hn hr
theorem FL (C B:Nat)(num:Int)(dI:B≤C)(d h:Nat)(l:List Sy.St)(a:Option Addr)(c n:Nat)(deep:Int)(r:Except Int Nat)(w:World)
  (iQ:deep=41 - d) (hd:d≤41) (hX:Hid (iw B w h l a)) (hC:Hid (CK w C num n)) (hn:n≤2000) (hr:Hid (r=Sy.xB d l n)) :
  Calls Tryz.prog 53 #[.pointer (some ⟨C,0,none⟩),.slice a l.length c,.int .i64 deep] w fun e w'=>w.grownBy w' (some C)∧l8 C num r e w' :=
 Cw C B d num dI (xJ C B num dI d) h l a c n deep r w iQ hd hX hC hn hr
theorem eF {w:World}{b:Nat}{v0 v1 v2 v3 v4 v5 v6 v7 v8:Value}{t:TypeId}(h:w.heap[b]?=some (.cells #[v0,v1,v2,v3,v4,v5,v6,v7,v8] t (0,0))) :
  w.cell? ⟨b,0,none⟩=some v0∧w.cell? ⟨b,1,none⟩=some v1∧w.cell? ⟨b,2,none⟩=some v2∧w.cell? ⟨b,3,none⟩=some v3 ∧
  w.cell? ⟨b,4,none⟩=some v4∧w.cell? ⟨b,5,none⟩=some v5∧w.cell? ⟨b,6,none⟩=some v6∧w.cell? ⟨b,7,none⟩=some v7∧w.cell? ⟨b,8,none⟩=some v8:=by simp [World.cell?,h]
abbrev dA (d:Sy.Df) (pa:Option Addr) (pc:Nat) (ba:Option Addr) (bc:Nat):Obj :=
 .cells #[.int .i64 d.kind,.string d.name,.int .i64 d.ty.kind,.string d.ty.gen,.int .i64 d.takes.kind,.string d.takes.gen,.int .i64 d.cap,.slice pa d.params.length pc,.slice ba d.body.length bc] 50 (0,0)
theorem rT {d:Sy.Df}{n:Nat}{k:Int}(h:Sy.fw d n=k)(hk:k≠0):Sy.dX d n=.error k:=by unfold Sy.dX;rw [h,if_pos hk]
def ky (d:Sy.Df):Int :=
 if (d.kind=2∨d.kind=3)∧6<d.params.length then 5
 else if (d.kind=2∨d.kind=3)∧Sy.fU d.params≠0 then Sy.fU d.params
 else if d.kind=3∧Sy.bN d.takes≠0 then Sy.bN d.takes
 else if d.kind≠4∧Sy.bN d.ty≠0 then Sy.bN d.ty
 else if d.kind=1∧(d.cap<1∨20<d.cap) then 3
 else 0
theorem Ma {d:Sy.Df}{n:Nat}(h:Sy.bB d.kind 4 40 n≠0):Sy.fw d n=Sy.bB d.kind 4 40 n:=by unfold Sy.fw;rw [if_pos h]
theorem Mc {d:Sy.Df}{n:Nat}(h:Sy.bB d.kind 4 40 n=0)(hn:Sy.nm d.name=false):Sy.fw d n=7:=by unfold Sy.fw;rw [if_neg (by simpa using h),if_pos hn]
theorem Md {d:Sy.Df}{n:Nat}(h:Sy.bB d.kind 4 40 n=0)(hn:Sy.nm d.name=true):Sy.fw d n=ky d:=by
 unfold Sy.fw ky;rw [if_neg (by simpa using h),if_neg (by rw [hn];decide)]
def lL (d:Sy.Df):Int:=if 6<d.params.length then 5 else Sy.fU d.params
def xK (d:Sy.Df):Int:=if d.cap<1∨20<d.cap then 3 else 0
theorem rest_1 {d:Sy.Df}(h:d.kind=1):ky d=if Sy.bN d.ty≠0 then Sy.bN d.ty else xK d:=by
 unfold ky xK
 rw [if_neg (by omega),if_neg (by omega),if_neg (by omega)]
 by_cases ht:Sy.bN d.ty=0
 ·simp [ht,h]
 ·simp [ht,h]
theorem rest_2 {d:Sy.Df}(h:d.kind=2):ky d=if lL d≠0 then lL d else Sy.bN d.ty:=by
 unfold ky lL
 by_cases hp:6<d.params.length
 ·simp [hp,h]
 ·simp only [hp,h,and_false,if_false,true_or,true_and]
  by_cases h1:Sy.fU d.params=0
  ·simp [h1];intro hq;exact hq.symm
  ·simp [h1]
theorem rest_3 {d:Sy.Df}(h:d.kind=3):ky d=if lL d≠0 then lL d else if Sy.bN d.takes≠0 then Sy.bN d.takes else Sy.bN d.ty:=by
 unfold ky lL
 by_cases hp:6<d.params.length
 ·simp [hp,h]
 ·simp only [hp,h,and_false,if_false,or_true,true_and]
  by_cases h1:Sy.fU d.params=0
  ·by_cases h2:Sy.bN d.takes=0
   ·simp [h1,h2];intro hq;exact hq.symm
   ·simp [h1,h2]
  ·simp [h1]
theorem rest_4 {d:Sy.Df}(h:d.kind=4):ky d=0:=by
 unfold ky
 simp [h]
theorem nN (C B:Nat)(num:Int)(dI:B≤C)(d:Sy.Df)(pa:Option Addr)(pc:Nat)(ba:Option Addr)(bc n:Nat)(r:Except Int Nat)(w:World)(hX:Hid (jL B w d pa ba))(hC:Hid (CK w C num n))(hn:n≤2000)(hr:Hid (r=Sy.dX d n)) :
  Calls Tryz.prog 25 #[.pointer (some ⟨C,0,none⟩),o9 d pa pc ba bc] w fun e w'=>w.grownBy w' (some C)∧l8 C num r e w':=by
 have hname:=hX.out.1
 have FM:=hX.out.2.1
 have V5:=hX.out.2.2.1
 have gI:=hC.out.lt
 have eZ:Hid (CK (w.alloc (dA d pa pc ba bc)) C num n):=hC.out.alloc _
 obtain ⟨r1,hr1⟩:∃ r1,r1=jU d.kind 4 40 n:=⟨_,rfl⟩
 have HR1:Hid (r1=jU d.kind 4 40 n):=hr1
 by_cases iR:Sy.bB d.kind 4 40 n=0
 ·have hr1':r1=.ok (n+1):=by rw [hr1];unfold jU;rw [if_neg (by simpa using iR)]
  obtain ⟨hn1,hk1,hk2,_⟩:=Sy.iC iR
  have HN:Hid (Sy.bB d.kind 4 40 n=0):=iR
  clear iR hr1
  subst hr1'
  cases hnm:Sy.nm d.name
  ·have HT:Hid (r=.error 7):=hr.out.trans (rT (Mc HN.out hnm) (by decide))
   have HK:Hid ((7:Int)=if Sy.nm d.name=false then 7 else 0):=by rw [if_pos hnm];rfl
   clear hnm
   go_enter Tryz.func25,Tryz.ntmps25
   go_wp2_with fail
   refine (jd C n 40 num d.kind 4 1 _ _ eZ hn (by decide) HR1).mono ?_
   rintro e w1 ⟨hg,hf⟩
   obtain ⟨rfl,hck⟩:=hf
   have HM:Hid (dJ w C num (dA d pa pc ba bc) (n+1) w1):=⟨gu hg,hck,je hg (by simp;omega)⟩
   clear hg hck
   obtain ⟨b0,b1,b2,b3,b4,b5,b6,b7,b8⟩:=eF HM.out.2.2
   go_wp2_with fail
   refine (Calls.l9 7 (jM C (n+1) num 7 d.name _ HM.out.2.1 hname HK) rfl (by decide)).mono ?_
   rintro e w2 ⟨rfl,hg⟩
   go_wp2
   exact ⟨rfl,aB HM.out.1 (iO hg _),by rw [HT.out];rfl⟩
  ·have HK:Hid ((0:Int)=if Sy.nm d.name=false then 7 else 0):=by rw [if_neg (by rw [hnm];decide)];rfl
   have kK:Hid (Sy.fw d n=ky d):=Md HN.out hnm
   clear hnm
   rcases (show d.kind=1∨d.kind=2∨d.kind=3∨d.kind=4 by omega) with hk | hk | hk | hk
   ·have e1:(d.kind==1)=true:=by simp;omega
    have e2:(d.kind==2)=false:=by simp;omega
    have e3:(d.kind==3)=false:=by simp;omega
    have n4:(d.kind != 4)=true:=by simp;omega
    have pK:=rest_1 hk
    have aI:Hid (d.kind=1):=hk
    have pM:=kK.out.trans pK
    clear hk pK
    have HV:Hid _:=pM
    clear pM
    go_enter Tryz.func25,Tryz.ntmps25
    go_wp2_with fail
    refine (jd C n 40 num d.kind 4 1 _ _ eZ hn (by decide) HR1).mono ?_
    rintro e w1 ⟨hg,hf⟩
    obtain ⟨rfl,hck⟩:=hf
    have HM:Hid (dJ w C num (dA d pa pc ba bc) (n+1) w1):=⟨gu hg,hck,je hg (by simp;omega)⟩
    clear hg hck
    obtain ⟨b0,b1,b2,b3,b4,b5,b6,b7,b8⟩:=eF HM.out.2.2
    go_wp2_with fail
    refine (Calls.ok0 (jM C (n+1) num 0 d.name _ HM.out.2.1 hname HK) rfl).mono ?_
    rintro e w2 ⟨rfl,hg⟩
    have aU:Hid (dJ w C num (dA d pa pc ba bc) (n+1) w2):=HM.out.on hg
    clear hg
    clear b0 b1 b2 b3 b4 b5 b6 b7 b8 HM
    have HM:=aU
    clear aU
    obtain ⟨b0,b1,b2,b3,b4,b5,b6,b7,b8⟩:=eF HM.out.2.2
    obtain ⟨er,hE⟩:∃ er:Int,er=Sy.bN d.ty:=⟨_,rfl⟩
    have HE:Hid (er=Sy.bN d.ty):=hE
    have HD1:Hid (er≠0→ky d=er):=by
     intro h0
     have h:=kK.out.symm.trans HV.out
     rw [if_pos (by rw [← hE];exact h0),← hE] at h
     exact h
    clear hE
    go_wp2_with fail
    refine (zw C (n+1) num er d.ty _ HM.out.2.1 FM HE).mono ?_
    rintro e wz hf
    have HF:Hid (jb num er _ e wz):=hf
    clear hf
    by_cases h0:er=0
    ·have HZ0:Hid ((Sy.bN d.ty)=0):=HE.out.symm.trans h0
     obtain rfl:=oK HF.out h0
     have aU:Hid (dJ w C num (dA d pa pc ba bc) (n+1) wz):=HM.out.on HF.out.1
     clear HF
     clear b0 b1 b2 b3 b4 b5 b6 b7 b8 HM
     have HM:=aU
     clear aU
     obtain ⟨b0,b1,b2,b3,b4,b5,b6,b7,b8⟩:=eF HM.out.2.2
     clear h0 HE HD1 er
     obtain ⟨er,hE⟩:∃ er:Int,er=xK d:=⟨_,rfl⟩
     have HE:Hid (er=xK d):=hE
     have HD1:Hid (er≠0→ky d=er):=by
      intro h0
      have h:=kK.out.symm.trans HV.out
      rw [if_neg (by simpa using HZ0.out)] at h
      rw [← hE] at h
      exact h
     clear hE
     go_wp2_with fail
     refine (zq C (n+1) num d.cap 1 20 er _ HM.out.2.1 HE).mono ?_
     rintro e wz hf
     have HF:Hid (jb num er _ e wz):=hf
     clear hf
     by_cases h0:er=0
     ·have HZ1:Hid ((xK d)=0):=HE.out.symm.trans h0
      obtain rfl:=oK HF.out h0
      have aU:Hid (dJ w C num (dA d pa pc ba bc) (n+1) wz):=HM.out.on HF.out.1
      clear HF
      clear b0 b1 b2 b3 b4 b5 b6 b7 b8 HM
      have HM:=aU
      clear aU
      obtain ⟨b0,b1,b2,b3,b4,b5,b6,b7,b8⟩:=eF HM.out.2.2
      clear h0 HE HD1 er
      have HT:Hid (r=.ok (n+1)):=by
       have hz:Sy.fw d n=0:=by
        have h:=HV.out
        rw [if_neg (by simpa using HZ0.out)] at h
        rw [HZ1.out] at h
        exact h
       have:=hr.out;unfold Sy.dX at this;rw [hz,if_neg (by decide),if_pos aI.out] at this;exact this
      go_wp2
      refine bodyPost_ret (results_none rfl _ _ _) rfl ?_
      exact ⟨HM.out.1,by rw [HT.out];exact ⟨rfl,HM.out.2.1⟩⟩
     ·skip
      obtain rfl:=oL HF.out h0
      have HT:Hid (r=.error er):=hr.out.trans (rT (kK.out.trans (HD1.out h0)) h0)
      have HG:Hid (w.grownBy wz (some C)):=aB HM.out.1 (iO HF.out.1 _)
      clear h0 b0 b1 b2 b3 b4 b5 b6 b7 b8
      go_wp2
      exact ⟨rfl,HG.out,by rw [HT.out];rfl⟩
    ·skip
     obtain rfl:=oL HF.out h0
     have HT:Hid (r=.error er):=hr.out.trans (rT (kK.out.trans (HD1.out h0)) h0)
     have HG:Hid (w.grownBy wz (some C)):=aB HM.out.1 (iO HF.out.1 _)
     clear h0 b0 b1 b2 b3 b4 b5 b6 b7 b8
     go_wp2
     exact ⟨rfl,HG.out,by rw [HT.out];rfl⟩
   ·have e1:(d.kind==1)=false:=by simp;omega
    have e2:(d.kind==2)=true:=by simp;omega
    have e3:(d.kind==3)=false:=by simp;omega
    have n4:(d.kind != 4)=true:=by simp;omega
    have pK:=rest_2 hk
    have aI:Hid (d.kind=2):=hk
    have pM:=kK.out.trans pK
    clear hk pK
    have HV:Hid _:=pM
    clear pM
    go_enter Tryz.func25,Tryz.ntmps25
    go_wp2_with fail
    refine (jd C n 40 num d.kind 4 1 _ _ eZ hn (by decide) HR1).mono ?_
    rintro e w1 ⟨hg,hf⟩
    obtain ⟨rfl,hck⟩:=hf
    have HM:Hid (dJ w C num (dA d pa pc ba bc) (n+1) w1):=⟨gu hg,hck,je hg (by simp;omega)⟩
    clear hg hck
    obtain ⟨b0,b1,b2,b3,b4,b5,b6,b7,b8⟩:=eF HM.out.2.2
    go_wp2_with fail
    refine (Calls.ok0 (jM C (n+1) num 0 d.name _ HM.out.2.1 hname HK) rfl).mono ?_
    rintro e w2 ⟨rfl,hg⟩
    have aU:Hid (dJ w C num (dA d pa pc ba bc) (n+1) w2):=HM.out.on hg
    clear hg
    clear b0 b1 b2 b3 b4 b5 b6 b7 b8 HM
    have HM:=aU
    clear aU
    obtain ⟨b0,b1,b2,b3,b4,b5,b6,b7,b8⟩:=eF HM.out.2.2
    obtain ⟨er,hE⟩:∃ er:Int,er=lL d:=⟨_,rfl⟩
    have HE:Hid (er=lL d):=hE
    have HD1:Hid (er≠0→ky d=er):=by
     intro h0
     have h:=kK.out.symm.trans HV.out
     rw [if_pos (by rw [← hE];exact h0),← hE] at h
     exact h
    clear hE
    go_wp2_with fail
    refine (zx C B (n+1) num er d.params pa pc _ dI HM.out.2.1 (hX.out.2.2.2.1.same (HM.out.same dI gI)) HE).mono ?_
    rintro e wz hf
    have HF:Hid (jb num er _ e wz):=hf
    clear hf
    by_cases h0:er=0
    ·have HZ0:Hid ((lL d)=0):=HE.out.symm.trans h0
     obtain rfl:=oK HF.out h0
     have aU:Hid (dJ w C num (dA d pa pc ba bc) (n+1) wz):=HM.out.on HF.out.1
     clear HF
     clear b0 b1 b2 b3 b4 b5 b6 b7 b8 HM
     have HM:=aU
     clear aU
     obtain ⟨b0,b1,b2,b3,b4,b5,b6,b7,b8⟩:=eF HM.out.2.2
     clear h0 HE HD1 er
     obtain ⟨er,hE⟩:∃ er:Int,er=Sy.bN d.ty:=⟨_,rfl⟩
     have HE:Hid (er=Sy.bN d.ty):=hE
     have HD1:Hid (er≠0→ky d=er):=by
      intro h0
      have h:=kK.out.symm.trans HV.out
      rw [if_neg (by simpa using HZ0.out)] at h
      rw [← hE] at h
      exact h
     clear hE
     go_wp2_with fail
     refine (zw C (n+1) num er d.ty _ HM.out.2.1 FM HE).mono ?_
     rintro e wz hf
     have HF:Hid (jb num er _ e wz):=hf
     clear hf
     by_cases h0:er=0
     ·have HZ1:Hid ((Sy.bN d.ty)=0):=HE.out.symm.trans h0
      obtain rfl:=oK HF.out h0
      have aU:Hid (dJ w C num (dA d pa pc ba bc) (n+1) wz):=HM.out.on HF.out.1
      clear HF
      clear b0 b1 b2 b3 b4 b5 b6 b7 b8 HM
      have HM:=aU
      clear aU
      obtain ⟨b0,b1,b2,b3,b4,b5,b6,b7,b8⟩:=eF HM.out.2.2
      clear h0 HE HD1 er
      have HT:Hid (r=Sy.xB 39 d.body (n+1)):=by
       have hz:Sy.fw d n=0:=by
        have h:=HV.out
        rw [if_neg (by simpa using HZ0.out)] at h
        rw [HZ1.out] at h
        exact h
       have:=hr.out;unfold Sy.dX at this;rw [hz,if_neg (by decide),if_neg (by have:=aI.out;omega)] at this;exact this
      obtain ⟨hb,kV⟩:=hX.out.2.2.2.2
      have HB:Hid (iw B wz hb d.body ba):=kV.same (HM.out.same dI gI)
      clear kV
      go_wp2_with fail
      refine (FL C B num dI 39 hb d.body ba bc (n+1) 2 r _ (by decide) (by decide) HB HM.out.2.1 hn1 HT).mono ?_
      rintro e w4 ⟨hg,hf⟩
      have HG:Hid (w.grownBy w4 (some C)):=aB HM.out.1 hg
      have HF:Hid (l8 C num r e w4):=hf
      clear hg b0 b1 b2 b3 b4 b5 b6 b7 b8
      cases r with
      | error er =>
       obtain rfl:e=.panicked [aH er num]:=hf
       go_wp2
       exact ⟨rfl,HG.out,rfl⟩
      | ok m3 =>
       obtain ⟨rfl,hck⟩:=hf
       clear hck
       go_wp2
       go_end0
       exact ⟨HG.out,HF.out⟩
     ·skip
      obtain rfl:=oL HF.out h0
      have HT:Hid (r=.error er):=hr.out.trans (rT (kK.out.trans (HD1.out h0)) h0)
      have HG:Hid (w.grownBy wz (some C)):=aB HM.out.1 (iO HF.out.1 _)
      clear h0 b0 b1 b2 b3 b4 b5 b6 b7 b8
      go_wp2
      exact ⟨rfl,HG.out,by rw [HT.out];rfl⟩
    ·skip
     obtain rfl:=oL HF.out h0
     have HT:Hid (r=.error er):=hr.out.trans (rT (kK.out.trans (HD1.out h0)) h0)
     have HG:Hid (w.grownBy wz (some C)):=aB HM.out.1 (iO HF.out.1 _)
     clear h0 b0 b1 b2 b3 b4 b5 b6 b7 b8
     go_wp2
     exact ⟨rfl,HG.out,by rw [HT.out];rfl⟩
   ·have e1:(d.kind==1)=false:=by simp;omega
    have e2:(d.kind==2)=false:=by simp;omega
    have e3:(d.kind==3)=true:=by simp;omega
    have n4:(d.kind != 4)=true:=by simp;omega
    have pK:=rest_3 hk
    have aI:Hid (d.kind=3):=hk
    have pM:=kK.out.trans pK
    clear hk pK
    have HV:Hid _:=pM
    clear pM
    go_enter Tryz.func25,Tryz.ntmps25
    go_wp2_with fail
    refine (jd C n 40 num d.kind 4 1 _ _ eZ hn (by decide) HR1).mono ?_
    rintro e w1 ⟨hg,hf⟩
    obtain ⟨rfl,hck⟩:=hf
    have HM:Hid (dJ w C num (dA d pa pc ba bc) (n+1) w1):=⟨gu hg,hck,je hg (by simp;omega)⟩
    clear hg hck
    obtain ⟨b0,b1,b2,b3,b4,b5,b6,b7,b8⟩:=eF HM.out.2.2
    go_wp2_with fail
    refine (Calls.ok0 (jM C (n+1) num 0 d.name _ HM.out.2.1 hname HK) rfl).mono ?_
    rintro e w2 ⟨rfl,hg⟩
    have aU:Hid (dJ w C num (dA d pa pc ba bc) (n+1) w2):=HM.out.on hg
    clear hg
    clear b0 b1 b2 b3 b4 b5 b6 b7 b8 HM
    have HM:=aU
    clear aU
    obtain ⟨b0,b1,b2,b3,b4,b5,b6,b7,b8⟩:=eF HM.out.2.2
    obtain ⟨er,hE⟩:∃ er:Int,er=lL d:=⟨_,rfl⟩
    have HE:Hid (er=lL d):=hE
    have HD1:Hid (er≠0→ky d=er):=by
     intro h0
     have h:=kK.out.symm.trans HV.out
     rw [if_pos (by rw [← hE];exact h0),← hE] at h
     exact h
    clear hE
    go_wp2_with fail
    refine (zx C B (n+1) num er d.params pa pc _ dI HM.out.2.1 (hX.out.2.2.2.1.same (HM.out.same dI gI)) HE).mono ?_
    rintro e wz hf
    have HF:Hid (jb num er _ e wz):=hf
    clear hf
    by_cases h0:er=0
    ·have HZ0:Hid ((lL d)=0):=HE.out.symm.trans h0
     obtain rfl:=oK HF.out h0
     have aU:Hid (dJ w C num (dA d pa pc ba bc) (n+1) wz):=HM.out.on HF.out.1
     clear HF
     clear b0 b1 b2 b3 b4 b5 b6 b7 b8 HM
     have HM:=aU
     clear aU
     obtain ⟨b0,b1,b2,b3,b4,b5,b6,b7,b8⟩:=eF HM.out.2.2
     clear h0 HE HD1 er
     obtain ⟨er,hE⟩:∃ er:Int,er=Sy.bN d.takes:=⟨_,rfl⟩
     have HE:Hid (er=Sy.bN d.takes):=hE
     have HD1:Hid (er≠0→ky d=er):=by
      intro h0
      have h:=kK.out.symm.trans HV.out
      rw [if_neg (by simpa using HZ0.out)] at h
      rw [if_pos (by rw [← hE];exact h0),← hE] at h
      exact h
     clear hE
     go_wp2_with fail
     refine (zw C (n+1) num er d.takes _ HM.out.2.1 V5 HE).mono ?_
     rintro e wz hf
     have HF:Hid (jb num er _ e wz):=hf
     clear hf
     by_cases h0:er=0
     ·have HZ1:Hid ((Sy.bN d.takes)=0):=HE.out.symm.trans h0
      obtain rfl:=oK HF.out h0
      have aU:Hid (dJ w C num (dA d pa pc ba bc) (n+1) wz):=HM.out.on HF.out.1
      clear HF
      clear b0 b1 b2 b3 b4 b5 b6 b7 b8 HM
      have HM:=aU
      clear aU
      obtain ⟨b0,b1,b2,b3,b4,b5,b6,b7,b8⟩:=eF HM.out.2.2
      clear h0 HE HD1 er
      obtain ⟨er,hE⟩:∃ er:Int,er=Sy.bN d.ty:=⟨_,rfl⟩
      have HE:Hid (er=Sy.bN d.ty):=hE
      have HD1:Hid (er≠0→ky d=er):=by
       intro h0
       have h:=kK.out.symm.trans HV.out
       rw [if_neg (by simpa using HZ0.out)] at h
       rw [if_neg (by simpa using HZ1.out)] at h
       rw [← hE] at h
       exact h
      clear hE
      go_wp2_with fail
      refine (zw C (n+1) num er d.ty _ HM.out.2.1 FM HE).mono ?_
      rintro e wz hf
      have HF:Hid (jb num er _ e wz):=hf
      clear hf
      by_cases h0:er=0
      ·have HZ2:Hid ((Sy.bN d.ty)=0):=HE.out.symm.trans h0
       obtain rfl:=oK HF.out h0
       have aU:Hid (dJ w C num (dA d pa pc ba bc) (n+1) wz):=HM.out.on HF.out.1
       clear HF
       clear b0 b1 b2 b3 b4 b5 b6 b7 b8 HM
       have HM:=aU
       clear aU
       obtain ⟨b0,b1,b2,b3,b4,b5,b6,b7,b8⟩:=eF HM.out.2.2
       clear h0 HE HD1 er
       have HT:Hid (r=Sy.xB 39 d.body (n+1)):=by
        have hz:Sy.fw d n=0:=by
         have h:=HV.out
         rw [if_neg (by simpa using HZ0.out)] at h
         rw [if_neg (by simpa using HZ1.out)] at h
         rw [HZ2.out] at h
         exact h
        have:=hr.out;unfold Sy.dX at this;rw [hz,if_neg (by decide),if_neg (by have:=aI.out;omega)] at this;exact this
       obtain ⟨hb,kV⟩:=hX.out.2.2.2.2
       have HB:Hid (iw B wz hb d.body ba):=kV.same (HM.out.same dI gI)
       clear kV
       go_wp2_with fail
       refine (FL C B num dI 39 hb d.body ba bc (n+1) 2 r _ (by decide) (by decide) HB HM.out.2.1 hn1 HT).mono ?_
       rintro e w4 ⟨hg,hf⟩
       have HG:Hid (w.grownBy w4 (some C)):=aB HM.out.1 hg
       have HF:Hid (l8 C num r e w4):=hf
       clear hg b0 b1 b2 b3 b4 b5 b6 b7 b8
       cases r with
       | error er =>
        obtain rfl:e=.panicked [aH er num]:=hf
        go_wp2
        exact ⟨rfl,HG.out,rfl⟩
       | ok m3 =>
        obtain ⟨rfl,hck⟩:=hf
        clear hck
        go_wp2
        go_end0
        exact ⟨HG.out,HF.out⟩
      ·skip
       obtain rfl:=oL HF.out h0
       have HT:Hid (r=.error er):=hr.out.trans (rT (kK.out.trans (HD1.out h0)) h0)
       have HG:Hid (w.grownBy wz (some C)):=aB HM.out.1 (iO HF.out.1 _)
       clear h0 b0 b1 b2 b3 b4 b5 b6 b7 b8
       go_wp2
       exact ⟨rfl,HG.out,by rw [HT.out];rfl⟩
     ·skip
      obtain rfl:=oL HF.out h0
      have HT:Hid (r=.error er):=hr.out.trans (rT (kK.out.trans (HD1.out h0)) h0)
      have HG:Hid (w.grownBy wz (some C)):=aB HM.out.1 (iO HF.out.1 _)
      clear h0 b0 b1 b2 b3 b4 b5 b6 b7 b8
      go_wp2
      exact ⟨rfl,HG.out,by rw [HT.out];rfl⟩
    ·skip
     obtain rfl:=oL HF.out h0
     have HT:Hid (r=.error er):=hr.out.trans (rT (kK.out.trans (HD1.out h0)) h0)
     have HG:Hid (w.grownBy wz (some C)):=aB HM.out.1 (iO HF.out.1 _)
     clear h0 b0 b1 b2 b3 b4 b5 b6 b7 b8
     go_wp2
     exact ⟨rfl,HG.out,by rw [HT.out];rfl⟩
   ·have e1:(d.kind==1)=false:=by simp;omega
    have e2:(d.kind==2)=false:=by simp;omega
    have e3:(d.kind==3)=false:=by simp;omega
    have n4:(d.kind != 4)=false:=by simp;omega
    have pK:=rest_4 hk
    have aI:Hid (d.kind=4):=hk
    have pM:=kK.out.trans pK
    clear hk pK
    have HV:Hid _:=pM
    clear pM
    go_enter Tryz.func25,Tryz.ntmps25
    go_wp2_with fail
    refine (jd C n 40 num d.kind 4 1 _ _ eZ hn (by decide) HR1).mono ?_
    rintro e w1 ⟨hg,hf⟩
    obtain ⟨rfl,hck⟩:=hf
    have HM:Hid (dJ w C num (dA d pa pc ba bc) (n+1) w1):=⟨gu hg,hck,je hg (by simp;omega)⟩
    clear hg hck
    obtain ⟨b0,b1,b2,b3,b4,b5,b6,b7,b8⟩:=eF HM.out.2.2
    go_wp2_with fail
    refine (Calls.ok0 (jM C (n+1) num 0 d.name _ HM.out.2.1 hname HK) rfl).mono ?_
    rintro e w2 ⟨rfl,hg⟩
    have aU:Hid (dJ w C num (dA d pa pc ba bc) (n+1) w2):=HM.out.on hg
    clear hg
    clear b0 b1 b2 b3 b4 b5 b6 b7 b8 HM
    have HM:=aU
    clear aU
    obtain ⟨b0,b1,b2,b3,b4,b5,b6,b7,b8⟩:=eF HM.out.2.2
    have HT:Hid (r=Sy.xB 39 d.body (n+1)):=by
     have hz:Sy.fw d n=0:=HV.out
     have:=hr.out;unfold Sy.dX at this;rw [hz,if_neg (by decide),if_neg (by have:=aI.out;omega)] at this;exact this
    obtain ⟨hb,kV⟩:=hX.out.2.2.2.2
    have HB:Hid (iw B w2 hb d.body ba):=kV.same (HM.out.same dI gI)
    clear kV
    go_wp2_with fail
    refine (FL C B num dI 39 hb d.body ba bc (n+1) 2 r _ (by decide) (by decide) HB HM.out.2.1 hn1 HT).mono ?_
    rintro e w4 ⟨hg,hf⟩
    have HG:Hid (w.grownBy w4 (some C)):=aB HM.out.1 hg
    have HF:Hid (l8 C num r e w4):=hf
    clear hg b0 b1 b2 b3 b4 b5 b6 b7 b8
    cases r with
    | error er =>
     obtain rfl:e=.panicked [aH er num]:=hf
     go_wp2
     exact ⟨rfl,HG.out,rfl⟩
    | ok m3 =>
     obtain ⟨rfl,hck⟩:=hf
     clear hck
     go_wp2
     go_end0
     exact ⟨HG.out,HF.out⟩
 ·have hr1':r1=.error (Sy.bB d.kind 4 40 n):=by rw [hr1];unfold jU;rw [if_pos (by simpa using iR)]
  have HR:Hid (r=.error (Sy.bB d.kind 4 40 n)):=hr.out.trans (rT (Ma (by simpa using iR)) (by simpa using iR))
  obtain ⟨er,her⟩:∃ er,er=Sy.bB d.kind 4 40 n:=⟨_,rfl⟩
  rw [← her] at hr1' HR
  clear hr1 iR her
  subst hr1'
  go_enter Tryz.func25,Tryz.ntmps25
  go_wp2_with fail
  refine (jd C n 40 num d.kind 4 1 _ _ eZ hn (by decide) HR1).mono ?_
  rintro e w1 ⟨hg,hf⟩
  obtain rfl:e=.panicked [aH er num]:=hf
  go_wp2
  exact ⟨rfl,gu hg,by rw [HR.out];rfl⟩
theorem Me {l:List Sy.Df}{k:Nat}{d:Sy.Df}(h:l[k]?=some d)(i n:Nat) :
  Sy.iB (l.drop k) i n=match Sy.dX d n with | .error e=>(e,i) | .ok m=>Sy.iB (l.drop (k+1)) (i+1) m:=by
 obtain ⟨hk,rfl⟩:=List.getElem?_eq_some_iff.1 h
 rw [List.drop_eq_getElem_cons hk]
 rfl
theorem Cy {l:List Sy.Df}{k i n m:Nat}{d:Sy.Df}(h:l[k]?=some d)(hd:Sy.dX d n=.ok m):Sy.iB (l.drop k) i n=Sy.iB (l.drop (k+1)) (i+1) m:=by rw [Me h,hd]
theorem V7 {l:List Sy.Df}{k i n:Nat}{d:Sy.Df}{e:Int}(h:l[k]?=some d)(hd:Sy.dX d n=.error e):Sy.iB (l.drop k) i n=(e,i):=by rw [Me h,hd]
theorem V8 {d:Sy.Df}{n m:Nat}(h:Sy.dX d n=.ok m):m≤2000:=by
 unfold Sy.dX at h
 split at h
 ·simp at h
 ·rename_i h0
  have hz:Sy.bB d.kind 4 40 n=0:=by
   have h1:Sy.fw d n=0:=by simpa using h0
   unfold Sy.fw at h1
   split at h1
   ·rename_i h2;exact absurd h1 h2
   ·rename_i h2;simpa using h2
  have:=Sy.iC hz
  split at h
  ·simp at h;omega
  ·exact Sy.o8 (Sy.nJ 39) (by omega) h
def qJ (er num:Int)(e:Ending):Prop:=e=if er=0 then .returned (.tuple #[]) else .panicked [aH er num]
theorem Mf {er num:Int}(h:er=0):qJ er num (.returned (.tuple #[])):=by unfold qJ;rw [if_pos h]
theorem FN {er num k:Int}(h:er=k)(hk:k≠0):qJ er num (.panicked [aH k num]):=by unfold qJ;rw [h,if_neg hk]
theorem zz {d:Sy.Df}{n:Nat}{e:Int}(h:Sy.dX d n=.error e):e≠0:=by
 have hr:∀ {α:Type} (f:α→Nat→Except Int Nat),(∀ a n e,f a n=.error e→e≠0)→∀ (l:List α) (n:Nat) (e:Int),Sy.runs f l n=.error e→e≠0:=by
  intro α f hf l
  induction l with
  | nil=>intro n e h;simp [Sy.runs] at h
  | cons a l ih =>
   intro n e h
   unfold Sy.runs at h
   cases ha:f a n with
   | error e'=>rw [ha] at h;simp at h;subst h;exact hf a n e' ha
   | ok m=>rw [ha] at h;exact ih m e h
 have hx:∀ (k:Nat) (x:Sy.Ex) (n:Nat) (e:Int),Sy.aF k x n=.error e→e≠0:=by
  intro k
  induction k with
  | zero=>intro x n e h;simp [Sy.aF] at h;omega
  | succ k ih =>
   intro x n e h
   unfold Sy.aF at h
   split at h
   ·simp at h;subst h;assumption
   ·split at h
    ·simp at h;subst h;assumption
    ·exact hr _ ih _ _ _ h
 have hb:∀ (f:Sy.St→Nat→Except Int Nat),(∀ a n e,f a n=.error e→e≠0)→∀ (l:List Sy.St) (n:Nat) (e:Int),Sy.cO f l n=.error e→e≠0:=by
  intro f hf l n e h
  unfold Sy.cO at h
  split at h
  ·simp at h;omega
  ·exact hr f hf _ _ _ h
 have hs:∀ (k:Nat) (s:Sy.St) (n:Nat) (e:Int),Sy.aO k s n=.error e→e≠0:=by
  intro k
  induction k with
  | zero=>intro x n e h;simp [Sy.aO] at h;omega
  | succ k ih =>
   intro s n e h
   unfold Sy.aO at h
   split at h
   ·simp at h;subst h;assumption
   ·split at h
    ·simp at h;omega
    ·split at h
     ·simp at h
     ·cases he:Sy.aF k s.x (n+1) with
      | error e'=>rw [he] at h;simp at h;subst h;exact hx _ _ _ _ he
      | ok m =>
       rw [he] at h
       simp only [Sy.dN] at h
       split at h
       ·cases hbb:Sy.cO (Sy.aO k) s.body m with
        | error e'=>rw [hbb] at h;simp at h;subst h;exact hb _ ih _ _ _ hbb
        | ok m2 =>
         rw [hbb] at h
         simp only at h
         split at h
         ·exact hb _ ih _ _ _ h
         ·simp at h
       ·simp at h
 unfold Sy.dX at h
 split at h
 ·simp at h;subst h;assumption
 ·split at h
  ·simp at h
  ·exact hb _ (hs 39) _ _ _ h
theorem V9 (B L:Nat)(l:List Sy.Df)(a:Option Addr)(c:Nat)(er:Int)(at':Nat)(w:World)(hL:w.heap[L]?=some (.cells #[.slice a l.length c] 22 (0,0)))(hX:Hid (dS B w l a))(hB:B≤w.heap.size)(hr:Hid ((er,at')=Sy.dx l)) :
  Calls Tryz.prog 23 #[.pointer (some ⟨L,0,none⟩)] w fun e w'=>w.grownBy w' none∧qJ er at' e:=by
 have hLl:=lt_of_block hL
 have HL:Hid (w.heap[L]?=some (.cells #[.slice a l.length c] 22 (0,0))):=hL
 have cL:=cell_of_one hL
 have hlen:=hX.out.1
 unfold maxLen at hlen
 have eZ:Hid (CK (w.alloc (.cells #[.int .i64 0,.int .i64 0] 72)) w.heap.size 0 0):=heap_alloc_new w _
 clear hL
 by_cases Cz:30<l.length
 ·have HT:Hid (er=5∧at'=0):=by
   have:=hr.out;unfold Sy.dx at this;rw [if_pos Cz] at this;exact ⟨congrArg Prod.fst this,congrArg Prod.snd this⟩
  have HK:Hid ((5:Int)=if (30:Int)<(l.length:Int) then 5 else 0):=by rw [if_pos (by omega)];rfl
  clear Cz
  go_enter Tryz.func23,Tryz.ntmps23
  go_wp2_with fail
  refine (Calls.l9 5 (tQ w.heap.size 0 0 l.length 30 5 _ eZ HK) rfl (by decide)).mono ?_
  rintro e w2 ⟨rfl,hg⟩
  go_wp2
  exact ⟨rfl,gu hg,by rw [HT.out.2];exact FN HT.out.1 (by decide)⟩
 ·have HT:Hid ((er,at')=Sy.iB l 0 0):=by have:=hr.out;unfold Sy.dx at this;rw [if_neg Cz] at this;exact this
  have HK:Hid ((0:Int)=if (30:Int)<(l.length:Int) then 5 else 0):=by rw [if_neg (by omega)];rfl
  clear Cz
  go_enter Tryz.func23,Tryz.ntmps23
  go_wp2_with fail
  refine (Calls.ok0 (tQ w.heap.size 0 0 l.length 30 0 _ eZ HK) rfl).mono ?_
  rintro e w2 ⟨rfl,hg⟩
  have HG2:Hid (w.grownBy w2 none):=gu hg
  have iD:Hid (CK w2 w.heap.size 0 0):=eZ.out.keep hg (by simp)
  have We:=cell_of_one (vD HL.out HG2.out (by simp))
  clear hg
  go_wp2
  go_loopw [9] (fun i wr=>∃ k m:Nat,k≤l.length∧i=.int .i64 k∧m≤2000∧Hid (∃ num,CK wr w.heap.size num m)∧Hid (w.grownBy wr none)∧Hid ((er,at')=Sy.iB (l.drop k) k m)) (fun i _=>l.length - (intOf i).toNat)
  case atStart=>exact ⟨0,0,Nat.zero_le _,rfl,Nat.zero_le _,⟨0,iD.out⟩,HG2,by rw [List.drop_zero];exact HT⟩
  case round =>
   obtain ⟨k,m,hk,rfl,hm,pF,iP,ae⟩:=hrel
   clear cL We
   by_cases hlt:k<l.length
   ·obtain ⟨d,hd⟩:∃ d,l[k]?=some d:=⟨_,List.getElem?_eq_getElem hlt⟩
    have HD:Hid (l[k]?=some d):=hd
    obtain ⟨b,off,pa,pc,ba,bc,rfl,hb,c0,c1,c2,c3,c4,c5,c6,c7,c8,hin⟩:=hX.out.2 k d hd
    have hsame:=dK (B:=B) iP.out (by simp) (by omega)
    rw [← hsame _ _ hb] at c0 c1 c2 c3 c4 c5 c6 c7 c8
    have gJ:Hid (jL B wr d pa ba):=hin.same hsame
    clear hin hsame hd
    obtain ⟨num,hck⟩:=pF.out
    obtain ⟨r2,hr2⟩:∃ r2,r2=Sy.dX d m:=⟨_,rfl⟩
    have HR2:Hid (r2=Sy.dX d m):=hr2
    have Wh:Hid (CK wr w.heap.size num m):=hck
    have hnz:=CK.cells hck
    obtain ⟨q0,q1,q2,q3⟩:=hnz
    have hwr:w.heap.size<wr.heap.size:=hck.lt
    clear hr2 pF hck
    have mK:Hid (CK ((wr.setCell ⟨w.heap.size,0,none⟩ (.int .i64 (k:Int))).alloc (dA d pa pc ba bc)) w.heap.size k m):=Wh.out.set0.alloc _
    have aK:Hid (wr.grownBy ((wr.setCell ⟨w.heap.size,0,none⟩ (.int .i64 (k:Int))).alloc (dA d pa pc ba bc)) (some w.heap.size)):=aB (gQ _ _ _ _) (World.grownBy_alloc _ _ _)
    go_wp2_with fail
    refine (nN w.heap.size B k hB d pa pc ba bc m r2 _ (gJ.out.same (dK aK.out (by intro c e;cases e;exact hB) (by omega))) mK hm HR2).mono ?_
    rintro e w3 ⟨hg,hf⟩
    have aX:Hid (w.grownBy w3 none):=by
     have h1:=aB aK.out hg
     exact ⟨h1.os.trans iP.out.os,h1.tape.trans iP.out.tape,h1.output.trans iP.out.output,Nat.le_trans iP.out.size h1.size,fun j hj _=>(h1.block j (by have:=iP.out.size;omega) (by simp;omega)).trans (iP.out.block j hj (by simp))⟩
    cases r2 with
    | ok m2 =>
     obtain ⟨rfl,hck⟩:=hf
     have xL:Hid (∃ num,CK w3 w.heap.size num m2):=⟨_,hck⟩
     have hm2:m2≤2000:=V8 HR2.out.symm
     have HR3:Hid ((er,at')=Sy.iB (l.drop (k+1)) (k+1) m2):=ae.out.trans (Cy HD.out HR2.out.symm)
     clear hg hck c0 c1 c2 c3 c4 c5 c6 c7 c8 q0 q1 q2 q3
     go_wp2
     go_roundw
     case rel=>exact ⟨k+1,m2,by omega,by go_num,hm2,xL,aX,HR3⟩
     case measure=>simp [intOf];omega
    | error nM =>
     obtain rfl:e=.panicked [aH nM k]:=hf
     have HR3:Hid (er=nM∧at'=k):=by
      have:=ae.out.trans (V7 HD.out HR2.out.symm)
      exact ⟨congrArg Prod.fst this,congrArg Prod.snd this⟩
     have hne:Hid (nM≠0):=zz HR2.out.symm
     clear hg c0 c1 c2 c3 c4 c5 c6 c7 c8 q0 q1 q2 q3
     go_wp2
     exact ⟨rfl,aX.out,by rw [HR3.out.2];exact FN HR3.out.1 hne.out⟩
   ·have HR3:Hid (er=0∧at'=0):=by
     have:=ae.out
     rw [List.drop_of_length_le (by omega)] at this
     exact ⟨congrArg Prod.fst this,congrArg Prod.snd this⟩
    go_wp2
    go_end0
    exact ⟨iP.out,Mf HR3.out.1⟩
theorem Wi (v:Value)(w:World):(Instr.typeAssert (.iface 26 v) 20 26 false).run Tryz.prog w=.ok v w:=by kernel_rfl
theorem Wj (F:Nat)(er num:Int)(older:List PanicEntry)(w:World)(hF:w.heap[F]?=some (.cells #[.int .i64 0,.int .i64 0] 26 (0,0))) :
  CallsD Tryz.prog 33 #[.pointer (some ⟨F,0,none⟩)] (.panicking (aH er num :: older)) w fun e u' w' =>
   e=.returned (.tuple #[])∧u'=.panicking ({ v:=.iface 26 (.agg #[.int .i64 er,.int .i64 num]),recovered:=true } :: older)∧w'=(w.setCell ⟨F,0,none⟩ (.int .i64 er)).setCell ⟨F,1,none⟩ (.int .i64 num):=by
 obtain ⟨c0,c1,f0,f1⟩:=bE hF
 refine callsD_of_wpS Tryz.func33 rfl fun c₀ cs hu=>?_
 apply wpS_seq
 apply wpS_region
 simp [wpOpsS,go_sem,recoverD,hu,Tryz.ntmps33,Exit.thenS]
 apply wpS_seq
 apply wpS_region
 simp [wpOpsS,go_sem,Exit.thenS]
 refine wpS_cond (t:=true) (by simp [Act.eval,Array.replicate]) ?_
 simp only [if_true]
 apply wpS_region
 simp [wpOpsS,go_sem,Wi,c0,c1,f0,f1,bodyPostS,results,Tryz.results33]
theorem Wm (F:Nat)(w:World) :
  CallsD Tryz.prog 33 #[.pointer (some ⟨F,0,none⟩)] .returning w fun e u' w'=>e=.returned (.tuple #[])∧u'=.returning∧w'=w:=by
 refine callsD_of_wpS Tryz.func33 rfl fun c₀ cs hu=>?_
 apply wpS_seq
 apply wpS_region
 simp [wpOpsS,go_sem,recoverD,hu,Tryz.ntmps33,Exit.thenS]
 apply wpS_seq
 apply wpS_region
 simp [wpOpsS,go_sem,Exit.thenS]
 refine wpS_cond (t:=false) (by simp [Act.eval,Array.replicate]) ?_
 simp only [Bool.false_eq_true,if_false]
 refine wpS_of_wp (wp_skip ?_)
 cases c₀
 simp_all [bodyPostS,results,Tryz.results33]
end Go.Proofs.YtolfleeidpeomaaGreatDoor
