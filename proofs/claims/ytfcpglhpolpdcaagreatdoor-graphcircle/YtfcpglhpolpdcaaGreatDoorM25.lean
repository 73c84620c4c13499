/- The walk of leave. -/
import Derived.Test.YtfcpglhpolpdcaaGreatDoorM24
import Derived.Test.YtfcpglhpolpdcaaGreatDoorM3
import Derived.Test.YtfcpglhpolpdcaaGreatDoorM20
import Derived.Test.YtfcpglhpolpdcaaGreatDoorM21
set_option maxRecDepth 100000
set_option maxHeartbeats 4000000
namespace Go.Proofs.YtfcpglhpolpdcaaGreatDoor
open Go.RowKit
theorem Ps (c:FC)(B F:Nat)(k:Vf.Kn)(n:Nat)(s:Vf.S)(w:World)(h:Hid (WF c B F w k (n:Int) s))(hn:s.row.length≤100000000)(r:Except Int Vf.S)(hr:Hid (r=Vf.eP c.u.code.length k ((n:Int)+1) s)) :
  Calls Tryz.prog 179 #[.pointer (some ⟨F,0,none⟩),.int .i64 ((n:Int)+1)] w fun e w'=>gJ c B F k (n:Int) r w e w' :=
 H8 c B F k (n:Int) s (n+1) w h hn r hr
theorem ZZ (c:FC)(B F:Nat)(k:Vf.Kn)(n:Nat)(s:Vf.S)(op a nn:Int)(w:World)(h:Hid (WF c B F w k (n:Int) s))(hn:s.row.length≤99999999)(Mw:n≤4000)(hfm:Hid (Vf.bC c.m c.u ⟨op,a,nn⟩=0))(hI:Hid (Inv c.m c.u s))(hk:Hid (aY c.m k.st))(r:Except Int Vf.S)(hr:Hid (r=Vf.kZ c.u.code.length k (Vf.goes ⟨op,a,nn⟩ n) s)) :
  Calls Tryz.prog 140 #[.pointer (some ⟨F,0,none⟩),.agg #[.int .i64 op,.int .i64 a,.int .i64 nn]] w fun e w'=>gJ c B F k (n:Int) r w e w':=by
 have hB:B≤w.heap.size:=by have:=h.out.env.base;have:=h.out.env.lt;omega
 have hlt:=h.out.env.lt;have HB1:Hid (Below B w (w.alloc (ai op a nn))):=(Below.refl B w).alloc hB _;have HW1:Hid (WF c B F (w.alloc (ai op a nn)) k (n:Int) s):=h.out.quiet (l9 (World.grownBy.refl _ _) _);obtain⟨top,rv,hF,_⟩:=h.out.fl;have c14:=(fq hF.blk).1;have e1:IntKind.i64.wrap ((n:Int)+1)=(n:Int)+1:=by simp[IntKind.wrap,IntKind.bits,IntKind.signed];omega
 clear hF;by_cases gP:op=24∨op=25
 ·have HR:Hid (r=.ok s):=by unfold Hid;rw[hr.out,Vf.goes,if_pos gP];rfl
  rcases gP with rfl | rfl
  ·go_enter Tryz.func140,Tryz.ntmps140
   go_wp2
   go_end0
   exact gJ.good HB1.out HR.out HW1.out
  ·go_enter Tryz.func140,Tryz.ntmps140
   go_wp2
   go_end0
   exact gJ.good HB1.out HR.out HW1.out
 ·by_cases h21:op=21
  ·subst h21
   obtain⟨tg,rfl,_⟩:=xA (L:=c.u.code.length) hfm.out rfl;have HR:Hid (r=Vf.eP c.u.code.length k (tg:Int) s):=by
    unfold Hid;rw[hr.out];show Vf.andThen (Vf.eP c.u.code.length k (tg:Int) s) _=_
    cases Vf.eP c.u.code.length k (tg:Int) s<;>rfl
   clear hr gP;go_enter Tryz.func140,Tryz.ntmps140
   go_wp2_with fail
   refine (H8 c B F k (n:Int) s tg _ HW1 (by omega) r HR).mono ?_;rintro e w9 hS;have rQ:Hid (Below B w w9):=HB1.out.trans hS.below;cases r with
   | error er =>
    obtain rfl:=hS.no er rfl;clear hS;go_wp2
    exact⟨rfl,gJ.bad rQ.out rfl⟩
   | ok s9 =>
    obtain⟨rfl,rR⟩:=hS.yes s9 rfl;have Ad:=hide rR;clear hS rR;go_wp2
    go_end0
    exact gJ.good rQ.out rfl Ad.out
  ·by_cases h22:op=22
   ·subst h22
    obtain⟨tg,rfl,_⟩:=xA (L:=c.u.code.length) hfm.out rfl;obtain⟨r1,hr1⟩:∃ r1,r1=Vf.eP c.u.code.length k (tg:Int) s:=⟨_,rfl⟩;have HR1:=hide hr1;have HR:Hid (r=Vf.andThen r1 fun s1=>Vf.eP c.u.code.length k ((n:Int)+1) s1):=by
     unfold Hid;rw[hr.out];show Vf.andThen (Vf.eP c.u.code.length k (tg:Int) s) (Vf.kZ c.u.code.length k [((n:Int)+1)])=_
     rw[← hr1];cases r1 with
     | error e=>rfl
     | ok s1 =>
      show Vf.andThen (Vf.eP c.u.code.length k ((n:Int)+1) s1) _=Vf.eP c.u.code.length k ((n:Int)+1) s1
      cases Vf.eP c.u.code.length k ((n:Int)+1) s1<;>rfl
    have HL:Hid (∀ s1,r1=.ok s1→s1.row.length≤100000000):=fun s1 e=>by
     have:=(Mf hI.out (by omega) hk.out (hr1.symm.trans e)).2;omega
    clear hr hr1 gP h21;go_enter Tryz.func140,Tryz.ntmps140
    go_wp2_with fail
    refine (H8 c B F k (n:Int) s tg _ HW1 (by omega) r1 HR1).mono ?_;rintro e w2 hS;have HB2:Hid (Below B w w2):=HB1.out.trans hS.below;cases r1 with
    | error er =>
     obtain rfl:=hS.no er rfl;have HE:Hid (r=.error er):=HR.out;clear hS;go_wp2
     exact⟨rfl,gJ.bad HB2.out HE.out⟩
    | ok s1 =>
     obtain⟨rfl,hW2⟩:=hS.yes s1 rfl;have HW2:=hide hW2;have hl1:=HL.out s1 rfl;have HR2:Hid (r=Vf.eP c.u.code.length k ((n:Int)+1) s1):=HR.out;obtain⟨tu,Pt,hF2,_⟩:=hW2.fl;have d14:=(fq hF2.blk).1;clear hS hW2 hF2 HR HL HR1 c14;go_wp2_with fail
     refine (Ps c B F k n s1 _ HW2 hl1 r HR2).mono ?_;rintro e w9 hS;have rQ:Hid (Below B w w9):=HB2.out.trans hS.below;cases r with
     | error er =>
      obtain rfl:=hS.no er rfl;clear hS;go_wp2
      exact⟨rfl,gJ.bad rQ.out rfl⟩
     | ok s9 =>
      obtain⟨rfl,rR⟩:=hS.yes s9 rfl;have Ad:=hide rR;clear hS rR;go_wp2
      go_end0
      exact gJ.good rQ.out rfl Ad.out
   ·have HR:Hid (r=Vf.eP c.u.code.length k ((n:Int)+1) s):=by
     unfold Hid;rw[hr.out,Vf.goes,if_neg gP,if_neg h21,if_neg h22];show Vf.andThen (Vf.eP c.u.code.length k ((n:Int)+1) s) _=_
     cases Vf.eP c.u.code.length k ((n:Int)+1) s<;>rfl
    have g24:(op==24)=false:=by simp;omega
    have g25:(op==25)=false:=by simp;omega
    have g21:(op==21)=false:=by simpa using h21
    have g22:(op==22)=false:=by simpa using h22
    clear hr gP h21 h22;go_enter Tryz.func140,Tryz.ntmps140
    go_wp2_with fail
    refine (Ps c B F k n s _ HW1 (by omega) r HR).mono ?_;rintro e w9 hS;have rQ:Hid (Below B w w9):=HB1.out.trans hS.below;cases r with
    | error er =>
     obtain rfl:=hS.no er rfl;clear hS;go_wp2
     exact⟨rfl,gJ.bad rQ.out rfl⟩
    | ok s9 =>
     obtain⟨rfl,rR⟩:=hS.yes s9 rfl;have Ad:=hide rR;clear hS rR;go_wp2
     go_end0
     exact gJ.good rQ.out rfl Ad.out
def fM (er num:Int)(e:Ending):Prop:=e=if er=0 then .returned (.tuple #[]) else .panicked [bY er num]
theorem Z0:fM 0 0 (.returned (.tuple #[])):=rfl
theorem Pv {er num:Int}(h:er≠0):fM er num (.panicked [bY er num]):=by unfold fM;rw[if_neg h]
def Pw (c:FC)(B F:Nat)(er num:Int)(w:World)(gk:Nat)(W:World):Prop :=
 ∃ k n s,WF c B F W k n s∧Below B w W∧Inv c.m c.u s∧Vf.mu c.u.code.length s<gk∧Vf.mu c.u.code.length s≤3000000∧(er,num)=((Vf.gq c.m c.u gk s).1,((Vf.gq c.m c.u gk s).2:Int))
theorem xH {w:World}{N:Nat}{cs:Array Value}{t:TypeId}{fr:Nat × Nat}(h:w.heap[N]?=some (.cells cs t fr))(o:Nat)(v:Value):(w.setCell ⟨N,o,none⟩ v).heap[N]?=some (.cells (cs.setIfInBounds o v) t fr):=by
 simp only[World.setCell,Array.getElem?_modify,if_true,h,Option.map_some];rfl
theorem WF.front {c:FC}{B F i:Nat}{w:World}{k:Vf.Kn}{n:Int}{come:Nat→Option Vf.Kn}{rest:List Nat}{top:Option Addr}{rv rv':Value}(h:WF c B F w k n ⟨come,i :: rest⟩)(hF:ay c w F top k.st k.fl n rv)(hq:QR w B rv' rest):WF c B F ((w.setCell ⟨F,14,none⟩ (.int .i64 (i:Int))).setCell ⟨F,15,none⟩ rv').drew k (i:Int) ⟨come,rest⟩∧Below B w ((w.setCell ⟨F,14,none⟩ (.int .i64 (i:Int))).setCell ⟨F,15,none⟩ rv').drew:=by
 have hg:w.grownBy ((w.setCell ⟨F,14,none⟩ (.int .i64 (i:Int))).setCell ⟨F,15,none⟩ rv').drew (some F):=iV (jQ (jQ (fG w F) 14 _) 15 _);have hne:=h.come.ne hF.blk;have kc:=Ht hg hF.blk (fun cs e=>by cases e);refine⟨⟨h.env.grown hg,h.mB,⟨top,rv',⟨?_,hF.sk.keep kc⟩,hq.keep fun j hj=>hg.block j (hq.lt j hj).2 (fun e=>hq.ty hF.blk (fun cs fr e2=>by cases e2) (by rw[hj,← e]))⟩,h.come.keep (hg.block _ h.come.lt (by simp;omega)) kc⟩,below_grown hg (by have:=h.env.base;have:=h.env.lt;omega) (fun j e=>by cases e;exact h.env.base)⟩;show ((w.setCell ⟨F,14,none⟩ (.int .i64 (i:Int))).setCell ⟨F,15,none⟩ rv').heap[F]?=_
 simp only[World.setCell,Array.getElem?_modify,if_true,hF.blk,Option.map_some];rfl
theorem Z4 (c:FC)(top cZ:Option Addr)(k kn:Vf.Kn)(n:Int)(rv:Value):some (Obj.cells (((((((#[.slice c.ab c.m.boxes.length c.cb,.slice c.au c.m.units.length c.cu,.int .i64 c.u.kind,.int .i64 c.u.params,.slice c.al c.u.locals.length c.cl,.int .i64 c.u.result,.int .i64 c.u.takes,.slice c.ac c.u.code.length c.cc,.pointer top,.int .i64 (k.st.length:Int),ah k.fl.a,ah k.fl.b,ah k.fl.c,ah k.fl.d,.int .i64 n,rv,.map (some c.M)]:Array Value).setIfInBounds 8 (.pointer cZ)).setIfInBounds 9 (.int .i64 (kn.st.length:Int))).setIfInBounds 10 (ah kn.fl.a)).setIfInBounds 11 (ah kn.fl.b)).setIfInBounds 12 (ah kn.fl.c)).setIfInBounds 13 (ah kn.fl.d)) 202 (0,0))=some (gV c cZ kn.st kn.fl n rv):=by
 simp only[List.setIfInBounds_toArray,List.set_cons_succ,List.set_cons_zero]
theorem Z5 {c:FC}{w:World}{F:Nat}{top cZ:Option Addr}{k kn:Vf.Kn}{n:Int}{rv:Value}(h:w.heap[F]?=some (gV c top k.st k.fl n rv)):((((((w.setCell ⟨F,8,none⟩ (.pointer cZ)).setCell ⟨F,9,none⟩ (.int .i64 (kn.st.length:Int))).setCell ⟨F,10,none⟩ (ah kn.fl.a)).setCell ⟨F,11,none⟩ (ah kn.fl.b)).setCell ⟨F,12,none⟩ (ah kn.fl.c)).setCell ⟨F,13,none⟩ (ah kn.fl.d)).heap[F]?=some (gV c cZ kn.st kn.fl n rv):=by
 have h1:=xH (xH (xH (xH (xH (xH h 8 (.pointer cZ)) 9 (.int .i64 (kn.st.length:Int))) 10 (ah kn.fl.a)) 11 (ah kn.fl.b)) 12 (ah kn.fl.c)) 13 (ah kn.fl.d);rw[h1];exact Z4 c top cZ k kn n rv
theorem WF.load {c:FC}{B F:Nat}{w:World}{k kn:Vf.Kn}{n:Int}{s:Vf.S}{top cZ:Option Addr}{rv:Value}(h:WF c B F w k n s)(hF:ay c w F top k.st k.fl n rv)(hs:eF w cZ kn.st) :
  WF c B F ((((((w.setCell ⟨F,8,none⟩ (.pointer cZ)).setCell ⟨F,9,none⟩ (.int .i64 (kn.st.length:Int))).setCell ⟨F,10,none⟩ (ah kn.fl.a)).setCell ⟨F,11,none⟩ (ah kn.fl.b)).setCell ⟨F,12,none⟩ (ah kn.fl.c)).setCell ⟨F,13,none⟩ (ah kn.fl.d)).drew kn n s∧Below B w ((((((w.setCell ⟨F,8,none⟩ (.pointer cZ)).setCell ⟨F,9,none⟩ (.int .i64 (kn.st.length:Int))).setCell ⟨F,10,none⟩ (ah kn.fl.a)).setCell ⟨F,11,none⟩ (ah kn.fl.b)).setCell ⟨F,12,none⟩ (ah kn.fl.c)).setCell ⟨F,13,none⟩ (ah kn.fl.d)).drew:=by
 have hg0:=jQ (jQ (jQ (jQ (jQ (jQ (fG w F) 8 (.pointer cZ)) 9 (.int .i64 (kn.st.length:Int))) 10 (ah kn.fl.a)) 11 (ah kn.fl.b)) 12 (ah kn.fl.c)) 13 (ah kn.fl.d);have hb:=Z5 (cZ:=cZ) (kn:=kn) hF.blk;generalize ((((((w.setCell ⟨F,8,none⟩ (.pointer cZ)).setCell ⟨F,9,none⟩ (.int .i64 (kn.st.length:Int))).setCell ⟨F,10,none⟩ (ah kn.fl.a)).setCell ⟨F,11,none⟩ (ah kn.fl.b)).setCell ⟨F,12,none⟩ (ah kn.fl.c)).setCell ⟨F,13,none⟩ (ah kn.fl.d))=X at *;have hg:=iV hg0;refine⟨h.own (top:=cZ) (rv:=rv) hg (ay.drew ⟨hb,hs.grown hg0 hF.blk⟩) (fun tu Pt h2=>?_),below_grown hg (by have:=h.env.base;have:=h.env.lt;omega) (fun j e=>by cases e;exact h.env.base)⟩;have:=hF.blk.symm.trans h2.blk;simp at this;exact this.2
theorem Z7 {m:Vf.Md}{u:Vf.Un}{come:Nat→Option Vf.Kn}(f:Nat):Vf.gq m u f ⟨come,[]⟩=(0,0):=by cases f<;>rfl
theorem Z8 (c:FC)(B F:Nat)(w:World)(h0:Hid (ay c w F none [] Vf.Fl.none 0 (.slice none 0 0)))(hE:Hid (Env c B F w))(hC:Hid (eZ w c.M (fun _=>none)))(hM:B≤c.M)(hR:Hid (Rt c.m))(hu:Hid (Vf.fU c.m c.u=0))(hfo:Hid (Vf.Forms c.m c.u))(er num:Int)(hr:Hid ((er,num)=((Vf.gU c.m c.u).1,((Vf.gU c.m c.u).2:Int)))) :
  Calls Tryz.prog 97 #[.pointer (some ⟨F,0,none⟩)] w fun e w'=>Below B w w'∧fM er num e:=by
 have hlt:=hE.out.lt;have jw:=hE.out.base;obtain⟨hz1,hz2,hz3,oO,H9,hz6⟩:=jS (iy hu.out).2.1;obtain⟨p,hp⟩:∃ p:Nat,c.u.params=p:=⟨c.u.params.toNat,by omega⟩;have Wu:p≤6:=by omega
 have c3:=(dP h0.out.blk).2.2.2.1;rw[hp] at c3;have HP:Hid (c.u.params.toNat=p):=by unfold Hid;omega
 clear hp hz2 hz3 oO;go_enter Tryz.func97,Tryz.ntmps97
 go_wp2
 go_loopw [9] (fun v wr=>∃ k:Nat,v=.int .i64 k∧k≤p∧Hid (ay c wr F none [] (Vf.Fl.first k) 0 (.slice none 0 0))∧Hid (w.grownBy wr (some F))) (fun v _=>p - (intOf v).toNat)
 case atStart=>exact⟨0,rfl,Nat.zero_le _,h0,fG _ _⟩
 case round =>
  obtain⟨k,rfl,hkp,HF,HG⟩:=hrel;clear c3;by_cases hk:k<p
  ·go_wp2_with fail
   refine (LU c F none [] (Vf.Fl.first k) 0 (.slice none 0 0) k (by omega) _ HF).mono ?_;rintro e w1 ⟨rfl,hg1,hF1⟩;have aD:Hid (w.grownBy w1 (some F)):=aX HG.out hg1;have aG:Hid (ay c w1 F none [] (Vf.Fl.first (k+1)) 0 (.slice none 0 0)):=hF1;clear hg1 hF1;go_wp2
   go_roundw
   case rel=>exact⟨k+1,by go_num,by omega,aG,aD⟩
   case measure=>simp[intOf];omega
  ·obtain rfl:k=p:=by omega
   obtain⟨d8,d9,_⟩:=mH HF.out.blk;obtain⟨d10,d11,d12,d13,_⟩:=ru HF.out.blk;have Px:KC w wr:=Ht HG.out h0.out.blk (fun cs e=>by cases e);have hne:=hC.out.ne h0.out.blk;have HW:Hid (WF c B F wr ⟨[],Vf.Fl.first k⟩ 0 ⟨fun _=>none,[]⟩):=⟨hE.out.grown HG.out,hM,⟨none,_,HF.out,QR.nil _ _⟩,hC.out.keep (HG.out.block _ hC.out.lt (by simp;omega)) Px⟩;have HB:Hid (Below B w wr):=below_grown HG.out (by omega) (fun j e=>by cases e;exact jw);have HST:Hid ((⟨fun _=>none,[]⟩:Vf.S).note 0 ⟨[],Vf.Fl.first k⟩=Vf.start c.u):=by unfold Hid;unfold Vf.start;rw[HP.out]
   clear Px hne;go_wp2_with fail
   refine (Hu c B F ⟨[],Vf.Fl.first k⟩ ⟨[],Vf.Fl.first k⟩ 0 ⟨fun _=>none,[]⟩ 0 none _ HW (hide rfl) (Nat.zero_le _)).mono ?_;rintro e w1 ⟨rfl,hW1,hb1⟩;rw[HST.out] at hW1;have Py:Hid (Pw c B F er num w (Vf.mu c.u.code.length (Vf.start c.u)+1) w1):=by
    refine⟨_,_,_,hW1,HB.out.trans hb1,?_,by omega,?_,hr.out⟩
    ·refine CB ⟨fun i k hk=>(by cases hk),fun i hi=>(by cases hi)⟩ H9 ⟨fun t ht=>(by cases ht),by simp⟩
    ·have:=Vf.Vp (u:=c.u)
     omega
   have HB1:Hid (Below B w w1):=HB.out.trans hb1;clear hW1 hb1 d8 d9 d10 d11 d12 d13 hkp hk HW HB HST HF HG;go_wp2_with fail
   go_loopg [] (Vf.mu c.u.code.length (Vf.start c.u)+1) (fun gk wr=>Pw c B F er num w gk wr)
   case atStart=>exact Py.out
   case round =>
    obtain⟨kk,n,s,hW,hb,hI,hmu,Pz,hfl⟩:=hrel;clear Py HB1;have ag0:=hW.env.lt;obtain⟨top,rv,hF,hq⟩:=hW.fl;obtain⟨come,row⟩:=s;have HW:=hide hW;have HB:=hide hb;have HI:=hide hI;have PD:=hide hmu;have rT:=hide Pz;have mR:=hide hfl;have HF:=hide hF;clear hW hb hI hmu Pz hfl hF;cases row with
    | nil =>
     obtain⟨ar,cr,iY⟩:=hq.form;subst iY;have d15:=(fq HF.out.blk).2.1;have HE:Hid (er=0∧num=0):=by
      have:=mR.out;rw[Z7] at this;cases this;exact⟨rfl,rfl⟩
     clear hq;go_wp2
     go_end0
     rw[HE.out.1,HE.out.2];exact⟨HB.out,Z0⟩
    | cons i rest =>
     obtain⟨g,off,cap,iY,hcap,cx,hq1,hq2⟩:=hq.pop;subst iY;have Z9:g≠F:=fun e=>by
      subst e;exact hq.ty HF.out.blk (fun cs fr e=>by cases e) rfl
     obtain⟨d14,d15,d16,Hw,O8⟩:=fq HF.out.blk;have hL0:(0:Int)<(rest.length:Int)+1:=by omega
     have xz:=hide hq1;have Aa:=hide hq2;clear hq hq1 hq2;go_upto_region 7 with fail
     go_cut [] (fun wx=>WF c B F wx kk (i:Int) ⟨come,rest⟩∧Below B wr wx)
     case first =>
      have m0:(0:Int)≤(rest.length:Int):=by omega
      by_cases hc1:cap=1
      ·subst hc1
       have hr0:rest.length=0:=by omega
       have HQ:=hide (xz.out rfl);rw[hr0] at d15 hL0 HF;rw[hr0];go_region
       all_goals
        go_wp2_with fail
        go_meet
        exact HW.out.front HF.out HQ.out
      ·have HQ:=hide (Aa.out hc1)
       have hcI:¬ (cap:Int)=1:=by omega
       go_region
       all_goals
        go_wp2_with fail
        go_meet
        exact HW.out.front HF.out HQ.out
     case rest =>
      obtain⟨hW2,hb2⟩:=hcut;obtain⟨kn,PE⟩:=HI.out.row i List.mem_cons_self;have hkn:come i=some kn:=PE;clear PE;obtain⟨hil,hok⟩:=HI.out.come i kn hkn;obtain⟨x,hx⟩:∃ x,c.u.code[i]?=some x:=⟨_,List.getElem?_eq_getElem hil⟩;have HX:=hide hx;have zQ:=hide hok;have Pq:=hide hkn;have HB2:Hid (Below B w wc):=HB.out.trans hb2;have HI2:Hid (Inv c.m c.u ⟨come,rest⟩):=⟨HI.out.come,fun j hj=>HI.out.row j (List.mem_cons_of_mem _ hj)⟩;have ag1:i<4000:=by omega
      obtain⟨r,hrr⟩:∃ r,r=Vf.look c.m c.u i ⟨come,rest⟩:=⟨_,rfl⟩;have HRR:Hid (r=Vf.andThen (Vf.fV c.m c.u x kn) fun k'=>Vf.kZ c.u.code.length k' (Vf.goes x i) ⟨come,rest⟩):=by
       unfold Hid;rw[hrr,Vf.look];simp only[hkn,hx]
      have xI:Hid (NZ r):=by rw[hrr];exact FP _ _ _ _
      have HLM:Hid (∀ s',r=.ok s'→Vf.mu c.u.code.length s'≤Vf.mu c.u.code.length ⟨come,rest⟩):=fun s' e=>Vf.Lv hfo.out (hrr.symm.trans e);have xJ:Hid (Vf.bC c.m c.u x=0):=hfo.out x (List.mem_of_getElem? hx);have PG:Hid (Vf.mu c.u.code.length ⟨come,i :: rest⟩=Vf.mu c.u.code.length ⟨come,rest⟩+1):=Vf.Lx;obtain⟨f,rfl⟩:∃ f,gk=f+1:=⟨gk - 1,by have:=PD.out;omega⟩;have Ae:Hid (∀ iw,r=.error iw→er=iw∧num=(i:Int)):=fun iw e=>by
       have h1:=mR.out;have h2:Vf.gq c.m c.u (f+1) ⟨come,i :: rest⟩=(iw,i):=by
        unfold Vf.gq;simp only;rw[← hrr,e]
       rw[h2] at h1;cases h1;exact⟨rfl,rfl⟩
      have rG:Hid (∀ s',r=.ok s'→(er,num)=((Vf.gq c.m c.u f s').1,((Vf.gq c.m c.u f s').2:Int))):=fun s' e=>by
       have h1:=mR.out;have h2:Vf.gq c.m c.u (f+1) ⟨come,i :: rest⟩=Vf.gq c.m c.u f s':=by
        conv=>lhs;unfold Vf.gq
        simp only;rw[← hrr,e]
       rw[h2] at h1;exact h1
      clear hx hok hkn hrr hb2 mR xz Aa cx d14 d15 d16 Hw O8 HW HF HI HB Z9;obtain⟨tu,Pt,hF2,hq2⟩:=hW2.fl;obtain⟨e14,e15,e16,y14,O9⟩:=fq hF2.blk;obtain⟨e8,e9,y8,y9⟩:=mH hF2.blk;obtain⟨e10,e11,e12,e13,y10,y11,y12,y13⟩:=ru hF2.blk;obtain⟨tk,hsk,hlk,_⟩:=OW hW2.come.drew Pq.out;have Ia:=hide (hW2.load hF2 (hsk.keep fun _ _ hb=>hb));have HB3:=hide (HB2.out.trans Ia.out.2);clear hF2 hq2 hsk hW2;go_upto_region 8 with fail
      go_cut [] (fun wx=>WF c B F wx kn (i:Int) ⟨come,rest⟩∧Below B w wx)
      case first =>
       go_region
       all_goals
        go_wp2_with fail
        go_meet
        exact⟨Ia.out.1,HB3.out⟩
      case rest =>
       obtain⟨gp,hb4⟩:=hcut;clear e8 e9 e10 e11 e12 e13 e14 e15 e16 y8 y9 y10 y11 y12 y13 y14 O9 hlk Ia HB3 HB2;have ll:=hide gp;have qF:=hide hb4;obtain⟨LQ,rv4,nI,hq4⟩:=gp.fl;have oJ:=hide nI;obtain⟨_,_,_,bc,oc,hac,hbc,i0,i1,i2⟩:=gp.env.un.code i x HX.out;have Dr:Hid (∀ w',Low B wc w'→(∃ top st f rv,ay c w' F top st f (i:Int) rv)→(w'.cell? ⟨F,7,none⟩=some (.slice (some ⟨bc,oc,none⟩) c.u.code.length c.cc)∧w'.cell? ⟨F,14,none⟩=some (.int .i64 (i:Int))∧w'.cell? ⟨bc,oc+i * 3,none⟩=some (.int .i64 x.op)∧w'.cell? ⟨bc,oc+i * 3+1,none⟩=some (.int .i64 x.a)∧w'.cell? ⟨bc,oc+i * 3+2,none⟩=some (.int .i64 x.n))):=fun w' hlow ⟨tp,st,f',rv',hF'⟩=>by
        have c7:=(dP hF'.blk).2.2.2.2.2.2.2;rw[hac] at c7;exact⟨c7,(fq hF'.blk).1,(aI (hlow bc hbc) _).trans i0,(aI (hlow bc hbc) _).trans i1,(aI (hlow bc hbc) _).trans i2⟩
       have hiI:(i:Int)<(c.u.code.length:Int):=by omega
       have q4:=Dr.out wc (fun _ _=>rfl) ⟨_,_,_,_,nI⟩;obtain⟨rS,Dt⟩:∃ rS,rS=Vf.eD c.m c.u x kn:=⟨_,rfl⟩;have rD:=hide Dt;have Ib:Hid (r=Vf.andThen rS fun st'=>Vf.kZ c.u.code.length ⟨st',Vf.mG x kn.fl⟩ (Vf.goes x i) ⟨come,rest⟩):=by
        unfold Hid;rw[HRR.out,Vf.fV,← Dt];cases rS<;>rfl
       have aag:Hid (Ok (aY c.m) rS):=by rw[Dt];exact Me hR.out hu.out xJ.out zQ.out
       have Du:Hid (∀ w',wc.grownBy w' (some F)→Below B wc w'):=fun w' hg=>below_grown hg (by have:=gp.env.base;have:=gp.env.lt;omega) (fun j e=>by cases e;exact gp.env.base);clear gp hb4 nI hq4 i0 i1 i2 Dt HRR;go_wp2_with fail
       refine wp_region_held_drew (S:=fun w'=>w'.cell? ⟨F,7,none⟩=some (.slice (some ⟨bc,oc,none⟩) c.u.code.length c.cc)∧w'.cell? ⟨F,14,none⟩=some (.int .i64 (i:Int))∧w'.cell? ⟨bc,oc+i * 3,none⟩=some (.int .i64 x.op)∧w'.cell? ⟨bc,oc+i * 3+1,none⟩=some (.int .i64 x.a)∧w'.cell? ⟨bc,oc+i * 3+2,none⟩=some (.int .i64 x.n)) (by kernel_rfl) q4 (fun hHeld=>?_);refine wpAnyH_take (i:=0) (oi:=_) (v:=?_) rfl (by kernel_rfl) (by kernel_rfl) (by kernel_rfl) (fun _ _ _ h=>h) (Or.inl ⟨by rfl,?_⟩) (by assumption) ?_;rotate_left
       ·intro w hSw
        (try dsimp only at hSw)
        go_simp
        (try with_reducible rfl)
       (try go_frame)
       refine wpAnyH_take (i:=1) (oi:=_) (v:=?_) rfl (by kernel_rfl) (by kernel_rfl) (by kernel_rfl) (fun _ _ _ h=>h) (Or.inl ⟨by rfl,?_⟩) (by assumption) ?_;rotate_left
       ·intro w hSw
        (try dsimp only at hSw)
        go_simp
        (try with_reducible rfl)
       (try go_frame)
       refine wpAnyH_take (i:=2) (oi:=_) (v:=?_) rfl (by kernel_rfl) (by kernel_rfl) (by kernel_rfl) (fun _ _ _ h=>h) (Or.inl ⟨by rfl,?_⟩) (by assumption) ?_;rotate_left
       ·intro w hSw
        (try dsimp only at hSw)
        go_simp
        (try with_reducible rfl)
       (try go_frame)
       refine wpAnyH_take (i:=3) (oi:=_) (v:=?_) rfl (by kernel_rfl) (by kernel_rfl) (by kernel_rfl) (fun _ _ _ h=>h) (Or.inl ⟨by rfl,?_⟩) (by assumption) ?_;rotate_left
       ·intro w hSw
        (try dsimp only at hSw)
        go_simp
        (try with_reducible rfl)
       (try go_frame)
       refine wpAnyH_take (i:=4) (oi:=_) (v:=?_) rfl (by kernel_rfl) (by kernel_rfl) (by kernel_rfl) (fun _ _ _ h=>h) (Or.inl ⟨by rfl,?_⟩) (by assumption) ?_;rotate_left
       ·intro w hSw
        (try dsimp only at hSw)
        go_simp
        (try with_reducible rfl)
       (try go_frame)
       refine wpAnyH_take (i:=5) (oi:=_) (v:=?_) rfl (by kernel_rfl) (by kernel_rfl) (by kernel_rfl) (fun _ _ _ h=>h) (Or.inl ⟨by rfl,?_⟩) (by assumption) ?_;rotate_left
       ·intro w hSw
        (try dsimp only at hSw)
        go_simp
        (try with_reducible rfl)
       (try go_frame)
       refine wpAnyH_take (i:=6) (oi:=_) (v:=?_) rfl (by kernel_rfl) (by kernel_rfl) (by kernel_rfl) (fun _ _ _ h=>h) (Or.inl ⟨by rfl,?_⟩) (by assumption) ?_;rotate_left
       ·intro w hSw
        (try dsimp only at hSw)
        go_simp
        (try with_reducible rfl)
       (try go_frame)
       refine wpAnyH_take (i:=7) (oi:=_) (v:=?_) rfl (by kernel_rfl) (by kernel_rfl) (by kernel_rfl) (fun _ _ _ h=>h) (Or.inl ⟨by rfl,?_⟩) (by assumption) ?_;rotate_left
       ·intro w hSw
        (try dsimp only at hSw)
        go_simp
        (try with_reducible rfl)
       (try go_frame)
       refine wpAnyH_take (i:=8) (oi:=_) (v:=?_) rfl (by kernel_rfl) (by kernel_rfl) (by kernel_rfl) (fun _ _ _ h=>h) (Or.inl ⟨by rfl,?_⟩) (by assumption) ?_;rotate_left
       ·intro w hSw
        (try dsimp only at hSw)
        go_simp
        (try with_reducible rfl)
       (try go_frame)
       refine wpAnyH_take (i:=9) (oi:=_) (v:=?_) rfl (by kernel_rfl) (by kernel_rfl) (by kernel_rfl) (fun _ _ _ h=>h) (Or.inl ⟨by rfl,?_⟩) (by assumption) ?_;rotate_left
       ·intro w hSw
        (try dsimp only at hSw)
        go_simp
        (try with_reducible rfl)
       (try go_frame)
       refine wpAnyH_take (i:=10) (oi:=_) (v:=?_) rfl (by kernel_rfl) (by kernel_rfl) (by kernel_rfl) (fun _ _ _ h=>h) (Or.inl ⟨by rfl,?_⟩) (by assumption) ?_;rotate_left
       ·intro w hSw
        (try dsimp only at hSw)
        go_simp
        (try with_reducible rfl)
       (try go_frame)
       refine wpAnyH_take (i:=11) (oi:=_) (v:=?_) rfl (by kernel_rfl) (by kernel_rfl) (by kernel_rfl) (fun _ _ _ h=>h) (Or.inl ⟨by rfl,?_⟩) (by assumption) ?_;rotate_left
       ·intro w hSw
        (try dsimp only at hSw)
        go_simp
        (try with_reducible rfl)
       (try go_frame)
       refine wpAnyH_take (i:=12) (oi:=_) (v:=?_) rfl (by kernel_rfl) (by kernel_rfl) (by kernel_rfl) (fun _ _ _ h=>h) (Or.inl ⟨by rfl,?_⟩) (by assumption) ?_;rotate_left
       ·intro w hSw
        (try dsimp only at hSw)
        go_simp
        (try with_reducible rfl)
       (try go_frame)
       refine wpAnyH_ready (rs:=[13]) (by kernel_rfl) (by simp) ?_;refine AllReadyH.cons (o:=_) rfl (fun K hK=>?_) AllReadyH.nil;go_simp
       refine (Gb c F B LQ kn.st kn.fl (i:Int) rv4 x.op x.a x.n _ (hide oJ.out.drew) (hide ll.out.env.drew) zQ.out.2 (hide zQ.out.1) hR xJ hz1 rS rD).mono ?_;rintro e w5 hS;have hg5:wc.grownBy w5 (some F):=iL hS.grown;cases rS with
       | error iw =>
        obtain rfl:=hS.no iw rfl;have HE:=hide (Ae.out iw Ib.out);have uw:Hid (iw≠0):=xI.out iw Ib.out;have rU:Hid (Below B w w5):=qF.out.trans (Du.out w5 hg5);clear hS hK hg5;go_wp2
        rw[HE.out.1,HE.out.2];exact⟨rfl,rU.out,Pv uw.out⟩
       | ok mX =>
        obtain⟨rfl,ag3,Dv⟩:=hS.yes mX rfl;have jC:Hid (WF c B F w5 ⟨mX,Vf.mG x kn.fl⟩ (i:Int) ⟨come,rest⟩):=ll.out.own (k':=⟨mX,Vf.mG x kn.fl⟩) hg5 Dv (fun tp rv' h'=>by
         have:=oJ.out.blk.symm.trans h'.blk;simp at this;exact this.2)
        have PH:Hid (aY c.m mX):=aag.out mX rfl;have PI:Hid (r=Vf.kZ c.u.code.length ⟨mX,Vf.mG x kn.fl⟩ (Vf.goes x i) ⟨come,rest⟩):=Ib.out;have q5:=Dr.out w5 (fun j hj=>(Du.out w5 hg5).block j hj) ⟨_,_,_,_,Dv⟩;have rU:Hid (Below B w w5):=qF.out.trans (Du.out w5 hg5);have HF5:=hide Dv;have qE:Hid (∀ w',Below B w5 w'→(∃ top st f rv,ay c w' F top st f (i:Int) rv)→(w'.cell? ⟨F,7,none⟩=some (.slice (some ⟨bc,oc,none⟩) c.u.code.length c.cc)∧w'.cell? ⟨F,14,none⟩=some (.int .i64 (i:Int))∧w'.cell? ⟨bc,oc+i * 3,none⟩=some (.int .i64 x.op)∧w'.cell? ⟨bc,oc+i * 3+1,none⟩=some (.int .i64 x.a)∧w'.cell? ⟨bc,oc+i * 3+2,none⟩=some (.int .i64 x.n))):=fun w' hb hF'=>Dr.out w' (fun j hj=>(hb.block j hj).trans ((Du.out w5 hg5).block j hj)) hF';refine hK.out _ _ q5 (fun hHeld=>?_);clear hK hS hg5 Dv hHeld q4;refine wpAnyH_done (by kernel_rfl) ?_ _;have aah:rest.length≤99999999:=by have h1:=rT.out;have h2:rest.length≤Vf.mu c.u.code.length ⟨come,rest⟩:=Vf.Vo (s:=⟨come,rest⟩);have h3:=PG.out;omega
        go_wp2_with fail
        refine wp_region_held_drew (S:=fun w'=>w'.cell? ⟨F,7,none⟩=some (.slice (some ⟨bc,oc,none⟩) c.u.code.length c.cc)∧w'.cell? ⟨F,14,none⟩=some (.int .i64 (i:Int))∧w'.cell? ⟨bc,oc+i * 3,none⟩=some (.int .i64 x.op)∧w'.cell? ⟨bc,oc+i * 3+1,none⟩=some (.int .i64 x.a)∧w'.cell? ⟨bc,oc+i * 3+2,none⟩=some (.int .i64 x.n)) (by kernel_rfl) q5 (fun hHeld=>?_);refine wpAnyH_take (i:=0) (oi:=_) (v:=?_) rfl (by kernel_rfl) (by kernel_rfl) (by kernel_rfl) (fun _ _ _ h=>h) (Or.inl ⟨by rfl,?_⟩) (by assumption) ?_;rotate_left
        ·intro w hSw
         (try dsimp only at hSw)
         go_simp
         (try with_reducible rfl)
        (try go_frame)
        refine wpAnyH_take (i:=1) (oi:=_) (v:=?_) rfl (by kernel_rfl) (by kernel_rfl) (by kernel_rfl) (fun _ _ _ h=>h) (Or.inl ⟨by rfl,?_⟩) (by assumption) ?_;rotate_left
        ·intro w hSw
         (try dsimp only at hSw)
         go_simp
         (try with_reducible rfl)
        (try go_frame)
        refine wpAnyH_take (i:=2) (oi:=_) (v:=?_) rfl (by kernel_rfl) (by kernel_rfl) (by kernel_rfl) (fun _ _ _ h=>h) (Or.inl ⟨by rfl,?_⟩) (by assumption) ?_;rotate_left
        ·intro w hSw
         (try dsimp only at hSw)
         go_simp
         (try with_reducible rfl)
        (try go_frame)
        refine wpAnyH_take (i:=3) (oi:=_) (v:=?_) rfl (by kernel_rfl) (by kernel_rfl) (by kernel_rfl) (fun _ _ _ h=>h) (Or.inl ⟨by rfl,?_⟩) (by assumption) ?_;rotate_left
        ·intro w hSw
         (try dsimp only at hSw)
         go_simp
         (try with_reducible rfl)
        (try go_frame)
        refine wpAnyH_take (i:=4) (oi:=_) (v:=?_) rfl (by kernel_rfl) (by kernel_rfl) (by kernel_rfl) (fun _ _ _ h=>h) (Or.inl ⟨by rfl,?_⟩) (by assumption) ?_;rotate_left
        ·intro w hSw
         (try dsimp only at hSw)
         go_simp
         (try with_reducible rfl)
        (try go_frame)
        refine wpAnyH_take (i:=5) (oi:=_) (v:=?_) rfl (by kernel_rfl) (by kernel_rfl) (by kernel_rfl) (fun _ _ _ h=>h) (Or.inl ⟨by rfl,?_⟩) (by assumption) ?_;rotate_left
        ·intro w hSw
         (try dsimp only at hSw)
         go_simp
         (try with_reducible rfl)
        (try go_frame)
        refine wpAnyH_take (i:=6) (oi:=_) (v:=?_) rfl (by kernel_rfl) (by kernel_rfl) (by kernel_rfl) (fun _ _ _ h=>h) (Or.inl ⟨by rfl,?_⟩) (by assumption) ?_;rotate_left
        ·intro w hSw
         (try dsimp only at hSw)
         go_simp
         (try with_reducible rfl)
        (try go_frame)
        refine wpAnyH_take (i:=7) (oi:=_) (v:=?_) rfl (by kernel_rfl) (by kernel_rfl) (by kernel_rfl) (fun _ _ _ h=>h) (Or.inl ⟨by rfl,?_⟩) (by assumption) ?_;rotate_left
        ·intro w hSw
         (try dsimp only at hSw)
         go_simp
         (try with_reducible rfl)
        (try go_frame)
        refine wpAnyH_take (i:=8) (oi:=_) (v:=?_) rfl (by kernel_rfl) (by kernel_rfl) (by kernel_rfl) (fun _ _ _ h=>h) (Or.inl ⟨by rfl,?_⟩) (by assumption) ?_;rotate_left
        ·intro w hSw
         (try dsimp only at hSw)
         go_simp
         (try with_reducible rfl)
        (try go_frame)
        refine wpAnyH_take (i:=9) (oi:=_) (v:=?_) rfl (by kernel_rfl) (by kernel_rfl) (by kernel_rfl) (fun _ _ _ h=>h) (Or.inl ⟨by rfl,?_⟩) (by assumption) ?_;rotate_left
        ·intro w hSw
         (try dsimp only at hSw)
         go_simp
         (try with_reducible rfl)
        (try go_frame)
        refine wpAnyH_take (i:=10) (oi:=_) (v:=?_) rfl (by kernel_rfl) (by kernel_rfl) (by kernel_rfl) (fun _ _ _ h=>h) (Or.inl ⟨by rfl,?_⟩) (by assumption) ?_;rotate_left
        ·intro w hSw
         (try dsimp only at hSw)
         go_simp
         (try with_reducible rfl)
        (try go_frame)
        refine wpAnyH_take (i:=11) (oi:=_) (v:=?_) rfl (by kernel_rfl) (by kernel_rfl) (by kernel_rfl) (fun _ _ _ h=>h) (Or.inl ⟨by rfl,?_⟩) (by assumption) ?_;rotate_left
        ·intro w hSw
         (try dsimp only at hSw)
         go_simp
         (try with_reducible rfl)
        (try go_frame)
        refine wpAnyH_take (i:=12) (oi:=_) (v:=?_) rfl (by kernel_rfl) (by kernel_rfl) (by kernel_rfl) (fun _ _ _ h=>h) (Or.inl ⟨by rfl,?_⟩) (by assumption) ?_;rotate_left
        ·intro w hSw
         (try dsimp only at hSw)
         go_simp
         (try with_reducible rfl)
        (try go_frame)
        refine wpAnyH_ready (rs:=[13]) (by kernel_rfl) (by simp) ?_;refine AllReadyH.cons (o:=_) rfl (fun K hK=>?_) AllReadyH.nil;go_simp
        refine (ZZ c B F ⟨mX,Vf.mG x kn.fl⟩ i ⟨come,rest⟩ x.op x.a x.n _ (hide (jC.out.quiet (uD (World.grownBy.refl _ _)))) aah (by omega) xJ HI2 PH r PI).mono ?_;rintro e w6 hS;have Dw:Hid (Below B w w6):=rU.out.trans (by have:=hS.below;exact⟨this.os,this.tape,this.output,this.size,this.block⟩);cases r with
        | error iw =>
         obtain rfl:=hS.no iw rfl;have HE:=hide (Ae.out iw rfl);have uw:Hid (iw≠0):=xI.out iw rfl;clear hS hK;go_wp2
         rw[HE.out.1,HE.out.2];exact⟨rfl,Dw.out,Pv uw.out⟩
        | ok s6 =>
         obtain⟨rfl,Ic⟩:=hS.yes s6 rfl;have HI6:Hid (Inv c.m c.u s6):=FU (k:=⟨mX,Vf.mG x kn.fl⟩) PH.out HI2.out (Vf.Cr xJ.out i) PI.out.symm;have Ie:=hide (HLM.out s6 rfl);have HF6:=hide (rG.out s6 rfl);have HW6:=hide Ic;obtain⟨ag5,rv6,Cu,_⟩:=Ic.fl;refine hK.out _ _ (qE.out w6 (by have:=hS.below;exact⟨this.os,this.tape,this.output,this.size,this.block⟩) ⟨_,_,_,_,Cu⟩) (fun hHeld=>?_);clear hK hS Ic Cu hHeld q5;refine wpAnyH_done (by kernel_rfl) ?_ _;go_wp2
         go_roundg f
         case measure=>omega
         case rel =>
          have h1:=PD.out;have h2:=PG.out;have h3:=Ie.out;have h4:=rT.out;exact⟨_,_,s6,HW6.out,Dw.out,HI6.out,by omega,by omega,HF6.out⟩
theorem fD (w:World)(a b:Obj):w.grownBy ((w.alloc a).alloc b) none:=aR (aR (World.grownBy.refl _ _) _) _
theorem aal (c:FC)(a nn:Int)(w:World)(b:Bool)(hb:Hid (b=(a==0 || a==1))) :
  Calls Tryz.prog 136 #[iZ c,.agg #[.int .i64 2,.int .i64 a,.int .i64 nn]] w fun e w'=>e=.returned (.bool b)∧w.grownBy w' none:=by
 go_enter Tryz.func136,Tryz.ntmps136
 go_wp2
 all_goals
  go_ret
  refine⟨rH ?_,fD _ _ _⟩;rw[hb.out];(try simp[*])
  (try omega)
theorem aam (c:FC)(a nn:Int)(w:World)(b:Bool)(hb:Hid (b=(decide (0≤a) && decide (a<c.u.locals.length)))) :
  Calls Tryz.prog 136 #[iZ c,.agg #[.int .i64 3,.int .i64 a,.int .i64 nn]] w fun e w'=>e=.returned (.bool b)∧w.grownBy w' none:=by
 go_enter Tryz.func136,Tryz.ntmps136
 go_wp2
 all_goals
  go_ret
  refine⟨rH ?_,fD _ _ _⟩;rw[hb.out];(try simp[*])
  (try omega)
theorem aan (c:FC)(a nn:Int)(w:World)(b:Bool)(hb:Hid (b=(decide (0≤a) && decide (a<c.u.locals.length)))) :
  Calls Tryz.prog 136 #[iZ c,.agg #[.int .i64 4,.int .i64 a,.int .i64 nn]] w fun e w'=>e=.returned (.bool b)∧w.grownBy w' none:=by
 go_enter Tryz.func136,Tryz.ntmps136
 go_wp2
 all_goals
  go_ret
  refine⟨rH ?_,fD _ _ _⟩;rw[hb.out];(try simp[*])
  (try omega)
theorem aao (c:FC)(a nn:Int)(w:World)(b:Bool)(hb:Hid (b=(decide (0≤a) && decide (a<c.u.code.length)))) :
  Calls Tryz.prog 136 #[iZ c,.agg #[.int .i64 21,.int .i64 a,.int .i64 nn]] w fun e w'=>e=.returned (.bool b)∧w.grownBy w' none:=by
 go_enter Tryz.func136,Tryz.ntmps136
 go_wp2
 all_goals
  go_ret
  refine⟨rH ?_,fD _ _ _⟩;rw[hb.out];(try simp[*])
  (try omega)
theorem aap (c:FC)(a nn:Int)(w:World)(b:Bool)(hb:Hid (b=(decide (0≤a) && decide (a<c.u.code.length)))) :
  Calls Tryz.prog 136 #[iZ c,.agg #[.int .i64 22,.int .i64 a,.int .i64 nn]] w fun e w'=>e=.returned (.bool b)∧w.grownBy w' none:=by
 go_enter Tryz.func136,Tryz.ntmps136
 go_wp2
 all_goals
  go_ret
  refine⟨rH ?_,fD _ _ _⟩;rw[hb.out];(try simp[*])
  (try omega)
theorem aaq (c:FC)(a nn:Int)(w:World)(b:Bool)(hb:Hid (b=(decide (0≤a) && decide (a<c.m.boxes.length)))) :
  Calls Tryz.prog 136 #[iZ c,.agg #[.int .i64 26,.int .i64 a,.int .i64 nn]] w fun e w'=>e=.returned (.bool b)∧w.grownBy w' none:=by
 go_enter Tryz.func136,Tryz.ntmps136
 go_wp2
 all_goals
  go_ret
  refine⟨rH ?_,fD _ _ _⟩;rw[hb.out];(try simp[*])
  (try omega)
theorem aar (c:FC)(a nn:Int)(w:World)(b:Bool)(hb:Hid (b=(decide (0≤a) && decide (a<c.m.boxes.length)))) :
  Calls Tryz.prog 136 #[iZ c,.agg #[.int .i64 27,.int .i64 a,.int .i64 nn]] w fun e w'=>e=.returned (.bool b)∧w.grownBy w' none:=by
 go_enter Tryz.func136,Tryz.ntmps136
 go_wp2
 all_goals
  go_ret
  refine⟨rH ?_,fD _ _ _⟩;rw[hb.out];(try simp[*])
  (try omega)
theorem aas (c:FC)(B:Nat)(a nn:Int)(w:World)(hmd:Hid (aZ B w c.m c.ab c.au))(hB:B≤w.heap.size)(b:Bool)(hb:Hid (b=Vf.is c.m 2 a)) :
  Calls Tryz.prog 136 #[iZ c,.agg #[.int .i64 23,.int .i64 a,.int .i64 nn]] w fun e w'=>e=.returned (.bool b)∧w.grownBy w' none:=by
 have HM:Hid (aZ B ((w.alloc (dL c)).alloc (ai 23 a nn)) c.m c.ab c.au):=hmd.out.low (gm (fD _ _ _) hB);go_enter Tryz.func136,Tryz.ntmps136
 go_wp2_with fail
 refine (zX c.m c.ab c.au c.cb c.cu B 2 a _ HM (by simp;omega) b hb).mono ?_;rintro e w2 ⟨rfl,rfl⟩;go_wp2
 go_ret
 exact⟨rfl,aR (fD _ _ _) _⟩
theorem aat (c:FC)(B:Nat)(a nn:Int)(w:World)(hmd:Hid (aZ B w c.m c.ab c.au))(hB:B≤w.heap.size)(b:Bool)(hb:Hid (b=Vf.is c.m 3 a)) :
  Calls Tryz.prog 136 #[iZ c,.agg #[.int .i64 29,.int .i64 a,.int .i64 nn]] w fun e w'=>e=.returned (.bool b)∧w.grownBy w' none:=by
 have HM:Hid (aZ B ((w.alloc (dL c)).alloc (ai 29 a nn)) c.m c.ab c.au):=hmd.out.low (gm (fD _ _ _) hB);go_enter Tryz.func136,Tryz.ntmps136
 go_wp2_with fail
 refine (zX c.m c.ab c.au c.cb c.cu B 3 a _ HM (by simp;omega) b hb).mono ?_;rintro e w2 ⟨rfl,rfl⟩;go_wp2
 go_ret
 exact⟨rfl,aR (fD _ _ _) _⟩
theorem aau (c:FC)(op a nn:Int)(hop:Hid (op≠2∧op≠3∧op≠4∧op≠21∧op≠22∧op≠23∧op≠26∧op≠27∧op≠29))(w:World) :
  Calls Tryz.prog 136 #[iZ c,.agg #[.int .i64 op,.int .i64 a,.int .i64 nn]] w fun e w'=>e=.returned (.bool true)∧w.grownBy w' none:=by
 have g2:(op==2)=false:=by have:=hop.out;simp;omega
 have g3:(op==3)=false:=by have:=hop.out;simp;omega
 have g4:(op==4)=false:=by have:=hop.out;simp;omega
 have g21:(op==21)=false:=by have:=hop.out;simp;omega
 have g22:(op==22)=false:=by have:=hop.out;simp;omega
 have g23:(op==23)=false:=by have:=hop.out;simp;omega
 have g26:(op==26)=false:=by have:=hop.out;simp;omega
 have g27:(op==27)=false:=by have:=hop.out;simp;omega
 have g29:(op==29)=false:=by have:=hop.out;simp;omega
 go_enter Tryz.func136,Tryz.ntmps136
 go_wp2
 go_ret
 exact⟨rfl,fD _ _ _⟩
theorem aav (c:FC)(B:Nat)(op a nn:Int)(w:World)(hmd:Hid (aZ B w c.m c.ab c.au))(hB:B≤w.heap.size)(b:Bool)(hb:Hid (b=Vf.ranged c.m c.u ⟨op,a,nn⟩)) :
  Calls Tryz.prog 136 #[iZ c,.agg #[.int .i64 op,.int .i64 a,.int .i64 nn]] w fun e w'=>e=.returned (.bool b)∧w.grownBy w' none:=by
 by_cases h2:op=2
 ·subst h2;exact aal c a nn w b (hide hb.out)
 by_cases h3:op=3
 ·subst h3;exact aam c a nn w b (hide hb.out)
 by_cases h4:op=4
 ·subst h4;exact aan c a nn w b (hide hb.out)
 by_cases h21:op=21
 ·subst h21;exact aao c a nn w b (hide hb.out)
 by_cases h22:op=22
 ·subst h22;exact aap c a nn w b (hide hb.out)
 by_cases h23:op=23
 ·subst h23;exact aas c B a nn w hmd hB b (hide hb.out)
 by_cases fI:op=29
 ·subst fI;exact aat c B a nn w hmd hB b (hide hb.out)
 by_cases bJ:op=26
 ·subst bJ;exact aaq c a nn w b (hide hb.out)
 by_cases h27:op=27
 ·subst h27;exact aar c a nn w b (hide hb.out)
 have e:b=true:=by
  rw[hb.out,Vf.ranged,if_neg h2,if_neg (by rintro (h | h);exact h3 h;exact h4 h),if_neg (by rintro (h | h);exact h21 h;exact h22 h),if_neg h23,if_neg fI,if_neg (by rintro (h | h);exact bJ h;exact h27 h)]
 rw[e];exact aau c op a nn (hide ⟨h2,h3,h4,h21,h22,h23,bJ,h27,fI⟩) w
def HE (er num:Int)(w:World)(e:Ending)(w':World):Prop:=w.grownBy w' none∧e=if er=0 then .returned (.tuple #[]) else .panicked [bY er num]
theorem aaw (c:FC)(B:Nat)(w:World)(hmd:Hid (aZ B w c.m c.ab c.au))(hun:Hid (gB B w c.u c.al c.ac c.cl c.cc))(hB:B≤w.heap.size)(hmu:c.m.units.length≤30)(er:Int)(hr:Hid (er=Vf.fU c.m c.u)) :
  Calls Tryz.prog 94 #[iZ c] w fun e w'=>HE er 0 w e w':=by
 obtain⟨b1,hb1⟩:∃ b,b=Vf.yO c.u:=⟨_,rfl⟩;obtain⟨b2,hb2⟩:∃ b,b=Vf.sized c.u:=⟨_,rfl⟩;obtain⟨b3,hb3⟩:∃ b,b=Vf.typed c.m c.u:=⟨_,rfl⟩;have HR:Hid (er=if b1=false then 1 else if b2=false then 5 else if b3=false then 9 else 0):=by unfold Hid;rw[hr.out,hb1,hb2,hb3];rfl
 have H1:=hide hb1;have H2:=hide hb2;have H3:=hide hb3;have mf:Hid (aZ B (((w.alloc (dL c)).alloc (dL c)).alloc (dL c)) c.m c.ab c.au):=hmd.out.low (gm (aR (fD _ _ _) _) hB);have Ig:Hid (gB B (((w.alloc (dL c)).alloc (dL c)).alloc (dL c)) c.u c.al c.ac c.cl c.cc):=hun.out.low (gm (aR (fD _ _ _) _) hB);clear hr hb1 hb2 hb3;go_enter Tryz.func94,Tryz.ntmps94
 go_wp2_with fail
 refine (Y8 c _ b1 H1).mono ?_;rintro e w1 ⟨rfl,rfl⟩;cases b1 with
 | false =>
  have bz:Hid (er=1):=HR.out;go_wp2_with fail
  refine (tq 0 1 _).mono ?_;rintro e w2 ⟨rfl,rfl⟩;go_wp2
  rw[bz.out];exact⟨rfl,fD _ _ _,rfl⟩
 | true =>
  go_wp2_with fail
  refine (Y9 c _ b2 H2).mono ?_;rintro e w2 ⟨rfl,rfl⟩;cases b2 with
  | false =>
   have bz:Hid (er=5):=HR.out;go_wp2_with fail
   refine (tq 0 5 _).mono ?_;rintro e w2 ⟨rfl,rfl⟩;go_wp2
   rw[bz.out];exact⟨rfl,aR (fD _ _ _) _,rfl⟩
  | true =>
   go_wp2_with fail
   refine (Za c B _ mf Ig (by simp;omega) hmu b3 H3).mono ?_;rintro e w3 ⟨rfl,hg3⟩;have eT:Hid (w.grownBy w3 none):=bX (aR (fD _ _ _) _) hg3;clear hg3;cases b3 with
   | false =>
    have bz:Hid (er=9):=HR.out;go_wp2_with fail
    refine (tq 0 9 _).mono ?_;rintro e w2 ⟨rfl,rfl⟩;go_wp2
    rw[bz.out];exact⟨rfl,eT.out,rfl⟩
   | true =>
    have bz:Hid (er=0):=HR.out;go_wp2
    go_end0
    rw[bz.out];exact⟨eT.out,rfl⟩
theorem Ih {α:Type}(f:α→Int){l:List α}{k:Nat}{x:α}(h:l[k]?=some x):Vf.cz f (l.drop k) k=if f x=0 then Vf.cz f (l.drop (k+1)) (k+1) else (f x,k):=by
 obtain⟨hk,rfl⟩:=List.getElem?_eq_some_iff.1 h;rw[List.drop_eq_getElem_cons hk];rfl
structure aax (c:FC) (w:World) (er num:Int) (k:Nat) (W:World):Prop where
 le:k≤c.u.code.length
 grown:(w.alloc (dL c)).grownBy W none
 rest:(er,num)=((Vf.cz (Vf.bC c.m c.u) (c.u.code.drop k) k).1,((Vf.cz (Vf.bC c.m c.u) (c.u.code.drop k) k).2:Int))
theorem aay (c:FC)(B:Nat)(w:World)(hmd:Hid (aZ B w c.m c.ab c.au))(hun:Hid (gB B w c.u c.al c.ac c.cl c.cc))(hB:B≤w.heap.size)(er num:Int)(hr:Hid ((er,num)=((Vf.cz (Vf.bC c.m c.u) c.u.code 0).1,((Vf.cz (Vf.bC c.m c.u) c.u.code 0).2:Int)))) :
  Calls Tryz.prog 95 #[iZ c] w fun e w'=>HE er num w e w':=by
 have hlo:c.u.code.length≤9223372036854775807:=hun.out.few.2;go_enter Tryz.func95,Tryz.ntmps95
 go_wp2
 go_loopw [8] (fun v wr=>∃ k:Nat,v=.int .i64 k∧aax c w er num k wr) (fun v _=>c.u.code.length - (intOf v).toNat)
 case atStart=>exact⟨0,rfl,Nat.zero_le _,World.grownBy.refl _ _,hr.out⟩
 case round =>
  obtain⟨k,rfl,hA⟩:=hrel;have HA:=hide hA;have hk:=hA.le;clear hA;by_cases hlt:k<c.u.code.length
  ·obtain⟨x,hx⟩:∃ x,c.u.code[k]?=some x:=⟨_,List.getElem?_eq_getElem hlt⟩
   have hlow:Low B w wr:=fun j hj=>(bW HA.out.grown (by simp;omega)).trans (Below.heap_alloc _ _ _ (by omega));obtain⟨_,_,_,bl,ol,hal,hbl,i0,i1,i2⟩:=(hun.out.code.low hlow) k x hx;have hub:wr.heap[w.heap.size]?=some (dL c):=(bW HA.out.grown (by simp)).trans (heap_alloc_new w _);obtain⟨y0,y1,y2,y3,y4,y5,y6,y7⟩:=uy hub;have hwr:w.heap.size<wr.heap.size:=lt_of_block hub;have oV:Hid (aZ B (wr.alloc (ai x.op x.a x.n)) c.m c.ab c.au):=(hmd.out.low hlow).low (gm (aR (World.grownBy.refl _ _) _) (by omega));have HN:Hid ((er,num)=if Vf.bC c.m c.u x=0 then ((Vf.cz (Vf.bC c.m c.u) (c.u.code.drop (k+1)) (k+1)).1,((Vf.cz (Vf.bC c.m c.u) (c.u.code.drop (k+1)) (k+1)).2:Int)) else (Vf.bC c.m c.u x,(k:Int))):=by
    unfold Hid;rw[HA.out.rest,Ih _ hx];split<;>rfl
   have HG:Hid (w.grownBy wr none):=bX (aR (World.grownBy.refl _ _) _) HA.out.grown;have uA:=hide hal;clear hx hub hlow hal;rw[uA.out];by_cases hop:x.op<1∨32<x.op
   ·have bz:Hid (er=1∧num=(k:Int)):=by
     have h1:Vf.bC c.m c.u x=1:=by unfold Vf.bC;rw[if_pos hop]
     have:=HN.out;rw[h1] at this;cases this;exact⟨rfl,rfl⟩
    rcases hop with hop | hop
    ·have d1:decide (x.op<1)=true:=by simpa using hop
     go_wp2_with fail
     refine (tq (k:Int) 1 _).mono ?_;rintro e w2 ⟨rfl,rfl⟩;go_wp2
     rw[bz.out.1,bz.out.2];exact⟨rfl,aR HG.out _,rfl⟩
    ·have d1:decide (x.op<1)=false:=by simp;omega
     have d2:decide (32<x.op)=true:=by simpa using hop
     go_wp2_with fail
     refine (tq (k:Int) 1 _).mono ?_;rintro e w2 ⟨rfl,rfl⟩;go_wp2
     rw[bz.out.1,bz.out.2];exact⟨rfl,aR HG.out _,rfl⟩
   ·have d1:decide (x.op<1)=false:=by simp;omega
    have d2:decide (32<x.op)=false:=by simp;omega
    obtain⟨b,hb⟩:∃ b,b=Vf.ranged c.m c.u ⟨x.op,x.a,x.n⟩:=⟨_,rfl⟩;have HB:=hide hb;have Ae:Hid (Vf.bC c.m c.u x=if b=false then 3 else 0):=by unfold Hid;unfold Vf.bC;rw[if_neg hop,hb]
    clear hb hop;go_wp2_with fail
    refine (aav c B x.op x.a x.n _ oV (by simp;omega) b HB).mono ?_;rintro e w2 ⟨rfl,hg2⟩;have HG2:Hid ((w.alloc (dL c)).grownBy w2 none):=bX (aR HA.out.grown _) hg2;have eT:Hid (w.grownBy w2 none):=bX (aR HG.out _) hg2;clear hg2 y0 y1 y2 y3 y4 y5 y6 y7 i0 i1 i2;cases b with
    | false =>
     have bz:Hid (er=3∧num=(k:Int)):=by
      have:=HN.out;rw[Ae.out] at this;cases this;exact⟨rfl,rfl⟩
     go_wp2_with fail
     refine (tq (k:Int) 3 _).mono ?_;rintro e w3 ⟨rfl,rfl⟩;go_wp2
     rw[bz.out.1,bz.out.2];exact⟨rfl,eT.out,rfl⟩
    | true =>
     have bI:Hid ((er,num)=((Vf.cz (Vf.bC c.m c.u) (c.u.code.drop (k+1)) (k+1)).1,((Vf.cz (Vf.bC c.m c.u) (c.u.code.drop (k+1)) (k+1)).2:Int))):=by
      have:=HN.out;rw[Ae.out] at this;exact this
     go_wp2
     go_roundw
     case rel=>exact⟨k+1,by go_num,hlt,HG2.out,bI.out⟩
     case measure=>simp[intOf];omega
  ·have bz:Hid (er=0∧num=0):=by
    have:=HA.out.rest;rw[List.drop_eq_nil_of_le (by omega)] at this;cases this;exact⟨rfl,rfl⟩
   have HG:Hid (w.grownBy wr none):=bX (aR (World.grownBy.refl _ _) _) HA.out.grown;go_wp2
   go_end0
   rw[bz.out.1,bz.out.2];exact⟨HG.out,rfl⟩
end Go.Proofs.YtfcpglhpolpdcaaGreatDoor
