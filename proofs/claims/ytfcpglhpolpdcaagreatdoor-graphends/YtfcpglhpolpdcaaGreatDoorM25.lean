/- The walk of leave. -/
import Derived.Test.YtfcpglhpolpdcaaGreatDoorM24
import Derived.Test.YtfcpglhpolpdcaaGreatDoorM3
import Derived.Test.YtfcpglhpolpdcaaGreatDoorM20
import Derived.Test.YtfcpglhpolpdcaaGreatDoorM21
set_option maxRecDepth 100000
set_option maxHeartbeats 4000000
namespace Go.Proofs.YtfcpglhpolpdcaaGreatDoor
open Go.RowKit
theorem PS (c:FC)(B F:Nat)(k:Vf.Kn)(n:Nat)(s:Vf.S)(w:World)(h:Hid (WF c B F w k (n:Int) s))(hn:s.row.length≤100000000)(r:Except Int Vf.S)(hr:Hid (r=Vf.eY c.u.code.length k ((n:Int)+1) s)) :
  Calls Tryz.prog 179 #[.pointer (some ⟨F,0,none⟩),.int .i64 ((n:Int)+1)] w fun e w'=>gP c B F k (n:Int) r w e w' :=
 IB c B F k (n:Int) s (n+1) w h hn r hr
theorem aas (c:FC)(B F:Nat)(k:Vf.Kn)(n:Nat)(s:Vf.S)(op a nn:Int)(w:World)(h:Hid (WF c B F w k (n:Int) s))(hn:s.row.length≤99999999)(MW:n≤4000)(hfm:Hid (Vf.bE c.m c.u ⟨op,a,nn⟩=0))(hI:Hid (Inv c.m c.u s))(hk:Hid (aZ c.m k.st))(r:Except Int Vf.S)(hr:Hid (r=Vf.lJ c.u.code.length k (Vf.goes ⟨op,a,nn⟩ n) s)) :
  Calls Tryz.prog 140 #[.pointer (some ⟨F,0,none⟩),.agg #[.int .i64 op,.int .i64 a,.int .i64 nn]] w fun e w'=>gP c B F k (n:Int) r w e w':=by
 have hB:B≤w.heap.size:=by have:=h.out.env.base;have:=h.out.env.lt;omega
 have hlt:=h.out.env.lt;have HB1:Hid (Below B w (w.alloc (ai op a nn))):=(Below.refl B w).alloc hB _;have HW1:Hid (WF c B F (w.alloc (ai op a nn)) k (n:Int) s):=h.out.quiet (mF (World.grownBy.refl _ _) _);obtain⟨top,rv,hF,_⟩:=h.out.fl;have c14:=(fD hF.blk).1;have e1:IntKind.i64.wrap ((n:Int)+1)=(n:Int)+1:=by simp[IntKind.wrap,IntKind.bits,IntKind.signed];omega
 clear hF;by_cases iV:op=24∨op=25
 ·have HR:Hid (r=.ok s):=by unfold Hid;rw[hr.out,Vf.goes,if_pos iV];rfl
  rcases iV with rfl | rfl
  ·go_enter Tryz.func140,Tryz.ntmps140
   go_wp2
   go_end0
   exact gP.good HB1.out HR.out HW1.out
  ·go_enter Tryz.func140,Tryz.ntmps140
   go_wp2
   go_end0
   exact gP.good HB1.out HR.out HW1.out
 ·by_cases h21:op=21
  ·subst h21
   obtain⟨tg,rfl,_⟩:=xK (L:=c.u.code.length) hfm.out rfl;have HR:Hid (r=Vf.eY c.u.code.length k (tg:Int) s):=by
    unfold Hid;rw[hr.out];show Vf.andThen (Vf.eY c.u.code.length k (tg:Int) s) _=_
    cases Vf.eY c.u.code.length k (tg:Int) s<;>rfl
   clear hr iV;go_enter Tryz.func140,Tryz.ntmps140
   go_wp2_with fail
   refine (IB c B F k (n:Int) s tg _ HW1 (by omega) r HR).mono ?_;rintro e w9 hS;have rY:Hid (Below B w w9):=HB1.out.trans hS.below;cases r with
   | error er =>
    obtain rfl:=hS.no er rfl;clear hS;go_wp2
    exact⟨rfl,gP.bad rY.out rfl⟩
   | ok s9 =>
    obtain⟨rfl,rZ⟩:=hS.yes s9 rfl;have Av:=hide rZ;clear hS rZ;go_wp2
    go_end0
    exact gP.good rY.out rfl Av.out
  ·by_cases h22:op=22
   ·subst h22
    obtain⟨tg,rfl,_⟩:=xK (L:=c.u.code.length) hfm.out rfl;obtain⟨r1,hr1⟩:∃ r1,r1=Vf.eY c.u.code.length k (tg:Int) s:=⟨_,rfl⟩;have HR1:=hide hr1;have HR:Hid (r=Vf.andThen r1 fun s1=>Vf.eY c.u.code.length k ((n:Int)+1) s1):=by
     unfold Hid;rw[hr.out];show Vf.andThen (Vf.eY c.u.code.length k (tg:Int) s) (Vf.lJ c.u.code.length k [((n:Int)+1)])=_
     rw[← hr1];cases r1 with
     | error e=>rfl
     | ok s1 =>
      show Vf.andThen (Vf.eY c.u.code.length k ((n:Int)+1) s1) _=Vf.eY c.u.code.length k ((n:Int)+1) s1
      cases Vf.eY c.u.code.length k ((n:Int)+1) s1<;>rfl
    have HL:Hid (∀ s1,r1=.ok s1→s1.row.length≤100000000):=fun s1 e=>by
     have:=(MJ hI.out (by omega) hk.out (hr1.symm.trans e)).2;omega
    clear hr hr1 iV h21;go_enter Tryz.func140,Tryz.ntmps140
    go_wp2_with fail
    refine (IB c B F k (n:Int) s tg _ HW1 (by omega) r1 HR1).mono ?_;rintro e w2 hS;have HB2:Hid (Below B w w2):=HB1.out.trans hS.below;cases r1 with
    | error er =>
     obtain rfl:=hS.no er rfl;have HE:Hid (r=.error er):=HR.out;clear hS;go_wp2
     exact⟨rfl,gP.bad HB2.out HE.out⟩
    | ok s1 =>
     obtain⟨rfl,hW2⟩:=hS.yes s1 rfl;have HW2:=hide hW2;have hl1:=HL.out s1 rfl;have HR2:Hid (r=Vf.eY c.u.code.length k ((n:Int)+1) s1):=HR.out;obtain⟨tT,PT,hF2,_⟩:=hW2.fl;have d14:=(fD hF2.blk).1;clear hS hW2 hF2 HR HL HR1 c14;go_wp2_with fail
     refine (PS c B F k n s1 _ HW2 hl1 r HR2).mono ?_;rintro e w9 hS;have rY:Hid (Below B w w9):=HB2.out.trans hS.below;cases r with
     | error er =>
      obtain rfl:=hS.no er rfl;clear hS;go_wp2
      exact⟨rfl,gP.bad rY.out rfl⟩
     | ok s9 =>
      obtain⟨rfl,rZ⟩:=hS.yes s9 rfl;have Av:=hide rZ;clear hS rZ;go_wp2
      go_end0
      exact gP.good rY.out rfl Av.out
   ·have HR:Hid (r=Vf.eY c.u.code.length k ((n:Int)+1) s):=by
     unfold Hid;rw[hr.out,Vf.goes,if_neg iV,if_neg h21,if_neg h22];show Vf.andThen (Vf.eY c.u.code.length k ((n:Int)+1) s) _=_
     cases Vf.eY c.u.code.length k ((n:Int)+1) s<;>rfl
    have g24:(op==24)=false:=by simp;omega
    have g25:(op==25)=false:=by simp;omega
    have g21:(op==21)=false:=by simpa using h21
    have g22:(op==22)=false:=by simpa using h22
    clear hr iV h21 h22;go_enter Tryz.func140,Tryz.ntmps140
    go_wp2_with fail
    refine (PS c B F k n s _ HW1 (by omega) r HR).mono ?_;rintro e w9 hS;have rY:Hid (Below B w w9):=HB1.out.trans hS.below;cases r with
    | error er =>
     obtain rfl:=hS.no er rfl;clear hS;go_wp2
     exact⟨rfl,gP.bad rY.out rfl⟩
    | ok s9 =>
     obtain⟨rfl,rZ⟩:=hS.yes s9 rfl;have Av:=hide rZ;clear hS rZ;go_wp2
     go_end0
     exact gP.good rY.out rfl Av.out
def fU (er num:Int)(e:Ending):Prop:=e=if er=0 then .returned (.tuple #[]) else .panicked [cz er num]
theorem aat:fU 0 0 (.returned (.tuple #[])):=rfl
theorem PU {er num:Int}(h:er≠0):fU er num (.panicked [cz er num]):=by unfold fU;rw[if_neg h]
def PV (c:FC)(B F:Nat)(er num:Int)(w:World)(gk:Nat)(W:World):Prop :=
 ∃ k n s,WF c B F W k n s∧Below B w W∧Inv c.m c.u s∧Vf.mu c.u.code.length s<gk∧Vf.mu c.u.code.length s≤3000000∧(er,num)=((Vf.gH c.m c.u gk s).1,((Vf.gH c.m c.u gk s).2:Int))
theorem xQ {w:World}{N:Nat}{cs:Array Value}{t:TypeId}{fr:Nat × Nat}(h:w.heap[N]?=some (.cells cs t fr))(o:Nat)(v:Value):(w.setCell ⟨N,o,none⟩ v).heap[N]?=some (.cells (cs.setIfInBounds o v) t fr):=by
 simp only[World.setCell,Array.getElem?_modify,if_true,h,Option.map_some];rfl
theorem WF.front {c:FC}{B F i:Nat}{w:World}{k:Vf.Kn}{n:Int}{come:Nat→Option Vf.Kn}{rest:List Nat}{top:Option Addr}{rv rv':Value}(h:WF c B F w k n ⟨come,i :: rest⟩)(hF:ay c w F top k.st k.fl n rv)(hq:QR w B rv' rest):WF c B F ((w.setCell ⟨F,14,none⟩ (.int .i64 (i:Int))).setCell ⟨F,15,none⟩ rv').drew k (i:Int) ⟨come,rest⟩∧Below B w ((w.setCell ⟨F,14,none⟩ (.int .i64 (i:Int))).setCell ⟨F,15,none⟩ rv').drew:=by
 have hg:w.grownBy ((w.setCell ⟨F,14,none⟩ (.int .i64 (i:Int))).setCell ⟨F,15,none⟩ rv').drew (some F):=ji (kg (kg (fK w F) 14 _) 15 _);have hne:=h.come.ne hF.blk;have kc:=Iq hg hF.blk (fun cs e=>by cases e);refine⟨⟨h.env.grown hg,h.mB,⟨top,rv',⟨?_,hF.sk.keep kc⟩,hq.keep fun j hj=>hg.block j (hq.lt j hj).2 (fun e=>hq.ty hF.blk (fun cs fr e2=>by cases e2) (by rw[hj,← e]))⟩,h.come.keep (hg.block _ h.come.lt (by simp;omega)) kc⟩,below_grown hg (by have:=h.env.base;have:=h.env.lt;omega) (fun j e=>by cases e;exact h.env.base)⟩;show ((w.setCell ⟨F,14,none⟩ (.int .i64 (i:Int))).setCell ⟨F,15,none⟩ rv').heap[F]?=_
 simp only[World.setCell,Array.getElem?_modify,if_true,hF.blk,Option.map_some];rfl
theorem aau (c:FC)(top dm:Option Addr)(k kn:Vf.Kn)(n:Int)(rv:Value):some (Obj.cells (((((((#[.slice c.ab c.m.boxes.length c.cb,.slice c.au c.m.units.length c.cu,.int .i64 c.u.kind,.int .i64 c.u.params,.slice c.al c.u.locals.length c.cl,.int .i64 c.u.result,.int .i64 c.u.takes,.slice c.ac c.u.code.length c.cc,.pointer top,.int .i64 (k.st.length:Int),ah k.fl.a,ah k.fl.b,ah k.fl.c,ah k.fl.d,.int .i64 n,rv,.map (some c.M)]:Array Value).setIfInBounds 8 (.pointer dm)).setIfInBounds 9 (.int .i64 (kn.st.length:Int))).setIfInBounds 10 (ah kn.fl.a)).setIfInBounds 11 (ah kn.fl.b)).setIfInBounds 12 (ah kn.fl.c)).setIfInBounds 13 (ah kn.fl.d)) 202 (0,0))=some (gZ c dm kn.st kn.fl n rv):=by
 simp only[List.setIfInBounds_toArray,List.set_cons_succ,List.set_cons_zero]
theorem aav {c:FC}{w:World}{F:Nat}{top dm:Option Addr}{k kn:Vf.Kn}{n:Int}{rv:Value}(h:w.heap[F]?=some (gZ c top k.st k.fl n rv)):((((((w.setCell ⟨F,8,none⟩ (.pointer dm)).setCell ⟨F,9,none⟩ (.int .i64 (kn.st.length:Int))).setCell ⟨F,10,none⟩ (ah kn.fl.a)).setCell ⟨F,11,none⟩ (ah kn.fl.b)).setCell ⟨F,12,none⟩ (ah kn.fl.c)).setCell ⟨F,13,none⟩ (ah kn.fl.d)).heap[F]?=some (gZ c dm kn.st kn.fl n rv):=by
 have h1:=xQ (xQ (xQ (xQ (xQ (xQ h 8 (.pointer dm)) 9 (.int .i64 (kn.st.length:Int))) 10 (ah kn.fl.a)) 11 (ah kn.fl.b)) 12 (ah kn.fl.c)) 13 (ah kn.fl.d);rw[h1];exact aau c top dm k kn n rv
theorem WF.load {c:FC}{B F:Nat}{w:World}{k kn:Vf.Kn}{n:Int}{s:Vf.S}{top dm:Option Addr}{rv:Value}(h:WF c B F w k n s)(hF:ay c w F top k.st k.fl n rv)(hs:eP w dm kn.st) :
  WF c B F ((((((w.setCell ⟨F,8,none⟩ (.pointer dm)).setCell ⟨F,9,none⟩ (.int .i64 (kn.st.length:Int))).setCell ⟨F,10,none⟩ (ah kn.fl.a)).setCell ⟨F,11,none⟩ (ah kn.fl.b)).setCell ⟨F,12,none⟩ (ah kn.fl.c)).setCell ⟨F,13,none⟩ (ah kn.fl.d)).drew kn n s∧Below B w ((((((w.setCell ⟨F,8,none⟩ (.pointer dm)).setCell ⟨F,9,none⟩ (.int .i64 (kn.st.length:Int))).setCell ⟨F,10,none⟩ (ah kn.fl.a)).setCell ⟨F,11,none⟩ (ah kn.fl.b)).setCell ⟨F,12,none⟩ (ah kn.fl.c)).setCell ⟨F,13,none⟩ (ah kn.fl.d)).drew:=by
 have hg0:=kg (kg (kg (kg (kg (kg (fK w F) 8 (.pointer dm)) 9 (.int .i64 (kn.st.length:Int))) 10 (ah kn.fl.a)) 11 (ah kn.fl.b)) 12 (ah kn.fl.c)) 13 (ah kn.fl.d);have hb:=aav (dm:=dm) (kn:=kn) hF.blk;generalize ((((((w.setCell ⟨F,8,none⟩ (.pointer dm)).setCell ⟨F,9,none⟩ (.int .i64 (kn.st.length:Int))).setCell ⟨F,10,none⟩ (ah kn.fl.a)).setCell ⟨F,11,none⟩ (ah kn.fl.b)).setCell ⟨F,12,none⟩ (ah kn.fl.c)).setCell ⟨F,13,none⟩ (ah kn.fl.d))=X at *;have hg:=ji hg0;refine⟨h.own (top:=dm) (rv:=rv) hg (ay.drew ⟨hb,hs.grown hg0 hF.blk⟩) (fun tT PT h2=>?_),below_grown hg (by have:=h.env.base;have:=h.env.lt;omega) (fun j e=>by cases e;exact h.env.base)⟩;have:=hF.blk.symm.trans h2.blk;simp at this;exact this.2
theorem aaw {m:Vf.Md}{u:Vf.Un}{come:Nat→Option Vf.Kn}(f:Nat):Vf.gH m u f ⟨come,[]⟩=(0,0):=by cases f<;>rfl
theorem aax (c:FC)(B F:Nat)(w:World)(h0:Hid (ay c w F none [] Vf.Fl.none 0 (.slice none 0 0)))(hE:Hid (Env c B F w))(hC:Hid (fB w c.M (fun _=>none)))(hM:B≤c.M)(hR:Hid (Rt c.m))(hu:Hid (Vf.gm c.m c.u=0))(hfo:Hid (Vf.Forms c.m c.u))(er num:Int)(hr:Hid ((er,num)=((Vf.gY c.m c.u).1,((Vf.gY c.m c.u).2:Int)))) :
  Calls Tryz.prog 97 #[.pointer (some ⟨F,0,none⟩)] w fun e w'=>Below B w w'∧fU er num e:=by
 have hlt:=hE.out.lt;have jJ:=hE.out.base;obtain⟨hz1,hz2,hz3,o9,IC,hz6⟩:=ko (iF hu.out).2.1;obtain⟨p,hp⟩:∃ p:Nat,c.u.params=p:=⟨c.u.params.toNat,by omega⟩;have Xb:p≤6:=by omega
 have c3:=(dV h0.out.blk).2.2.2.1;rw[hp] at c3;have HP:Hid (c.u.params.toNat=p):=by unfold Hid;omega
 clear hp hz2 hz3 o9;go_enter Tryz.func97,Tryz.ntmps97
 go_wp2
 go_loopw [9] (fun v wr=>∃ k:Nat,v=.int .i64 k∧k≤p∧Hid (ay c wr F none [] (Vf.Fl.first k) 0 (.slice none 0 0))∧Hid (w.grownBy wr (some F))) (fun v _=>p - (intOf v).toNat)
 case atStart=>exact⟨0,rfl,Nat.zero_le _,h0,fK _ _⟩
 case round =>
  obtain⟨k,rfl,hkp,HF,HG⟩:=hrel;clear c3;by_cases hk:k<p
  ·go_wp2_with fail
   refine (Mo c F none [] (Vf.Fl.first k) 0 (.slice none 0 0) k (by omega) _ HF).mono ?_;rintro e w1 ⟨rfl,hg1,hF1⟩;have aA:Hid (w.grownBy w1 (some F)):=aY HG.out hg1;have aF:Hid (ay c w1 F none [] (Vf.Fl.first (k+1)) 0 (.slice none 0 0)):=hF1;clear hg1 hF1;go_wp2
   go_roundw
   case rel=>exact⟨k+1,by go_num,by omega,aF,aA⟩
   case measure=>simp[intOf];omega
  ·obtain rfl:k=p:=by omega
   obtain⟨d8,d9,_⟩:=mQ HF.out.blk;obtain⟨d10,d11,d12,d13,_⟩:=rG HF.out.blk;have PW:KC w wr:=Iq HG.out h0.out.blk (fun cs e=>by cases e);have hne:=hC.out.ne h0.out.blk;have HW:Hid (WF c B F wr ⟨[],Vf.Fl.first k⟩ 0 ⟨fun _=>none,[]⟩):=⟨hE.out.grown HG.out,hM,⟨none,_,HF.out,QR.nil _ _⟩,hC.out.keep (HG.out.block _ hC.out.lt (by simp;omega)) PW⟩;have HB:Hid (Below B w wr):=below_grown HG.out (by omega) (fun j e=>by cases e;exact jJ);have HST:Hid ((⟨fun _=>none,[]⟩:Vf.S).note 0 ⟨[],Vf.Fl.first k⟩=Vf.start c.u):=by unfold Hid;unfold Vf.start;rw[HP.out]
   clear PW hne;go_wp2_with fail
   refine (Ir c B F ⟨[],Vf.Fl.first k⟩ ⟨[],Vf.Fl.first k⟩ 0 ⟨fun _=>none,[]⟩ 0 none _ HW (hide rfl) (Nat.zero_le _)).mono ?_;rintro e w1 ⟨rfl,hW1,hb1⟩;rw[HST.out] at hW1;have PX:Hid (PV c B F er num w (Vf.mu c.u.code.length (Vf.start c.u)+1) w1):=by
    refine⟨_,_,_,hW1,HB.out.trans hb1,?_,by omega,?_,hr.out⟩
    ·refine Da ⟨fun i k hk=>(by cases hk),fun i hi=>(by cases hi)⟩ IC ⟨fun t ht=>(by cases ht),by simp⟩
    ·have:=Vf.VR (u:=c.u)
     omega
   have HB1:Hid (Below B w w1):=HB.out.trans hb1;clear hW1 hb1 d8 d9 d10 d11 d12 d13 hkp hk HW HB HST HF HG;go_wp2_with fail
   go_loopg [] (Vf.mu c.u.code.length (Vf.start c.u)+1) (fun gk wr=>PV c B F er num w gk wr)
   case atStart=>exact PX.out
   case round =>
    obtain⟨kk,n,s,hW,hb,hI,hmu,PY,hfl⟩:=hrel;clear PX HB1;have ahB:=hW.env.lt;obtain⟨top,rv,hF,hq⟩:=hW.fl;obtain⟨come,row⟩:=s;have HW:=hide hW;have HB:=hide hb;have HI:=hide hI;have PZ:=hide hmu;have pG:=hide PY;have nk:=hide hfl;have HF:=hide hF;clear hW hb hI hmu PY hfl hF;cases row with
    | nil =>
     obtain⟨ar,cr,jm⟩:=hq.form;subst jm;have d15:=(fD HF.out.blk).2.1;have HE:Hid (er=0∧num=0):=by
      have:=nk.out;rw[aaw] at this;cases this;exact⟨rfl,rfl⟩
     clear hq;go_wp2
     go_end0
     rw[HE.out.1,HE.out.2];exact⟨HB.out,aat⟩
    | cons i rest =>
     obtain⟨g,off,cap,jm,hcap,cx,hq1,hq2⟩:=hq.pop;subst jm;have hgF:g≠F:=fun e=>by
      subst e;exact hq.ty HF.out.blk (fun cs fr e=>by cases e) rfl
     obtain⟨d14,d15,d16,Iu,Py⟩:=fD HF.out.blk;have hL0:(0:Int)<(rest.length:Int)+1:=by omega
     have xJ:=hide hq1;have Ap:=hide hq2;clear hq hq1 hq2;go_upto_region 7 with fail
     go_cut [] (fun wx=>WF c B F wx kk (i:Int) ⟨come,rest⟩∧Below B wr wx)
     case first =>
      have m0:(0:Int)≤(rest.length:Int):=by omega
      by_cases hc1:cap=1
      ·subst hc1
       have hr0:rest.length=0:=by omega
       have HQ:=hide (xJ.out rfl);rw[hr0] at d15 hL0 HF;rw[hr0];go_region
       all_goals
        go_wp2_with fail
        go_meet
        exact HW.out.front HF.out HQ.out
      ·have HQ:=hide (Ap.out hc1)
       have hcI:¬ (cap:Int)=1:=by omega
       go_region
       all_goals
        go_wp2_with fail
        go_meet
        exact HW.out.front HF.out HQ.out
     case rest =>
      obtain⟨hW2,hb2⟩:=hcut;obtain⟨kn,P6⟩:=HI.out.row i List.mem_cons_self;have hkn:come i=some kn:=P6;clear P6;obtain⟨hil,hok⟩:=HI.out.come i kn hkn;obtain⟨x,hx⟩:∃ x,c.u.code[i]?=some x:=⟨_,List.getElem?_eq_getElem hil⟩;have HX:=hide hx;have Ae:=hide hok;have PQ:=hide hkn;have HB2:Hid (Below B w wc):=HB.out.trans hb2;have HI2:Hid (Inv c.m c.u ⟨come,rest⟩):=⟨HI.out.come,fun j hj=>HI.out.row j (List.mem_cons_of_mem _ hj)⟩;have ahC:i<4000:=by omega
      obtain⟨r,hrr⟩:∃ r,r=Vf.look c.m c.u i ⟨come,rest⟩:=⟨_,rfl⟩;have HRR:Hid (r=Vf.andThen (Vf.gp c.m c.u x kn) fun k'=>Vf.lJ c.u.code.length k' (Vf.goes x i) ⟨come,rest⟩):=by
       unfold Hid;rw[hrr,Vf.look];simp only[hkn,hx]
      have xR:Hid (NZ r):=by rw[hrr];exact Gj _ _ _ _
      have HLM:Hid (∀ s',r=.ok s'→Vf.mu c.u.code.length s'≤Vf.mu c.u.code.length ⟨come,rest⟩):=fun s' e=>Vf.L8 hfo.out (hrr.symm.trans e);have xS:Hid (Vf.bE c.m c.u x=0):=hfo.out x (List.mem_of_getElem? hx);have P8:Hid (Vf.mu c.u.code.length ⟨come,i :: rest⟩=Vf.mu c.u.code.length ⟨come,rest⟩+1):=Vf.L9;obtain⟨f,rfl⟩:∃ f,gk=f+1:=⟨gk - 1,by have:=PZ.out;omega⟩;have Aw:Hid (∀ iE,r=.error iE→er=iE∧num=(i:Int)):=fun iE e=>by
       have h1:=nk.out;have h2:Vf.gH c.m c.u (f+1) ⟨come,i :: rest⟩=(iE,i):=by
        unfold Vf.gH;simp only;rw[← hrr,e]
       rw[h2] at h1;cases h1;exact⟨rfl,rfl⟩
      have rR:Hid (∀ s',r=.ok s'→(er,num)=((Vf.gH c.m c.u f s').1,((Vf.gH c.m c.u f s').2:Int))):=fun s' e=>by
       have h1:=nk.out;have h2:Vf.gH c.m c.u (f+1) ⟨come,i :: rest⟩=Vf.gH c.m c.u f s':=by
        conv=>lhs;unfold Vf.gH
        simp only;rw[← hrr,e]
       rw[h2] at h1;exact h1
      clear hx hok hkn hrr hb2 nk xJ Ap cx d14 d15 d16 Iu Py HW HF HI HB hgF;obtain⟨tT,PT,hF2,hq2⟩:=hW2.fl;obtain⟨e14,e15,e16,y14,Pz⟩:=fD hF2.blk;obtain⟨e8,e9,y8,y9⟩:=mQ hF2.blk;obtain⟨e10,e11,e12,e13,y10,y11,y12,y13⟩:=rG hF2.blk;obtain⟨tk,hsk,hlk,_⟩:=Pj hW2.come.drew PQ.out;have IE:=hide (hW2.load hF2 (hsk.keep fun _ _ hb=>hb));have HB3:=hide (HB2.out.trans IE.out.2);clear hF2 hq2 hsk hW2;go_upto_region 8 with fail
      go_cut [] (fun wx=>WF c B F wx kn (i:Int) ⟨come,rest⟩∧Below B w wx)
      case first =>
       go_region
       all_goals
        go_wp2_with fail
        go_meet
        exact⟨IE.out.1,HB3.out⟩
      case rest =>
       obtain⟨gF,hb4⟩:=hcut;clear e8 e9 e10 e11 e12 e13 e14 e15 e16 y8 y9 y10 y11 y12 y13 y14 Pz hlk IE HB3 HB2;have jO:=hide gF;have oH:=hide hb4;obtain⟨Mm,rv4,nU,hq4⟩:=gF.fl;have o5:=hide nU;obtain⟨_,_,_,bc,oc,hac,hbc,i0,i1,i2⟩:=gF.env.un.code i x HX.out;have DX:Hid (∀ w',Low B wc w'→(∃ top st f rv,ay c w' F top st f (i:Int) rv)→(w'.cell? ⟨F,7,none⟩=some (.slice (some ⟨bc,oc,none⟩) c.u.code.length c.cc)∧w'.cell? ⟨F,14,none⟩=some (.int .i64 (i:Int))∧w'.cell? ⟨bc,oc+i * 3,none⟩=some (.int .i64 x.op)∧w'.cell? ⟨bc,oc+i * 3+1,none⟩=some (.int .i64 x.a)∧w'.cell? ⟨bc,oc+i * 3+2,none⟩=some (.int .i64 x.n))):=fun w' hlow ⟨tp,st,f',rv',hF'⟩=>by
        have c7:=(dV hF'.blk).2.2.2.2.2.2.2;rw[hac] at c7;exact⟨c7,(fD hF'.blk).1,(aI (hlow bc hbc) _).trans i0,(aI (hlow bc hbc) _).trans i1,(aI (hlow bc hbc) _).trans i2⟩
       have hiI:(i:Int)<(c.u.code.length:Int):=by omega
       have q4:=DX.out wc (fun _ _=>rfl) ⟨_,_,_,_,nU⟩;obtain⟨rS,DY⟩:∃ rS,rS=Vf.eO c.m c.u x kn:=⟨_,rfl⟩;have xB:=hide DY;have IG:Hid (r=Vf.andThen rS fun st'=>Vf.lJ c.u.code.length ⟨st',Vf.mP x kn.fl⟩ (Vf.goes x i) ⟨come,rest⟩):=by
        unfold Hid;rw[HRR.out,Vf.gp,← DY];cases rS<;>rfl
       have aaF:Hid (Ok (aZ c.m) rS):=by rw[DY];exact MH hR.out hu.out xS.out Ae.out
       have DZ:Hid (∀ w',wc.grownBy w' (some F)→Below B wc w'):=fun w' hg=>below_grown hg (by have:=gF.env.base;have:=gF.env.lt;omega) (fun j e=>by cases e;exact gF.env.base);clear gF hb4 nU hq4 i0 i1 i2 DY HRR;go_wp2_with fail
       refine wp_region_held_drew (S:=fun w'=>w'.cell? ⟨F,7,none⟩=some (.slice (some ⟨bc,oc,none⟩) c.u.code.length c.cc)∧w'.cell? ⟨F,14,none⟩=some (.int .i64 (i:Int))∧w'.cell? ⟨bc,oc+i * 3,none⟩=some (.int .i64 x.op)∧w'.cell? ⟨bc,oc+i * 3+1,none⟩=some (.int .i64 x.a)∧w'.cell? ⟨bc,oc+i * 3+2,none⟩=some (.int .i64 x.n)) (by kernel_rfl) q4 (fun hHeld=>?_);refine wpAnyH_take (i:=0) (oi:=_) (v:=?_) rfl (by kernel_rfl) (by kernel_rfl) (by kernel_rfl) (fun _ _ _ h=>h) (Or.inl ⟨by rfl,?_⟩) (by assumption) ?_;rotate_left
       ·intro w hSw
        (try dsimp only at hSw)
        go_simp
        (try with_reducible rfl)
       (try go_frame)
       refine wpAnyH_take (i:=1) (oi:=_) (v:=?_) rfl (by kernel_rfl) (by kernel_rfl) (by kernel_rfl) (fun _ _ _ h=>h) (Or.inl ⟨by rfl,?_⟩) (by assumption) ?_;rotate_left
       ·intro w hSw
        (try dsimp only at hSw)
        go_simp
        (try with_reducible rfl)
       (try go_frame)
       refine wpAnyH_take (i:=2) (oi:=_) (v:=?_) rfl (by kernel_rfl) (by kernel_rfl) (by kernel_rfl) (fun _ _ _ h=>h) (Or.inl ⟨by rfl,?_⟩) (by assumption) ?_;rotate_left
       ·intro w hSw
        (try dsimp only at hSw)
        go_simp
        (try with_reducible rfl)
       (try go_frame)
       refine wpAnyH_take (i:=3) (oi:=_) (v:=?_) rfl (by kernel_rfl) (by kernel_rfl) (by kernel_rfl) (fun _ _ _ h=>h) (Or.inl ⟨by rfl,?_⟩) (by assumption) ?_;rotate_left
       ·intro w hSw
        (try dsimp only at hSw)
        go_simp
        (try with_reducible rfl)
       (try go_frame)
       refine wpAnyH_take (i:=4) (oi:=_) (v:=?_) rfl (by kernel_rfl) (by kernel_rfl) (by kernel_rfl) (fun _ _ _ h=>h) (Or.inl ⟨by rfl,?_⟩) (by assumption) ?_;rotate_left
       ·intro w hSw
        (try dsimp only at hSw)
        go_simp
        (try with_reducible rfl)
       (try go_frame)
       refine wpAnyH_take (i:=5) (oi:=_) (v:=?_) rfl (by kernel_rfl) (by kernel_rfl) (by kernel_rfl) (fun _ _ _ h=>h) (Or.inl ⟨by rfl,?_⟩) (by assumption) ?_;rotate_left
       ·intro w hSw
        (try dsimp only at hSw)
        go_simp
        (try with_reducible rfl)
       (try go_frame)
       refine wpAnyH_take (i:=6) (oi:=_) (v:=?_) rfl (by kernel_rfl) (by kernel_rfl) (by kernel_rfl) (fun _ _ _ h=>h) (Or.inl ⟨by rfl,?_⟩) (by assumption) ?_;rotate_left
       ·intro w hSw
        (try dsimp only at hSw)
        go_simp
        (try with_reducible rfl)
       (try go_frame)
       refine wpAnyH_take (i:=7) (oi:=_) (v:=?_) rfl (by kernel_rfl) (by kernel_rfl) (by kernel_rfl) (fun _ _ _ h=>h) (Or.inl ⟨by rfl,?_⟩) (by assumption) ?_;rotate_left
       ·intro w hSw
        (try dsimp only at hSw)
        go_simp
        (try with_reducible rfl)
       (try go_frame)
       refine wpAnyH_take (i:=8) (oi:=_) (v:=?_) rfl (by kernel_rfl) (by kernel_rfl) (by kernel_rfl) (fun _ _ _ h=>h) (Or.inl ⟨by rfl,?_⟩) (by assumption) ?_;rotate_left
       ·intro w hSw
        (try dsimp only at hSw)
        go_simp
        (try with_reducible rfl)
       (try go_frame)
       refine wpAnyH_take (i:=9) (oi:=_) (v:=?_) rfl (by kernel_rfl) (by kernel_rfl) (by kernel_rfl) (fun _ _ _ h=>h) (Or.inl ⟨by rfl,?_⟩) (by assumption) ?_;rotate_left
       ·intro w hSw
        (try dsimp only at hSw)
        go_simp
        (try with_reducible rfl)
       (try go_frame)
       refine wpAnyH_take (i:=10) (oi:=_) (v:=?_) rfl (by kernel_rfl) (by kernel_rfl) (by kernel_rfl) (fun _ _ _ h=>h) (Or.inl ⟨by rfl,?_⟩) (by assumption) ?_;rotate_left
       ·intro w hSw
        (try dsimp only at hSw)
        go_simp
        (try with_reducible rfl)
       (try go_frame)
       refine wpAnyH_take (i:=11) (oi:=_) (v:=?_) rfl (by kernel_rfl) (by kernel_rfl) (by kernel_rfl) (fun _ _ _ h=>h) (Or.inl ⟨by rfl,?_⟩) (by assumption) ?_;rotate_left
       ·intro w hSw
        (try dsimp only at hSw)
        go_simp
        (try with_reducible rfl)
       (try go_frame)
       refine wpAnyH_take (i:=12) (oi:=_) (v:=?_) rfl (by kernel_rfl) (by kernel_rfl) (by kernel_rfl) (fun _ _ _ h=>h) (Or.inl ⟨by rfl,?_⟩) (by assumption) ?_;rotate_left
       ·intro w hSw
        (try dsimp only at hSw)
        go_simp
        (try with_reducible rfl)
       (try go_frame)
       refine wpAnyH_ready (rs:=[13]) (by kernel_rfl) (by simp) ?_;refine AllReadyH.cons (o:=_) rfl (fun K hK=>?_) AllReadyH.nil;go_simp
       refine (GI c F B Mm kn.st kn.fl (i:Int) rv4 x.op x.a x.n _ (hide o5.out.drew) (hide jO.out.env.drew) Ae.out.2 (hide Ae.out.1) hR xS hz1 rS xB).mono ?_;rintro e w5 hS;have hg5:wc.grownBy w5 (some F):=iQ hS.grown;cases rS with
       | error iE =>
        obtain rfl:=hS.no iE rfl;have HE:=hide (Aw.out iE IG.out);have uE:Hid (iE≠0):=xR.out iE IG.out;have II:Hid (Below B w w5):=oH.out.trans (DZ.out w5 hg5);clear hS hK hg5;go_wp2
        rw[HE.out.1,HE.out.2];exact⟨rfl,II.out,PU uE.out⟩
       | ok nD =>
        obtain⟨rfl,ahE,D5⟩:=hS.yes nD rfl;have iK:Hid (WF c B F w5 ⟨nD,Vf.mP x kn.fl⟩ (i:Int) ⟨come,rest⟩):=jO.out.own (k':=⟨nD,Vf.mP x kn.fl⟩) hg5 D5 (fun tp rv' h'=>by
         have:=o5.out.blk.symm.trans h'.blk;simp at this;exact this.2)
        have P9:Hid (aZ c.m nD):=aaF.out nD rfl;have Qa:Hid (r=Vf.lJ c.u.code.length ⟨nD,Vf.mP x kn.fl⟩ (Vf.goes x i) ⟨come,rest⟩):=IG.out;have q5:=DX.out w5 (fun j hj=>(DZ.out w5 hg5).block j hj) ⟨_,_,_,_,D5⟩;have II:Hid (Below B w w5):=oH.out.trans (DZ.out w5 hg5);have HF5:=hide D5;have qN:Hid (∀ w',Below B w5 w'→(∃ top st f rv,ay c w' F top st f (i:Int) rv)→(w'.cell? ⟨F,7,none⟩=some (.slice (some ⟨bc,oc,none⟩) c.u.code.length c.cc)∧w'.cell? ⟨F,14,none⟩=some (.int .i64 (i:Int))∧w'.cell? ⟨bc,oc+i * 3,none⟩=some (.int .i64 x.op)∧w'.cell? ⟨bc,oc+i * 3+1,none⟩=some (.int .i64 x.a)∧w'.cell? ⟨bc,oc+i * 3+2,none⟩=some (.int .i64 x.n))):=fun w' hb hF'=>DX.out w' (fun j hj=>(hb.block j hj).trans ((DZ.out w5 hg5).block j hj)) hF';refine hK.out _ _ q5 (fun hHeld=>?_);clear hK hS hg5 D5 hHeld q4;refine wpAnyH_done (by kernel_rfl) ?_ _;have aaG:rest.length≤99999999:=by have h1:=pG.out;have h2:rest.length≤Vf.mu c.u.code.length ⟨come,rest⟩:=Vf.VQ (s:=⟨come,rest⟩);have h3:=P8.out;omega
        go_wp2_with fail
        refine wp_region_held_drew (S:=fun w'=>w'.cell? ⟨F,7,none⟩=some (.slice (some ⟨bc,oc,none⟩) c.u.code.length c.cc)∧w'.cell? ⟨F,14,none⟩=some (.int .i64 (i:Int))∧w'.cell? ⟨bc,oc+i * 3,none⟩=some (.int .i64 x.op)∧w'.cell? ⟨bc,oc+i * 3+1,none⟩=some (.int .i64 x.a)∧w'.cell? ⟨bc,oc+i * 3+2,none⟩=some (.int .i64 x.n)) (by kernel_rfl) q5 (fun hHeld=>?_);refine wpAnyH_take (i:=0) (oi:=_) (v:=?_) rfl (by kernel_rfl) (by kernel_rfl) (by kernel_rfl) (fun _ _ _ h=>h) (Or.inl ⟨by rfl,?_⟩) (by assumption) ?_;rotate_left
        ·intro w hSw
         (try dsimp only at hSw)
         go_simp
         (try with_reducible rfl)
        (try go_frame)
        refine wpAnyH_take (i:=1) (oi:=_) (v:=?_) rfl (by kernel_rfl) (by kernel_rfl) (by kernel_rfl) (fun _ _ _ h=>h) (Or.inl ⟨by rfl,?_⟩) (by assumption) ?_;rotate_left
        ·intro w hSw
         (try dsimp only at hSw)
         go_simp
         (try with_reducible rfl)
        (try go_frame)
        refine wpAnyH_take (i:=2) (oi:=_) (v:=?_) rfl (by kernel_rfl) (by kernel_rfl) (by kernel_rfl) (fun _ _ _ h=>h) (Or.inl ⟨by rfl,?_⟩) (by assumption) ?_;rotate_left
        ·intro w hSw
         (try dsimp only at hSw)
         go_simp
         (try with_reducible rfl)
        (try go_frame)
        refine wpAnyH_take (i:=3) (oi:=_) (v:=?_) rfl (by kernel_rfl) (by kernel_rfl) (by kernel_rfl) (fun _ _ _ h=>h) (Or.inl ⟨by rfl,?_⟩) (by assumption) ?_;rotate_left
        ·intro w hSw
         (try dsimp only at hSw)
         go_simp
         (try with_reducible rfl)
        (try go_frame)
        refine wpAnyH_take (i:=4) (oi:=_) (v:=?_) rfl (by kernel_rfl) (by kernel_rfl) (by kernel_rfl) (fun _ _ _ h=>h) (Or.inl ⟨by rfl,?_⟩) (by assumption) ?_;rotate_left
        ·intro w hSw
         (try dsimp only at hSw)
         go_simp
         (try with_reducible rfl)
        (try go_frame)
        refine wpAnyH_take (i:=5) (oi:=_) (v:=?_) rfl (by kernel_rfl) (by kernel_rfl) (by kernel_rfl) (fun _ _ _ h=>h) (Or.inl ⟨by rfl,?_⟩) (by assumption) ?_;rotate_left
        ·intro w hSw
         (try dsimp only at hSw)
         go_simp
         (try with_reducible rfl)
        (try go_frame)
        refine wpAnyH_take (i:=6) (oi:=_) (v:=?_) rfl (by kernel_rfl) (by kernel_rfl) (by kernel_rfl) (fun _ _ _ h=>h) (Or.inl ⟨by rfl,?_⟩) (by assumption) ?_;rotate_left
        ·intro w hSw
         (try dsimp only at hSw)
         go_simp
         (try with_reducible rfl)
        (try go_frame)
        refine wpAnyH_take (i:=7) (oi:=_) (v:=?_) rfl (by kernel_rfl) (by kernel_rfl) (by kernel_rfl) (fun _ _ _ h=>h) (Or.inl ⟨by rfl,?_⟩) (by assumption) ?_;rotate_left
        ·intro w hSw
         (try dsimp only at hSw)
         go_simp
         (try with_reducible rfl)
        (try go_frame)
        refine wpAnyH_take (i:=8) (oi:=_) (v:=?_) rfl (by kernel_rfl) (by kernel_rfl) (by kernel_rfl) (fun _ _ _ h=>h) (Or.inl ⟨by rfl,?_⟩) (by assumption) ?_;rotate_left
        ·intro w hSw
         (try dsimp only at hSw)
         go_simp
         (try with_reducible rfl)
        (try go_frame)
        refine wpAnyH_take (i:=9) (oi:=_) (v:=?_) rfl (by kernel_rfl) (by kernel_rfl) (by kernel_rfl) (fun _ _ _ h=>h) (Or.inl ⟨by rfl,?_⟩) (by assumption) ?_;rotate_left
        ·intro w hSw
         (try dsimp only at hSw)
         go_simp
         (try with_reducible rfl)
        (try go_frame)
        refine wpAnyH_take (i:=10) (oi:=_) (v:=?_) rfl (by kernel_rfl) (by kernel_rfl) (by kernel_rfl) (fun _ _ _ h=>h) (Or.inl ⟨by rfl,?_⟩) (by assumption) ?_;rotate_left
        ·intro w hSw
         (try dsimp only at hSw)
         go_simp
         (try with_reducible rfl)
        (try go_frame)
        refine wpAnyH_take (i:=11) (oi:=_) (v:=?_) rfl (by kernel_rfl) (by kernel_rfl) (by kernel_rfl) (fun _ _ _ h=>h) (Or.inl ⟨by rfl,?_⟩) (by assumption) ?_;rotate_left
        ·intro w hSw
         (try dsimp only at hSw)
         go_simp
         (try with_reducible rfl)
        (try go_frame)
        refine wpAnyH_take (i:=12) (oi:=_) (v:=?_) rfl (by kernel_rfl) (by kernel_rfl) (by kernel_rfl) (fun _ _ _ h=>h) (Or.inl ⟨by rfl,?_⟩) (by assumption) ?_;rotate_left
        ·intro w hSw
         (try dsimp only at hSw)
         go_simp
         (try with_reducible rfl)
        (try go_frame)
        refine wpAnyH_ready (rs:=[13]) (by kernel_rfl) (by simp) ?_;refine AllReadyH.cons (o:=_) rfl (fun K hK=>?_) AllReadyH.nil;go_simp
        refine (aas c B F ⟨nD,Vf.mP x kn.fl⟩ i ⟨come,rest⟩ x.op x.a x.n _ (hide (iK.out.quiet (uK (World.grownBy.refl _ _)))) aaG (by omega) xS HI2 P9 r Qa).mono ?_;rintro e w6 hS;have Qb:Hid (Below B w w6):=II.out.trans (by have:=hS.below;exact⟨this.os,this.tape,this.output,this.size,this.block⟩);cases r with
        | error iE =>
         obtain rfl:=hS.no iE rfl;have HE:=hide (Aw.out iE rfl);have uE:Hid (iE≠0):=xR.out iE rfl;clear hS hK;go_wp2
         rw[HE.out.1,HE.out.2];exact⟨rfl,Qb.out,PU uE.out⟩
        | ok s6 =>
         obtain⟨rfl,IJ⟩:=hS.yes s6 rfl;have HI6:Hid (Inv c.m c.u s6):=Gp (k:=⟨nD,Vf.mP x kn.fl⟩) P9.out HI2.out (Vf.CV xS.out i) Qa.out.symm;have Ay:=hide (HLM.out s6 rfl);have HF6:=hide (rR.out s6 rfl);have HW6:=hide IJ;obtain⟨ahG,rv6,CX,_⟩:=IJ.fl;refine hK.out _ _ (qN.out w6 (by have:=hS.below;exact⟨this.os,this.tape,this.output,this.size,this.block⟩) ⟨_,_,_,_,CX⟩) (fun hHeld=>?_);clear hK hS IJ CX hHeld q5;refine wpAnyH_done (by kernel_rfl) ?_ _;go_wp2
         go_roundg f
         case measure=>omega
         case rel =>
          have h1:=PZ.out;have h2:=P8.out;have h3:=Ay.out;have h4:=pG.out;exact⟨_,_,s6,HW6.out,Qb.out,HI6.out,by omega,by omega,HF6.out⟩
theorem fI (w:World)(a b:Obj):w.grownBy ((w.alloc a).alloc b) none:=aR (aR (World.grownBy.refl _ _) _) _
theorem aaK (c:FC)(a nn:Int)(w:World)(b:Bool)(hb:Hid (b=(a==0 || a==1))) :
  Calls Tryz.prog 136 #[jq c,.agg #[.int .i64 2,.int .i64 a,.int .i64 nn]] w fun e w'=>e=.returned (.bool b)∧w.grownBy w' none:=by
 go_enter Tryz.func136,Tryz.ntmps136
 go_wp2
 all_goals
  go_ret
  refine⟨rT ?_,fI _ _ _⟩;rw[hb.out];(try simp[*])
  (try omega)
theorem aaL (c:FC)(a nn:Int)(w:World)(b:Bool)(hb:Hid (b=(decide (0≤a) && decide (a<c.u.locals.length)))) :
  Calls Tryz.prog 136 #[jq c,.agg #[.int .i64 3,.int .i64 a,.int .i64 nn]] w fun e w'=>e=.returned (.bool b)∧w.grownBy w' none:=by
 go_enter Tryz.func136,Tryz.ntmps136
 go_wp2
 all_goals
  go_ret
  refine⟨rT ?_,fI _ _ _⟩;rw[hb.out];(try simp[*])
  (try omega)
theorem aaM (c:FC)(a nn:Int)(w:World)(b:Bool)(hb:Hid (b=(decide (0≤a) && decide (a<c.u.locals.length)))) :
  Calls Tryz.prog 136 #[jq c,.agg #[.int .i64 4,.int .i64 a,.int .i64 nn]] w fun e w'=>e=.returned (.bool b)∧w.grownBy w' none:=by
 go_enter Tryz.func136,Tryz.ntmps136
 go_wp2
 all_goals
  go_ret
  refine⟨rT ?_,fI _ _ _⟩;rw[hb.out];(try simp[*])
  (try omega)
theorem aaN (c:FC)(a nn:Int)(w:World)(b:Bool)(hb:Hid (b=(decide (0≤a) && decide (a<c.u.code.length)))) :
  Calls Tryz.prog 136 #[jq c,.agg #[.int .i64 21,.int .i64 a,.int .i64 nn]] w fun e w'=>e=.returned (.bool b)∧w.grownBy w' none:=by
 go_enter Tryz.func136,Tryz.ntmps136
 go_wp2
 all_goals
  go_ret
  refine⟨rT ?_,fI _ _ _⟩;rw[hb.out];(try simp[*])
  (try omega)
theorem aaO (c:FC)(a nn:Int)(w:World)(b:Bool)(hb:Hid (b=(decide (0≤a) && decide (a<c.u.code.length)))) :
  Calls Tryz.prog 136 #[jq c,.agg #[.int .i64 22,.int .i64 a,.int .i64 nn]] w fun e w'=>e=.returned (.bool b)∧w.grownBy w' none:=by
 go_enter Tryz.func136,Tryz.ntmps136
 go_wp2
 all_goals
  go_ret
  refine⟨rT ?_,fI _ _ _⟩;rw[hb.out];(try simp[*])
  (try omega)
theorem aaP (c:FC)(a nn:Int)(w:World)(b:Bool)(hb:Hid (b=(decide (0≤a) && decide (a<c.m.boxes.length)))) :
  Calls Tryz.prog 136 #[jq c,.agg #[.int .i64 26,.int .i64 a,.int .i64 nn]] w fun e w'=>e=.returned (.bool b)∧w.grownBy w' none:=by
 go_enter Tryz.func136,Tryz.ntmps136
 go_wp2
 all_goals
  go_ret
  refine⟨rT ?_,fI _ _ _⟩;rw[hb.out];(try simp[*])
  (try omega)
theorem aaQ (c:FC)(a nn:Int)(w:World)(b:Bool)(hb:Hid (b=(decide (0≤a) && decide (a<c.m.boxes.length)))) :
  Calls Tryz.prog 136 #[jq c,.agg #[.int .i64 27,.int .i64 a,.int .i64 nn]] w fun e w'=>e=.returned (.bool b)∧w.grownBy w' none:=by
 go_enter Tryz.func136,Tryz.ntmps136
 go_wp2
 all_goals
  go_ret
  refine⟨rT ?_,fI _ _ _⟩;rw[hb.out];(try simp[*])
  (try omega)
theorem aaR (c:FC)(B:Nat)(a nn:Int)(w:World)(hmd:Hid (aW B w c.m c.ab c.au))(hB:B≤w.heap.size)(b:Bool)(hb:Hid (b=Vf.is c.m 2 a)) :
  Calls Tryz.prog 136 #[jq c,.agg #[.int .i64 23,.int .i64 a,.int .i64 nn]] w fun e w'=>e=.returned (.bool b)∧w.grownBy w' none:=by
 have HM:Hid (aW B ((w.alloc (dR c)).alloc (ai 23 a nn)) c.m c.ab c.au):=hmd.out.low (gD (fI _ _ _) hB);go_enter Tryz.func136,Tryz.ntmps136
 go_wp2_with fail
 refine (Al c.m c.ab c.au c.cb c.cu B 2 a _ HM (by simp;omega) b hb).mono ?_;rintro e w2 ⟨rfl,rfl⟩;go_wp2
 go_ret
 exact⟨rfl,aR (fI _ _ _) _⟩
theorem aaS (c:FC)(B:Nat)(a nn:Int)(w:World)(hmd:Hid (aW B w c.m c.ab c.au))(hB:B≤w.heap.size)(b:Bool)(hb:Hid (b=Vf.is c.m 3 a)) :
  Calls Tryz.prog 136 #[jq c,.agg #[.int .i64 29,.int .i64 a,.int .i64 nn]] w fun e w'=>e=.returned (.bool b)∧w.grownBy w' none:=by
 have HM:Hid (aW B ((w.alloc (dR c)).alloc (ai 29 a nn)) c.m c.ab c.au):=hmd.out.low (gD (fI _ _ _) hB);go_enter Tryz.func136,Tryz.ntmps136
 go_wp2_with fail
 refine (Al c.m c.ab c.au c.cb c.cu B 3 a _ HM (by simp;omega) b hb).mono ?_;rintro e w2 ⟨rfl,rfl⟩;go_wp2
 go_ret
 exact⟨rfl,aR (fI _ _ _) _⟩
theorem aaT (c:FC)(op a nn:Int)(hop:Hid (op≠2∧op≠3∧op≠4∧op≠21∧op≠22∧op≠23∧op≠26∧op≠27∧op≠29))(w:World) :
  Calls Tryz.prog 136 #[jq c,.agg #[.int .i64 op,.int .i64 a,.int .i64 nn]] w fun e w'=>e=.returned (.bool true)∧w.grownBy w' none:=by
 have g2:(op==2)=false:=by have:=hop.out;simp;omega
 have g3:(op==3)=false:=by have:=hop.out;simp;omega
 have g4:(op==4)=false:=by have:=hop.out;simp;omega
 have g21:(op==21)=false:=by have:=hop.out;simp;omega
 have g22:(op==22)=false:=by have:=hop.out;simp;omega
 have g23:(op==23)=false:=by have:=hop.out;simp;omega
 have g26:(op==26)=false:=by have:=hop.out;simp;omega
 have g27:(op==27)=false:=by have:=hop.out;simp;omega
 have g29:(op==29)=false:=by have:=hop.out;simp;omega
 go_enter Tryz.func136,Tryz.ntmps136
 go_wp2
 go_ret
 exact⟨rfl,fI _ _ _⟩
theorem aaU (c:FC)(B:Nat)(op a nn:Int)(w:World)(hmd:Hid (aW B w c.m c.ab c.au))(hB:B≤w.heap.size)(b:Bool)(hb:Hid (b=Vf.ranged c.m c.u ⟨op,a,nn⟩)) :
  Calls Tryz.prog 136 #[jq c,.agg #[.int .i64 op,.int .i64 a,.int .i64 nn]] w fun e w'=>e=.returned (.bool b)∧w.grownBy w' none:=by
 by_cases h2:op=2
 ·subst h2;exact aaK c a nn w b (hide hb.out)
 by_cases h3:op=3
 ·subst h3;exact aaL c a nn w b (hide hb.out)
 by_cases h4:op=4
 ·subst h4;exact aaM c a nn w b (hide hb.out)
 by_cases h21:op=21
 ·subst h21;exact aaN c a nn w b (hide hb.out)
 by_cases h22:op=22
 ·subst h22;exact aaO c a nn w b (hide hb.out)
 by_cases h23:op=23
 ·subst h23;exact aaR c B a nn w hmd hB b (hide hb.out)
 by_cases gU:op=29
 ·subst gU;exact aaS c B a nn w hmd hB b (hide hb.out)
 by_cases bR:op=26
 ·subst bR;exact aaP c a nn w b (hide hb.out)
 by_cases h27:op=27
 ·subst h27;exact aaQ c a nn w b (hide hb.out)
 have e:b=true:=by
  rw[hb.out,Vf.ranged,if_neg h2,if_neg (by rintro (h | h);exact h3 h;exact h4 h),if_neg (by rintro (h | h);exact h21 h;exact h22 h),if_neg h23,if_neg gU,if_neg (by rintro (h | h);exact bR h;exact h27 h)]
 rw[e];exact aaT c op a nn (hide ⟨h2,h3,h4,h21,h22,h23,bR,h27,gU⟩) w
def HE (er num:Int)(w:World)(e:Ending)(w':World):Prop:=w.grownBy w' none∧e=if er=0 then .returned (.tuple #[]) else .panicked [cz er num]
theorem aaV (c:FC)(B:Nat)(w:World)(hmd:Hid (aW B w c.m c.ab c.au))(hun:Hid (gI B w c.u c.al c.ac c.cl c.cc))(hB:B≤w.heap.size)(hmu:c.m.units.length≤30)(er:Int)(hr:Hid (er=Vf.gm c.m c.u)) :
  Calls Tryz.prog 94 #[jq c] w fun e w'=>HE er 0 w e w':=by
 obtain⟨b1,hb1⟩:∃ b,b=Vf.zk c.u:=⟨_,rfl⟩;obtain⟨b2,hb2⟩:∃ b,b=Vf.sized c.u:=⟨_,rfl⟩;obtain⟨b3,hb3⟩:∃ b,b=Vf.typed c.m c.u:=⟨_,rfl⟩;have HR:Hid (er=if b1=false then 1 else if b2=false then 5 else if b3=false then 9 else 0):=by unfold Hid;rw[hr.out,hb1,hb2,hb3];rfl
 have H1:=hide hb1;have H2:=hide hb2;have H3:=hide hb3;have iW:Hid (aW B (((w.alloc (dR c)).alloc (dR c)).alloc (dR c)) c.m c.ab c.au):=hmd.out.low (gD (aR (fI _ _ _) _) hB);have IK:Hid (gI B (((w.alloc (dR c)).alloc (dR c)).alloc (dR c)) c.u c.al c.ac c.cl c.cc):=hun.out.low (gD (aR (fI _ _ _) _) hB);clear hr hb1 hb2 hb3;go_enter Tryz.func94,Tryz.ntmps94
 go_wp2_with fail
 refine (ZA c _ b1 H1).mono ?_;rintro e w1 ⟨rfl,rfl⟩;cases b1 with
 | false =>
  have bC:Hid (er=1):=HR.out;go_wp2_with fail
  refine (tQ 0 1 _).mono ?_;rintro e w2 ⟨rfl,rfl⟩;go_wp2
  rw[bC.out];exact⟨rfl,fI _ _ _,rfl⟩
 | true =>
  go_wp2_with fail
  refine (ZB c _ b2 H2).mono ?_;rintro e w2 ⟨rfl,rfl⟩;cases b2 with
  | false =>
   have bC:Hid (er=5):=HR.out;go_wp2_with fail
   refine (tQ 0 5 _).mono ?_;rintro e w2 ⟨rfl,rfl⟩;go_wp2
   rw[bC.out];exact⟨rfl,aR (fI _ _ _) _,rfl⟩
  | true =>
   go_wp2_with fail
   refine (ZC c B _ iW IK (by simp;omega) hmu b3 H3).mono ?_;rintro e w3 ⟨rfl,hg3⟩;have fe:Hid (w.grownBy w3 none):=bZ (aR (fI _ _ _) _) hg3;clear hg3;cases b3 with
   | false =>
    have bC:Hid (er=9):=HR.out;go_wp2_with fail
    refine (tQ 0 9 _).mono ?_;rintro e w2 ⟨rfl,rfl⟩;go_wp2
    rw[bC.out];exact⟨rfl,fe.out,rfl⟩
   | true =>
    have bC:Hid (er=0):=HR.out;go_wp2
    go_end0
    rw[bC.out];exact⟨fe.out,rfl⟩
theorem IL {α:Type}(f:α→Int){l:List α}{k:Nat}{x:α}(h:l[k]?=some x):Vf.cK f (l.drop k) k=if f x=0 then Vf.cK f (l.drop (k+1)) (k+1) else (f x,k):=by
 obtain⟨hk,rfl⟩:=List.getElem?_eq_some_iff.1 h;rw[List.drop_eq_getElem_cons hk];rfl
structure aaW (c:FC) (w:World) (er num:Int) (k:Nat) (W:World):Prop where
 le:k≤c.u.code.length
 grown:(w.alloc (dR c)).grownBy W none
 rest:(er,num)=((Vf.cK (Vf.bE c.m c.u) (c.u.code.drop k) k).1,((Vf.cK (Vf.bE c.m c.u) (c.u.code.drop k) k).2:Int))
theorem aaX (c:FC)(B:Nat)(w:World)(hmd:Hid (aW B w c.m c.ab c.au))(hun:Hid (gI B w c.u c.al c.ac c.cl c.cc))(hB:B≤w.heap.size)(er num:Int)(hr:Hid ((er,num)=((Vf.cK (Vf.bE c.m c.u) c.u.code 0).1,((Vf.cK (Vf.bE c.m c.u) c.u.code 0).2:Int)))) :
  Calls Tryz.prog 95 #[jq c] w fun e w'=>HE er num w e w':=by
 have hlo:c.u.code.length≤9223372036854775807:=hun.out.few.2;go_enter Tryz.func95,Tryz.ntmps95
 go_wp2
 go_loopw [8] (fun v wr=>∃ k:Nat,v=.int .i64 k∧aaW c w er num k wr) (fun v _=>c.u.code.length - (intOf v).toNat)
 case atStart=>exact⟨0,rfl,Nat.zero_le _,World.grownBy.refl _ _,hr.out⟩
 case round =>
  obtain⟨k,rfl,hA⟩:=hrel;have HA:=hide hA;have hk:=hA.le;clear hA;by_cases hlt:k<c.u.code.length
  ·obtain⟨x,hx⟩:∃ x,c.u.code[k]?=some x:=⟨_,List.getElem?_eq_getElem hlt⟩
   have hlow:Low B w wr:=fun j hj=>(bY HA.out.grown (by simp;omega)).trans (Below.heap_alloc _ _ _ (by omega));obtain⟨_,_,_,bl,ol,hal,hbl,i0,i1,i2⟩:=(hun.out.code.low hlow) k x hx;have hub:wr.heap[w.heap.size]?=some (dR c):=(bY HA.out.grown (by simp)).trans (heap_alloc_new w _);obtain⟨y0,y1,y2,y3,y4,y5,y6,y7⟩:=uF hub;have hwr:w.heap.size<wr.heap.size:=lt_of_block hub;have lN:Hid (aW B (wr.alloc (ai x.op x.a x.n)) c.m c.ab c.au):=(hmd.out.low hlow).low (gD (aR (World.grownBy.refl _ _) _) (by omega));have HN:Hid ((er,num)=if Vf.bE c.m c.u x=0 then ((Vf.cK (Vf.bE c.m c.u) (c.u.code.drop (k+1)) (k+1)).1,((Vf.cK (Vf.bE c.m c.u) (c.u.code.drop (k+1)) (k+1)).2:Int)) else (Vf.bE c.m c.u x,(k:Int))):=by
    unfold Hid;rw[HA.out.rest,IL _ hx];split<;>rfl
   have HG:Hid (w.grownBy wr none):=bZ (aR (World.grownBy.refl _ _) _) HA.out.grown;have uH:=hide hal;clear hx hub hlow hal;rw[uH.out];by_cases hop:x.op<1∨32<x.op
   ·have bC:Hid (er=1∧num=(k:Int)):=by
     have h1:Vf.bE c.m c.u x=1:=by unfold Vf.bE;rw[if_pos hop]
     have:=HN.out;rw[h1] at this;cases this;exact⟨rfl,rfl⟩
    rcases hop with hop | hop
    ·have d1:decide (x.op<1)=true:=by simpa using hop
     go_wp2_with fail
     refine (tQ (k:Int) 1 _).mono ?_;rintro e w2 ⟨rfl,rfl⟩;go_wp2
     rw[bC.out.1,bC.out.2];exact⟨rfl,aR HG.out _,rfl⟩
    ·have d1:decide (x.op<1)=false:=by simp;omega
     have d2:decide (32<x.op)=true:=by simpa using hop
     go_wp2_with fail
     refine (tQ (k:Int) 1 _).mono ?_;rintro e w2 ⟨rfl,rfl⟩;go_wp2
     rw[bC.out.1,bC.out.2];exact⟨rfl,aR HG.out _,rfl⟩
   ·have d1:decide (x.op<1)=false:=by simp;omega
    have d2:decide (32<x.op)=false:=by simp;omega
    obtain⟨b,hb⟩:∃ b,b=Vf.ranged c.m c.u ⟨x.op,x.a,x.n⟩:=⟨_,rfl⟩;have HB:=hide hb;have Aw:Hid (Vf.bE c.m c.u x=if b=false then 3 else 0):=by unfold Hid;unfold Vf.bE;rw[if_neg hop,hb]
    clear hb hop;go_wp2_with fail
    refine (aaU c B x.op x.a x.n _ lN (by simp;omega) b HB).mono ?_;rintro e w2 ⟨rfl,hg2⟩;have HG2:Hid ((w.alloc (dR c)).grownBy w2 none):=bZ (aR HA.out.grown _) hg2;have fe:Hid (w.grownBy w2 none):=bZ (aR HG.out _) hg2;clear hg2 y0 y1 y2 y3 y4 y5 y6 y7 i0 i1 i2;cases b with
    | false =>
     have bC:Hid (er=3∧num=(k:Int)):=by
      have:=HN.out;rw[Aw.out] at this;cases this;exact⟨rfl,rfl⟩
     go_wp2_with fail
     refine (tQ (k:Int) 3 _).mono ?_;rintro e w3 ⟨rfl,rfl⟩;go_wp2
     rw[bC.out.1,bC.out.2];exact⟨rfl,fe.out,rfl⟩
    | true =>
     have bK:Hid ((er,num)=((Vf.cK (Vf.bE c.m c.u) (c.u.code.drop (k+1)) (k+1)).1,((Vf.cK (Vf.bE c.m c.u) (c.u.code.drop (k+1)) (k+1)).2:Int))):=by
      have:=HN.out;rw[Aw.out] at this;exact this
     go_wp2
     go_roundw
     case rel=>exact⟨k+1,by go_num,hlt,HG2.out,bK.out⟩
     case measure=>simp[intOf];omega
  ·have bC:Hid (er=0∧num=0):=by
    have:=HA.out.rest;rw[List.drop_eq_nil_of_le (by omega)] at this;cases this;exact⟨rfl,rfl⟩
   have HG:Hid (w.grownBy wr none):=bZ (aR (World.grownBy.refl _ _) _) HA.out.grown;go_wp2
   go_end0
   rw[bC.out.1,bC.out.2];exact⟨HG.out,rfl⟩
end Go.Proofs.YtfcpglhpolpdcaaGreatDoor
