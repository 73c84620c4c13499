/- The document's answer,chapter 7,walked: rounds of Code (S32). (Laid by tools/mkcode2.py.) -/
import Derived.Test.YtbdpdjcdhclbfaaGreatM33
set_option maxHeartbeats 8000000
namespace Go.Proofs.YtbdpdjcdhclbfaaGreat
open Go.RowKit
theorem Uz {m:Vf.Md}{u:Vf.Un}{x:Vf.Ins}{k:Vf.Kn}{e:Int}(h3:¬ (x.op=3∧k.fl.has x.a.toNat=false))(he:¬ Vf.early u x)(hn:Vf.rQ m u x k.st=.error e):Vf.aN m u x k=.error e:=by
 unfold Vf.aN;rw[if_neg h3,if_neg he,hn];rfl
set_option maxRecDepth 1000000 in
theorem acR (t0 t1 t7 t8 t10 t11 t12 t13 t14 t15 t16 t17 t18 t19 t20 t21 t22 t23 t24 t25 t26 t27 t28 t29 t30 t31 t32 t33 t34 t35 t36 t37 t38 t39 t40 t41 t42 t43 t44 t45 t46 t47 t48 t49 t50 t51 t52 t53 t54 t55 t56 t57 t58 t59 t60 t61 t62 t63 t64 t65 t66 t67 t68 t69 t70 t71 t72 t73 t74 t75 t76 t77 t78 t79 t80 t81 t82 t83 t84 t85 t86 t87 t88 t89 t90 t91 t92 t93 t94 t95 t96 t97 t98 t99 t100 t101 t102 t103 t104 t105 t106 t107 t108 t109 t110 t111 t112 t113 t114 t115 t116 t117 t118 t119 t120 t121 t122 t123 t124 t125 t126 t127 t128 t129 t130 t131 t132 t133 t134 t135 t136 t137 t138 t139 t140 t141 t142 t143 t144 t145 t146 t147 t148 t149 t150 t151 t152 t153 t154 t155 t156 t157 t158 t159 t160 t161 t162 t163 t164 aY aZ t167 t168 bf bg t171 bn t173 bz t175 bA bB bD bF bG bH t182 t183 bI bJ bK bL bM bN bO bP bQ t193 t194 bR t196 bS t198 bT bU t201 bV t203 bW bX t206 bY t208 bZ t210 cz t212 t213 cB cK cO cZ t218 df dh di t222 dm dn dw t226 t227 t228 t229 dx dz t232 t233 t234 dB t236 dC dD dE dF dG dH dI dJ dK dL dM dN dO dP dQ dR dS dU dV dW dX dY dZ ed ek eu eB eD eF eG eH eO eP eQ eT eU eX eY eZ gW gX fI fJ fK fM fO fP fQ fT fU fV fZ gp gu gy gz gB gD gF gG gH gI gJ gK fq fw fA fB fC fD aL:Value)(c:FC)(B kk n:Nat)(w:World)(hmd:Hid (aD B w c.m c.ab c.au))(hun:Hid (ig B w c.u c.al c.ac c.cl c.cc))(hB:B≤w.heap.size)(hR:Hid (Rt c.m))(hhd:Hid (Vf.jr c.m c.u=0))(hfo:Hid (Vf.Forms c.m c.u))(hz1:c.u.locals.length≤200)(iD:c.u.code.length≤4000)(er num:Int)(f:Nat)(come:Nat→Option Vf.Kn)(row:List Nat)(rv:Value)(wr:World)(k:Vf.Kn)(op a nn:Int)(hn:n<c.u.code.length)(hk:Hid (come n=some k))(hx:Hid (c.u.code[n]?=some ⟨op,a,nn⟩))(hC:Hid (wV c kk w ⟨come,n :: row⟩ rv wr))(hm:Hid (Vf.mu c.u.code.length ⟨come,n :: row⟩<f+1))(ik:Hid (Vf.mu c.u.code.length ⟨come,n :: row⟩≤3000000))(hD:Hid (DD c er num n f (Vf.mu c.u.code.length ⟨come,row⟩) (Vf.andThen (Vf.rT c.m c.u ⟨op,a,nn⟩ k) fun k'=>Vf.jf c.u.code.length k' (Vf.goes ⟨op,a,nn⟩ n) ⟨come,row⟩)))(K:Act→World→Prop)(Q:Exit→Act→World→Prop)
  (hK:∀ (lX lY lZ l6 l7 l8 u16 l9 ma mf u20 u21 u22 u23 u24 u25 u26 u27 u55 mg mh u58 u59 u60 mi mo u63 u64 mq u66 mr u68 u69 u70 mD u72 u73 mE u75 mF mG mH mI mJ mK mM mO mP mQ mR mU mV mW mX mY mZ u93 ng ni nk ny nA nC nD nE nG nH nI u105 nJ nK nL nM nN nO nP nQ nR nS nT nV nW u119 nX nY nZ og u124 oh om u127 oq ow oz u131 oD oF oH oI oJ oK u138 u139 oL oN oO oQ oU oV oZ o5 o6 o7 o8 o9 u152 pq u154 pz pE pF pG pI pJ pK u162 pM u164 pO pQ pR pU pV pW pX pY p8 p9 qc qd qf qg qh qi qj ql qm qo qp qw qx qy qz qA qB qC u193 u194 qD u196 qE u198 qF qG u201 qH qI qJ qK u206 qL u208 qM u210 qN qO qP qQ qR qU qV qW qX qY qZ q8 q9 rf rq ru ry rz rA rC rD rE rF u234 jG u236 jH jI jJ jK jL jM jN jO jP jQ jR jS jT jU jV jW jX jY jZ j5 j6 kg ko kr ku kv ky kz kC kD kE kF kG kH kI kJ kK kL kM kN jq iE iF iG iH iI iJ iK iL iM iN iO iP iQ iR iT iU iV iW iX iY iZ jb jc kP kQ kR kS kT kU:Value) (rv:Value) (w':World),wo c kk w er num f rv w'→K ⟨#[t0,t1,.pointer (some ⟨w.heap.size,0,none⟩),.pointer (some ⟨w.heap.size+1,0,none⟩),.pointer (some ⟨w.heap.size+1+1,0,none⟩),.pointer (some ⟨w.heap.size+1+1+1,0,none⟩),.slice (some ⟨w.heap.size+1+1+1+1,0,none⟩) c.u.code.length c.u.code.length,t7,t8,rv,lX,lY,lZ,l6,l7,l8,u16,l9,ma,mf,u20,u21,u22,u23,u24,u25,u26,u27,t28,t29,t30,t31,t32,t33,t34,t35,t36,t37,t38,t39,t40,t41,t42,t43,t44,t45,t46,t47,t48,t49,t50,t51,t52,t53,t54,u55,mg,mh,u58,u59,u60,mi,mo,u63,u64,mq,u66,mr,u68,u69,u70,mD,u72,u73,mE,u75,mF,mG,mH,mI,mJ,mK,mM,mO,mP,mQ,mR,mU,mV,mW,mX,mY,mZ,u93,ng,ni,nk,ny,nA,nC,nD,nE,nG,nH,nI,u105,nJ,nK,nL,nM,nN,nO,nP,nQ,nR,nS,nT,nV,nW,u119,nX,nY,nZ,og,u124,oh,om,u127,oq,ow,oz,u131,oD,oF,oH,oI,oJ,oK,u138,u139,oL,oN,oO,oQ,oU,oV,oZ,o5,o6,o7,o8,o9,u152,pq,u154,pz,pE,pF,pG,pI,pJ,pK,u162,pM,u164,pO,pQ,pR,pU,pV,pW,pX,pY,p8,p9,qc,qd,qf,qg,qh,qi,qj,ql,qm,qo,qp,qw,qx,qy,qz,qA,qB,qC,u193,u194,qD,u196,qE,u198,qF,qG,u201,qH,qI,qJ,qK,u206,qL,u208,qM,u210,qN,qO,qP,qQ,qR,qU,qV,qW,qX,qY,qZ,q8,q9,rf,rq,ru,ry,rz,rA,rC,rD,rE,rF,u234,jG,u236,jH,jI,jJ,jK,jL,jM,jN,jO,jP,jQ,jR,jS,jT,jU,jV,jW,jX,jY,jZ,j5,j6,kg,ko,kr,ku,kv,ky,kz,kC,kD,kE,kF,kG,kH,kI,kJ,kK,kL,kM,kN,jq,iE,iF,iG,iH,iI,iJ,iK,iL,iM,iN,iO,iP,iQ,iR,iT,iU,iV,iW,iX,iY,iZ,jb,jc,kP,kQ,kR,kS,kT,kU,aL],[]⟩ w')
  (aS:∀ (a:Act) (w':World) (e:Int) (n:Nat),er=e→num=(n:Int)→e≠0→a.tmps[4]?=some (.pointer (some ⟨w.heap.size+1+1,0,none⟩))→a.defers=[]→w'.heap[w.heap.size+1+1]?=some (.cells #[.int .i64 e,.int .i64 (kk:Int),.int .i64 (n:Int)] 28 (0,0))→w.grownBy w' none→Q .ret a w')
  (o3:(op==3)=false) (lu:(op==24)=false) (lH:(op==25)=false) (lJ:(op==31)=false) (rR:(op==30)=false) (o32:(op==32)=true) (o4:(op==4)=false) (sG:(op==21)=false) (tF:(op==22)=false) :
  Code.wp Tryz.prog vU (Exit.then K Q) ⟨#[t0,t1,.pointer (some ⟨w.heap.size,0,none⟩),.pointer (some ⟨w.heap.size+1,0,none⟩),.pointer (some ⟨w.heap.size+1+1,0,none⟩),.pointer (some ⟨w.heap.size+1+1+1,0,none⟩),.slice (some ⟨w.heap.size+1+1+1+1,0,none⟩) c.u.code.length c.u.code.length,t7,t8,rv,t10,t11,t12,t13,t14,t15,t16,t17,t18,t19,t20,t21,t22,t23,t24,t25,t26,t27,t28,t29,t30,t31,t32,t33,t34,t35,t36,t37,t38,t39,t40,t41,t42,t43,t44,t45,t46,t47,t48,t49,t50,t51,t52,t53,t54,t55,t56,t57,t58,t59,t60,t61,t62,t63,t64,t65,t66,t67,t68,t69,t70,t71,t72,t73,t74,t75,t76,t77,t78,t79,t80,t81,t82,t83,t84,t85,t86,t87,t88,t89,t90,t91,t92,t93,t94,t95,t96,t97,t98,t99,t100,t101,t102,t103,t104,t105,t106,t107,t108,t109,t110,t111,t112,t113,t114,t115,t116,t117,t118,t119,t120,t121,t122,t123,t124,t125,t126,t127,t128,t129,t130,t131,t132,t133,t134,t135,t136,t137,t138,t139,t140,t141,t142,t143,t144,t145,t146,t147,t148,t149,t150,t151,t152,t153,t154,t155,t156,t157,t158,t159,t160,t161,t162,t163,t164,aY,aZ,t167,t168,bf,bg,t171,bn,t173,bz,t175,bA,bB,bD,bF,bG,bH,t182,t183,bI,bJ,bK,bL,bM,bN,bO,bP,bQ,t193,t194,bR,t196,bS,t198,bT,bU,t201,bV,t203,bW,bX,t206,bY,t208,bZ,t210,cz,t212,t213,cB,cK,cO,cZ,t218,df,dh,di,t222,dm,dn,dw,t226,t227,t228,t229,dx,dz,t232,t233,t234,dB,t236,dC,dD,dE,dF,dG,dH,dI,dJ,dK,dL,dM,dN,dO,dP,dQ,dR,dS,dU,dV,dW,dX,dY,dZ,ed,ek,eu,eB,eD,eF,eG,eH,eO,eP,eQ,eT,eU,eX,eY,eZ,gW,gX,fI,fJ,fK,fM,fO,fP,fQ,fT,fU,fV,fZ,gp,gu,gy,gz,gB,gD,gF,gG,gH,gI,gJ,gK,fq,fw,fA,fB,fC,fD,aL],[]⟩ wr:=by
 have ji:∀ (fn:Fn) (first cap:Array Value) (w:World),(Instr.makeFunc fn first cap).run Tryz.prog w=.ok (.func fn first cap) w:=fun _ _ _ _=>rfl;have hu1:=hmd;have hu2:=iD;have hu3:=hm;clear hu1 hu2 hu3;have hmu:=hR.out.units;have gU:Hid (Vf.aA c.m c.u ⟨op,a,nn⟩=0):=hfo.out _ (List.mem_of_getElem? hx.out);have gN:Hid (aQ c.m k.st):=(hC.out.inv.come n k hk.out).2;have gQ:Hid (Vf.aN c.m c.u ⟨op,a,nn⟩ k=Vf.lmap (Vf.jA c.m c.u ⟨op,a,nn⟩ k)):=Vf.yD hR.out hhd.out gU.out gN.out;have n3:Hid (¬ op=3):=by unfold Hid;simpa using o3
 have n24:Hid (¬ op=24):=by unfold Hid;simpa using lu
 have n25:Hid (¬ op=25):=by unfold Hid;simpa using lH
 have n31:Hid (¬ op=31):=by unfold Hid;simpa using lJ
 have n30:Hid (¬ op=30):=by unfold Hid;simpa using rR
 have n4:Hid (¬ op=4):=by unfold Hid;simpa using o4
 have n21:Hid (¬ op=21):=by unfold Hid;simpa using sG
 have n22:Hid (¬ op=22):=by unfold Hid;simpa using tF
 have y32:Hid (op=32):=by unfold Hid;simpa using o32
 have jh:Hid (¬ (op=3∧k.fl.has a.toNat=false)):=fun h=>n3.out h.1;have rX:Hid (¬ Vf.early c.u ⟨op,a,nn⟩):=Vf.Ah n24.out n25.out n31.out;have HK:=hide hK;have gY:=hide aS;clear hK aS;obtain⟨g,off,cap,rv',lV,cx,hgl,hgB,hq',hown,hsl1,hsl2⟩:=yE hC.out.q;subst lV;obtain⟨a3,c3,hform⟩:=hq'.form;subst hform;obtain⟨s1,v1,d0,d1,d2,hs1,hbr,hbl,_⟩:=hC.out.se.yes hn (Vf.sO hk.out);obtain⟨a1,c1,hv1⟩:=tC hbr (Vf.iB _ _);subst hv1;have lh:=hide hbr;have jg:=hide hs1;obtain⟨_,_,_,bC,oC,hac,hbC,e0,e1,e2⟩:=(hun.out.low (aK hC.out.cd.grown hB)).code n ⟨op,a,nn⟩ hx.out;have zm:=hide hac;have q5:=(jo hC.out.cd.ub).2.2.2.2.2;rw[hac] at q5;have lW:=hC.out.cd.lt;have lS:=hC.out.se.lt;have uz:w.heap.size+1+1+1+1<wr.heap.size+1:=by omega
 have uA:w.heap.size+1+1+1+1<wr.heap.size+1+1:=by omega
 have lC:bC<wr.heap.size:=by omega
 have uB:bC<wr.heap.size+1:=by omega
 have hni:(n:Int)<(c.u.code.length:Int):=by omega
 have hr0:(0:Int)<(row.length:Int)+1:=by omega
 have uC:=hide hq';have HOWN:=hide hown;clear hbr hs1 hac hq' hown;conv=>arg 2;whnf
 go_wp2_with (at_builtin;refine yc rfl _ _ rfl (wr.heap.size+1+1) (w.heap.size+1+1+1+1) rfl (uU _ _ _ _) _ (Vf.bl c.u.locals.length k.fl) rfl (vT lh.out (ai (aF _ _ _) _)) (by rw[Vf.iB];exact hz1) ?_;intro v2 w2 hb2 kZ;obtain⟨a2,c2,hv2⟩:=tC hb2 (Vf.iB _ _);subst hv2;have HX:=hide (yF hC.out uC.out HOWN.out hgl ik.out kZ hb2);obtain⟨m0,m1,_⟩:=lF HX.out.cd.mb;obtain⟨q0,q1,q2,q3,q4,gL⟩:=jo HX.out.cd.ub;obtain⟨i0,i1,i2⟩:=r9 HX.out.ib;have aa:=aI HX.out.ab;have rO:=HX.out.cd.lt;have lA:=lt_of_block HX.out.ab;have lI:=lt_of_block HX.out.ib;obtain⟨s1',yG,d0',d1',uZ,rG,_⟩:=HX.out.se.yes hn (Vf.sO hk.out);have u6:=HX.out.se.lt;clear hb2 kZ cx d0 d1 d2 q5 lW lS uz uA lC uB e0 e1 e2 hsl1 hsl2)
 have aO:=hide HX.out.cd.grown;refine (AZ c.m c.ab c.au c.cb c.cu B c.u c.al c.ac c.cl c.cc op a nn _ (hide (hmd.out.low (aK aO.out hB))) (hide (hun.out.low (aK aO.out hB))) (by omega) hR hhd gU rX).mono ?_;rintro e w3 ⟨⟨sw,sp,hsw,hsp,rfl⟩,hg3⟩;dsimp only;have ae:=hide (HX.out.next hg3);have uO:=hide hsw;have sK:=hide hsp;clear m0 m1 q0 q1 q2 q3 q4 gL i0 i1 i2 aa rO lA lI d0' d1' uZ u6 hg3 hsw hsp aO;obtain⟨q0,q1,q2,q3,q4,gL⟩:=jo ae.out.cd.ub;obtain⟨i0,i1,i2⟩:=r9 ae.out.ib;have aa:=aI ae.out.ab;have rO:=ae.out.cd.lt;have lA:=lt_of_block ae.out.ab;have lI:=lt_of_block ae.out.ib;obtain⟨m0,m1,_⟩:=lF ae.out.cd.mb;cases hst:k.st with
 | nil =>
  have HE:Hid (DD c er num n f (Vf.mu c.u.code.length ⟨come,row⟩) (.error 12)):=sS hD.out gQ.out (Uz jh.out rX.out (by unfold Vf.rQ;rw[if_neg n30.out,if_pos y32.out,hst]));have hs0:s1'.size=0:=by rw[← gV,rG,hst];rfl
  clear hst;go_wp2_with fail
  refine (rV (w.heap.size+1) wr.heap.size 12 (kk:Int) (n:Int) _ (hide (aI ae.out.cd.kb)) (hide (aI ae.out.ab)) (by omega) (lt_of_block ae.out.ab)).mono ?_;rintro e w9 ⟨rfl,ax⟩;dsimp only;have av:Hid (w9.heap[w.heap.size+1+1]?=some aU):=(aC ax (lt_of_block ae.out.cd.wz)).trans ae.out.cd.wz;have ak:Hid (w.grownBy w9 none):=aJ ae.out.cd.grown ax;clear q0 q1 q2 q3 q4 gL i0 i1 i2 aa lA lI;obtain⟨⟨z0,z1,z2⟩,y0,y1,y2⟩:=aP av.out;have rW:=lt_of_block av.out;clear ax;go_wp2
  exact gY.out _ _ 12 n HE.out.1 HE.out.2 (by decide) rfl rfl (jd av.out _ _ _) (af (af (af ak.out (by omega) _ _) (by omega) _ _) (by omega) _ _)
 | cons g0 r =>
  have hl1:s1'.data.toList=(r.map Vf.ag).reverse++[Vf.ag g0]:=by rw[rG,hst];simp
  have hsz:s1'.size=r.length+1:=by rw[← gV,hl1];simp
  obtain⟨hsk,FK⟩:=byte_at hl1 (k:=r.length) (x:=Vf.ag g0) (by simp);have hrl:r.length≤300:=by have:=gN.out.2;rw[hst] at this;simp at this;omega
  clear hl1;have hg0:yl c.m g0:=gN.out.1 g0 (by rw[hst];simp);have xy:=hide hg0;clear hg0;by_cases hp:Vf.plain g0=true
  ·have HE:Hid (DD c er num n f (Vf.mu c.u.code.length ⟨come,row⟩) (.error 9)):=sS hD.out gQ.out (Uz jh.out rX.out (by unfold Vf.rQ;rw[if_neg n30.out,if_pos y32.out,hst];exact if_pos hp))
   rcases (Vf.Ag (Vf.Cr hmu xy.out)).1 hp with Jc | Jd
   ·rw[Jc] at FK
    clear Jc hp hst;go_wp2_with fail
    refine (rV (w.heap.size+1) wr.heap.size 9 (kk:Int) (n:Int) _ (hide (aI ae.out.cd.kb)) (hide (aI ae.out.ab)) (by omega) (lt_of_block ae.out.ab)).mono ?_;rintro e w9 ⟨rfl,ax⟩;dsimp only;have av:Hid (w9.heap[w.heap.size+1+1]?=some aU):=(aC ax (lt_of_block ae.out.cd.wz)).trans ae.out.cd.wz;have ak:Hid (w.grownBy w9 none):=aJ ae.out.cd.grown ax;clear q0 q1 q2 q3 q4 gL i0 i1 i2 aa lA lI;obtain⟨⟨z0,z1,z2⟩,y0,y1,y2⟩:=aP av.out;have rW:=lt_of_block av.out;clear ax;go_wp2
    exact gY.out _ _ 9 n HE.out.1 HE.out.2 (by decide) rfl rfl (jd av.out _ _ _) (af (af (af ak.out (by omega) _ _) (by omega) _ _) (by omega) _ _)
   ·rw[Jd] at FK
    clear Jd hp hst;go_wp2_with fail
    refine (rV (w.heap.size+1) wr.heap.size 9 (kk:Int) (n:Int) _ (hide (aI ae.out.cd.kb)) (hide (aI ae.out.ab)) (by omega) (lt_of_block ae.out.ab)).mono ?_;rintro e w9 ⟨rfl,ax⟩;dsimp only;have av:Hid (w9.heap[w.heap.size+1+1]?=some aU):=(aC ax (lt_of_block ae.out.cd.wz)).trans ae.out.cd.wz;have ak:Hid (w.grownBy w9 none):=aJ ae.out.cd.grown ax;clear q0 q1 q2 q3 q4 gL i0 i1 i2 aa lA lI;obtain⟨⟨z0,z1,z2⟩,y0,y1,y2⟩:=aP av.out;have rW:=lt_of_block av.out;clear ax;go_wp2
    exact gY.out _ _ 9 n HE.out.1 HE.out.2 (by decide) rfl rfl (jd av.out _ _ _) (af (af (af ak.out (by omega) _ _) (by omega) _ _) (by omega) _ _)
  ·obtain⟨q,hq1,hq2,hq3⟩:=DR (xy.out.resolve_left hp).2
   have h10:=(xy.out.resolve_left hp).1;have acS:q<30:=by have:=(List.getElem?_eq_some_iff.1 hq2).1;omega
   obtain⟨x,hx'⟩:∃ x,x=Vf.unit c.m (g0 - 10):=⟨_,rfl⟩;rw[← hx'] at hq2 hq3;obtain⟨gb,hgb⟩:∃ gb,gb=Vf.ag g0:=⟨_,rfl⟩;have Je:(gb.toNat:Int)=65+(q:Int):=by
    rw[hgb,Vf.I6 h10,UInt8.toNat_ofNat'];omega
   rw[← hgb] at FK;have acT:((gb.toNat:Int)==110)=false:=by rw[beq_eq_false_iff_ne];omega
   have b98:((gb.toNat:Int)==98)=false:=by rw[beq_eq_false_iff_ne];omega
   have hwr:IntKind.u8.wrap ((gb.toNat:Int) - 65)=(q:Int):=by rw[Je];simp[IntKind.wrap,IntKind.bits,IntKind.signed];omega
   have hwr2:IntKind.i64.wrap (q:Int)=(q:Int):=by simp[IntKind.wrap,IntKind.bits,IntKind.signed];omega
   obtain⟨bb,oo,xY,xZ,x8,x9,yB,hbb,hxi,u0,u1,u2,u3,u4,u5⟩:=(hmd.out.low (aK ae.out.cd.grown hB)).units q x hq2;rw[yB] at m1;have hqi:(q:Int)<(c.m.units.length:Int):=by have:=(List.getElem?_eq_some_iff.1 hq2).1;omega
   have acV:bb<w3.heap.size:=by omega
   obtain⟨zK,GJ⟩:∃ zK:ByteArray,zK=⟨#[gb]⟩:=⟨_,rfl⟩;have hcv:(convert 98 9 (.slice (some ⟨w3.heap.size+1,0,none⟩) 1 1)).run Tryz.prog ((w3.alloc (gP x xY x8 xZ x9)).alloc (.cells #[.int .u8 (gb.toNat:Int)] 5))=.ok (.string zK) ((w3.alloc (gP x xY x8 xZ x9)).alloc (.cells #[.int .u8 (gb.toNat:Int)] 5)):=by
    rw[GJ];refine run_convert_bytes_back (P:=Tryz.prog) _ _ _ 5 ⟨w3.heap.size+1,0,none⟩ 1 [gb] Tryz.underlying98 Tryz.underlying5 Tryz.underlying9 (fun j hj=>?_);obtain rfl:j=0:=by simp at hj;omega
    rw[NT];have hh:=zC w3 (gP x xY x8 xZ x9) (.cells #[.int .u8 (gb.toNat:Int)] 5);generalize (w3.alloc (gP x xY x8 xZ x9)).alloc (.cells #[.int .u8 (gb.toNat:Int)] 5)=W at hh ⊢;simp[World.cell?,hh]
   have HT:=hide (zS (hR.out.heads q x hq2).1);have UA:Hid (Vf.jF x.takes):=Vf.yC (HT.out.2.1.resolve_left (by omega));have UC:Hid (Vf.jF x.result):=Vf.yC (HT.out.1.resolve_left (by omega));have Oy:Hid (zK.data.toList=[Vf.ag g0]):=by unfold Hid;rw[GJ,hgb]
   have hzg:zK.size=1:=by rw[GJ];rfl
   have UD:=hide hzg;obtain⟨PP,DJ⟩:∃ PP:List UInt8 × List UInt8,PP=([Vf.ag g0],[98]):=⟨_,rfl⟩;have wu:Hid (Vf.rQ c.m c.u ⟨op,a,nn⟩ k.st=.ok PP):=by
    unfold Hid Vf.rQ;rw[if_neg n30.out,if_pos y32.out,hst,DJ];exact if_neg hp
   have uq:=hide DJ;have Oz:Hid (PP.1.length≤6∧PP.2.length≤1):=by unfold Hid;rw[DJ];exact⟨by simp,by simp⟩
   obtain⟨W5,kX⟩:∃ W5:World,(w3.alloc (gP x xY x8 xZ x9)).alloc (.cells #[.int .u8 (gb.toNat:Int)] 5)=W5:=⟨_,rfl⟩;rw[kX] at hcv;have GK:Hid (W5.heap[w3.heap.size]?=some (gP x xY x8 xZ x9)):=by rw[← kX];exact (Below.heap_alloc _ _ _ (by simp)).trans (heap_alloc_new w3 _)
   have Co:=hide (ae.out.next (show w3.grownBy W5 none by rw[← kX];exact aF _ _ _));have OA:=yB;clear OA hp hq1 hq2 hq3 h10 hx' hgb Je GJ hzg DJ hst hxi HT yB xy;have Jf:Hid (zK.data.toList=PP.1):=by unfold Hid;rw[Oy.out,uq.out]
   have KW:Hid ((⟨#[98]⟩:ByteArray).data.toList=PP.2):=by unfold Hid;rw[uq.out]
   go_wp2_with fail
   clear q0 q1 q2 q3 q4 gL i0 i1 i2 aa rO lA lI m0 m1 u0 u1 u2 u3 u4 u5 ae;have ae:=hide Co.out;clear Co;obtain⟨q0,q1,q2,q3,q4,gL⟩:=jo ae.out.cd.ub;obtain⟨i0,i1,i2⟩:=r9 ae.out.ib;have aa:=aI ae.out.ab;have rO:=ae.out.cd.lt;have lA:=lt_of_block ae.out.ab;have lI:=lt_of_block ae.out.ib;go_wp2_with fail
   obtain⟨R,lK⟩:∃ R,R=Vf.jC PP.1.reverse (k.st.map Vf.ag) 0:=⟨_,rfl⟩;have tV:=hide lK;have hfw:=Oz.out;have hz3:s1'.size≤1000:=by rw[← gV,rG];have:=gN.out.2;simp;omega
   have tK:zK.size≤1000:=by rw[← gV,Jf.out];omega
   have Ct:(⟨#[98]⟩:ByteArray).size≤1:=by rw[← gV,KW.out];exact hfw.2
   have tX:Hid (Vf.aN c.m c.u ⟨op,a,nn⟩ k=Vf.andThen R fun r=>Vf.lG ⟨op,a,nn⟩ PP.2 r):=by
    unfold Hid;rw[lK];exact BF jh.out rX.out wu.out
   clear lK hfw;refine (AV s1' zK (k.st.map Vf.ag) PP.1.reverse _ (hide rG) (hide (by rw[Jf.out];simp)) hz3 tK R tV).mono ?_;rintro e w4 ⟨tY,rfl⟩;cases R with
   | error e' =>
    obtain rfl:e=_:=tY;dsimp only;have sN:Hid (Vf.aN c.m c.u ⟨op,a,nn⟩ k=.error e'):=tX.out;have HE:Hid (DD c er num n f (Vf.mu c.u.code.length ⟨come,row⟩) (.error e')):=sS hD.out gQ.out sN.out;have hnz:e'≠0:=by
     have h1:=sN.out;rw[gQ.out] at h1;exact zR _ _ _ _ e' (Aj h1)
    have Cu:(e' != 0)=true:=by simpa using hnz
    go_wp2_with fail
    refine (rV (w.heap.size+1) wr.heap.size e' (kk:Int) (n:Int) _ (hide (aI ae.out.cd.kb)) (hide (aI ae.out.ab)) (by omega) (lt_of_block ae.out.ab)).mono ?_;rintro e w9 ⟨rfl,ax⟩;dsimp only;have av:Hid (w9.heap[w.heap.size+1+1]?=some aU):=(aC ax (lt_of_block ae.out.cd.wz)).trans ae.out.cd.wz;have ak:Hid (w.grownBy w9 none):=aJ ae.out.cd.grown ax;clear q0 q1 q2 q3 q4 gL i0 i1 i2 aa lA lI;obtain⟨⟨z0,z1,z2⟩,y0,y1,y2⟩:=aP av.out;have rW:=lt_of_block av.out;clear ax;go_wp2
    exact gY.out _ _ e' n HE.out.1 HE.out.2 hnz rfl rfl (jd av.out _ _ _) (af (af (af ak.out (by omega) _ _) (by omega) _ _) (by omega) _ _)
   | ok l =>
    obtain⟨s2,hs2,rfl⟩:=tY;dsimp only;have xB:s2.size≤1000:=by
     have h1:=tV.out;rw[← gV,hs2];have:=zl _ _ _ _ h1.symm;have h2:=gN.out.2;rw[List.length_map] at this;rw[List.length_reverse];omega
    have hzz:¬ 9223372036854775807<s2.size+(⟨#[98]⟩:ByteArray).size:=by omega
    obtain⟨s3,hs3⟩:∃ s3,s2++(⟨#[98]⟩:ByteArray)=s3:=⟨_,rfl⟩;have jD:Hid (s3.data.toList=(PP.2.reverse++l).reverse):=by
     unfold Hid;rw[← hs3,ByteArray.data_append];simp[hs2,uq.out]
    have je:s3.size=(PP.2.reverse++l).length:=by rw[← gV,jD.out,List.length_reverse]
    have lL:Hid (Vf.aN c.m c.u ⟨op,a,nn⟩ k=Vf.lG ⟨op,a,nn⟩ PP.2 l):=tX.out;by_cases iA:300<s3.size
    ·have wy:decide ((300:Int)<(s3.size:Int))=true:=by simp;omega
     have HE:Hid (DD c er num n f (Vf.mu c.u.code.length ⟨come,row⟩) (.error 4)):=sS hD.out gQ.out (by rw[lL.out,vV,if_pos (by rw[← je];exact iA)]);clear iA je;go_wp2_with fail
     refine (rV (w.heap.size+1) wr.heap.size 4 (kk:Int) (n:Int) _ (hide (aI ae.out.cd.kb)) (hide (aI ae.out.ab)) (by omega) (lt_of_block ae.out.ab)).mono ?_;rintro e w9 ⟨rfl,ax⟩;dsimp only;have av:Hid (w9.heap[w.heap.size+1+1]?=some aU):=(aC ax (lt_of_block ae.out.cd.wz)).trans ae.out.cd.wz;have ak:Hid (w.grownBy w9 none):=aJ ae.out.cd.grown ax;clear q0 q1 q2 q3 q4 gL i0 i1 i2 aa lA lI;obtain⟨⟨z0,z1,z2⟩,y0,y1,y2⟩:=aP av.out;have rW:=lt_of_block av.out;clear ax;go_wp2
     exact gY.out _ _ 4 n HE.out.1 HE.out.2 (by decide) rfl rfl (jd av.out _ _ _) (af (af (af ak.out (by omega) _ _) (by omega) _ _) (by omega) _ _)
    ·have wy:decide ((300:Int)<(s3.size:Int))=false:=by simp;omega
     have vK:Hid (Vf.aN c.m c.u ⟨op,a,nn⟩ k=if (op=24∨op=25)∧PP.2.reverse++l≠[] then .error 12 else .ok (PP.2.reverse++l)):=by
      unfold Hid;rw[lL.out,vV,if_neg (by rw[← je];exact iA)]
     clear iA lL je;go_wp2_with fail
     have vw:Hid (Vf.goes ⟨op,a,nn⟩ n=[(n:Int)+1]):=by
      unfold Hid Vf.goes;rw[if_neg (by show ¬ (op=24∨op=25);have:=n24.out;have:=n25.out;omega),if_neg n21.out,if_neg n22.out]
     have vk:Hid (Vf.aN c.m c.u ⟨op,a,nn⟩ k=.ok (PP.2.reverse++l)):=by
      unfold Hid;rw[vK.out,if_neg (fun hh=>by have:=n24.out;have:=n25.out;omega)]
     obtain⟨st',hst',tZ,hD'⟩:=BD hD.out gQ.out vk.out;have HD:Hid (DD c er num n f (Vf.mu c.u.code.length ⟨come,row⟩) (Vf.jf c.u.code.length ⟨st',Vf.kV ⟨op,a,nn⟩ k.fl⟩ [(n:Int)+1] ⟨come,row⟩)):=by
      unfold Hid;rw[← vw.out];exact hD'
     have wB:Hid (aQ c.m st'):=zT hR.out hhd.out gU.out gN.out tZ;have wC:Hid (s3.data.toList=(st'.map Vf.ag).reverse):=by
      unfold Hid;rw[jD.out,hst']
     have hfl:Vf.kV ⟨op,a,nn⟩ k.fl=k.fl:=by
      unfold Vf.kV;rw[if_neg n4.out]
     rw[hfl] at HD;have wD:Hid (Vf.tT c.u.locals.length (k.fl)):=(hC.out.sQ n k hk.out);have uy:Hid (L3 c kk wr.heap.size w4.heap.size (wr.heap.size+1+1) n (.slice a2 c.u.locals.length c2) [(n:Int)+1] ⟨st',k.fl⟩ w ⟨come,row⟩ (.slice a3 row.length c3) 0 (w4.alloc (.cells #[.int .i64 ((n:Int)+1)] 3))):=(ae.out.next (ai (World.grownBy.refl _ _) _)).l3 (fun _=>heap_alloc_new _ _) (fun b hb=>by have:=ae.out.qa b hb;omega);have hmx:=hm.out;have lN:=ik.out;rw[Vf.zN] at hmx lN;have wF:=hide hmx;have wG:=hide lN;clear hst' tZ hD' hfl hmx lN;refine wp_loop_rounds (c:=zk) 3 (Ai c kk wr.heap.size w4.heap.size (wr.heap.size+1+1) n (.slice a2 c.u.locals.length c2) (.slice (some ⟨w4.heap.size,0,none⟩) 1 1) s3 [(n:Int)+1] ⟨st',k.fl⟩ w (DD c er num n f (Vf.mu c.u.code.length ⟨come,row⟩)) wC wB wD (hide (fun t ht=>by simp at ht;subst ht;omega)) (hide (fun _=>rfl)) (by simp) hz1 hmu _ _ _ _ _ _ _ _ _ _ _ _ _ _ _ _ _ _ _ _ _ _ _ _ _ _ _ _ _ _ _ _ _ _ _ _ _ _ _ _ _ _ _ _ _ _ _ _ _ _ _ _ _ _ _ _ _ _ _ _ _ _ _ _ _ _ _ _ _ _ _ _ _ _ _ _ _ _ _ _ _ _ _ _ _ _ _ _ _ _ _ _ _ _ _ _ _ _ _ _ _ _ _ _ _ _ _ _ _ _ _ _ _ _ _ _ _ _ _ _ _ _ _ _ _ _ _ _ _ _ _ _ _ _ _ _ _ _ _ _ _ _ _ _ _ _ _ _ _ _ _ _ _ _ _ _ _ _ _ _ _ _ _ _ _ _ _ _ _ _ _ _ _ _ _ _ _ _ _ _ _ _ _ _ _ _ _ _ _ _ _ _ _ _ _ _ _ _ _ _ _ _ _ _ _ _ _ _ _ _ _ _ _ _ _ _ _ _ _ _ _ ?_ ?_ 3 _ _ _ _ _ _ _ _ _ _ _ _ _ _ _ _ _ _ _ _ _ _ _ _ _ _ _ _ _ _ _ _ _ _ _ _ _ _ _ _ _ _ _ _ _ _ _ _ _ _ _ _ _ _ _ _ _ _ _ _ _ _ _ _ _ _ _ _ _ _ _ _ _ _ _ _ ⟨come,row⟩ (.slice a3 row.length c3) 0 _ (by simp) uy.out HD.out)
     ·intro x24 x25 Cv x27 Cw Cx Cy Cz CB CE CF CG CJ CK CL CO CP CQ CR CS CU CV CW CX CY CZ C8 C9 Da Db Dc De Df Dh Di Dj Dk Dl Dm Dn Dp Dq Dr Dt Du Dv Dw A9 Ba Bb Bc Bd Be Bf Bg Bh Bi Bj Bl Bn Bo Bp Br Bt Bu Bv Bw Bz BA BB BC Dx Dy Dz DC DF DI s' rv' w' hL hd
      have iw:=hide hL;have lQ:=hide hd;clear hL hd;go_wp2
      exact HK.out _ _ _ _ _ _ _ _ _ _ _ _ _ _ _ _ _ _ _ _ _ _ _ _ _ _ _ _ _ _ _ _ _ _ _ _ _ _ _ _ _ _ _ _ _ _ _ _ _ _ _ _ _ _ _ _ _ _ _ _ _ _ _ _ _ _ _ _ _ _ _ _ _ _ _ _ _ _ _ _ _ _ _ _ _ _ _ _ _ _ _ _ _ _ _ _ _ _ _ _ _ _ _ _ _ _ _ _ _ _ _ _ _ _ _ _ _ _ _ _ _ _ _ _ _ _ _ _ _ _ _ _ _ _ _ _ _ _ _ _ _ _ _ _ _ _ _ _ _ _ _ _ _ _ _ _ _ _ _ _ _ _ _ _ _ _ _ _ _ _ _ _ _ _ _ _ _ _ _ _ _ _ _ _ _ _ _ _ _ _ _ _ _ _ _ _ _ _ _ _ _ _ _ _ _ _ _ _ _ _ _ _ _ _ _ _ _ _ _ _ _ _ _ _ _ _ _ _ _ _ _ _ _ _ _ _ _ _ _ _ _ _ _ _ _ _ _ _ _ _ _ _ _ _ _ _ _ _ _ _ _ _ _ _ _ _ _ _ _ _ rv' _ ⟨s',⟨iw.out.cd,iw.out.se.forget,iw.out.q,iw.out.inv,iw.out.sQ⟩,by have:=lQ.out.2;have:=wF.out;omega,by have:=lQ.out.2;have:=wG.out;omega,lQ.out.1⟩
     ·intro a' w' e' hd hne h4 hdf hce hgr
      exact gY.out a' w' e' n hd.1 hd.2 hne h4 hdf hce hgr
end Go.Proofs.YtbdpdjcdhclbfaaGreat
