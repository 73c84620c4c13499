/- The walks of following and settle. -/
import Derived.Test.YtfcpglhpolpdcaaGreatDoorM31
import Derived.Test.YtfcpglhpolpdcaaGreatDoorM34
set_option maxRecDepth 100000
set_option maxHeartbeats 2000000
namespace Go.Proofs.YtfcpglhpolpdcaaGreatDoor.Vw
open Go.RowKit Vf Vm
def o8 (o:Option Nat):Int:=match o with | some n=>(n:Int) | none=>-1
theorem QQ {m:Md}{W:Wd}(h:0<W.ts.length):∀ (n i:Nat) {k:Nat},o6 m W n i=some k→k<W.ts.length∧(stat aA m (W.tk (k:Int)) W.x).1=1
 | 0,_,_,hk=>by cases hk
 | n+1,i,k,hk=>by
  unfold o6 at hk;split at hk
  ·rename_i hs
   cases hk;refine⟨?_,hs⟩;unfold behind;have h1:=Int.emod_lt_of_pos (W.last+1+(i:Int)) (by omega:(0:Int)<W.ts.length);have h2:=Int.emod_nonneg (W.last+1+(i:Int)) (by omega:(W.ts.length:Int)≠0);omega
  ·exact QQ h n (i+1) hk
theorem QS (s:Sx)(B:jZ)(hS:Hid (rZ s B))(K:KM)(hK:Hid (gH s.c.m K))(L:av)(w:World)(W:Wd)(vt vx:Value)(H:Hid (dM s B L w W vt vx))(hI:Hid (WI s.c.m K W))(r:Int)(hr:Hid (r=o8 (following s.c.m W))) :
  Calls Tryz.prog 36 #[.pointer (some ⟨s.WB,0,none⟩)] w fun e w'=>e=.returned (.int .i64 r)∧Below w.heap.size w w':=by
 obtain⟨d0,d1,d2,d3,_⟩:=H.out.cells;obtain⟨ta,tc,uU⟩:∃ a c,vt=.slice a W.ts.length c:=dR H.out.kP;subst uU;have dC:=hI.out.few;have hlast:=hI.out.last;obtain⟨N,hN⟩:∃ N,N=W.ts.length:=⟨_,rfl⟩;have HN:=Sb.hide hN;rw[← hN] at dC d0 hlast;have HST:Hid (r=o8 (o6 s.c.m W (N - 0) 0)):=by unfold Hid;rw[hr.out,HN.out];rfl
 have fO:=lt_of_block H.out.blk;have HC:Hid (∀ W2,Below w.heap.size w W2→W2.cell? ⟨s.WB,0,none⟩=some (.slice ta N tc)∧W2.cell? ⟨s.WB,3,none⟩=some (.int .i64 W.last)):=fun W2 hb=>⟨(aI (hb.block _ fO) _).trans d0,(aI (hb.block _ fO) _).trans d3⟩;obtain⟨la,hla⟩:∃ l,l=W.last:=⟨_,rfl⟩;have HLA:=Sb.hide hla;rw[← hla] at hlast HC;clear hN d1 d2 d3 hr hla;go_enter Tryz.func36,Tryz.ntmps36
 go_wp2
 clear d0;go_loopw [10] (fun v wr=>∃ k:Nat,v=.int .i64 k∧k≤N∧Below w.heap.size w wr∧r=o8 (o6 s.c.m W (N - k) k)) (fun v _=>N - (intOf v).toNat)
 case atStart=>exact⟨0,rfl,Nat.zero_le _,.refl _ _,HST.out⟩
 case round =>
  obtain⟨k,rfl,hk,hb,xw⟩:=hrel;have HB:=Sb.hide hb;have QT:=Sb.hide xw;clear hb xw HST;by_cases hlt:k<N
  ·obtain⟨o,ho⟩:∃ o,o=behind W k:=⟨_,rfl⟩
   have fQ:o<N∧(la+1+(k:Int)).tmod (N:Int)=(o:Int):=by
    rw[ho];unfold behind;rw[← HN.out,← HLA.out];have h1:=Int.emod_lt_of_pos (la+1+(k:Int)) (by omega:(0:Int)<N);have h2:=Int.emod_nonneg (la+1+(k:Int)) (by omega:(N:Int)≠0);refine⟨by omega,?_⟩;rw[Int.tmod_eq_emod_of_nonneg (by omega)];omega
   have HOB:=Sb.hide ho;obtain⟨t,ht⟩:∃ t,W.ts[o]?=some t:=⟨_,List.getElem?_eq_getElem (by rw[← HN.out];exact fQ.1)⟩;have HT:=Sb.hide ht;have gG:Hid (W.tk (behind W k:Int)=t):=by unfold Hid Wd.tk;rw[← ho];simp[ht]
   have HRR:Hid (r=if (stat aA s.c.m t W.x).1=1 then (o:Int) else o8 (o6 s.c.m W (N - (k+1)) (k+1))):=by
    unfold Hid;rw[QT.out,show N - k=(N - (k+1))+1 by omega];show o8 (if (stat aA s.c.m (W.tk (behind W k:Int)) W.x).1=1 then some (behind W k) else _)=_
    rw[gG.out,← ho];split<;>rfl
   have HAT:=Sb.hide (hI.out.at (c:=s.c) rfl hK.out ht);obtain⟨P,vR,vO,hSt⟩:=H.out.st ht;have HST:=Sb.hide hSt;obtain⟨g,uV,htc⟩:=qI H.out.kP (wV s.T (by rw[← HN.out];exact fQ.1:o<W.ts.length));have hgz:=World.block_lt_of_cell? w _ htc;have t5:wr.cell? ⟨g,o,none⟩=some (.pointer (some ⟨s.T o,0,none⟩)):=(aI (HB.out.block g hgz) _).trans htc;obtain⟨br,hbr⟩:∃ b,b=((stat aA s.c.m t W.x).1==1):=⟨_,rfl⟩;have uX:=Sb.hide hbr;subst uV;obtain⟨c0,c3⟩:=HC.out _ HB.out;have w1:IntKind.i64.wrap (la+1)=la+1:=by rw[IntKind.wrap_i64];omega
   have w2:IntKind.i64.wrap (la+1+(k:Int))=la+1+(k:Int):=by rw[IntKind.wrap_i64];omega
   obtain⟨aht,ahu⟩:=fQ;have nz:¬ (N:Int)=0:=by omega
   have n0:(0:Int)≤(o:Int):=by omega
   have n1:(o:Int)<(N:Int):=by omega
   clear ho ht hSt htc hbr;go_wp2
   go_quiet (fail)
   go_wp2_with fail
   refine (Da (s.E (qJ B o W.evs t.log.length)) aA s.c s.vb (s.ev o) o (s.T o) L P _ t W.x vR vO (Sb.hide (HST.out.below (below_drewN HB.out _))) (Sb.hide (hS.out.boxes _)) HAT br uX).mono ?_;rintro e w3 ⟨rfl,hb3⟩;have HB3:Hid (Below w.heap.size w w3):=(below_drewN HB.out _).trans (hb3.mono (by exact HB.out.size));clear hb3;cases br with
   | true =>
    have HF:Hid (r=(o:Int)):=by unfold Hid;rw[HRR.out,if_pos (by have:=uX.out;simpa using this.symm)]
    go_wp2
    go_ret
    exact⟨by rw[HF.out];rfl,HB3.out⟩
   | false =>
    have HF:Hid (r=o8 (o6 s.c.m W (N - (k+1)) (k+1))):=by unfold Hid;rw[HRR.out,if_neg (by have:=uX.out;simpa using this.symm)]
    go_wp2
    go_roundw
    case rel=>exact⟨k+1,by go_num,by omega,HB3.out,HF.out⟩
    case measure=>simp[intOf];omega
  ·have HF:Hid (r=-1):=by unfold Hid;rw[QT.out,show N - k=0 by omega];rfl
   go_wp2
   go_ret
   exact⟨by rw[HF.out];rfl,HB.out⟩
def su (b:Nat)(w:World):Nat:=match w.cell? ⟨b,2,none⟩ with | some (.int _ n)=>n.toNat | _=>0
theorem dM.su {s:Sx}{B:jZ}{L:av}{w:World}{W:Wd}{vt vx:Value}(H:dM s B L w W vt vx):su s.WB w=W.steps:=by
 unfold Vw.su;rw[H.cells.2.2.1];simp
structure Je (s:Sx) (B:jZ) (K:KM) (L:av) (w:World) (vt vx:Value) (q:Int) (R:Int × Wd) (v:Value) (W1:Wd) (L1:av) (f:Nat) (wr:World):Prop where
 wd:dM s B L1 wr W1 vt vx
 wi:WI s.c.m K W1
 ext:Ext L L1 w
 kp:Kp L w wr
 res:R=mZ s.c.m q f W1
 fuel:20001≤f+W1.steps
 v:v=.int .i64 (o8 (following s.c.m W1))
theorem acy (s:Sx)(B:jZ)(hS:Hid (rZ s B))(K:KM)(hK:Hid (gH s.c.m K))(L:av)(w:World)(W:Wd)(vt vx:Value)(H:Hid (dM s B L w W vt vx))(hI:Hid (WI s.c.m K W))(ps:List Pk)(a:Option Addr)(cap:Nat)(hps:Hid (si s.c.B w ps a))(hn:ps.length≤400)(q:Int)(hq:1≤q∧q≤10000)(R:Int × Wd)(hR:Hid (R=mZ s.c.m q 20001 (jY s.c.m W ps))) :
  Calls Tryz.prog 15 #[.pointer (some ⟨s.WB,0,none⟩),.slice a ps.length cap,.int .i64 q] w fun e w'=>e=.returned (.int .i64 R.1)∧Qu s B K L w w' R.2 vt vx:=by
 have HQ:=Sb.hide hq;clear hq;go_enter Tryz.func15,Tryz.ntmps15
 go_wp2_with fail
 refine (abN s B hS K hK L w W vt vx H hI ps a cap hps hn).mono ?_;rintro e w1 ⟨vd,L1,rfl,hF⟩;have h1:=hF.wd;have h2:=hF.wi;rw[List.take_length] at h1 h2;have QU:=Sb.hide h1;have QV:=Sb.hide h2;have QW:=Sb.hide hF.ext;have acz:=Sb.hide hF.kp;obtain⟨da,dc,rfl⟩:=dR hF.row;clear hF h1 h2;go_wp2_with fail
 refine (QS s B hS K hK L1 _ _ vt vx QU QV _ (Sb.hide rfl)).mono ?_;rintro e w2 ⟨rfl,hb2⟩;have HST:Hid (Je s B K L w vt vx q R (.int .i64 (o8 (following s.c.m (jY s.c.m W ps)))) (jY s.c.m W ps) L1 20001 w2):=⟨QU.out.below hb2,QV.out,QW.out,acz.out.trans QW.out (.of_below hb2),hR.out,by omega,rfl⟩;clear hb2;go_wp2
 go_loopw [7] (fun v wr=>∃ W1 L1 f,Je s B K L w vt vx q R v W1 L1 f wr) (fun _ wr=>20001 - su s.WB wr)
 case atStart=>exact⟨_,_,_,HST.out⟩
 case round =>
  obtain⟨W1,L2,f,hA⟩:=hrel;have hv:=hA.v;subst hv;have HA:=Sb.hide hA;have hfu:=hA.fuel;have hst:=hA.wi.steps;have hms:=hA.wd.su;clear hA HST;obtain⟨fo,hfo⟩:∃ fo,fo=following s.c.m W1:=⟨_,rfl⟩;have rG:=Sb.hide hfo;rw[← hfo];obtain⟨f',rfl⟩:∃ f',f=f'+1:=⟨f - 1,by omega⟩;cases fo with
  | none =>
   have HRR:Hid (R=(0,W1)):=by
    unfold Hid;rw[HA.out.res];show (match following s.c.m W1 with | none=>(0,W1) | some n=>_:Int × Wd)=_
    rw[← rG.out]
   clear hfo;go_wp2
   go_ret
   rw[HRR.out];exact⟨rfl,L2,HA.out.wd,HA.out.wi,HA.out.ext,HA.out.kp⟩
  | some n =>
   obtain⟨hnl,hns⟩:=QQ HA.out.wi.few.1 _ _ hfo.symm;have HRR:Hid (R=if dD s.c.m W1 ⟨n,q⟩=0 then mZ s.c.m q f' (dm s.c.m W1 ⟨n,q⟩) else (dD s.c.m W1 ⟨n,q⟩,W1)):=by
    unfold Hid;rw[HA.out.res];show (match following s.c.m W1 with | none=>(0,W1) | some n=>_:Int × Wd)=_
    rw[← rG.out]
   obtain⟨d,hd⟩:∃ d,d=iP s.c.m W1 ⟨n,q⟩:=⟨_,rfl⟩;obtain⟨W2,hW2⟩:∃ d,d=dm s.c.m W1 ⟨n,q⟩:=⟨_,rfl⟩;have HD:=Sb.hide hd;have HW2:=Sb.hide hW2;have n0:(0:Int)≤(n:Int):=by omega
   have HNV:Hid (o8 (some n)=(n:Int)):=rfl;clear hd hW2 hfo hns hnl;rw[HNV.out];go_wp2_with fail
   refine (Qv s B hS K hK L2 _ W1 vt vx (Sb.hide HA.out.wd) (Sb.hide HA.out.wi) ⟨n,q⟩ d HD W2 HW2).mono ?_;rintro e w3 ⟨rfl,L3,QX,QY,QZ,hkp3⟩;have Jf:=Sb.hide QX;have Jg:=Sb.hide QY;have AU:Hid (Ext L L3 w):=HA.out.ext.trans QZ HA.out.kp.size;have Q0:=Sb.hide (HA.out.kp.trans HA.out.ext hkp3);clear QX QY QZ hkp3;have cK:Hid (Below w3.heap.size w3 (w3.alloc (j6 d.err (d.steps:Int)))):=(Below.refl _ w3).alloc (Nat.le_refl _) _;have c0:(w3.alloc (j6 d.err (d.steps:Int))).cell? ⟨w3.heap.size,0,none⟩=some (.int .i64 d.err):=by simp[World.cell?_alloc_mark]
   by_cases he:dD s.c.m W1 ⟨n,q⟩=0
   ·have hde:d.err=0:=by rw[HD.out,iP,if_pos he]
    have hds:=(IL he).1;have HR2:Hid (R=mZ s.c.m q f' W2):=by unfold Hid;rw[HRR.out,if_pos he,← HW2.out]
    have Q3:=(abB s.c.m W1 ⟨n,q⟩).1;have sw:(iP s.c.m W1 ⟨n,q⟩).steps=(ran s.c.m W1 ⟨n,q⟩).1:=by unfold iP;rw[if_pos he]
    have ahv:W1.steps+1≤W2.steps:=by rw[HW2.out,Q3,sw];omega
    have e0:(d.err != 0)=false:=by simpa using hde
    clear he hde hds Q3 sw;go_wp2_with fail
    generalize w3.alloc (j6 d.err (d.steps:Int))=WA at *;refine (QS s B hS K hK L3 _ W2 vt vx (Sb.hide (Jf.out.below cK.out)) Jg _ (Sb.hide rfl)).mono ?_;rintro e w4 ⟨rfl,hb4⟩;have jy:Hid (Je s B K L w vt vx q R (.int .i64 (o8 (following s.c.m W2))) W2 L3 f' w4):=⟨(Jf.out.below cK.out).below hb4,Jg.out,AU.out,(Q0.out.trans AU.out (.of_below cK.out)).trans AU.out (.of_below hb4),HR2.out,by omega,rfl⟩;have Q4:=jy.out.wd.su;have ahw:=jy.out.wi.steps;have HMS:=Sb.hide (show 20001 - su s.WB w4<20001 - su s.WB wr by rw[Q4,hms];omega);clear hb4 Q4;go_wp2
    go_roundw
    case rel=>exact⟨W2,L3,f',jy.out⟩
    case measure=>exact HMS.out
   ·have hde:d.err=dD s.c.m W1 ⟨n,q⟩:=by rw[HD.out,iP,if_neg he]
    have e0:(d.err != 0)=true:=by rw[hde];simpa using he
    have HR2:Hid (R=(d.err,W2)):=by
     unfold Hid;rw[HRR.out,if_neg he,hde,HW2.out,dm,if_neg he]
    clear he hde;go_wp2
    go_ret
    rw[HR2.out];exact⟨rfl,L3,Jf.out.below cK.out,Jg.out,AU.out,Q0.out.trans AU.out (.of_below cK.out)⟩
abbrev mq (m:Md) (ps:List Pk) (q:Int):Int × Wd:=mZ m q 20001 (jY m (ji m) ps)
def dE (m:Md)(ps:List Pk)(q:Int):Int:=if o7 m ps.length≠0 then o7 m ps.length else if 1≤q∧q≤10000 then (mq m ps q).1 else 3
theorem acC (m:Md)(ab au:Option Addr)(cb cu B:Nat)(ps:List Pk)(a:Option Addr)(cap:Nat)(w:World)(hmd:Hid (aZ B w m ab au))(hps:Hid (si B w ps a))(hB:B≤w.heap.size)(q:Int)(E:Int)(hE:Hid (E=dE m ps q))(R:Wd)(hR:Hid (R=(mq m ps q).2)) :
  Calls Tryz.prog 7 #[fC m ab au cb cu,.slice a ps.length cap,.int .i64 q] w fun e w'=>Below w.heap.size w w'∧((E≠0∧e=.returned (.tuple #[.agg #[.slice none 0 0,.slice none 0 0,.int .i64 0],.int .i64 E])) ∨
   (E=0∧∃ vE vB ov bv,e=.returned (.tuple #[.agg #[vE,vB,.int .i64 R.steps],.int .i64 0])∧lI m R 0 w' vE vB R.ts.length m.boxes.length ov bv∧∃ K,gH m K∧WI m K R)):=by
 obtain⟨E1,hE1⟩:∃ E1,E1=o7 m ps.length:=⟨_,rfl⟩;have bz:=Sb.hide hE1;clear hE1;have aM:=Sb.hide (Sr.first w m ab au cb cu);have qc:Hid (aZ B ((w.alloc (mh m ab au cb cu)).alloc vC) m ab au):=hmd.out.low (aM.out.below.mono hB).block;go_enter Tryz.func7,Tryz.ntmps7
 go_wp2_with fail
 generalize (w.alloc (mh m ab au cb cu)).alloc vC=W0 at *;refine (acw m ab au cb cu B a ps.length cap _ qc (by have:=aM.out.below.size;omega) E1 bz).mono ?_;rintro e w1 ⟨rfl,hb1⟩;have aG:=Sb.hide (aM.out.on hb1);clear hb1;by_cases h0:E1=0
 ·have e0:(E1 != 0)=false:=by simpa using h0
  obtain⟨hright,hn⟩:=QO (m:=m) (n:=ps.length) (by rw[← bz.out];exact h0);have HE2:Hid (E=if 1≤q∧q≤10000 then (mq m ps q).1 else 3):=by
   unfold Hid;rw[hE.out,dE,if_neg (by rw[← bz.out];simpa using h0)]
  obtain⟨bq,hbq⟩:∃ b,b=decide (1≤q∧q≤10000):=⟨_,rfl⟩;have uW:=Sb.hide hbq;clear hbq;obtain⟨⟨K,hK⟩,hbl⟩:=abl hright;have HK:=Sb.hide hK;have HRG:=Sb.hide hright;obtain⟨cv,cc,hcx⟩:=acp cu hmd.out hK.rt.units;have HCX:=Sb.hide hcx;have hB1:B≤w1.heap.size:=by have:=aG.out.below.size;omega
  have hz1:=lt_of_block aG.out.zero;have HWF:=Sb.hide (ace hK hright);have c1:=uI aG.out.md;clear h0 hK hright hcx;go_wp2_with fail
  refine (Qk q _ bq uW).mono ?_;rintro e w1 ⟨rfl,rfl⟩;cases bq with
  | false =>
   have DX:Hid (E=3):=by unfold Hid;rw[HE2.out,if_neg (by have:=uW.out;simpa using this.symm)]
   clear c1;have z:=(dN aG.out.zero).1;have zf:=(dN aG.out.zero).2;go_wp2
   have hX:=DU (v0:=.slice none 0 0) (v1:=.slice none 0 0) (v2:=.int .i64 0) aG.out.zero;have kg:=DV (v0:=.slice none 0 0) (v1:=.slice none 0 0) (v2:=.int .i64 0) aG.out.below (Nat.le_succ _);unfold mo at hX kg;obtain⟨g0,g1,g2⟩:=hX;generalize ((w1.setCell ⟨w.heap.size+1,0,none⟩ (.slice none 0 0)).setCell ⟨w.heap.size+1,1,none⟩ (.slice none 0 0)).setCell ⟨w.heap.size+1,2,none⟩ (.int .i64 0)=W4 at *;exact bodyPost_ret (v:=.tuple #[.agg #[.slice none 0 0,.slice none 0 0,.int .i64 0],.int .i64 3]) (by simp[results,Tryz.results7,go_sem,g0,g1,g2]) rfl ⟨kg,.inl ⟨by rw[DX.out];decide,by rw[DX.out]⟩⟩
  | true =>
   have hq:1≤q∧q≤10000:=by have:=uW.out;simpa using this.symm
   have DX:Hid (E=(mq m ps q).1):=by unfold Hid;rw[HE2.out,if_pos hq]
   go_wp2_with fail
   refine (acj ⟨m,B,au,cu,cv,cc⟩ K HK HRG hbl _ (Sb.hide (HCX.out.low (aG.out.below.mono hB).block)) hB1 ab cb (Sb.hide (hmd.out.low (aG.out.below.mono hB).block).boxes)).mono ?_;rintro e w2 ⟨s,L,vt,vx,rfl,hsc,hS,hW,hb2,hL⟩;have Dr:=Sb.hide hsc;have hsm:s.c.m=m:=by rw[hsc]
   have hsB:s.c.B=B:=by rw[hsc]
   have vD:=Sb.hide hsm;have HSB:=Sb.hide hsB;have HS:=Sb.hide hS;have HW:=Sb.hide hW;have bQ:=Sb.hide (aG.out.on hb2);have HL:=Sb.hide (fun b (hb:b<w.heap.size+2)=>hL b (by omega));have hz2:=lt_of_block bQ.out.zero;have HRR:Hid ((E,R)=mZ s.c.m q 20001 (jY s.c.m (ji m) ps)):=by
    unfold Hid;rw[vD.out,DX.out,hR.out]
   clear hsc hS hW hb2 hL hsm hsB c1;go_wp2_with fail
   refine (acy s deafW HS K (by rw[vD.out];exact HK) L _ (ji m) vt vx HW (by rw[vD.out];exact HWF) ps a cap (by rw[HSB.out];exact Sb.hide (hps.out.low (bQ.out.below.mono hB).block)) hn q hq (E,R) HRR).mono ?_;rintro e w3 ⟨rfl,L3,Q5,qN,_,hkp⟩;have uu:=Sb.hide (bQ.out.kp hkp HL.out);have Q6:=Sb.hide qN;have Jd:=Sb.hide Q5;clear Q5 qN hkp;by_cases h5:E=0
   ·have e5:(E != 0)=false:=by simpa using h5
    have uw:=Sb.hide h5;clear h5;go_wp2_with fail
    refine (abT s deafW HS K (by rw[vD.out];exact HK) L3 _ R vt vx Jd Q6 (by rw[vD.out];exact hbl)).mono ?_;rintro e w4 ⟨vE,vB,ov,bv,rfl,hb4,ni⟩;rw[vD.out] at ni;have oJ:=Sb.hide (uu.out.on hb4);have uK:=Sb.hide (ni.base (Nat.zero_le _));obtain⟨ea,ec,rfl⟩:=dR ni.ends;obtain⟨ba,bc,rfl⟩:=dR ni.jK;have z:=(dN oJ.out.zero).1;have zf:=(dN oJ.out.zero).2;clear hb4 ni;go_wp2
    have hX:=DU (v0:=.slice ea R.ts.length ec) (v1:=.slice ba m.boxes.length bc) (v2:=.int .i64 R.steps) oJ.out.zero;have kg:=DV (v0:=.slice ea R.ts.length ec) (v1:=.slice ba m.boxes.length bc) (v2:=.int .i64 R.steps) oJ.out.below (Nat.le_succ _);have Q7:=acu (v0:=.slice ea R.ts.length ec) (v1:=.slice ba m.boxes.length bc) (v2:=.int .i64 R.steps) oJ.out.zero uK.out;unfold mo at hX kg Q7;obtain⟨g0,g1,g2⟩:=hX;generalize ((w4.setCell ⟨w.heap.size+1,0,none⟩ (.slice ea R.ts.length ec)).setCell ⟨w.heap.size+1,1,none⟩ (.slice ba m.boxes.length bc)).setCell ⟨w.heap.size+1,2,none⟩ (.int .i64 R.steps)=W4 at *;exact bodyPost_ret (v:=.tuple #[.agg #[.slice ea R.ts.length ec,.slice ba m.boxes.length bc,.int .i64 R.steps],.int .i64 0]) (by simp[results,Tryz.results7,go_sem,g0,g1,g2]) rfl ⟨kg,.inr ⟨uw.out,_,_,ov,bv,rfl,Q7,K,HK.out,by have:=Q6.out;rw[vD.out] at this;exact this⟩⟩
   ·have e5:(E != 0)=true:=by simpa using h5
    have xI:=Sb.hide h5;clear h5;have z:=(dN uu.out.zero).1;have zf:=(dN uu.out.zero).2;go_wp2
    have hX:=DU (v0:=.slice none 0 0) (v1:=.slice none 0 0) (v2:=.int .i64 0) uu.out.zero;have kg:=DV (v0:=.slice none 0 0) (v1:=.slice none 0 0) (v2:=.int .i64 0) uu.out.below (Nat.le_succ _);unfold mo at hX kg;obtain⟨g0,g1,g2⟩:=hX;generalize ((w3.setCell ⟨w.heap.size+1,0,none⟩ (.slice none 0 0)).setCell ⟨w.heap.size+1,1,none⟩ (.slice none 0 0)).setCell ⟨w.heap.size+1,2,none⟩ (.int .i64 0)=W4 at *;exact bodyPost_ret (v:=.tuple #[.agg #[.slice none 0 0,.slice none 0 0,.int .i64 0],.int .i64 E]) (by simp[results,Tryz.results7,go_sem,g0,g1,g2]) rfl ⟨kg,.inl ⟨xI.out,rfl⟩⟩
 ·have e0:(E1 != 0)=true:=by simpa using h0
  have Q8:Hid (E=E1):=by unfold Hid;rw[hE.out,dE,if_pos (by rw[← bz.out];exact h0),← bz.out]
  have xI:=Sb.hide h0;clear h0;have z:=(dN aG.out.zero).1;have zf:=(dN aG.out.zero).2;go_wp2
  have hX:=DU (v0:=.slice none 0 0) (v1:=.slice none 0 0) (v2:=.int .i64 0) aG.out.zero;have kg:=DV (v0:=.slice none 0 0) (v1:=.slice none 0 0) (v2:=.int .i64 0) aG.out.below (Nat.le_succ _);unfold mo at hX kg;obtain⟨g0,g1,g2⟩:=hX;generalize ((w1.setCell ⟨w.heap.size+1,0,none⟩ (.slice none 0 0)).setCell ⟨w.heap.size+1,1,none⟩ (.slice none 0 0)).setCell ⟨w.heap.size+1,2,none⟩ (.int .i64 0)=W4 at *;exact bodyPost_ret (v:=.tuple #[.agg #[.slice none 0 0,.slice none 0 0,.int .i64 0],.int .i64 E1]) (by simp[results,Tryz.results7,go_sem,g0,g1,g2]) rfl ⟨kg,.inl ⟨by rw[Q8.out];exact xI.out,by rw[Q8.out]⟩⟩
theorem Q9 {m:Md}{q:Int}:∀ (f:Nat) (W W':Wd),mZ m q f W=(0,W')→following m W'=none
 | 0,_,_,h=>by simp[mZ] at h
 | f+1,W,W',h=>by
  unfold mZ at h;split at h
  ·rename_i hn;cases h;exact hn
  ·split at h
   ·exact Q9 f _ _ h
   ·rename_i hne;exact absurd (congrArg Prod.fst h) hne
def Tr (t:Tk):Prop:=(t.over=5∧t.trap≠0)∨(t.over≠5∧t.trap=0)
def Zr (t:Tk):Prop:=t.over=0∧t.trap=0
theorem Zr.tr {t:Tk}(h:Zr t):Tr t:=.inr ⟨by rw[h.1];decide,h.2⟩
theorem vF (t:Tk)(n:Nat)(h:n≠0):Tr (t.fall n):=.inl ⟨rfl,h⟩
theorem nu {t:Tk}(h:Zr t)(v:Int):Tr (t.put v):=by
 unfold Tk.put;split
 ·exact vF _ _ (by decide)
 ·exact Zr.tr (t:=t.words _) h
theorem acH {t:Tk}(h:Zr t)(m:Md)(c:Ins)(rv:Int):Tr (t.act m c rv):=by
 have zc:Zr t.cut:=h;have zg:∀ {a:Tk},Zr a→∀ (s:Nat) (v:Int),Tr (a.give s v):=fun {a} ha s v=>by
  unfold Tk.give;exact nu (t:={ a.set a.hand { a.top with stands:=s } with hand:=a.top.up.getD 0 }) ha v
 unfold Tk.act;by_cases h1:c.op=1
 ·rw[if_pos h1]
  exact nu h _
 rw[if_neg h1];by_cases h2:c.op=2
 ·rw[if_pos h2]
  exact nu h _
 rw[if_neg h2];by_cases h3:c.op=3
 ·rw[if_pos h3]
  exact nu h _
 rw[if_neg h3];by_cases h4:c.op=4
 ·rw[if_pos h4]
  exact Zr.tr (t:=t.words _) h
 rw[if_neg h4];by_cases h5:c.op=5
 ·rw[if_pos h5]
  exact zc.tr
 rw[if_neg h5];by_cases h6:c.op=6
 ·rw[if_pos h6]
  exact nu zc _
 rw[if_neg h6];by_cases h7:c.op=7
 ·rw[if_pos h7]
  exact nu zc _
 rw[if_neg h7];by_cases h21:c.op=21
 ·rw[if_pos h21]
  exact Zr.tr (t:=t.goto _) h
 rw[if_neg h21];by_cases h22:c.op=22
 ·rw[if_pos h22]
  split
  ·exact Zr.tr (t:=t.cut.goto _) h
  ·exact zc.tr
 rw[if_neg h22];by_cases bJ:c.op=26
 ·rw[if_pos bJ]
  exact Zr.tr (t:=t.cut.note _) h
 rw[if_neg bJ];by_cases h27:c.op=27
 ·rw[if_pos h27]
  exact nu (t:=t.note _) h _
 rw[if_neg h27];by_cases lu:c.op=28
 ·rw[if_pos lu]
  exact Zr.tr (t:=({ t.cut with out:=t.out++[t.last] }:Tk).note _) h
 rw[if_neg lu];by_cases h23:c.op=23
 ·rw[if_pos h23]
  unfold Tk.call;split
  ·exact vF _ _ (by decide)
  ·split
   ·exact Zr.tr (t:=t.set _ _) h
   ·exact vF _ _ (by decide)
 rw[if_neg h23];by_cases gP:c.op=24
 ·rw[if_pos gP]
  exact nu (t:=t.cut.leave) h _
 rw[if_neg gP];by_cases fI:c.op=29
 ·rw[if_pos fI]
  unfold Tk.start;dsimp only;split
  ·exact vF _ _ (by decide)
  ·refine nu ?_ _
   exact h
 rw[if_neg fI];by_cases kI:c.op=30
 ·rw[if_pos kI]
  unfold Tk.resume;dsimp only;split
  ·exact vF _ _ (by decide)
  ·split
   ·exact vF _ _ (by decide)
   ·split
    ·refine nu ?_ _
     exact h
    ·refine Zr.tr ?_
     exact h
 rw[if_neg kI];by_cases h31:c.op=31
 ·rw[if_pos h31]
  exact zg zc _ _
 rw[if_neg h31];by_cases kJ:c.op=25
 ·rw[if_pos kJ]
  unfold Tk.fin;split
  ·exact .inr ⟨by show (4:Nat)≠5;decide,h.2⟩
  ·exact zg h _ _
 rw[if_neg kJ];by_cases h32:c.op=32
 ·rw[if_pos h32]
  exact nu zc _
 rw[if_neg h32];unfold Tk.reckon;split
 ·exact vF _ _ (by decide)
 ·exact nu (t:=t.cut.cut) h _
theorem acI {m:Md}{t:Tk}{x:List Bq}(h:(stat aA m t x).1=1)(h1:t.over≠1):t.over=0:=by
 unfold stat at h;by_cases e:t.over≠0
 ·rw[if_pos e] at h;exact absurd h h1
 ·simpa using e
def To (t:Tk):Prop:=Tr t∧(t.over=0∨t.over=4∨t.over=5)
theorem Ra (m:Md):∀ (n:Nat) (t:Tk) (x:List Bq),To t→To (go aA m n t x).2.1
 | 0,t,x,h=>h
 | n+1,t,x,h=>by
  by_cases hs:(stat aA m t x).1=1
  ·rw[uY hs]
   have h0:t.over=0:=acI hs (by rcases h.2 with e | e | e<;>omega);have hz:Zr t:=⟨h0,by cases h.1 with | inl e=>omega | inr e=>exact e.2⟩;refine Ra m n _ _ ⟨acH (t:=t.goto _) hz m _ _,?_⟩;have:=(P9 m (t.ins m) (t.goto (t.frame.pc+1)) (aA.head x (t.ins m).a.toNat)).2;have e:(t.goto (t.frame.pc+1)).over=t.over:=rfl;rw[e,h0] at this;exact this
  ·rw[uZ hs];exact h
def sD (W:Wd):Prop:=∀ (o:Nat) t,W.ts[o]?=some t→To t
theorem Rb {m:Md}{W:Wd}(h:sD W)(p:Pk):sD (dm m W p):=by
 unfold dm;split
 ·rename_i h0
  obtain⟨h1,h2,_⟩:=u6 h0;intro o t ht;simp only[List.getElem?_set] at ht;split at ht
  ·split at ht
   ·cases ht
    refine Ra m _ _ _ ?_;obtain⟨t',ht'⟩:∃ t',W.ts[p.task.toNat]?=some t':=⟨_,List.getElem?_eq_getElem (by omega)⟩;have:W.tk p.task=t':=by simp[Wd.tk,ht']
    rw[this];exact h _ _ ht'
   ·cases ht
  ·exact h o t ht
 ·exact h
theorem Rc (m:Md):∀ (ps:List Pk) (W:Wd),sD W→sD (jY m W ps)
 | [],_,h=>h
 | p :: ps,_,h=>Rc m ps _ (Rb h p)
theorem Re (m:Md)(q:Int):∀ (f:Nat) (W:Wd),sD W→sD (mZ m q f W).2
 | 0,_,h=>h
 | f+1,W,h=>by
  unfold mZ;split
  ·exact h
  ·split
   ·exact Re m q f _ (Rb h _)
   ·exact h
theorem acJ (m:Md):sD (ji m):=fun o t ht=>by
 obtain⟨n,_,rfl⟩:=Jc ht;exact⟨.inr ⟨by show (0:Nat)≠5;decide,rfl⟩,.inl rfl⟩
theorem acK {m:Md}{K:KM}(hK:gH m K){n:Nat}{t:Tk}{x:List Bq}(hI:MI m K n t x)(hT:To t)(hr:¬ (stat aA m t x).1=1) :
  (stat aA m t x=(4,0)∧t.trap=0)∨(stat aA m t x=(5,0)∧t.trap≠0) ∨
  (∃ (b:Nat) (q:Bq) (bx:Bx),(stat aA m t x)=(2,b)∧x[b]?=some q∧m.boxes[b]?=some bx∧(q.ws.length:Int)=bx.cap) ∨
  (∃ (b:Nat) (q:Bq) (bx:Bx),(stat aA m t x)=(3,b)∧x[b]?=some q∧m.boxes[b]?=some bx∧q.ws.length=0):=by
 rcases hT.2 with h0 | h4 | h5
 ·have hat:(t.ins m).op=26∨(t.ins m).op=27→∃ (b:Nat) (q:Bq) (bx:Bx),(t.ins m).a.toNat=b∧x[b]?=some q∧m.boxes[b]?=some bx∧(q.cap:Int)=bx.cap:=fun ho=>by
   obtain⟨f,rs,u,i,hA⟩:=(IE (c:=⟨m,0,none,0,fun _=>none,fun _=>0⟩) hK).at' n t x hI h0;have hi:t.ins m=i:=hA.ins;rw[hi] at ho ⊢;obtain⟨b,e,hb⟩:=hA.box ho;obtain⟨q,hq⟩:∃ q,x[b]?=some q:=⟨_,List.getElem?_eq_getElem (by rw[hI.len];exact hb)⟩;obtain⟨bx,hbx⟩:∃ q,m.boxes[b]?=some q:=⟨_,List.getElem?_eq_getElem hb⟩;exact⟨b,q,bx,by rw[e];simp,hq,hbx,(hI.boxes b q bx hq hbx).1⟩
  unfold stat at hr ⊢;rw[if_neg (by omega)] at hr ⊢;by_cases h1:(t.ins m).op=26∧aA.full x (t.ins m).a.toNat=true
  ·rw[if_pos h1]
   obtain⟨b,q,bx,e,hq,hbx,hc⟩:=hat (.inl h1.1);refine .inr (.inr (.inl ⟨b,q,bx,by rw[e],hq,hbx,?_⟩));have:=h1.2;rw[e] at this;simp[aA,hq] at this;omega
  ·rw[if_neg h1] at hr ⊢
   by_cases h2:(t.ins m).op=27∧aA.empty x (t.ins m).a.toNat=true
   ·rw[if_pos h2]
    obtain⟨b,q,bx,e,hq,hbx,hc⟩:=hat (.inr h2.1);refine .inr (.inr (.inr ⟨b,q,bx,by rw[e],hq,hbx,?_⟩));have:=h2.2;rw[e] at this;simp[aA,hq] at this;simp[this]
   ·rw[if_neg h2] at hr
    exact absurd rfl hr
 ·refine .inl ⟨by unfold stat;rw[if_pos (by omega),h4],?_⟩
  rcases hT.1 with e | e
  ·omega
  ·exact e.2
 ·refine .inr (.inl ⟨by unfold stat;rw[if_pos (by omega),h5],?_⟩)
  rcases hT.1 with e | e
  ·exact e.2
  ·omega
structure Jh (m:Md) (R:Wd):Prop where
 Rf:∀ (o:Nat) t,R.ts[o]?=some t→(stat aA m t R.x=(4,0)∧t.trap=0)∨(stat aA m t R.x=(5,0)∧t.trap≠0) ∨
  (∃ (b:Nat) (q:Bq) (bx:Bx),(stat aA m t R.x)=(2,b)∧R.x[b]?=some q∧m.boxes[b]?=some bx∧(q.ws.length:Int)=bx.cap) ∨
  (∃ (b:Nat) (q:Bq) (bx:Bx),(stat aA m t R.x)=(3,b)∧R.x[b]?=some q∧m.boxes[b]?=some bx∧q.ws.length=0)
 af:∀ (i:Nat) q bx,R.x[i]?=some q→m.boxes[i]?=some bx→(q.ws.length:Int)≤bx.cap
theorem acL {m:Md}{ps:List Pk}{q:Int}(h:(mq m ps q).1=0){K:KM}(hK:gH m K)(hI:WI m K (mq m ps q).2):Jh m (mq m ps q).2:=by
 have hn:following m (mq m ps q).2=none:=Q9 20001 _ _ (Prod.ext h rfl);have hT:sD (mq m ps q).2:=Re m q _ _ (Rc m _ _ (acJ m));refine⟨fun o t ht=>?_,fun i p bx hp hb=>?_⟩
 ·have ho:=(List.getElem?_eq_some_iff.1 ht).1
  have:=abF hn ho;have e:(mq m ps q).2.tk (o:Int)=t:=by simp[Wd.tk,ht]
  rw[e] at this;exact acK hK (hI.tasks o t ht) (hT o t ht) this
 ·obtain⟨t0,ht0⟩:∃ t,(mq m ps q).2.ts[0]?=some t:=⟨_,List.getElem?_eq_getElem hI.few.1⟩
  have:=(hI.tasks 0 t0 ht0).boxes i p bx hp hb;omega
end Go.Proofs.YtfcpglhpolpdcaaGreatDoor.Vw
