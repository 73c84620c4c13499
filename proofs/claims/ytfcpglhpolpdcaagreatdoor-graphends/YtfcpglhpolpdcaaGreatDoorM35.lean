/- The walks of following and settle. -/
import Derived.Test.YtfcpglhpolpdcaaGreatDoorM31
import Derived.Test.YtfcpglhpolpdcaaGreatDoorM34
set_option maxRecDepth 100000
set_option maxHeartbeats 2000000
namespace Go.Proofs.YtfcpglhpolpdcaaGreatDoor.Vw
open Go.RowKit Vf Vm
def pJ (o:Option Nat):Int:=match o with | some n=>(n:Int) | none=>-1
theorem Rh {m:Md}{W:Wd}(h:0<W.ts.length):∀ (n i:Nat) {k:Nat},sD m W n i=some k→k<W.ts.length∧(stat aG m (W.tk (k:Int)) W.x).1=1
 | 0,_,_,hk=>by cases hk
 | n+1,i,k,hk=>by
  unfold sD at hk;split at hk
  ·rename_i hs
   cases hk;refine⟨?_,hs⟩;unfold behind;have h1:=Int.emod_lt_of_pos (W.last+1+(i:Int)) (by omega:(0:Int)<W.ts.length);have h2:=Int.emod_nonneg (W.last+1+(i:Int)) (by omega:(W.ts.length:Int)≠0);omega
  ·exact Rh h n (i+1) hk
theorem Ri (s:Sx)(B:kE)(hS:Hid (sH s B))(K:KM)(hK:Hid (ib s.c.m K))(L:av)(w:World)(W:Wd)(vt vx:Value)(H:Hid (dS s B L w W vt vx))(hI:Hid (WI s.c.m K W))(r:Int)(hr:Hid (r=pJ (following s.c.m W))) :
  Calls Tryz.prog 36 #[.pointer (some ⟨s.WB,0,none⟩)] w fun e w'=>e=.returned (.int .i64 r)∧Below w.heap.size w w':=by
 obtain⟨d0,d1,d2,d3,_⟩:=H.out.cells;obtain⟨ta,tc,u6⟩:∃ a c,vt=.slice a W.ts.length c:=dA H.out.kZ;subst u6;have dx:=hI.out.few;have hlast:=hI.out.last;obtain⟨N,hN⟩:∃ N,N=W.ts.length:=⟨_,rfl⟩;have HN:=Sb.hide hN;rw[← hN] at dx d0 hlast;have HST:Hid (r=pJ (sD s.c.m W (N - 0) 0)):=by unfold Hid;rw[hr.out,HN.out];rfl
 have fV:=lt_of_block H.out.blk;have HC:Hid (∀ W2,Below w.heap.size w W2→W2.cell? ⟨s.WB,0,none⟩=some (.slice ta N tc)∧W2.cell? ⟨s.WB,3,none⟩=some (.int .i64 W.last)):=fun W2 hb=>⟨(aI (hb.block _ fV) _).trans d0,(aI (hb.block _ fV) _).trans d3⟩;obtain⟨la,hla⟩:∃ l,l=W.last:=⟨_,rfl⟩;have HLA:=Sb.hide hla;rw[← hla] at hlast HC;clear hN d1 d2 d3 hr hla;go_enter Tryz.func36,Tryz.ntmps36
 go_wp2
 clear d0;go_loopw [10] (fun v wr=>∃ k:Nat,v=.int .i64 k∧k≤N∧Below w.heap.size w wr∧r=pJ (sD s.c.m W (N - k) k)) (fun v _=>N - (intOf v).toNat)
 case atStart=>exact⟨0,rfl,Nat.zero_le _,.refl _ _,HST.out⟩
 case round =>
  obtain⟨k,rfl,hk,hb,xH⟩:=hrel;have HB:=Sb.hide hb;have Rj:=Sb.hide xH;clear hb xH HST;by_cases hlt:k<N
  ·obtain⟨o,ho⟩:∃ o,o=behind W k:=⟨_,rfl⟩
   have fZ:o<N∧(la+1+(k:Int)).tmod (N:Int)=(o:Int):=by
    rw[ho];unfold behind;rw[← HN.out,← HLA.out];have h1:=Int.emod_lt_of_pos (la+1+(k:Int)) (by omega:(0:Int)<N);have h2:=Int.emod_nonneg (la+1+(k:Int)) (by omega:(N:Int)≠0);refine⟨by omega,?_⟩;rw[Int.tmod_eq_emod_of_nonneg (by omega)];omega
   have HOB:=Sb.hide ho;obtain⟨t,ht⟩:∃ t,W.ts[o]?=some t:=⟨_,List.getElem?_eq_getElem (by rw[← HN.out];exact fZ.1)⟩;have HT:=Sb.hide ht;have gM:Hid (W.tk (behind W k:Int)=t):=by unfold Hid Wd.tk;rw[← ho];simp[ht]
   have HRR:Hid (r=if (stat aG s.c.m t W.x).1=1 then (o:Int) else pJ (sD s.c.m W (N - (k+1)) (k+1))):=by
    unfold Hid;rw[Rj.out,show N - k=(N - (k+1))+1 by omega];show pJ (if (stat aG s.c.m (W.tk (behind W k:Int)) W.x).1=1 then some (behind W k) else _)=_
    rw[gM.out,← ho];split<;>rfl
   have HAT:=Sb.hide (hI.out.at (c:=s.c) rfl hK.out ht);obtain⟨P,vR,vO,hSt⟩:=H.out.st ht;have HST:=Sb.hide hSt;obtain⟨g,u7,htc⟩:=qQ H.out.kZ (xh s.T (by rw[← HN.out];exact fZ.1:o<W.ts.length));have hgz:=World.block_lt_of_cell? w _ htc;have t5:wr.cell? ⟨g,o,none⟩=some (.pointer (some ⟨s.T o,0,none⟩)):=(aI (HB.out.block g hgz) _).trans htc;obtain⟨br,hbr⟩:∃ b,b=((stat aG s.c.m t W.x).1==1):=⟨_,rfl⟩;have vk:=Sb.hide hbr;subst u7;obtain⟨c0,c3⟩:=HC.out _ HB.out;have w1:IntKind.i64.wrap (la+1)=la+1:=by rw[IntKind.wrap_i64];omega
   have w2:IntKind.i64.wrap (la+1+(k:Int))=la+1+(k:Int):=by rw[IntKind.wrap_i64];omega
   obtain⟨ah4,ah5⟩:=fZ;have nz:¬ (N:Int)=0:=by omega
   have n0:(0:Int)≤(o:Int):=by omega
   have n1:(o:Int)<(N:Int):=by omega
   clear ho ht hSt htc hbr;go_wp2
   go_quiet (fail)
   go_wp2_with fail
   refine (Dy (s.E (qR B o W.evs t.log.length)) aG s.c s.vb (s.ev o) o (s.T o) L P _ t W.x vR vO (Sb.hide (HST.out.below (below_drewN HB.out _))) (Sb.hide (hS.out.boxes _)) HAT br vk).mono ?_;rintro e w3 ⟨rfl,hb3⟩;have HB3:Hid (Below w.heap.size w w3):=(below_drewN HB.out _).trans (hb3.mono (by exact HB.out.size));clear hb3;cases br with
   | true =>
    have HF:Hid (r=(o:Int)):=by unfold Hid;rw[HRR.out,if_pos (by have:=vk.out;simpa using this.symm)]
    go_wp2
    go_ret
    exact⟨by rw[HF.out];rfl,HB3.out⟩
   | false =>
    have HF:Hid (r=pJ (sD s.c.m W (N - (k+1)) (k+1))):=by unfold Hid;rw[HRR.out,if_neg (by have:=vk.out;simpa using this.symm)]
    go_wp2
    go_roundw
    case rel=>exact⟨k+1,by go_num,by omega,HB3.out,HF.out⟩
    case measure=>simp[intOf];omega
  ·have HF:Hid (r=-1):=by unfold Hid;rw[Rj.out,show N - k=0 by omega];rfl
   go_wp2
   go_ret
   exact⟨by rw[HF.out];rfl,HB.out⟩
def sK (b:Nat)(w:World):Nat:=match w.cell? ⟨b,2,none⟩ with | some (.int _ n)=>n.toNat | _=>0
theorem dS.sK {s:Sx}{B:kE}{L:av}{w:World}{W:Wd}{vt vx:Value}(H:dS s B L w W vt vx):sK s.WB w=W.steps:=by
 unfold Vw.sK;rw[H.cells.2.2.1];simp
structure Jv (s:Sx) (B:kE) (K:KM) (L:av) (w:World) (vt vx:Value) (q:Int) (R:Int × Wd) (v:Value) (W1:Wd) (L1:av) (f:Nat) (wr:World):Prop where
 wd:dS s B L1 wr W1 vt vx
 wi:WI s.c.m K W1
 ext:Ext L L1 w
 kp:Kp L w wr
 res:R=qP s.c.m q f W1
 fuel:20001≤f+W1.steps
 v:v=.int .i64 (pJ (following s.c.m W1))
theorem acV (s:Sx)(B:kE)(hS:Hid (sH s B))(K:KM)(hK:Hid (ib s.c.m K))(L:av)(w:World)(W:Wd)(vt vx:Value)(H:Hid (dS s B L w W vt vx))(hI:Hid (WI s.c.m K W))(ps:List Pk)(a:Option Addr)(cap:Nat)(hps:Hid (qV s.c.B w ps a))(hn:ps.length≤400)(q:Int)(hq:1≤q∧q≤10000)(R:Int × Wd)(hR:Hid (R=qP s.c.m q 20001 (jU s.c.m W ps))) :
  Calls Tryz.prog 15 #[.pointer (some ⟨s.WB,0,none⟩),.slice a ps.length cap,.int .i64 q] w fun e w'=>e=.returned (.int .i64 R.1)∧QP s B K L w w' R.2 vt vx:=by
 have HQ:=Sb.hide hq;clear hq;go_enter Tryz.func15,Tryz.ntmps15
 go_wp2_with fail
 refine (aca s B hS K hK L w W vt vx H hI ps a cap hps hn).mono ?_;rintro e w1 ⟨vd,L1,rfl,hF⟩;have h1:=hF.wd;have h2:=hF.wi;rw[List.take_length] at h1 h2;have Rk:=Sb.hide h1;have Rl:=Sb.hide h2;have Rm:=Sb.hide hF.ext;have acW:=Sb.hide hF.kp;obtain⟨da,dc,rfl⟩:=dA hF.row;clear hF h1 h2;go_wp2_with fail
 refine (Ri s B hS K hK L1 _ _ vt vx Rk Rl _ (Sb.hide rfl)).mono ?_;rintro e w2 ⟨rfl,hb2⟩;have HST:Hid (Jv s B K L w vt vx q R (.int .i64 (pJ (following s.c.m (jU s.c.m W ps)))) (jU s.c.m W ps) L1 20001 w2):=⟨Rk.out.below hb2,Rl.out,Rm.out,acW.out.trans Rm.out (.of_below hb2),hR.out,by omega,rfl⟩;clear hb2;go_wp2
 go_loopw [7] (fun v wr=>∃ W1 L1 f,Jv s B K L w vt vx q R v W1 L1 f wr) (fun _ wr=>20001 - sK s.WB wr)
 case atStart=>exact⟨_,_,_,HST.out⟩
 case round =>
  obtain⟨W1,L2,f,hA⟩:=hrel;have hv:=hA.v;subst hv;have HA:=Sb.hide hA;have hfu:=hA.fuel;have hst:=hA.wi.steps;have hms:=hA.wd.sK;clear hA HST;obtain⟨fo,hfo⟩:∃ fo,fo=following s.c.m W1:=⟨_,rfl⟩;have rR:=Sb.hide hfo;rw[← hfo];obtain⟨f',rfl⟩:∃ f',f=f'+1:=⟨f - 1,by omega⟩;cases fo with
  | none =>
   have HRR:Hid (R=(0,W1)):=by
    unfold Hid;rw[HA.out.res];show (match following s.c.m W1 with | none=>(0,W1) | some n=>_:Int × Wd)=_
    rw[← rR.out]
   clear hfo;go_wp2
   go_ret
   rw[HRR.out];exact⟨rfl,L2,HA.out.wd,HA.out.wi,HA.out.ext,HA.out.kp⟩
  | some n =>
   obtain⟨hnl,hns⟩:=Rh HA.out.wi.few.1 _ _ hfo.symm;have HRR:Hid (R=if dI s.c.m W1 ⟨n,q⟩=0 then qP s.c.m q f' (dC s.c.m W1 ⟨n,q⟩) else (dI s.c.m W1 ⟨n,q⟩,W1)):=by
    unfold Hid;rw[HA.out.res];show (match following s.c.m W1 with | none=>(0,W1) | some n=>_:Int × Wd)=_
    rw[← rR.out]
   obtain⟨d,hd⟩:∃ d,d=iX s.c.m W1 ⟨n,q⟩:=⟨_,rfl⟩;obtain⟨W2,hW2⟩:∃ d,d=dC s.c.m W1 ⟨n,q⟩:=⟨_,rfl⟩;have HD:=Sb.hide hd;have HW2:=Sb.hide hW2;have n0:(0:Int)≤(n:Int):=by omega
   have HNV:Hid (pJ (some n)=(n:Int)):=rfl;clear hd hW2 hfo hns hnl;rw[HNV.out];go_wp2_with fail
   refine (QQ s B hS K hK L2 _ W1 vt vx (Sb.hide HA.out.wd) (Sb.hide HA.out.wi) ⟨n,q⟩ d HD W2 HW2).mono ?_;rintro e w3 ⟨rfl,L3,Rn,Ro,Rp,hkp3⟩;have Jw:=Sb.hide Rn;have Jy:=Sb.hide Ro;have Bg:Hid (Ext L L3 w):=HA.out.ext.trans Rp HA.out.kp.size;have Rq:=Sb.hide (HA.out.kp.trans HA.out.ext hkp3);clear Rn Ro Rp hkp3;have cZ:Hid (Below w3.heap.size w3 (w3.alloc (kF d.err (d.steps:Int)))):=(Below.refl _ w3).alloc (Nat.le_refl _) _;have c0:(w3.alloc (kF d.err (d.steps:Int))).cell? ⟨w3.heap.size,0,none⟩=some (.int .i64 d.err):=by simp[World.cell?_alloc_mark]
   by_cases he:dI s.c.m W1 ⟨n,q⟩=0
   ·have hde:d.err=0:=by rw[HD.out,iX,if_pos he]
    have hds:=(Jd he).1;have HR2:Hid (R=qP s.c.m q f' W2):=by unfold Hid;rw[HRR.out,if_pos he,← HW2.out]
    have Rs:=(Je s.c.m W1 ⟨n,q⟩).1;have sM:(iX s.c.m W1 ⟨n,q⟩).steps=(ran s.c.m W1 ⟨n,q⟩).1:=by unfold iX;rw[if_pos he]
    have ah6:W1.steps+1≤W2.steps:=by rw[HW2.out,Rs,sM];omega
    have e0:(d.err != 0)=false:=by simpa using hde
    clear he hde hds Rs sM;go_wp2_with fail
    generalize w3.alloc (kF d.err (d.steps:Int))=WA at *;refine (Ri s B hS K hK L3 _ W2 vt vx (Sb.hide (Jw.out.below cZ.out)) Jy _ (Sb.hide rfl)).mono ?_;rintro e w4 ⟨rfl,hb4⟩;have jK:Hid (Jv s B K L w vt vx q R (.int .i64 (pJ (following s.c.m W2))) W2 L3 f' w4):=⟨(Jw.out.below cZ.out).below hb4,Jy.out,Bg.out,(Rq.out.trans Bg.out (.of_below cZ.out)).trans Bg.out (.of_below hb4),HR2.out,by omega,rfl⟩;have Ru:=jK.out.wd.sK;have ah7:=jK.out.wi.steps;have HMS:=Sb.hide (show 20001 - sK s.WB w4<20001 - sK s.WB wr by rw[Ru,hms];omega);clear hb4 Ru;go_wp2
    go_roundw
    case rel=>exact⟨W2,L3,f',jK.out⟩
    case measure=>exact HMS.out
   ·have hde:d.err=dI s.c.m W1 ⟨n,q⟩:=by rw[HD.out,iX,if_neg he]
    have e0:(d.err != 0)=true:=by rw[hde];simpa using he
    have HR2:Hid (R=(d.err,W2)):=by
     unfold Hid;rw[HRR.out,if_neg he,hde,HW2.out,dC,if_neg he]
    clear he hde;go_wp2
    go_ret
    rw[HR2.out];exact⟨rfl,L3,Jw.out.below cZ.out,Jy.out,Bg.out,Rq.out.trans Bg.out (.of_below cZ.out)⟩
abbrev sN (m:Md) (ps:List Pk) (q:Int):Int × Wd:=qP m q 20001 (jU m (jB m) ps)
def dU (m:Md)(ps:List Pk)(q:Int):Int:=if qY m ps.length≠0 then qY m ps.length else if 1≤q∧q≤10000 then (sN m ps q).1 else 3
theorem Rv (m:Md)(ab au:Option Addr)(cb cu B:Nat)(ps:List Pk)(a:Option Addr)(cap:Nat)(w:World)(hmd:Hid (aW B w m ab au))(hps:Hid (qV B w ps a))(hB:B≤w.heap.size)(q:Int)(E:Int)(hE:Hid (E=dU m ps q))(R:Wd)(hR:Hid (R=(sN m ps q).2)) :
  Calls Tryz.prog 7 #[eU m ab au cb cu,.slice a ps.length cap,.int .i64 q] w fun e w'=>Below w.heap.size w w'∧((E≠0∧e=.returned (.tuple #[.agg #[.slice none 0 0,.slice none 0 0,.int .i64 0],.int .i64 E])) ∨
   (E=0∧∃ vE vB ov bv,e=.returned (.tuple #[.agg #[vE,vB,.int .i64 R.steps],.int .i64 0])∧lX m R 0 w' vE vB R.ts.length m.boxes.length ov bv∧∃ K,ib m K∧WI m K R)):=by
 obtain⟨E1,hE1⟩:∃ E1,E1=qY m ps.length:=⟨_,rfl⟩;have bC:=Sb.hide hE1;clear hE1;have aJ:=Sb.hide (Sr.first w m ab au cb cu);have kQ:Hid (aW B ((w.alloc (gG m ab au cb cu)).alloc vH) m ab au):=hmd.out.low (aJ.out.below.mono hB).block;go_enter Tryz.func7,Tryz.ntmps7
 go_wp2_with fail
 generalize (w.alloc (gG m ab au cb cu)).alloc vH=W0 at *;refine (acT m ab au cb cu B a ps.length cap _ kQ (by have:=aJ.out.below.size;omega) E1 bC).mono ?_;rintro e w1 ⟨rfl,hb1⟩;have aF:=Sb.hide (aJ.out.on hb1);clear hb1;by_cases h0:E1=0
 ·have e0:(E1 != 0)=false:=by simpa using h0
  obtain⟨hright,hn⟩:=acS (m:=m) (n:=ps.length) (by rw[← bC.out];exact h0);have HE2:Hid (E=if 1≤q∧q≤10000 then (sN m ps q).1 else 3):=by
   unfold Hid;rw[hE.out,dU,if_neg (by rw[← bC.out];simpa using h0)]
  obtain⟨bq,hbq⟩:∃ b,b=decide (1≤q∧q≤10000):=⟨_,rfl⟩;have vg:=Sb.hide hbq;clear hbq;obtain⟨⟨K,hK⟩,hbl⟩:=abL hright;have HK:=Sb.hide hK;have HRG:=Sb.hide hright;obtain⟨cv,cc,hcx⟩:=acN cu hmd.out hK.rt.units;have HCX:=Sb.hide hcx;have hB1:B≤w1.heap.size:=by have:=aF.out.below.size;omega
  have hz1:=lt_of_block aF.out.zero;have HWF:=Sb.hide (acD hK hright);have c1:=nG aF.out.md;clear h0 hK hright hcx;go_wp2_with fail
  refine (QG q _ bq vg).mono ?_;rintro e w1 ⟨rfl,rfl⟩;cases bq with
  | false =>
   have Ep:Hid (E=3):=by unfold Hid;rw[HE2.out,if_neg (by have:=vg.out;simpa using this.symm)]
   clear c1;have z:=(dD aF.out.zero).1;have zf:=(dD aF.out.zero).2;go_wp2
   have hX:=El (v0:=.slice none 0 0) (v1:=.slice none 0 0) (v2:=.int .i64 0) aF.out.zero;have kG:=Em (v0:=.slice none 0 0) (v1:=.slice none 0 0) (v2:=.int .i64 0) aF.out.below (Nat.le_succ _);unfold mH at hX kG;obtain⟨g0,g1,g2⟩:=hX;generalize ((w1.setCell ⟨w.heap.size+1,0,none⟩ (.slice none 0 0)).setCell ⟨w.heap.size+1,1,none⟩ (.slice none 0 0)).setCell ⟨w.heap.size+1,2,none⟩ (.int .i64 0)=W4 at *;exact bodyPost_ret (v:=.tuple #[.agg #[.slice none 0 0,.slice none 0 0,.int .i64 0],.int .i64 3]) (by simp[results,Tryz.results7,go_sem,g0,g1,g2]) rfl ⟨kG,.inl ⟨by rw[Ep.out];decide,by rw[Ep.out]⟩⟩
  | true =>
   have hq:1≤q∧q≤10000:=by have:=vg.out;simpa using this.symm
   have Ep:Hid (E=(sN m ps q).1):=by unfold Hid;rw[HE2.out,if_pos hq]
   go_wp2_with fail
   refine (acI ⟨m,B,au,cu,cv,cc⟩ K HK HRG hbl _ (Sb.hide (HCX.out.low (aF.out.below.mono hB).block)) hB1 ab cb (Sb.hide (hmd.out.low (aF.out.below.mono hB).block).boxes)).mono ?_;rintro e w2 ⟨s,L,vt,vx,rfl,hsc,hS,hW,hb2,hL⟩;have DX:=Sb.hide hsc;have hsm:s.c.m=m:=by rw[hsc]
   have hsB:s.c.B=B:=by rw[hsc]
   have vI:=Sb.hide hsm;have HSB:=Sb.hide hsB;have HS:=Sb.hide hS;have HW:=Sb.hide hW;have bQ:=Sb.hide (aF.out.on hb2);have HL:=Sb.hide (fun b (hb:b<w.heap.size+2)=>hL b (by omega));have hz2:=lt_of_block bQ.out.zero;have HRR:Hid ((E,R)=qP s.c.m q 20001 (jU s.c.m (jB m) ps)):=by
    unfold Hid;rw[vI.out,Ep.out,hR.out]
   clear hsc hS hW hb2 hL hsm hsB c1;go_wp2_with fail
   refine (acV s deafW HS K (by rw[vI.out];exact HK) L _ (jB m) vt vx HW (by rw[vI.out];exact HWF) ps a cap (by rw[HSB.out];exact Sb.hide (hps.out.low (bQ.out.below.mono hB).block)) hn q hq (E,R) HRR).mono ?_;rintro e w3 ⟨rfl,L3,Rw,nL,_,hkp⟩;have uD:=Sb.hide (bQ.out.kp hkp HL.out);have Rx:=Sb.hide nL;have Ju:=Sb.hide Rw;clear Rw nL hkp;by_cases h5:E=0
   ·have e5:(E != 0)=false:=by simpa using h5
    have uE:=Sb.hide h5;clear h5;go_wp2_with fail
    refine (ach s deafW HS K (by rw[vI.out];exact HK) L3 _ R vt vx Ju Rx (by rw[vI.out];exact hbl)).mono ?_;rintro e w4 ⟨vE,vB,ov,bv,rfl,hb4,jW⟩;rw[vI.out] at jW;have o5:=Sb.hide (uD.out.on hb4);have uQ:=Sb.hide (jW.base (Nat.zero_le _));obtain⟨ea,ec,rfl⟩:=dA jW.ends;obtain⟨ba,bc,rfl⟩:=dA jW.jA;have z:=(dD o5.out.zero).1;have zf:=(dD o5.out.zero).2;clear hb4 jW;go_wp2
    have hX:=El (v0:=.slice ea R.ts.length ec) (v1:=.slice ba m.boxes.length bc) (v2:=.int .i64 R.steps) o5.out.zero;have kG:=Em (v0:=.slice ea R.ts.length ec) (v1:=.slice ba m.boxes.length bc) (v2:=.int .i64 R.steps) o5.out.below (Nat.le_succ _);have Ry:=acQ (v0:=.slice ea R.ts.length ec) (v1:=.slice ba m.boxes.length bc) (v2:=.int .i64 R.steps) o5.out.zero uQ.out;unfold mH at hX kG Ry;obtain⟨g0,g1,g2⟩:=hX;generalize ((w4.setCell ⟨w.heap.size+1,0,none⟩ (.slice ea R.ts.length ec)).setCell ⟨w.heap.size+1,1,none⟩ (.slice ba m.boxes.length bc)).setCell ⟨w.heap.size+1,2,none⟩ (.int .i64 R.steps)=W4 at *;exact bodyPost_ret (v:=.tuple #[.agg #[.slice ea R.ts.length ec,.slice ba m.boxes.length bc,.int .i64 R.steps],.int .i64 0]) (by simp[results,Tryz.results7,go_sem,g0,g1,g2]) rfl ⟨kG,.inr ⟨uE.out,_,_,ov,bv,rfl,Ry,K,HK.out,by have:=Rx.out;rw[vI.out] at this;exact this⟩⟩
   ·have e5:(E != 0)=true:=by simpa using h5
    have xR:=Sb.hide h5;clear h5;have z:=(dD uD.out.zero).1;have zf:=(dD uD.out.zero).2;go_wp2
    have hX:=El (v0:=.slice none 0 0) (v1:=.slice none 0 0) (v2:=.int .i64 0) uD.out.zero;have kG:=Em (v0:=.slice none 0 0) (v1:=.slice none 0 0) (v2:=.int .i64 0) uD.out.below (Nat.le_succ _);unfold mH at hX kG;obtain⟨g0,g1,g2⟩:=hX;generalize ((w3.setCell ⟨w.heap.size+1,0,none⟩ (.slice none 0 0)).setCell ⟨w.heap.size+1,1,none⟩ (.slice none 0 0)).setCell ⟨w.heap.size+1,2,none⟩ (.int .i64 0)=W4 at *;exact bodyPost_ret (v:=.tuple #[.agg #[.slice none 0 0,.slice none 0 0,.int .i64 0],.int .i64 E]) (by simp[results,Tryz.results7,go_sem,g0,g1,g2]) rfl ⟨kG,.inl ⟨xR.out,rfl⟩⟩
 ·have e0:(E1 != 0)=true:=by simpa using h0
  have Rz:Hid (E=E1):=by unfold Hid;rw[hE.out,dU,if_pos (by rw[← bC.out];exact h0),← bC.out]
  have xR:=Sb.hide h0;clear h0;have z:=(dD aF.out.zero).1;have zf:=(dD aF.out.zero).2;go_wp2
  have hX:=El (v0:=.slice none 0 0) (v1:=.slice none 0 0) (v2:=.int .i64 0) aF.out.zero;have kG:=Em (v0:=.slice none 0 0) (v1:=.slice none 0 0) (v2:=.int .i64 0) aF.out.below (Nat.le_succ _);unfold mH at hX kG;obtain⟨g0,g1,g2⟩:=hX;generalize ((w1.setCell ⟨w.heap.size+1,0,none⟩ (.slice none 0 0)).setCell ⟨w.heap.size+1,1,none⟩ (.slice none 0 0)).setCell ⟨w.heap.size+1,2,none⟩ (.int .i64 0)=W4 at *;exact bodyPost_ret (v:=.tuple #[.agg #[.slice none 0 0,.slice none 0 0,.int .i64 0],.int .i64 E1]) (by simp[results,Tryz.results7,go_sem,g0,g1,g2]) rfl ⟨kG,.inl ⟨by rw[Rz.out];exact xR.out,by rw[Rz.out]⟩⟩
def Tr (t:Tk):Prop:=(t.over=5∧t.trap≠0)∨(t.over≠5∧t.trap=0)
def Zr (t:Tk):Prop:=t.over=0∧t.trap=0
theorem Zr.tr {t:Tk}(h:Zr t):Tr t:=.inr ⟨by rw[h.1];decide,h.2⟩
def To (t:Tk):Prop:=Tr t∧(t.over=0∨t.over=4∨t.over=5)
end Go.Proofs.YtfcpglhpolpdcaaGreatDoor.Vw
