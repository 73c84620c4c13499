/- The walks of following and settle. -/
import Derived.Test.YtifnmgfaohdkpaaGreatDoorM31
import Derived.Test.YtifnmgfaohdkpaaGreatDoorM34
set_option maxRecDepth 100000
set_option maxHeartbeats 2000000
namespace Go.Proofs.YtifnmgfaohdkpaaGreatDoor.Vw
open Go.RowKit Vf Vm
def oQ (o:Option Nat):Int:=match o with | some n=>(n:Int) | none=>-1
theorem PG {m:Md}{W:Wd}(h:0 < W.ts.length):∀ (n i:Nat) {k:Nat},rP m W n i=some k→k < W.ts.length∧(stat aN m (W.tk (k:Int)) W.x).1=1
 | 0,_,_,hk=>by cases hk
 | n+1,i,k,hk=>by
  unfold rP at hk
  split at hk
  ·rename_i hs
   cases hk
   refine ⟨?_,hs⟩
   unfold behind
   have h1:=Int.emod_lt_of_pos (W.last+1+(i:Int)) (by omega:(0:Int) < W.ts.length)
   have h2:=Int.emod_nonneg (W.last+1+(i:Int)) (by omega:(W.ts.length:Int)≠0)
   omega
  ·exact PG h n (i+1) hk
theorem PH (s:Sx)(B:jV)(hS:Hid (rQ s B))(K:KM)(hK:Hid (gT s.c.m K))(L:av)(w:World)(W:Wd)(vt vx:Value)(H:Hid (dJ s B L w W vt vx))(hI:Hid (WI s.c.m K W))(r:Int)(hr:Hid (r=oQ (following s.c.m W))) :
  Calls Tryz.prog 22 #[.pointer (some ⟨s.WB,0,none⟩)] w fun e w'=>e=.returned (.int .i64 r)∧Below w.heap.size w w':=by
 obtain ⟨d0,d1,d2,d3,_⟩:=H.out.cells
 obtain ⟨ta,tc,uA⟩:∃ a c,vt=.slice a W.ts.length c:=gK H.out.kJ
 subst uA
 have dW:=hI.out.few
 have hlast:=hI.out.last
 obtain ⟨N,hN⟩:∃ N,N=W.ts.length:=⟨_,rfl⟩
 have HN:=Sb.hide hN
 rw [← hN] at dW d0 hlast
 have HST:Hid (r=oQ (rP s.c.m W (N - 0) 0)):=by unfold Hid;rw [hr.out,HN.out];rfl
 have fC:=lt_of_block H.out.blk
 have HC:Hid (∀ W2,Below w.heap.size w W2→W2.cell? ⟨s.WB,0,none⟩=some (.slice ta N tc)∧W2.cell? ⟨s.WB,3,none⟩=some (.int .i64 W.last)):=fun W2 hb=>⟨(aC (hb.block _ fC) _).trans d0,(aC (hb.block _ fC) _).trans d3⟩
 obtain ⟨la,hla⟩:∃ l,l=W.last:=⟨_,rfl⟩
 have HLA:=Sb.hide hla
 rw [← hla] at hlast HC
 clear hN d1 d2 d3 hr hla
 go_enter Tryz.func22,Tryz.ntmps22
 go_wp2
 clear d0
 go_loopw [10] (fun v wr=>∃ k:Nat,v=.int .i64 k∧k≤N∧Below w.heap.size w wr∧r=oQ (rP s.c.m W (N - k) k)) (fun v _=>N - (intOf v).toNat)
 case atStart=>exact ⟨0,rfl,Nat.zero_le _,.refl _ _,HST.out⟩
 case round =>
  obtain ⟨k,rfl,hk,hb,wR⟩:=hrel
  have HB:=Sb.hide hb
  have PI:=Sb.hide wR
  clear hb wR HST
  by_cases hlt:k < N
  ·obtain ⟨o,ho⟩:∃ o,o=behind W k:=⟨_,rfl⟩
   have fG:o < N∧(la+1+(k:Int)).tmod (N:Int)=(o:Int):=by
    rw [ho]
    unfold behind
    rw [← HN.out,← HLA.out]
    have h1:=Int.emod_lt_of_pos (la+1+(k:Int)) (by omega:(0:Int) < N)
    have h2:=Int.emod_nonneg (la+1+(k:Int)) (by omega:(N:Int)≠0)
    refine ⟨by omega,?_⟩
    rw [Int.tmod_eq_emod_of_nonneg (by omega)]
    omega
   have HOB:=Sb.hide ho
   obtain ⟨t,ht⟩:∃ t,W.ts[o]?=some t:=⟨_,List.getElem?_eq_getElem (by rw [← HN.out];exact fG.1)⟩
   have HT:=Sb.hide ht
   have gm:Hid (W.tk (behind W k:Int)=t):=by unfold Hid Wd.tk;rw [← ho];simp [ht]
   have HRR:Hid (r=if (stat aN s.c.m t W.x).1=1 then (o:Int) else oQ (rP s.c.m W (N - (k+1)) (k+1))):=by
    unfold Hid
    rw [PI.out,show N - k=(N - (k+1))+1 by omega]
    show oQ (if (stat aN s.c.m (W.tk (behind W k:Int)) W.x).1=1 then some (behind W k) else _)=_
    rw [gm.out,← ho]
    split <;> rfl
   have HAT:=Sb.hide (hI.out.at (c:=s.c) rfl hK.out ht)
   obtain ⟨P,vR,vO,hSt⟩:=H.out.st ht
   have HST:=Sb.hide hSt
   obtain ⟨g,uB,htc⟩:=qw H.out.kJ (wC s.T (by rw [← HN.out];exact fG.1:o < W.ts.length))
   have hgz:=World.block_lt_of_cell? w _ htc
   have t5:wr.cell? ⟨g,o,none⟩=some (.pointer (some ⟨s.T o,0,none⟩)):=(aC (HB.out.block g hgz) _).trans htc
   obtain ⟨br,hbr⟩:∃ b,b=((stat aN s.c.m t W.x).1 == 1):=⟨_,rfl⟩
   have uD:=Sb.hide hbr
   subst uB
   obtain ⟨c0,c3⟩:=HC.out _ HB.out
   have w1:IntKind.i64.wrap (la+1)=la+1:=by rw [IntKind.wrap_i64];omega
   have w2:IntKind.i64.wrap (la+1+(k:Int))=la+1+(k:Int):=by rw [IntKind.wrap_i64];omega
   obtain ⟨ae3,ae4⟩:=fG
   have nz:¬ (N:Int)=0:=by omega
   have n0:(0:Int)≤(o:Int):=by omega
   have n1:(o:Int) < (N:Int):=by omega
   clear ho ht hSt htc hbr
   go_wp2
   go_quiet (fail)
   go_wp2_with fail
   refine (Ck (s.E (qx B o W.evs t.log.length)) aN s.c s.vb (s.ev o) o (s.T o) L P _ t W.x vR vO (Sb.hide (HST.out.below (below_drewN HB.out _))) (Sb.hide (hS.out.boxes _)) HAT br uD).mono ?_
   rintro e w3 ⟨rfl,hb3⟩
   have HB3:Hid (Below w.heap.size w w3):=(below_drewN HB.out _).trans (hb3.mono (by exact HB.out.size))
   clear hb3
   cases br with
   | true =>
    have HF:Hid (r=(o:Int)):=by unfold Hid;rw [HRR.out,if_pos (by have:=uD.out;simpa using this.symm)]
    go_wp2
    go_ret
    exact ⟨by rw [HF.out];rfl,HB3.out⟩
   | false =>
    have HF:Hid (r=oQ (rP s.c.m W (N - (k+1)) (k+1))):=by unfold Hid;rw [HRR.out,if_neg (by have:=uD.out;simpa using this.symm)]
    go_wp2
    go_roundw
    case rel=>exact ⟨k+1,by go_num,by omega,HB3.out,HF.out⟩
    case measure=>simp [intOf];omega
  ·have HF:Hid (r=-1):=by unfold Hid;rw [PI.out,show N - k=0 by omega];rfl
   go_wp2
   go_ret
   exact ⟨by rw [HF.out];rfl,HB.out⟩
def rV (b:Nat)(w:World):Nat:=match w.cell? ⟨b,2,none⟩ with | some (.int _ n)=>n.toNat | _=>0
theorem dJ.rV {s:Sx}{B:jV}{L:av}{w:World}{W:Wd}{vt vx:Value}(H:dJ s B L w W vt vx):rV s.WB w=W.steps:=by
 unfold Vw.rV
 rw [H.cells.2.2.1]
 simp
structure Ij (s:Sx) (B:jV) (K:KM) (L:av) (w:World) (vt vx:Value) (q:Int) (R:Int × Wd) (v:Value) (W1:Wd) (L1:av) (f:Nat) (wr:World):Prop where
 wd:dJ s B L1 wr W1 vt vx
 wi:WI s.c.m K W1
 ext:Ext L L1 w
 kp:Kp L w wr
 res:R=uy s.c.m q f W1
 fuel:20001≤f+W1.steps
 v:v=.int .i64 (oQ (following s.c.m W1))
theorem aaM (s:Sx)(B:jV)(hS:Hid (rQ s B))(K:KM)(hK:Hid (gT s.c.m K))(L:av)(w:World)(W:Wd)(vt vx:Value)(H:Hid (dJ s B L w W vt vx))(hI:Hid (WI s.c.m K W))(ps:List Pk)(a:Option Addr)(cap:Nat)(hps:Hid (uG s.c.B w ps a))(hn:ps.length≤400)(q:Int)(hq:1≤q∧q≤10000)(R:Int × Wd)(hR:Hid (R=uy s.c.m q 20001 (kI s.c.m W ps))) :
  Calls Tryz.prog 13 #[.pointer (some ⟨s.WB,0,none⟩),.slice a ps.length cap,.int .i64 q] w fun e w'=>e=.returned (.int .i64 R.1)∧O7 s B K L w w' R.2 vt vx:=by
 have HQ:=Sb.hide hq
 clear hq
 go_enter Tryz.func13,Tryz.ntmps13
 go_wp2_with fail
 refine (Z4 s B hS K hK L w W vt vx H hI ps a cap hps hn).mono ?_
 rintro e w1 ⟨vd,L1,rfl,hF⟩
 have h1:=hF.wd
 have h2:=hF.wi
 rw [List.take_length] at h1 h2
 have PK:=Sb.hide h1
 have PL:=Sb.hide h2
 have PM:=Sb.hide hF.ext
 have aaN:=Sb.hide hF.kp
 obtain ⟨da,dc,rfl⟩:=gK hF.row
 clear hF h1 h2
 go_wp2_with fail
 refine (PH s B hS K hK L1 _ _ vt vx PK PL _ (Sb.hide rfl)).mono ?_
 rintro e w2 ⟨rfl,hb2⟩
 have HST:Hid (Ij s B K L w vt vx q R (.int .i64 (oQ (following s.c.m (kI s.c.m W ps)))) (kI s.c.m W ps) L1 20001 w2):=⟨PK.out.below hb2,PL.out,PM.out,aaN.out.trans PM.out (.of_below hb2),hR.out,by omega,rfl⟩
 clear hb2
 go_wp2
 go_loopw [7] (fun v wr=>∃ W1 L1 f,Ij s B K L w vt vx q R v W1 L1 f wr) (fun _ wr=>20001 - rV s.WB wr)
 case atStart=>exact ⟨_,_,_,HST.out⟩
 case round =>
  obtain ⟨W1,L2,f,hA⟩:=hrel
  have hv:=hA.v
  subst hv
  have HA:=Sb.hide hA
  have hfu:=hA.fuel
  have hst:=hA.wi.steps
  have hms:=hA.wd.rV
  clear hA HST
  obtain ⟨fo,hfo⟩:∃ fo,fo=following s.c.m W1:=⟨_,rfl⟩
  have rf:=Sb.hide hfo
  rw [← hfo]
  obtain ⟨f',rfl⟩:∃ f',f=f'+1:=⟨f - 1,by omega⟩
  cases fo with
  | none =>
   have HRR:Hid (R=(0,W1)):=by
    unfold Hid
    rw [HA.out.res]
    show (match following s.c.m W1 with | none=>(0,W1) | some n=>_:Int × Wd)=_
    rw [← rf.out]
   clear hfo
   go_wp2
   go_ret
   rw [HRR.out]
   exact ⟨rfl,L2,HA.out.wd,HA.out.wi,HA.out.ext,HA.out.kp⟩
  | some n =>
   obtain ⟨hnl,hns⟩:=PG HA.out.wi.few.1 _ _ hfo.symm
   have HRR:Hid (R=if iL s.c.m W1 ⟨n,q⟩=0 then uy s.c.m q f' (iM s.c.m W1 ⟨n,q⟩) else (iL s.c.m W1 ⟨n,q⟩,W1)):=by
    unfold Hid
    rw [HA.out.res]
    show (match following s.c.m W1 with | none=>(0,W1) | some n=>_:Int × Wd)=_
    rw [← rf.out]
   obtain ⟨d,hd⟩:∃ d,d=iN s.c.m W1 ⟨n,q⟩:=⟨_,rfl⟩
   obtain ⟨W2,hW2⟩:∃ d,d=iM s.c.m W1 ⟨n,q⟩:=⟨_,rfl⟩
   have HD:=Sb.hide hd
   have HW2:=Sb.hide hW2
   have n0:(0:Int)≤(n:Int):=by omega
   have HNV:Hid (oQ (some n)=(n:Int)):=rfl
   clear hd hW2 hfo hns hnl
   rw [HNV.out]
   go_wp2_with fail
   refine (O8 s B hS K hK L2 _ W1 vt vx (Sb.hide HA.out.wd) (Sb.hide HA.out.wi) ⟨n,q⟩ d HD W2 HW2).mono ?_
   rintro e w3 ⟨rfl,L3,PN,PO,PQ,hkp3⟩
   have Ik:=Sb.hide PN
   have Il:=Sb.hide PO
   have Ag:Hid (Ext L L3 w):=HA.out.ext.trans PQ HA.out.kp.size
   have PS:=Sb.hide (HA.out.kp.trans HA.out.ext hkp3)
   clear PN PO PQ hkp3
   have cK:Hid (Below w3.heap.size w3 (w3.alloc (jW d.err (d.steps:Int)))):=(Below.refl _ w3).alloc (Nat.le_refl _) _
   have c0:(w3.alloc (jW d.err (d.steps:Int))).cell? ⟨w3.heap.size,0,none⟩=some (.int .i64 d.err):=by simp [World.cell?_alloc_mark]
   by_cases he:iL s.c.m W1 ⟨n,q⟩=0
   ·have hde:d.err=0:=by rw [HD.out,iN,if_pos he]
    have hds:=(O3 he).1
    have HR2:Hid (R=uy s.c.m q f' W2):=by unfold Hid;rw [HRR.out,if_pos he,← HW2.out]
    have PT:=(ZT s.c.m W1 ⟨n,q⟩).1
    have rW:(iN s.c.m W1 ⟨n,q⟩).steps=(ran s.c.m W1 ⟨n,q⟩).1:=by unfold iN;rw [if_pos he]
    have ae5:W1.steps+1≤W2.steps:=by rw [HW2.out,PT,rW];omega
    have e0:(d.err != 0)=false:=by simpa using hde
    clear he hde hds PT rW
    go_wp2_with fail
    generalize w3.alloc (jW d.err (d.steps:Int))=WA at *
    refine (PH s B hS K hK L3 _ W2 vt vx (Sb.hide (Ik.out.below cK.out)) Il _ (Sb.hide rfl)).mono ?_
    rintro e w4 ⟨rfl,hb4⟩
    have jA:Hid (Ij s B K L w vt vx q R (.int .i64 (oQ (following s.c.m W2))) W2 L3 f' w4):=⟨(Ik.out.below cK.out).below hb4,Il.out,Ag.out,(PS.out.trans Ag.out (.of_below cK.out)).trans Ag.out (.of_below hb4),HR2.out,by omega,rfl⟩
    have PU:=jA.out.wd.rV
    have ae6:=jA.out.wi.steps
    have HMS:=Sb.hide (show 20001 - rV s.WB w4 < 20001 - rV s.WB wr by rw [PU,hms];omega)
    clear hb4 PU
    go_wp2
    go_roundw
    case rel=>exact ⟨W2,L3,f',jA.out⟩
    case measure=>exact HMS.out
   ·have hde:d.err=iL s.c.m W1 ⟨n,q⟩:=by rw [HD.out,iN,if_neg he]
    have e0:(d.err != 0)=true:=by rw [hde];simpa using he
    have HR2:Hid (R=(d.err,W2)):=by
     unfold Hid
     rw [HRR.out,if_neg he,hde,HW2.out,iM,if_neg he]
    clear he hde
    go_wp2
    go_ret
    rw [HR2.out]
    exact ⟨rfl,L3,Ik.out.below cK.out,Il.out,Ag.out,PS.out.trans Ag.out (.of_below cK.out)⟩
abbrev mW (m:Md) (ps:List Pk) (q:Int):Int × Wd:=uy m q 20001 (kI m (jM m) ps)
def dw (m:Md)(ps:List Pk)(q:Int):Int:=if qC m ps.length≠0 then qC m ps.length else if 1≤q∧q≤10000 then (mW m ps q).1 else 3
theorem aaQ (m:Md)(ab au:Option Addr)(cb cu B:Nat)(ps:List Pk)(a:Option Addr)(cap:Nat)(w:World)(hmd:Hid (aY B w m ab au))(hps:Hid (uG B w ps a))(hB:B≤w.heap.size)(q:Int)(E:Int)(hE:Hid (E=dw m ps q))(R:Wd)(hR:Hid (R=(mW m ps q).2)) :
  Calls Tryz.prog 8 #[eH m ab au cb cu,.slice a ps.length cap,.int .i64 q] w fun e w'=>Below w.heap.size w w'∧((E≠0∧e=.returned (.tuple #[.agg #[.slice none 0 0,.slice none 0 0,.int .i64 0],.int .i64 E])) ∨
   (E=0∧∃ vE vB ov bv,e=.returned (.tuple #[.agg #[vE,vB,.int .i64 R.steps],.int .i64 0])∧je m R 0 w' vE vB R.ts.length m.boxes.length ov bv∧∃ K,gT m K∧WI m K R)):=by
 obtain ⟨E1,hE1⟩:∃ E1,E1=qC m ps.length:=⟨_,rfl⟩
 have bz:=Sb.hide hE1
 clear hE1
 have aO:=Sb.hide (Sr.first w m ab au cb cu)
 have wo:Hid (aY B ((w.alloc (nU m ab au cb cu)).alloc kM) m ab au):=hmd.out.low (aO.out.below.mono hB).block
 go_enter Tryz.func8,Tryz.ntmps8
 go_wp2_with fail
 generalize (w.alloc (nU m ab au cb cu)).alloc kM=W0 at *
 refine (aaK m ab au cb cu B a ps.length cap _ wo (by have:=aO.out.below.size;omega) E1 bz).mono ?_
 rintro e w1 ⟨rfl,hb1⟩
 have aG:=Sb.hide (aO.out.on hb1)
 clear hb1
 by_cases h0:E1=0
 ·have e0:(E1 != 0)=false:=by simpa using h0
  obtain ⟨hright,hn⟩:=aaJ (m:=m) (n:=ps.length) (by rw [← bz.out];exact h0)
  have HE2:Hid (E=if 1≤q∧q≤10000 then (mW m ps q).1 else 3):=by
   unfold Hid
   rw [hE.out,dw,if_neg (by rw [← bz.out];simpa using h0)]
  obtain ⟨bq,hbq⟩:∃ b,b=decide (1≤q∧q≤10000):=⟨_,rfl⟩
  have uC:=Sb.hide hbq
  clear hbq
  obtain ⟨⟨K,hK⟩,hbl⟩:=ZB hright
  have HK:=Sb.hide hK
  have HRG:=Sb.hide hright
  obtain ⟨cv,cc,hcx⟩:=aaG cu hmd.out hK.rt.units
  have HCX:=Sb.hide hcx
  have hB1:B≤w1.heap.size:=by have:=aG.out.below.size;omega
  have hz1:=lt_of_block aG.out.zero
  have HWF:=Sb.hide (aaw hK hright)
  have c1:=rG aG.out.md
  clear h0 hK hright hcx
  go_wp2_with fail
  refine (OX q _ bq uC).mono ?_
  rintro e w1 ⟨rfl,rfl⟩
  cases bq with
  | false =>
   have C9:Hid (E=3):=by unfold Hid;rw [HE2.out,if_neg (by have:=uC.out;simpa using this.symm)]
   clear c1
   have z:=(bP aG.out.zero).1
   have zf:=(bP aG.out.zero).2
   go_wp2
   have hX:=uK (v0:=.slice none 0 0) (v1:=.slice none 0 0) (v2:=.int .i64 0) aG.out.zero
   have fD:=rU (v0:=.slice none 0 0) (v1:=.slice none 0 0) (v2:=.int .i64 0) aG.out.below (Nat.le_succ _)
   unfold jg at hX fD
   obtain ⟨g0,g1,g2⟩:=hX
   generalize ((w1.setCell ⟨w.heap.size+1,0,none⟩ (.slice none 0 0)).setCell ⟨w.heap.size+1,1,none⟩ (.slice none 0 0)).setCell ⟨w.heap.size+1,2,none⟩ (.int .i64 0)=W4 at *
   exact bodyPost_ret (v:=.tuple #[.agg #[.slice none 0 0,.slice none 0 0,.int .i64 0],.int .i64 3]) (by simp [results,Tryz.results8,go_sem,g0,g1,g2]) rfl ⟨fD,.inl ⟨by rw [C9.out];decide,by rw [C9.out]⟩⟩
  | true =>
   have hq:1≤q∧q≤10000:=by have:=uC.out;simpa using this.symm
   have C9:Hid (E=(mW m ps q).1):=by unfold Hid;rw [HE2.out,if_pos hq]
   go_wp2_with fail
   refine (aaB ⟨m,B,au,cu,cv,cc⟩ K HK HRG hbl _ (Sb.hide (HCX.out.low (aG.out.below.mono hB).block)) hB1 ab cb (Sb.hide (hmd.out.low (aG.out.below.mono hB).block).boxes)).mono ?_
   rintro e w2 ⟨s,L,vt,vx,rfl,hsc,hS,hW,hb2,hL⟩
   have CF:=Sb.hide hsc
   have hsm:s.c.m=m:=by rw [hsc]
   have hsB:s.c.B=B:=by rw [hsc]
   have uL:=Sb.hide hsm
   have HSB:=Sb.hide hsB
   have HS:=Sb.hide hS
   have HW:=Sb.hide hW
   have cB:=Sb.hide (aG.out.on hb2)
   have HL:=Sb.hide (fun b (hb:b < w.heap.size+2)=>hL b (by omega))
   have hz2:=lt_of_block cB.out.zero
   have HRR:Hid ((E,R)=uy s.c.m q 20001 (kI s.c.m (jM m) ps)):=by
    unfold Hid
    rw [uL.out,C9.out,hR.out]
   clear hsc hS hW hb2 hL hsm hsB c1
   go_wp2_with fail
   refine (aaM s deafW HS K (by rw [uL.out];exact HK) L _ (jM m) vt vx HW (by rw [uL.out];exact HWF) ps a cap (by rw [HSB.out];exact Sb.hide (hps.out.low (cB.out.below.mono hB).block)) hn q hq (E,R) HRR).mono ?_
   rintro e w3 ⟨rfl,L3,PV,PW,_,hkp⟩
   have tK:=Sb.hide (cB.out.kp hkp HL.out)
   have PX:=Sb.hide PW
   have Ii:=Sb.hide PV
   clear PV PW hkp
   by_cases h5:E=0
   ·have e5:(E != 0)=false:=by simpa using h5
    have tL:=Sb.hide h5
    clear h5
    go_wp2_with fail
    refine (aab s deafW HS K (by rw [uL.out];exact HK) L3 _ R vt vx Ii PX (by rw [uL.out];exact hbl)).mono ?_
    rintro e w4 ⟨vE,vB,ov,bv,rfl,hb4,fO⟩
    rw [uL.out] at fO
    have oC:=Sb.hide (tK.out.on hb4)
    have l6:=Sb.hide (fO.base (Nat.zero_le _))
    obtain ⟨ea,ec,rfl⟩:=gK fO.ends
    obtain ⟨ba,bc,rfl⟩:=gK fO.jK
    have z:=(bP oC.out.zero).1
    have zf:=(bP oC.out.zero).2
    clear hb4 fO
    go_wp2
    have hX:=uK (v0:=.slice ea R.ts.length ec) (v1:=.slice ba m.boxes.length bc) (v2:=.int .i64 R.steps) oC.out.zero
    have fD:=rU (v0:=.slice ea R.ts.length ec) (v1:=.slice ba m.boxes.length bc) (v2:=.int .i64 R.steps) oC.out.below (Nat.le_succ _)
    have nV:=C8 (v0:=.slice ea R.ts.length ec) (v1:=.slice ba m.boxes.length bc) (v2:=.int .i64 R.steps) oC.out.zero l6.out
    unfold jg at hX fD nV
    obtain ⟨g0,g1,g2⟩:=hX
    generalize ((w4.setCell ⟨w.heap.size+1,0,none⟩ (.slice ea R.ts.length ec)).setCell ⟨w.heap.size+1,1,none⟩ (.slice ba m.boxes.length bc)).setCell ⟨w.heap.size+1,2,none⟩ (.int .i64 R.steps)=W4 at *
    exact bodyPost_ret (v:=.tuple #[.agg #[.slice ea R.ts.length ec,.slice ba m.boxes.length bc,.int .i64 R.steps],.int .i64 0]) (by simp [results,Tryz.results8,go_sem,g0,g1,g2]) rfl ⟨fD,.inr ⟨tL.out,_,_,ov,bv,rfl,nV,K,HK.out,by have:=PX.out;rw [uL.out] at this;exact this⟩⟩
   ·have e5:(E != 0)=true:=by simpa using h5
    have xh:=Sb.hide h5
    clear h5
    have z:=(bP tK.out.zero).1
    have zf:=(bP tK.out.zero).2
    go_wp2
    have hX:=uK (v0:=.slice none 0 0) (v1:=.slice none 0 0) (v2:=.int .i64 0) tK.out.zero
    have fD:=rU (v0:=.slice none 0 0) (v1:=.slice none 0 0) (v2:=.int .i64 0) tK.out.below (Nat.le_succ _)
    unfold jg at hX fD
    obtain ⟨g0,g1,g2⟩:=hX
    generalize ((w3.setCell ⟨w.heap.size+1,0,none⟩ (.slice none 0 0)).setCell ⟨w.heap.size+1,1,none⟩ (.slice none 0 0)).setCell ⟨w.heap.size+1,2,none⟩ (.int .i64 0)=W4 at *
    exact bodyPost_ret (v:=.tuple #[.agg #[.slice none 0 0,.slice none 0 0,.int .i64 0],.int .i64 E]) (by simp [results,Tryz.results8,go_sem,g0,g1,g2]) rfl ⟨fD,.inl ⟨xh.out,rfl⟩⟩
 ·have e0:(E1 != 0)=true:=by simpa using h0
  have PY:Hid (E=E1):=by unfold Hid;rw [hE.out,dw,if_pos (by rw [← bz.out];exact h0),← bz.out]
  have xh:=Sb.hide h0
  clear h0
  have z:=(bP aG.out.zero).1
  have zf:=(bP aG.out.zero).2
  go_wp2
  have hX:=uK (v0:=.slice none 0 0) (v1:=.slice none 0 0) (v2:=.int .i64 0) aG.out.zero
  have fD:=rU (v0:=.slice none 0 0) (v1:=.slice none 0 0) (v2:=.int .i64 0) aG.out.below (Nat.le_succ _)
  unfold jg at hX fD
  obtain ⟨g0,g1,g2⟩:=hX
  generalize ((w1.setCell ⟨w.heap.size+1,0,none⟩ (.slice none 0 0)).setCell ⟨w.heap.size+1,1,none⟩ (.slice none 0 0)).setCell ⟨w.heap.size+1,2,none⟩ (.int .i64 0)=W4 at *
  exact bodyPost_ret (v:=.tuple #[.agg #[.slice none 0 0,.slice none 0 0,.int .i64 0],.int .i64 E1]) (by simp [results,Tryz.results8,go_sem,g0,g1,g2]) rfl ⟨fD,.inl ⟨by rw [PY.out];exact xh.out,by rw [PY.out]⟩⟩
theorem xA {w:World}{B e size n:Nat}{va:Option Addr}{vc:Nat}{xs:List Value}(h:w.ownsRow B e size (.slice va n vc) n xs){k:Nat}{u:Value}(hk:xs[k]?=some u):∃ g,va=some ⟨g,0,none⟩∧w.cell? ⟨g,k,none⟩=some u:=by
 rcases h.2 with ⟨e1,h0⟩ | ⟨g,cap,cur,e1,_⟩
 ·have hl:=h.1
  rw [h0] at hl
  have hx:xs=[]:=List.eq_nil_of_length_eq_zero (by simpa using hl)
  rw [hx] at hk;cases hk
 ·have e2:=e1
  simp at e2
  refine ⟨g,e2.1,?_⟩
  have:=h.cells (g:=g) (by rw [e1];rfl) k _ hk
  rw [oD] at this
  simpa using this
def RI (w:World)(v:Value)(l:List Int):Prop:=∃ a c,v=.slice a l.length c∧l.length≤c∧∀ (i:Nat) x,l[i]?=some x→∃ b off,a=some ⟨b,off,none⟩∧w.cell? ⟨b,off+i,none⟩=some (.int .i64 x)
def RS (w:World)(v:Value)(ls:List (List Int)):Prop:=∃ a c,v=.slice a ls.length c∧∀ (i:Nat) l,ls[i]?=some l→∃ b off u,a=some ⟨b,off,none⟩∧w.cell? ⟨b,off+i,none⟩=some u∧RI w u l
theorem xB {w:World}{B n:Nat}{e:TypeId}{v:Value}{ws:List Int}(h:w.ownsRow B e 1 v n (ints ws)):RI w v ws:=by
 have hl:ws.length=n:=by have:=h.1;simpa using this
 subst hl
 rcases h.2 with ⟨rfl,h0⟩ | ⟨g,cap,cur,rfl,_,_,hc,_⟩
 ·refine ⟨none,0,by rw [h0],by omega,fun i x hx=>?_⟩
  have:=(List.getElem?_eq_some_iff.1 hx).1
  omega
 ·refine ⟨_,cap,rfl,hc,fun i x hx=>?_⟩
  obtain ⟨g',e',hc'⟩:=qw h (k:=i) (u:=.int .i64 x) (by rw [List.getElem?_map,hx];rfl)
  cases e'
  exact ⟨g,0,rfl,by rw [Nat.zero_add];exact hc'⟩
theorem RI.below {w w':World}{v:Value}{l:List Int}(h:RI w v l)(hb:Below w.heap.size w w'):RI w' v l:=by
 obtain ⟨a,c,e,hc,hr⟩:=h
 refine ⟨a,c,e,hc,fun i x hx=>?_⟩
 obtain ⟨b,off,e2,hcell⟩:=hr i x hx
 exact ⟨b,off,e2,(aC (hb.block b (World.block_lt_of_cell? w _ hcell)) _).trans hcell⟩
theorem RS.below {w w':World}{v:Value}{ls:List (List Int)}(h:RS w v ls)(hb:Below w.heap.size w w'):RS w' v ls:=by
 obtain ⟨a,c,e,hr⟩:=h
 refine ⟨a,c,e,fun i x hx=>?_⟩
 obtain ⟨b,off,u,e2,hcell,hi⟩:=hr i x hx
 exact ⟨b,off,u,e2,(aC (hb.block b (World.block_lt_of_cell? w _ hcell)) _).trans hcell,hi.below hb⟩
structure Da (w:World) (m:Md) (ts:List Tk) (x:List Bq) (vE vB:Value):Prop where
 ends:∃ a c,vE=.slice a ts.length c∧∀ (i:Nat) t,ts[i]?=some t→∃ b off vo,a=some ⟨b,off,none⟩∧w.cell? ⟨b,off+i * 4,none⟩=some (.int .i64 (stat aN m t x).1)∧w.cell? ⟨b,off+i * 4+1,none⟩=some (.int .i64 (stat aN m t x).2)∧w.cell? ⟨b,off+i * 4+2,none⟩=some (.int .i64 t.trap)∧w.cell? ⟨b,off+i * 4+3,none⟩=some vo∧RI w vo t.out
 boxes:RS w vB (x.map (·.ws))
theorem Da.below {w w':World}{m:Md}{ts:List Tk}{x:List Bq}{vE vB:Value}(h:Da w m ts x vE vB)(hb:Below w.heap.size w w'):Da w' m ts x vE vB:=by
 obtain ⟨a,c,e,hr⟩:=h.ends
 refine ⟨⟨a,c,e,fun i t ht=>?_⟩,h.boxes.below hb⟩
 obtain ⟨b,off,vo,e2,h0,h1,h2,h3,h4⟩:=hr i t ht
 have hk:=aC (hb.block b (World.block_lt_of_cell? w _ h0))
 exact ⟨b,off,vo,e2,(hk _).trans h0,(hk _).trans h1,(hk _).trans h2,(hk _).trans h3,h4.below hb⟩
theorem Db (m:Md)(W:Wd)(ov:Nat→Value):∀ n,(jb m W ov n).length=n * 4
 | 0=>rfl
 | n+1=>by rw [z8,List.length_append,Db m W ov n];simp [enc];omega
theorem uM (m:Md)(W:Wd)(ov:Nat→Value):∀ (n i j:Nat),i < n→j < 4→(jb m W ov n)[i * 4+j]?=(enc m W ov i)[j]?
 | n+1,i,j,hi,hj=>by
  rw [z8]
  by_cases e:i=n
  ·subst e
   rw [List.getElem?_append_right (by rw [Db];omega),Db]
   congr 1
   omega
  ·rw [List.getElem?_append_left (by rw [Db];omega)]
   exact uM m W ov n i j (by omega) hj
theorem je.reads {m:Md}{W:Wd}{C:Nat}{w:World}{vE vB:Value}{nb:Nat}{ov bv:Nat→Value}(h:je m W C w vE vB W.ts.length nb ov bv)(hx:W.x.length=nb):Da w m W.ts W.x vE vB:=by
 obtain ⟨ea,ec,rfl⟩:=gK h.ends
 obtain ⟨ba,bc,rfl⟩:=gK h.jK
 refine ⟨⟨ea,ec,rfl,fun i t ht=>?_⟩,⟨ba,bc,by simp [hx],fun i l hl=>?_⟩⟩
 ·have hi:=(List.getElem?_eq_some_iff.1 ht).1
  have Ah:W.tk (i:Int)=t:=by simp [Wd.tk,ht]
  have ho:=h.outs i hi
  rw [Ah] at ho
  obtain ⟨g,rfl,c0⟩:=xA h.ends (uM m W ov W.ts.length i 0 hi (by omega))
  obtain ⟨g1,e1,c1⟩:=xA h.ends (uM m W ov W.ts.length i 1 hi (by omega))
  cases e1
  obtain ⟨g1,e1,c2⟩:=xA h.ends (uM m W ov W.ts.length i 2 hi (by omega))
  cases e1
  obtain ⟨g1,e1,c3⟩:=xA h.ends (uM m W ov W.ts.length i 3 hi (by omega))
  cases e1
  rw [Ah] at c0 c1 c2
  simp only [Nat.add_zero] at c0 c1 c2 c3 ⊢
  exact ⟨g,0,ov i,rfl,by simpa using c0,by simpa using c1,by simpa using c2,by simpa using c3,xB ho⟩
 ·rw [List.getElem?_map] at hl
  cases hq:W.x[i]? with
  | none=>rw [hq] at hl;cases hl
  | some q =>
   rw [hq] at hl
   cases hl
   have hi:=(List.getElem?_eq_some_iff.1 hq).1
   obtain ⟨g,e,hc⟩:=qw h.jK (k:=i) (u:=bv i) (by simp [lh,show i < nb by omega])
   exact ⟨g,0,bv i,e,by rw [Nat.zero_add];exact hc,xB (h.words i q (by omega) hq)⟩
end Go.Proofs.YtifnmgfaohdkpaaGreatDoor.Vw
