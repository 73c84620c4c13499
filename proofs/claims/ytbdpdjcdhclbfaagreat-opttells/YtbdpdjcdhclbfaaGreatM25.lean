/- The document's Once: rows that a pass makes. -/
import Derived.Test.YtbdpdjcdhclbfaaGreatM9
import Derived.Test.YtbdpdjcdhclbfaaGreatM20
import Derived.Test.YtbdpdjcdhclbfaaGreatM24
import Derived.Test.YtbdpdjcdhclbfaaGreatM13
import Derived.Test.YtbdpdjcdhclbfaaGreatM18
set_option maxRecDepth 100000
set_option maxHeartbeats 4000000
namespace Go.Proofs.YtbdpdjcdhclbfaaGreat.Ow
open Go.RowKit Vf Vm Ot Od
theorem KA (W:World)(cs:List Value)(t:TypeId):∀ j u',cs[j]?=some u'→(W.alloc (.cells cs.toArray t)).cell? ((⟨W.heap.size,0,none⟩:Addr).add j)=some u':=by
 intro j u' h;have hn:=heap_alloc_new W (.cells cs.toArray t);rw[Gn];unfold World.cell?;rw[hn];simpa using h
theorem KD {l:List Value}(h:l.all Value.oneCell'=true):∀ u ∈ l,u.oneCell'=true:=fun u hu=>List.all_eq_true.1 h u hu
theorem IP {w w':World}{C:Nat}{e:TypeId}{size n:Nat}{v:Value}{xs:List Value}{r:Option Nat}(h:w.ownsRow C e size v n xs)(hg:w.grownBy w' r)(hr:∀ k,v.ownBlock=some k→r≠some k):w'.ownsRow C e size v n xs:=by
 refine⟨h.1,?_⟩;rcases h.2 with h1 | ⟨g,cap,cur,h1,h2,h3,h4⟩
 ·exact .inl h1
 ·refine .inr ⟨g,cap,cur,h1,h2,(hg.block _ (lt_of_block h3) (fun e=>hr g (by rw[h1];rfl) e.symm)).trans h3,h4⟩
theorem KE {w:World}{B B' n n' size size':Nat}{e e':TypeId}{v v':Value}{xs xs':List Value}(h:w.ownsRow B e size v n xs)(h':w.ownsRow B' e' size' v' n' xs')(he:e≠e'):∀ k,v.ownBlock=some k→v'.ownBlock≠some k:=fun k hk hk'=>by
 obtain⟨cs,h1⟩:=Nj h k hk;obtain⟨cs',h2⟩:=Nj h' k hk';rw[h1] at h2;simp at h2;exact he h2.2
theorem NI {B:Nat}{w W W':World}{r:Option Nat}(h:Below B w W)(hB:B≤w.heap.size)(hg:W.grownBy W' r)(hr:∀ k,r=some k→B≤k):Below B w W' :=
 ⟨hg.os.trans h.os,hg.tape.trans h.tape,hg.output.trans h.output,Nat.le_trans h.size hg.size,fun k hk=>(hg.block k (by have:=h.size;omega) (fun e=>by have:=hr k e.symm;omega)).trans (h.block k hk)⟩
abbrev qv (q:List Nat):List Value:=q.map fun (y:Nat)=>Value.int .i64 (y:Int)
structure vz (w0:World) (ps:List (Nat × Ch)) (vo vq:Value) (w:World):Prop where
 outs:w.ownsRow w0.heap.size 47 3 vo (out ps).length ((out ps).flatMap tQ)
 qs:w.ownsRow w0.heap.size 3 1 vq (olds ps).length (qv (olds ps))
 low:Below w0.heap.size w0 w
theorem vz.on {w0 w w':World}{ps:List (Nat × Ch)}{vo vq:Value}(h:vz w0 ps vo vq w)(hb:Below w.heap.size w w'):vz w0 ps vo vq w':=⟨Ep h.outs hb,Ep h.qs hb,h.low.trans (hb.mono h.low.size)⟩
theorem vz.form {w0 w:World}{ps:List (Nat × Ch)}{vo vq:Value}(h:vz w0 ps vo vq w):∃ ao co aq cq,vo=.slice ao (out ps).length co∧vq=.slice aq (out ps).length cq:=by
 obtain⟨ao,co,h1,_⟩:=yX h.outs;obtain⟨aq,cq,h2,_⟩:=yX h.qs;exact⟨ao,co,aq,cq,h1,by rw[h2,DT]⟩
theorem vz.none {w0 w:World}{ps:List (Nat × Ch)}{vo vq:Value}(h:vz w0 ps vo vq w)(x n:Nat):vz w0 (ps++[(x,(n,[]))]) vo vq w:=by
 have e1:out (ps++[(x,(n,[]))])=out ps:=by simp[out]
 have e2:Ot.olds (ps++[(x,(n,[]))])=Ot.olds ps:=by simp[Ot.olds,yo]
 exact⟨by rw[e1];exact h.outs,by rw[e2];exact h.qs,h.low⟩
theorem vz.more {w0 w w1 w2 w3:World}{ps:List (Nat × Ch)}{vo vq Tx Ty:Value}{c:Ins}{x n:Nat}(h:vz w0 ps vo vq w)
  (h1:w1.ownsRow w0.heap.size 47 3 Tx ((out ps).length+1) ((out ps).flatMap tQ++tQ c)) (g1:w.grownBy w1 vo.ownBlock) (hb:Below w1.heap.size w1 w2)
  (h2:w3.ownsRow w0.heap.size 3 1 Ty ((olds ps).length+1) (qv (olds ps)++[.int .i64 (x:Int)])) (g2:w2.grownBy w3 vq.ownBlock):vz w0 (ps++[(x,(n,[c]))]) Tx Ty w3:=by
 have e1:out (ps++[(x,(n,[c]))])=out ps++[c]:=by simp[out]
 have e2:Ot.olds (ps++[(x,(n,[c]))])=Ot.olds ps++[x]:=by simp[Ot.olds,yo]
 have hq1:=IP h.qs g1 (fun k hk e=>KE h.outs h.qs (by decide) k e hk);have ho2:=Ep h1 hb;have hq2:=Ep hq1 hb;have b1:=NI h.low (Nat.le_refl _) g1 (fun k hk=>(h.outs.lt k hk).1);have b2:=b1.trans (hb.mono b1.size);refine⟨?_,?_,NI b2 (Nat.le_refl _) g2 (fun k hk=>(h.qs.lt k hk).1)⟩
 ·rw[e1,List.length_append,List.flatMap_append]
  exact IP ho2 g2 (fun k hk=>KE ho2 hq2 (by decide) k hk)
 ·rw[e2,List.length_append]
  unfold qv at h2 ⊢;rw[List.map_append];exact h2
theorem abr (B:Nat)(a:Option Addr)(l:List Ins)(c:Nat)(w:World)(hC:Hid (aV B w l a))(hB:B≤w.heap.size)(hl0:0<l.length)(hl:l.length≤4000)(hG:Hid (Od.Good l))(hj:Hid (yI l)) :
  Calls Tryz.prog 12 #[.slice a l.length c] w fun e w'=>∃ g cap,e=.returned (.tuple #[.slice (some ⟨g,0,none⟩) (over l).length cap,.bool (decide ((over l).length<l.length))])∧(over l).length≤cap∧aV w'.heap.size w' (over l) (some ⟨g,0,none⟩)∧xm w' (some ⟨g,0,none⟩)∧Below w.heap.size w w':=by
 obtain⟨n,hn⟩:∃ n,n=l.length:=⟨_,rfl⟩;have HN:=hide hn;rw[← hn] at hl hl0;rw[← hn];have n1:(n:Int)≤4000:=by omega
 obtain⟨i0,hi,hz0,hz1,hz2⟩:=Em Tryz.SH;obtain⟨i1,hj0,hj1,hj2,Tz⟩:=Em Tryz.Nf;have HS:Hid (vz w [] (.slice none 0 0) (.slice (some ⟨w.heap.size,0,none⟩) 0 0) (w.alloc (.cells #[] 3))):=⟨Gp _ _ _ _,aaL w _ (Nat.le_refl _) 1,fG _ _⟩;clear hn;go_enter Tryz.func12,Tryz.ntmps12
 go_wp2
 go_loopw [4,5,6,7] (fun o q d i wr=>∃ (x:Nat) (ps:List (Nat × Ch)),d=.bool (ps.any (yx l))∧i=.int .i64 x∧Od.At l x ps∧vz w ps o q wr) (fun _ _ _ i _=>n - (intOf i).toNat)
 case atStart=>exact⟨0,[],rfl,rfl,At.start l,HS.out⟩
 case round =>
  obtain⟨x,ps,rfl,rfl,hAt,NJ⟩:=hrel;obtain⟨ao,co,aq,cq,rfl,rfl⟩:=NJ.form;have HAT:=hide hAt;have Ae:=hide NJ;have hxn:x≤n:=by rw[HN.out];exact hAt.le
  clear hAt NJ HS;by_cases hlt:x<n
  ·have x1:(x:Int)<(n:Int):=by omega
   have hxl:x<l.length:=by rw[← HN.out];exact hlt
   have G9:Hid (aV B wr l a):=hC.out.low (fun q hq=>Ae.out.low.block q (by omega));obtain⟨b,off,ha,hb,c0,c1,c2⟩:=Ha G9.out hxl;subst ha;have IQ:=WQ B (some ⟨b,off,none⟩) l c x wr G9 (by have:=Ae.out.low.size;omega) (by rw[← HN.out];exact hl) hxl hG;rw[← PM hxl] at IQ;have HW:=hide (PK l x);have NK:Hid (∀ z,yx l (x,z)=decide ((DV l x).1≠0)):=fun z=>rfl;obtain⟨r,hr⟩:∃ r,r=DV l x:=⟨_,rfl⟩;rw[← hr] at IQ HW NK;rw[← HN.out] at IQ;have Ib:=hide IQ;have Ej:=hide hxl;clear IQ hr hxl;go_wp2_with fail
   refine Ib.out.mono ?_;rintro e w2 ⟨v,m,cc,rfl,hp,hb2⟩;have HP:=hide hp;have NL:=hide (Ae.out.on hb2);have HB2:=hide hb2;clear hp hb2 Ib;obtain⟨rn,rl⟩:=r;by_cases h0:rn=0
   ·subst h0
    have IU:Hid (change l x=(1,[ia l x])):=HW.out;have KF:Hid ((ps++[(x,change l x)]).any (yx l)=ps.any (yx l)):=by unfold Hid;simp[NK.out]
    have IV:Hid (Od.At l (x+1) (ps++[(x,change l x)])):=by
     have:=HAT.out.next Ej.out;rw[show (change l x).1=1 by rw[IU.out]] at this;exact this
    clear HW;have HW:=IU;obtain⟨_,_,ha,_,d0,d1,d2⟩:=Ha (G9.out.low (fun q hq=>HB2.out.block q (by have:=Ae.out.low.size;omega)):aV B w2 l (some ⟨b,off,none⟩)) Ej.out;cases ha;obtain⟨d,hd⟩:∃ d,d=ia l x:=⟨_,rfl⟩;rw[← hd] at d0 d1 d2 HW;obtain⟨W3,hW3⟩:∃ W3,W3=w2.alloc (fF d):=⟨_,rfl⟩;have HW3:=hide hW3.symm;have yU:Hid (vz w ps (.slice ao (out ps).length co) (.slice aq (out ps).length cq) W3):=by rw[hW3];exact NL.out.on (fG _ _)
    obtain⟨qb,zg⟩:∃ qb,qb=w2.heap.size:=⟨_,rfl⟩;have HQ:Hid (W3.heap[qb]?=some (fF d)):=by rw[hW3,zg];exact heap_alloc_new _ _
    have TA:=hide zg.symm;clear hW3 hd zg HP;go_upto_region 10 with fail
    rw[HW3.out,TA.out];clear HW3 d0 d1 d2 TA;go_wp2
    go_loopw [4,5,34] (fun o q i wr2=>(i=.int .i64 0∧o=.slice ao (out ps).length co∧q=.slice aq (out ps).length cq∧wr2=W3)∨(i=.int .i64 1∧vz w (ps++[(x,change l x)]) o q wr2)) (fun _ _ i _=>1 - (intOf i).toNat)
    case atStart=>exact .inl ⟨rfl,rfl,rfl,rfl⟩
    case round =>
     rcases hrel with⟨rfl,rfl,rfl,rfl⟩ | ⟨rfl,IW⟩
     ·have zg:=HQ.out
      have q0:wr.cell? ⟨qb,0,none⟩=some (.int .i64 d.op):=by simp[World.cell?,zg]
      have q1:wr.cell? ⟨qb,1,none⟩=some (.int .i64 d.a):=by simp[World.cell?,zg]
      have q2:wr.cell? ⟨qb,2,none⟩=some (.int .i64 d.n):=by simp[World.cell?,zg]
      obtain⟨W4,rP⟩:∃ W4,W4=wr.alloc (fF d):=⟨_,rfl⟩;have NM:Hid (vz w ps (.slice ao (out ps).length co) (.slice aq (out ps).length cq) W4):=by rw[rP];exact yU.out.on (fG _ _)
      have h4:W4.heap[wr.heap.size]?=some (fF d):=by rw[rP];exact heap_alloc_new _ _
      have xC:=hide rP.symm;clear rP zg;go_upto_region 13 with fail
      rw[xC.out];have t0:W4.cell? ⟨wr.heap.size,0,none⟩=some (.int .i64 d.op):=by simp[World.cell?,h4]
      have t1:W4.cell? ⟨wr.heap.size,1,none⟩=some (.int .i64 d.a):=by simp[World.cell?,h4]
      have t2:W4.cell? ⟨wr.heap.size,2,none⟩=some (.int .i64 d.n):=by simp[World.cell?,h4]
      have zh:Hid (vz w ps (.slice ao (out ps).length co) (.slice aq (out ps).length cq) (W4.alloc (fF d))):=NM.out.on (fG _ _);clear xC q0 q1 q2 h4;have hln:(out ps).length≤4000:=by have:=HAT.out.few;have:=HN.out;omega
      have vL:Hid (w.heap.size≤(W4.alloc (fF d)).heap.size):=zh.out.low.size;go_upto_region 14 with (at_builtin;refine wpList_append_own _ rfl _ _ 38 rfl w.heap.size 47 i0 _ 3 24 Tryz.underlying38 hi hz0 hz1 hz2 rfl (by decide) _ (out ps).length ((out ps).flatMap tQ) rfl zh.out.outs ⟨W4.heap.size,0,none⟩ 1 1 (tQ d) rfl rfl (KA W4 (tQ d) _) (KD rfl) (by unfold maxLen;omega) (by omega) vL.out ?_;intro v' w6 hown hgr _)
      clear t0 t1 t2;obtain⟨a6,c6,hv6,_⟩:=yX hown;subst hv6;have Et:Hid (w6.ownsRow w.heap.size 3 1 (.slice aq (out ps).length cq) (olds ps).length (qv (olds ps))):=IP zh.out.qs hgr (fun k hk e=>KE zh.out.outs zh.out.qs (by decide) k e hk);have HOWN:=hide hown;have wS:=hide hgr;have yQ:Hid (w.heap.size≤(w6.alloc (.cells #[.int .i64 (x:Int)] 3)).heap.size):=Nat.le_trans vL.out (Nat.le_trans hgr.size (by simp));clear hown hgr;go_wp2_with (at_builtin;refine wpList_append_own _ rfl _ _ 37 rfl w.heap.size 3 i1 _ 1 8 Tryz.underlying37 hj0 hj1 hj2 Tz rfl (by decide) _ (olds ps).length (qv (olds ps)) rfl (Ep Et.out (fG _ _)) ⟨w6.heap.size,0,none⟩ 1 1 [.int .i64 (x:Int)] rfl rfl (KA w6 [.int .i64 (x:Int)] _) (KD rfl) (by rw[DT];unfold maxLen;omega) (by rw[DT];omega) yQ.out ?_;intro v' w8 hown2 IX _)
      have HM:Hid (vz w (ps++[(x,change l x)]) (.slice a6 ((out ps).length+1) c6) v' w8):=by
       rw[HW.out];exact zh.out.more HOWN.out wS.out (fG _ _) hown2 IX
      clear hown2 IX;go_roundw
      case rel=>exact .inr ⟨by go_num,HM.out⟩
      case measure=>simp[intOf]
     ·have NN:=hide IW
      clear IW;go_wp2
      go_roundw
      case rel=>exact⟨x+1,ps++[(x,change l x)],by rw[KF.out],by go_num,IV.out,NN.out⟩
      case measure=>simp[intOf];omega
   ·have hr0:((rn:Int)==0)=false:=by simp;omega
    have IU:Hid (change l x=(rn,rl)):=by unfold Hid;rw[HW.out,if_neg h0]
    have KF:Hid ((ps++[(x,change l x)]).any (yx l)=true):=by unfold Hid;simp[NK.out,h0]
    have IV:Hid (Od.At l (x+rn) (ps++[(x,change l x)])):=by
     have:=HAT.out.next Ej.out;rw[show (change l x).1=rn by rw[IU.out]] at this;exact this
    have hrn:(x:Int)+(rn:Int)≤4000:=by have:=IV.out.le;have:=HN.out;omega
    have hrp:0<rn:=by omega
    clear HW;have HW:=IU;clear h0;rcases HP.out with⟨hp1,hp2⟩ | ⟨d,qb,hp1,hp2,hp3,G6⟩
    ·cases hp2
     obtain rfl:rl=[]:=hp1;go_wp2
     go_loopw [4,5,34] (fun o q i wr2=>i=.int .i64 0∧o=.slice ao (out ps).length co∧q=.slice aq (out ps).length cq∧wr2=w2) (fun _ _ _ _=>0)
     case atStart=>exact⟨rfl,rfl,rfl,rfl⟩
     case round =>
      obtain⟨rfl,rfl,rfl,rfl⟩:=hrel;go_wp2
      go_roundw
      case rel=>exact⟨x+rn,ps++[(x,change l x)],by rw[KF.out],by go_num,IV.out,by rw[HW.out];exact NL.out.none x rn⟩
      case measure=>simp[intOf];omega
    ·cases hp2
     obtain rfl:rl=[d]:=hp1;have HQ:=hide G6;have yU:=NL;obtain⟨W3,hW3⟩:∃ W3,W3=w2:=⟨_,rfl⟩;rw[← hW3] at HQ yU ⊢;clear hp3 G6 hW3;go_wp2
     go_loopw [4,5,34] (fun o q i wr2=>(i=.int .i64 0∧o=.slice ao (out ps).length co∧q=.slice aq (out ps).length cq∧wr2=W3)∨(i=.int .i64 1∧vz w (ps++[(x,change l x)]) o q wr2)) (fun _ _ i _=>1 - (intOf i).toNat)
     case atStart=>exact .inl ⟨rfl,rfl,rfl,rfl⟩
     case round =>
      rcases hrel with⟨rfl,rfl,rfl,rfl⟩ | ⟨rfl,IW⟩
      ·have zg:=HQ.out
       have q0:wr.cell? ⟨qb,0,none⟩=some (.int .i64 d.op):=by simp[World.cell?,zg]
       have q1:wr.cell? ⟨qb,1,none⟩=some (.int .i64 d.a):=by simp[World.cell?,zg]
       have q2:wr.cell? ⟨qb,2,none⟩=some (.int .i64 d.n):=by simp[World.cell?,zg]
       obtain⟨W4,rP⟩:∃ W4,W4=wr.alloc (fF d):=⟨_,rfl⟩;have NM:Hid (vz w ps (.slice ao (out ps).length co) (.slice aq (out ps).length cq) W4):=by rw[rP];exact yU.out.on (fG _ _)
       have h4:W4.heap[wr.heap.size]?=some (fF d):=by rw[rP];exact heap_alloc_new _ _
       have xC:=hide rP.symm;clear rP zg;go_upto_region 13 with fail
       rw[xC.out];have t0:W4.cell? ⟨wr.heap.size,0,none⟩=some (.int .i64 d.op):=by simp[World.cell?,h4]
       have t1:W4.cell? ⟨wr.heap.size,1,none⟩=some (.int .i64 d.a):=by simp[World.cell?,h4]
       have t2:W4.cell? ⟨wr.heap.size,2,none⟩=some (.int .i64 d.n):=by simp[World.cell?,h4]
       have zh:Hid (vz w ps (.slice ao (out ps).length co) (.slice aq (out ps).length cq) (W4.alloc (fF d))):=NM.out.on (fG _ _);clear xC q0 q1 q2 h4;have hln:(out ps).length≤4000:=by have:=HAT.out.few;have:=HN.out;omega
       have vL:Hid (w.heap.size≤(W4.alloc (fF d)).heap.size):=zh.out.low.size;go_upto_region 14 with (at_builtin;refine wpList_append_own _ rfl _ _ 38 rfl w.heap.size 47 i0 _ 3 24 Tryz.underlying38 hi hz0 hz1 hz2 rfl (by decide) _ (out ps).length ((out ps).flatMap tQ) rfl zh.out.outs ⟨W4.heap.size,0,none⟩ 1 1 (tQ d) rfl rfl (KA W4 (tQ d) _) (KD rfl) (by unfold maxLen;omega) (by omega) vL.out ?_;intro v' w6 hown hgr _)
       clear t0 t1 t2;obtain⟨a6,c6,hv6,_⟩:=yX hown;subst hv6;have Et:Hid (w6.ownsRow w.heap.size 3 1 (.slice aq (out ps).length cq) (olds ps).length (qv (olds ps))):=IP zh.out.qs hgr (fun k hk e=>KE zh.out.outs zh.out.qs (by decide) k e hk);have HOWN:=hide hown;have wS:=hide hgr;have yQ:Hid (w.heap.size≤(w6.alloc (.cells #[.int .i64 (x:Int)] 3)).heap.size):=Nat.le_trans vL.out (Nat.le_trans hgr.size (by simp));clear hown hgr;go_wp2_with (at_builtin;refine wpList_append_own _ rfl _ _ 37 rfl w.heap.size 3 i1 _ 1 8 Tryz.underlying37 hj0 hj1 hj2 Tz rfl (by decide) _ (olds ps).length (qv (olds ps)) rfl (Ep Et.out (fG _ _)) ⟨w6.heap.size,0,none⟩ 1 1 [.int .i64 (x:Int)] rfl rfl (KA w6 [.int .i64 (x:Int)] _) (KD rfl) (by rw[DT];unfold maxLen;omega) (by rw[DT];omega) yQ.out ?_;intro v' w8 hown2 IX _)
       have HM:Hid (vz w (ps++[(x,change l x)]) (.slice a6 ((out ps).length+1) c6) v' w8):=by
        rw[HW.out];exact zh.out.more HOWN.out wS.out (fG _ _) hown2 IX
       clear hown2 IX;go_roundw
       case rel=>exact .inr ⟨by go_num,HM.out⟩
       case measure=>simp[intOf]
      ·have NN:=hide IW
       clear IW;go_wp2
       go_roundw
       case rel=>exact⟨x+rn,ps++[(x,change l x)],by rw[KF.out],by go_num,IV.out,NN.out⟩
       case measure=>simp[intOf];omega
  ·obtain rfl:x=n:=by omega
   have hps:all l=ps:=by
    have:=HAT.out;rw[HN.out] at this;exact this.fin
   subst hps;have HDE:Hid ((all l).any (yx l)=decide ((over l).length<x)):=by unfold Hid;rw[ZN,← HN.out]
   have hpos:0<(out (all l)).length:=by rw[← DU];exact GU (by rw[← HN.out];exact hl0)
   have J5:=HAT.out.few;rw[← HN.out] at J5;obtain⟨_,_,e1,hco,hr1⟩:=yX Ae.out.outs;cases e1;obtain⟨go,cu,rfl,hgo,IY,htk,hcl,_⟩:=hr1 hpos;obtain⟨_,_,e2,hcq,hr2⟩:=yX Ae.out.qs;rw[DT] at e2 hr2;cases e2;obtain⟨gq,cv,rfl,hgq,hcv,TB,_,_⟩:=hr2 hpos;have hneq:gq≠go:=fun e=>by rw[e,IY] at hcv;simp at hcv
   have TC:Hid (aV wr.heap.size wr (out (all l)) (some ⟨go,0,Option.none⟩)):=SL IY htk (fun d hd=>by
    obtain⟨p,hp,hd⟩:=List.mem_flatMap.1 hd;obtain⟨_,h1,h2⟩:=Aq _ _ _ _ hp;rw[h2] at hd;exact Sb (MV hC.out) h1 hd)
   have xg:Hid (jk wr go 47 (co * 3)):=⟨cu.toArray,IY,by simpa using hcl⟩;have HQS:Hid (∀ (j y:Nat),(olds (all l))[j]?=some y→wr.cell? ⟨gq,j,Option.none⟩=some (.int .i64 (y:Int))):=fun j y h=>by
    have h1:(cv.take ((out (all l)).length * 1))[j]?=some (.int .i64 (y:Int)):=by rw[TB];simp[h]
    have hj:=(List.getElem?_eq_some_iff.1 h).1;rw[DT] at hj;rw[List.getElem?_take,if_pos (by omega)] at h1;simp[World.cell?,hcv,h1]
   have HJO:Hid (∀ d ∈ out (all l),jmp d=true→0≤d.a∧lead (olds (all l)) d.a=now (all l) d.a.toNat∧now (all l) d.a.toNat≤4000):=fun d hd hjd=>by
    obtain⟨h1,h2⟩:=MO hj.out hd hjd;refine⟨h1,?_,by have:=Jt h2;omega⟩;rw[← ZP,show ((d.a.toNat:Nat):Int)=d.a by omega]
   obtain⟨N,hN⟩:∃ N,N=(out (all l)).length:=⟨_,rfl⟩;have Gt:=hide hN;rw[← hN] at J5 hpos hco ⊢;have xy:Hid (w.heap.size≤go∧go<wr.heap.size):=⟨hgo,lt_of_block IY⟩;have TD:Hid (gq<wr.heap.size):=lt_of_block hcv;have xJ:=hide Ae.out.low;have N1:(N:Int)≤4000:=by omega
   clear hN IY htk hcl hr1 hcv TB hr2 Ae HAT hlt hgo hgq;obtain⟨Z,hZ⟩:∃ Z,Z=wr.heap.size:=⟨_,rfl⟩;rw[← hZ] at xy TD TC;have HZ:=hide hZ;clear hZ;have TE:Hid (∀ wz,wr.grownBy wz (some go)→∀ (j y:Nat),(olds (all l))[j]?=some y→wz.cell? ⟨gq,j,Option.none⟩=some (.int .i64 (y:Int))):=fun wz h j y hy=>(gZ (h.block gq (by rw[← HZ.out];exact TD.out) (fun e=>hneq (by cases e;rfl))) _).trans (HQS.out j y hy);have xh:Hid ((olds (all l)).length=N):=by unfold Hid;rw[DT,Gt.out]
   go_wp2
   go_loopw [52] (fun i wz=>∃ k:Nat,k≤N∧i=.int .i64 k∧aV Z wz (half (all l) (out (all l)) k) (some ⟨go,0,Option.none⟩)∧jk wz go 47 (co * 3)∧wr.grownBy wz (some go)) (fun i _=>N - (intOf i).toNat)
   case atStart=>exact⟨0,Nat.zero_le _,rfl,by rw[R8];exact TC.out,xg.out,World.grownBy.refl _ _⟩
   case round =>
    obtain⟨k,hk,rfl,Ih,hbk,Cc⟩:=hrel;have yT:=hide Ih;have xg:=hide hbk;have zF:=hide Cc;have HZW:Hid (Z≤wr.heap.size):=by unfold Hid;rw[HZ.out];exact Cc.size
    clear Ih hbk Cc;by_cases hlt:k<N
    ·obtain⟨d,hd⟩:∃ d,(out (all l))[k]?=some d:=⟨_,List.getElem?_eq_getElem (by rw[← Gt.out];exact hlt)⟩
     obtain⟨hh,Ii⟩:=R7 (ps:=all l) hd;obtain⟨_,x0,x1,x2⟩:=Ar yT.out hh;rw[Nat.zero_add] at x0 x1 x2;have Ei:=hide Ii;have HH:=hide hh;have Ki:=hide hd;have k0:(0:Int)≤(k:Int):=by omega
     have k1:(k:Int)<(N:Int):=by omega
     clear hd hh Ii;cases hjd:jmp d with
     | false =>
      have HE:Hid (half (all l) (out (all l)) (k+1)=half (all l) (out (all l)) k):=by
       unfold Hid;rw[Ei.out,show moved (all l) d=d by unfold moved;rw[if_neg (by rw[hjd];decide)],set_self HH.out]
      have e21:(d.op==21)=false:=by simp[jmp] at hjd;simp[hjd.1]
      have e22:(d.op==22)=false:=by simp[jmp] at hjd;simp[hjd.2]
      clear hjd;go_wp2
      go_roundw
      case rel=>exact⟨k+1,by omega,by go_num,by rw[HE.out];exact yT.out,xg.out,zF.out⟩
      case measure=>simp[intOf];omega
     | true =>
      obtain⟨ja,jl,j4⟩:=HJO.out d (List.mem_of_getElem? Ki.out) hjd;have HJ:=hide (show lead (olds (all l)) d.a=now (all l) d.a.toNat∧now (all l) d.a.toNat≤4000 from⟨jl,j4⟩);have Gm:Hid (moved (all l) d={ d with a:=(now (all l) d.a.toNat:Nat) }):=by unfold Hid moved;rw[if_pos hjd]
      clear ja jl j4;by_cases h21:d.op=21
      ·have e21:(d.op==21)=true:=by simp[h21]
       clear h21 hjd;go_wp2
       go_loopw [13] (fun i wz=>∃ j:Nat,j≤N∧i=.int .i64 j∧(∀ (i y:Nat),i<j→(olds (all l))[i]?=some y→(y:Int)<d.a)∧Below wr.heap.size wr wz) (fun i _=>N - (intOf i).toNat)
       case atStart=>exact⟨0,Nat.zero_le _,rfl,fun i y h=>(by omega),Below.refl _ _⟩
       case round =>
        obtain⟨j,hj2,rfl,hlead,hB4⟩:=hrel;have z8:=hide hlead;have HB:=hide hB4;have hbz:=HB.out.block go xg.out.lt;have x1':=(gZ hbz (k * 3+1)).trans x1;have tN:Hid (_):=Ic zF.out (Fv HB.out (some go));have uF:=hide (xg.out.keep hbz);have Eu:=hide (xG yT.out hbz);have hk3:k * 3+1<co * 3:=by omega
        have j0:(j:Int)≤4000:=by omega
        clear hlead hB4 hbz;by_cases hjl:j<N
        ·have j1:(j:Int)<(N:Int):=by omega
         obtain⟨y,hy⟩:∃ y,(olds (all l))[j]?=some y:=⟨_,List.getElem?_eq_getElem (by rw[xh.out];exact hjl)⟩;have yq:=TE.out _ tN.out j y hy;have HY:=hide hy;clear hy;by_cases hya:(y:Int)<d.a
         ·have HL2:Hid (∀ (i z:Nat),i<j+1→(olds (all l))[i]?=some z→(z:Int)<d.a):=fun i z h hz=>by
           by_cases e:i=j
           ·subst e
            rw[HY.out] at hz;cases hz;exact hya
           ·exact z8.out i z (by omega) hz
          go_upto_region 22 with fail
          go_quiet (fail)
          go_wp2
          go_roundw
          case rel=>exact⟨j+1,by omega,by go_num,HL2.out,zU HB.out _⟩
          case measure=>simp[intOf];omega
         ·have uy:=hide (Ka z8.out (by rw[xh.out];omega) (fun z hz=>by rw[HY.out] at hz;cases hz;exact hya))
          have hjn:j=now (all l) d.a.toNat:=by rw[← HJ.out.1];exact (uy.out).symm
          have HE:Hid (∀ nq,aV Z ((wr.drewN nq).setCell ⟨go,k * 3+1,Option.none⟩ (.int .i64 (j:Nat))) (half (all l) (out (all l)) (k+1)) (some ⟨go,0,Option.none⟩)):=fun nq=>by
           rw[Ei.out,Gm.out,← hjn];exact Ig (xG Eu.out rfl) HH.out ⟨by omega,by omega⟩
          have HF:Hid (∀ nq,jk ((wr.drewN nq).setCell ⟨go,k * 3+1,Option.none⟩ (.int .i64 (j:Nat))) go 47 (co * 3)):=fun nq=>jk.set (jk.keep uF.out rfl) _ _;have Cf:=hide (show ∀ nq,World.grownBy _ ((wr.drewN nq).setCell ⟨go,k * 3+1,Option.none⟩ (.int .i64 (j:Nat))) (some go) from fun nq=>yz (w':=wr.drewN nq) ⟨tN.out.os,tN.out.tape,tN.out.output,tN.out.size,tN.out.block⟩ ⟨go,k * 3+1,Option.none⟩ rfl (.int .i64 (j:Nat)));obtain⟨y0,hy0⟩:=Option.isSome_iff_exists.1 (uF.out.cell (i:=k * 3+1) (by omega)).1;have hz0':=(uF.out.cell (i:=k * 3+1) (by omega)).2;clear hjn;go_upto_region 22 with fail
          go_quiet (fail)
          go_wp2
          go_roundw
          case rel=>exact⟨k+1,by omega,by go_num,HE.out _,HF.out _,Cf.out _⟩
          case measure=>simp[intOf];omega
        ·obtain rfl:j=N:=by omega
         have uy:=hide (Ka z8.out (by rw[xh.out];exact Nat.le_refl _) (fun z hz=>by rw[List.getElem?_eq_none (by rw[xh.out];exact Nat.le_refl _)] at hz;cases hz));have hjn:j=now (all l) d.a.toNat:=by rw[← HJ.out.1];exact (uy.out).symm
         have HE:Hid (∀ nq,aV Z ((wr.drewN nq).setCell ⟨go,k * 3+1,Option.none⟩ (.int .i64 (j:Nat))) (half (all l) (out (all l)) (k+1)) (some ⟨go,0,Option.none⟩)):=fun nq=>by
          rw[Ei.out,Gm.out,← hjn];exact Ig (xG Eu.out rfl) HH.out ⟨by omega,by omega⟩
         have HF:Hid (∀ nq,jk ((wr.drewN nq).setCell ⟨go,k * 3+1,Option.none⟩ (.int .i64 (j:Nat))) go 47 (co * 3)):=fun nq=>jk.set (jk.keep uF.out rfl) _ _;have Cf:=hide (show ∀ nq,World.grownBy _ ((wr.drewN nq).setCell ⟨go,k * 3+1,Option.none⟩ (.int .i64 (j:Nat))) (some go) from fun nq=>yz (w':=wr.drewN nq) ⟨tN.out.os,tN.out.tape,tN.out.output,tN.out.size,tN.out.block⟩ ⟨go,k * 3+1,Option.none⟩ rfl (.int .i64 (j:Nat)));obtain⟨y0,hy0⟩:=Option.isSome_iff_exists.1 (uF.out.cell (i:=k * 3+1) (by omega)).1;have hz0':=(uF.out.cell (i:=k * 3+1) (by omega)).2;clear hjn;go_upto_region 22 with fail
         go_quiet (fail)
         go_wp2
         go_roundw
         case rel=>exact⟨k+1,by omega,by go_num,HE.out _,HF.out _,Cf.out _⟩
         case measure=>simp[intOf];omega
      ·have e21:(d.op==21)=false:=by simpa using h21
       have e22:(d.op==22)=true:=by simp[jmp,e21] at hjd;simp[hjd]
       clear h21 hjd;go_wp2
       go_loopw [13] (fun i wz=>∃ j:Nat,j≤N∧i=.int .i64 j∧(∀ (i y:Nat),i<j→(olds (all l))[i]?=some y→(y:Int)<d.a)∧Below wr.heap.size wr wz) (fun i _=>N - (intOf i).toNat)
       case atStart=>exact⟨0,Nat.zero_le _,rfl,fun i y h=>(by omega),Below.refl _ _⟩
       case round =>
        obtain⟨j,hj2,rfl,hlead,hB4⟩:=hrel;have z8:=hide hlead;have HB:=hide hB4;have hbz:=HB.out.block go xg.out.lt;have x1':=(gZ hbz (k * 3+1)).trans x1;have tN:Hid (_):=Ic zF.out (Fv HB.out (some go));have uF:=hide (xg.out.keep hbz);have Eu:=hide (xG yT.out hbz);have hk3:k * 3+1<co * 3:=by omega
        have j0:(j:Int)≤4000:=by omega
        clear hlead hB4 hbz;by_cases hjl:j<N
        ·have j1:(j:Int)<(N:Int):=by omega
         obtain⟨y,hy⟩:∃ y,(olds (all l))[j]?=some y:=⟨_,List.getElem?_eq_getElem (by rw[xh.out];exact hjl)⟩;have yq:=TE.out _ tN.out j y hy;have HY:=hide hy;clear hy;by_cases hya:(y:Int)<d.a
         ·have HL2:Hid (∀ (i z:Nat),i<j+1→(olds (all l))[i]?=some z→(z:Int)<d.a):=fun i z h hz=>by
           by_cases e:i=j
           ·subst e
            rw[HY.out] at hz;cases hz;exact hya
           ·exact z8.out i z (by omega) hz
          go_upto_region 22 with fail
          go_quiet (fail)
          go_wp2
          go_roundw
          case rel=>exact⟨j+1,by omega,by go_num,HL2.out,zU HB.out _⟩
          case measure=>simp[intOf];omega
         ·have uy:=hide (Ka z8.out (by rw[xh.out];omega) (fun z hz=>by rw[HY.out] at hz;cases hz;exact hya))
          have hjn:j=now (all l) d.a.toNat:=by rw[← HJ.out.1];exact (uy.out).symm
          have HE:Hid (∀ nq,aV Z ((wr.drewN nq).setCell ⟨go,k * 3+1,Option.none⟩ (.int .i64 (j:Nat))) (half (all l) (out (all l)) (k+1)) (some ⟨go,0,Option.none⟩)):=fun nq=>by
           rw[Ei.out,Gm.out,← hjn];exact Ig (xG Eu.out rfl) HH.out ⟨by omega,by omega⟩
          have HF:Hid (∀ nq,jk ((wr.drewN nq).setCell ⟨go,k * 3+1,Option.none⟩ (.int .i64 (j:Nat))) go 47 (co * 3)):=fun nq=>jk.set (jk.keep uF.out rfl) _ _;have Cf:=hide (show ∀ nq,World.grownBy _ ((wr.drewN nq).setCell ⟨go,k * 3+1,Option.none⟩ (.int .i64 (j:Nat))) (some go) from fun nq=>yz (w':=wr.drewN nq) ⟨tN.out.os,tN.out.tape,tN.out.output,tN.out.size,tN.out.block⟩ ⟨go,k * 3+1,Option.none⟩ rfl (.int .i64 (j:Nat)));obtain⟨y0,hy0⟩:=Option.isSome_iff_exists.1 (uF.out.cell (i:=k * 3+1) (by omega)).1;have hz0':=(uF.out.cell (i:=k * 3+1) (by omega)).2;clear hjn;go_upto_region 22 with fail
          go_quiet (fail)
          go_wp2
          go_roundw
          case rel=>exact⟨k+1,by omega,by go_num,HE.out _,HF.out _,Cf.out _⟩
          case measure=>simp[intOf];omega
        ·obtain rfl:j=N:=by omega
         have uy:=hide (Ka z8.out (by rw[xh.out];exact Nat.le_refl _) (fun z hz=>by rw[List.getElem?_eq_none (by rw[xh.out];exact Nat.le_refl _)] at hz;cases hz));have hjn:j=now (all l) d.a.toNat:=by rw[← HJ.out.1];exact (uy.out).symm
         have HE:Hid (∀ nq,aV Z ((wr.drewN nq).setCell ⟨go,k * 3+1,Option.none⟩ (.int .i64 (j:Nat))) (half (all l) (out (all l)) (k+1)) (some ⟨go,0,Option.none⟩)):=fun nq=>by
          rw[Ei.out,Gm.out,← hjn];exact Ig (xG Eu.out rfl) HH.out ⟨by omega,by omega⟩
         have HF:Hid (∀ nq,jk ((wr.drewN nq).setCell ⟨go,k * 3+1,Option.none⟩ (.int .i64 (j:Nat))) go 47 (co * 3)):=fun nq=>jk.set (jk.keep uF.out rfl) _ _;have Cf:=hide (show ∀ nq,World.grownBy _ ((wr.drewN nq).setCell ⟨go,k * 3+1,Option.none⟩ (.int .i64 (j:Nat))) (some go) from fun nq=>yz (w':=wr.drewN nq) ⟨tN.out.os,tN.out.tape,tN.out.output,tN.out.size,tN.out.block⟩ ⟨go,k * 3+1,Option.none⟩ rfl (.int .i64 (j:Nat)));obtain⟨y0,hy0⟩:=Option.isSome_iff_exists.1 (uF.out.cell (i:=k * 3+1) (by omega)).1;have hz0':=(uF.out.cell (i:=k * 3+1) (by omega)).2;clear hjn;go_upto_region 22 with fail
         go_quiet (fail)
         go_wp2
         go_roundw
         case rel=>exact⟨k+1,by omega,by go_num,HE.out _,HF.out _,Cf.out _⟩
         case measure=>simp[intOf];omega
    ·obtain rfl:k=N:=by omega
     have HE:Hid (half (all l) (out (all l)) k=over l):=by unfold Hid;rw[Gt.out,R9];rfl
     have Eg:Hid ((over l).length=k):=by unfold Hid;rw[DU,Gt.out]
     obtain⟨cs,hcs,_⟩:=xg.out;have HRW:Hid (xm wr (some ⟨go,0,Option.none⟩)):=fun ad ha=>by cases ha;exact⟨cs,_,hcs,.inr rfl⟩
     have zu:Hid (Below w.heap.size w wr):=NI xJ.out (Nat.le_refl _) zF.out (fun j e=>by cases e;exact xy.out.1);rw[HDE.out];clear hcs;go_wp2
     exact bodyPost_ret (v:=.tuple #[.slice (some ⟨go,0,Option.none⟩) k co,.bool (decide ((over l).length<x))]) (by simp[results,Tryz.results12,go_sem]) rfl ⟨go,co,by rw[Eg.out],by rw[Eg.out];exact hco,by rw[← HE.out];exact Iq yT.out HZW.out,HRW.out,zu.out⟩
end Go.Proofs.YtbdpdjcdhclbfaaGreat.Ow
namespace Go.Proofs.YtbdpdjcdhclbfaaGreat
namespace Vf
def wT (c:Ins):Bool:=c.op==23 || c.op==29
def mark (k:Nat)(s:List Bool)(c:Ins):List Bool:=if s[k]?=some true∧wT c=true then s.set c.a.toNat true else s
def vB:List Un→Nat→List Bool→List Bool
 | [],_,s=>s
 | u :: us,k,s=>vB us (k+1) (u.code.foldl (mark k) s)
def rounds (us:List Un):Nat→List Bool→List Bool
 | 0,s=>s
 | f+1,s=>rounds us f (vB us 0 s)
def wU (m:Md)(i:Nat):List Bool:=rounds m.units m.units.length ((List.replicate m.units.length false).set i true)
def Cq (m:Md)(i:Nat)(q:Lk):Bool:=(List.range m.units.length).any (fun k=>(wU m i)[k]?==some true && (unit m (k:Int)).code.any (fun c=>c.op==q.1 && c.a==q.2))
structure Le (s s':List Bool):Prop where
 len:s'.length=s.length
 le:∀ j:Nat,s[j]?=some true→s'[j]?=some true
theorem Le.refl (s:List Bool):Le s s:=⟨rfl,fun _ h=>h⟩
theorem Le.trans {a b c:List Bool}(h:Le a b)(k:Le b c):Le a c:=⟨k.len.trans h.len,fun j hj=>k.le j (h.le j hj)⟩
theorem TF (k:Nat)(s:List Bool)(c:Ins):Le s (mark k s c):=by
 unfold mark;split
 ·refine⟨by simp,fun j hj=>?_⟩
  have hjl:=(List.getElem?_eq_some_iff.1 hj).1;rw[List.getElem?_set];split
  ·rename_i e
   rw[if_pos (by omega)]
  ·exact hj
 ·exact .refl s
theorem KG (k:Nat):∀ (cs:List Ins) (s:List Bool),Le s (cs.foldl (mark k) s)
 | [],s=>.refl s
 | c :: cs,s=>(TF k s c).trans (KG k cs (mark k s c))
theorem KH:∀ (us:List Un) (k:Nat) (s:List Bool),Le s (vB us k s)
 | [],_,s=>.refl s
 | u :: us,k,s=>(KG k u.code s).trans (KH us (k+1) _)
theorem NP (us:List Un):∀ (f:Nat) (s:List Bool),Le s (rounds us f s)
 | 0,s=>.refl s
 | f+1,s=>(KH us 0 s).trans (NP us f _)
def Shut (us:List Un)(s:List Bool):Prop:=∀ (k:Nat) (u:Un),us[k]?=some u→s[k]?=some true→∀ c ∈ u.code,wT c=true→c.a.toNat<s.length→s[c.a.toNat]?=some true
theorem Kh {s:List Bool}{j:Nat}(h:j<s.length→s[j]?=some true):s.set j true=s:=by
 refine List.ext_getElem? (fun i=>?_);rw[List.getElem?_set];split
 ·rename_i e
  subst e;by_cases hj:j<s.length
  ·rw[if_pos hj,h hj]
  ·rw[if_neg hj,List.getElem?_eq_none (by omega)]
 ·rfl
theorem TG {k:Nat}:∀ (cs:List Ins) (s:List Bool),(s[k]?=some true→∀ c ∈ cs,wT c=true→c.a.toNat<s.length→s[c.a.toNat]?=some true)→cs.foldl (mark k) s=s
 | [],_,_=>rfl
 | c :: cs,s,h=>by
  have e:mark k s c=s:=by
   unfold mark;split
   ·rename_i hc
    exact Kh (h hc.1 c List.mem_cons_self hc.2)
   ·rfl
  show cs.foldl (mark k) (mark k s c)=s
  rw[e];exact TG cs s (fun hk c hc=>h hk c (List.mem_cons_of_mem _ hc))
theorem TH:∀ (us:List Un) (k:Nat) (s:List Bool),(∀ (j:Nat) (u:Un),us[j]?=some u→s[k+j]?=some true→∀ c ∈ u.code,wT c=true→c.a.toNat<s.length→s[c.a.toNat]?=some true)→vB us k s=s
 | [],_,_,_=>rfl
 | u :: us,k,s,h=>by
  show vB us (k+1) (u.code.foldl (mark k) s)=s
  rw[TG (k:=k) u.code s (fun hk=>h 0 u rfl hk)];exact TH us (k+1) s (fun j v hj hk=>h (j+1) v (by simpa using hj) (by rw[show k+(j+1)=k+1+j by omega];exact hk))
theorem TI {us:List Un}{s:List Bool}(h:Shut us s):vB us 0 s=s:=TH us 0 s (fun j u hj hk=>h j u hj (by simpa using hk))
theorem TJ {k:Nat}:∀ (cs:List Ins) (s:List Bool) (c:Ins),s[k]?=some true→c ∈ cs→wT c=true→c.a.toNat<s.length→(cs.foldl (mark k) s)[c.a.toNat]?=some true
 | x :: cs,s,c,hk,hc,hi,hl=>by
  have hle:=TF k s x;show (cs.foldl (mark k) (mark k s x))[c.a.toNat]?=some true
  rcases List.mem_cons.1 hc with rfl | hc
  ·refine (KG k cs _).le _ ?_
   unfold mark;rw[if_pos ⟨hk,hi⟩,List.getElem?_set_self hl]
  ·exact TJ cs _ c (hle.le k hk) hc hi (by rw[hle.len];exact hl)
theorem TK:∀ (us:List Un) (k:Nat) (s:List Bool) (j:Nat) (u:Un) (c:Ins),us[j]?=some u→s[k+j]?=some true→c ∈ u.code→wT c=true→c.a.toNat<s.length→(vB us k s)[c.a.toNat]?=some true
 | v :: us,k,s,0,u,c,hu,hk,hc,hi,hl=>by
  simp at hu;subst hu;exact (KH us (k+1) _).le _ (TJ v.code s c hk hc hi hl)
 | v :: us,k,s,j+1,u,c,hu,hk,hc,hi,hl=>by
  have hle:=KG k v.code s;exact TK us (k+1) _ j u c (by simpa using hu) (hle.le _ (by rw[show k+1+j=k+(j+1) by omega];exact hk)) hc hi (by rw[hle.len];exact hl)
def xK (s:List Bool):Nat:=s.countP id
theorem abz (s:List Bool):xK s≤s.length:=List.countP_le_length
theorem TL:∀ {s s':List Bool},Le s s'→xK s≤xK s'
 | [],s',h=>by simp[xK]
 | b :: s,[],h=>by have:=h.len;simp at this
 | b :: s,b' :: s',h=>by
  have ht:Le s s':=⟨by have:=h.len;simpa using this,fun j hj=>by have:=h.le (j+1) (by simpa using hj);simpa using this⟩;have ih:=TL ht;have h0:=h.le 0;unfold xK at ih ⊢;cases b<;>cases b'<;>simp at h0 ⊢<;>omega
theorem NQ:∀ {s s':List Bool} {j:Nat},Le s s'→s[j]?=some false→s'[j]?=some true→xK s+1≤xK s'
 | [],s',j,_,h1,_=>by simp at h1
 | b :: s,[],j,h,_,_=>by have:=h.len;simp at this
 | b :: s,b' :: s',0,h,h1,h2=>by
  have ht:Le s s':=⟨by have:=h.len;simpa using this,fun j hj=>by have:=h.le (j+1) (by simpa using hj);simpa using this⟩;have ih:=TL ht;simp at h1 h2;subst h1 h2;unfold xK at ih ⊢;simp;omega
 | b :: s,b' :: s',j+1,h,h1,h2=>by
  have ht:Le s s':=⟨by have:=h.len;simpa using this,fun j hj=>by have:=h.le (j+1) (by simpa using hj);simpa using this⟩;have ih:=NQ ht (j:=j) (by simpa using h1) (by simpa using h2);have h0:=h.le 0;unfold xK at ih ⊢;cases b<;>cases b'<;>simp at h0 ⊢<;>omega
theorem abA (us:List Un)(s:List Bool):Shut us s∨xK s+1≤xK (vB us 0 s):=by
 by_cases h:Shut us s
 ·exact .inl h
 ·right
  unfold Shut at h;simp only[Classical.not_forall] at h;obtain⟨k,u,hu,hk,c,hc,hi,hl,hn⟩:=h;have hf:s[c.a.toNat]?=some false:=by
   rw[List.getElem?_eq_getElem hl] at hn ⊢;cases hv:s[c.a.toNat]
   ·rfl
   ·rw[hv] at hn;exact absurd rfl hn
  exact NQ (KH us 0 s) hf (TK us 0 s k u c hu (by simpa using hk) hc hi hl)
theorem TM (us:List Un):∀ (f:Nat) (s:List Bool),Shut us (rounds us f s)∨xK s+f≤xK (rounds us f s)
 | 0,s=>.inr (Nat.le_refl _)
 | f+1,s=>by
  rcases abA us s with h | h
  ·left
   show Shut us (rounds us f (vB us 0 s))
   rw[TI h];have:∀ g,rounds us g s=s:=by
    intro g;induction g with
    | zero=>rfl
    | succ g ih=>show rounds us g (vB us 0 s)=s;rw[TI h];exact ih
   rw[this];exact h
  ·rcases TM us f (vB us 0 s) with h1 | h1
   ·exact .inl h1
   ·right
    show xK s+(f+1)≤xK (rounds us f (vB us 0 s))
    omega
theorem TN {s:List Bool}{i j:Nat}(h:(s.set i true)[j]?=some true):(j=i∧i<s.length)∨s[j]?=some true:=by
 rw[List.getElem?_set] at h;split at h
 ·rename_i e
  split at h
  ·exact .inl ⟨e.symm,by assumption⟩
  ·cases h
 ·exact .inr h
def Gu (m:Md)(i:Int)(s:List Bool):Prop:=∀ j:Nat,s[j]?=some true→Reach m i (j:Int)
theorem TP {m:Md}{i:Int}{k:Nat}:∀ (cs:List Ins) (s:List Bool),(∀ c ∈ cs,c ∈ (unit m (k:Int)).code∧(wT c=true→0≤c.a))→Gu m i s→Gu m i (cs.foldl (mark k) s)
 | [],_,_,h=>h
 | c :: cs,s,hcs,h=>by
  refine TP cs (mark k s c) (fun c hc=>hcs c (List.mem_cons_of_mem _ hc)) ?_;intro j hj;unfold mark at hj;split at hj
  ·rename_i hc
   rcases TN hj with⟨e,_⟩ | h1
   ·have hcc:=hcs c List.mem_cons_self
    have h0:=hcc.2 hc.2;have ho:c.op=23∨c.op=29:=by have:=hc.2;unfold wT at this;simpa using this
    rw[e,show ((c.a.toNat:Nat):Int)=c.a by omega];exact .step (h k hc.1) hcc.1 ho
   ·exact h j h1
  ·exact h j hj
theorem TQ {m:Md}{i:Int}:∀ (us:List Un) (k:Nat) (s:List Bool),(∀ (j:Nat) u,us[j]?=some u→unit m ((k+j:Nat):Int)=u∧∀ c ∈ u.code,wT c=true→0≤c.a)→Gu m i s→Gu m i (vB us k s)
 | [],_,_,_,h=>h
 | u :: us,k,s,hu,h=>by
  have h0:=hu 0 u rfl;refine TQ us (k+1) _ (fun j v hj=>by rw[show k+1+j=k+(j+1) by omega];exact hu (j+1) v (by simpa using hj)) (TP u.code s (fun c hc=>⟨?_,h0.2 c hc⟩) h);have e:unit m (k:Int)=u:=by simpa using h0.1
  rw[e];exact hc
theorem TR {m:Md}{i:Int}(us:List Un)(hu:∀ (j:Nat) u,us[j]?=some u→unit m (j:Int)=u∧∀ c ∈ u.code,wT c=true→0≤c.a):∀ (f:Nat) (s:List Bool),Gu m i s→Gu m i (rounds us f s)
 | 0,_,h=>h
 | f+1,s,h=>TR us hu f _ (TQ us 0 s (fun j u hj=>by simpa using hu j u hj) h)
theorem NR {m:Md}(hR:Rt m){k:Nat}{u:Un}(hu:m.units[k]?=some u){c:Ins}(hc:c ∈ u.code)(ho:wT c=true):0≤c.a∧c.a.toNat<m.units.length:=by
 have h1:c.op=23∨c.op=29:=by unfold wT at ho;simpa using ho
 obtain⟨kd,_,hi⟩:=Hm ((hR.heads k u hu).2 c hc) h1;obtain⟨x,h3,_,h4⟩:=yh hi;exact⟨h4,(List.getElem?_eq_some_iff.1 h3).1⟩
theorem NS {m:Md}{k:Nat}{u:Un}(hu:m.units[k]?=some u):unit m (k:Int)=u:=by
 unfold unit;rw[show ((k:Nat):Int).toNat=k by omega,hu];rfl
theorem TS {m:Md}(hR:Rt m){i:Nat}(hi:i<m.units.length)(k:Nat):(wU m i)[k]?=some true ↔ k<m.units.length∧Reach m (i:Int) (k:Int):=by
 have hlen:(wU m i).length=m.units.length:=by
  have:=(NP m.units m.units.length ((List.replicate m.units.length false).set i true)).len;unfold wU;rw[this];simp
 constructor
 ·intro h
  refine⟨by rw[← hlen];exact (List.getElem?_eq_some_iff.1 h).1,?_⟩;refine TR m.units (fun j u hj=>⟨NS hj,fun c hc ho=>(NR hR hj hc ho).1⟩) _ _ ?_ k h;intro j hj;rcases TN hj with⟨e,_⟩ | h1
  ·rw[e];exact .here _
  ·rw[List.getElem?_replicate] at h1
   split at h1<;>simp at h1
 ·rintro⟨hk,hr⟩
  have h0:(wU m i)[i]?=some true:=(NP m.units _ _).le i (by rw[List.getElem?_set_self (by simpa using hi)]);have hsh:Shut m.units (wU m i):=by
   rcases TM m.units m.units.length ((List.replicate m.units.length false).set i true) with h | h
   ·exact h
   ·exfalso
    have h1:=abz (wU m i);have h2:1≤xK ((List.replicate m.units.length false).set i true):=by
     have:=NQ (s:=List.replicate m.units.length false) (s':=(List.replicate m.units.length false).set i true) (j:=i) ⟨by simp,fun j hj=>by rw[List.getElem?_replicate] at hj;split at hj<;>simp at hj⟩ (by rw[List.getElem?_replicate,if_pos hi]) (by rw[List.getElem?_set_self (by simpa using hi)]);omega
    rw[hlen] at h1;unfold wU at h1;omega
  have all:∀ k',Reach m (i:Int) k'→∃ k:Nat,k'=k∧(wU m i)[k]?=some true:=by
   intro k' hr;induction hr with
   | here=>exact⟨i,rfl,h0⟩
   | @step k0 c _ h2 h3 ih =>
    obtain⟨k,rfl,hin⟩:=ih;have hkl:k<m.units.length:=by rw[← hlen];exact (List.getElem?_eq_some_iff.1 hin).1
    have hu:=List.getElem?_eq_getElem hkl;rw[NS hu] at h2;have ho:wT c=true:=by unfold wT;simpa using h3
    obtain⟨h5,h6⟩:=NR hR hu h2 ho;exact⟨_,(Int.toNat_of_nonneg h5).symm,hsh k _ hu hin _ h2 ho (by rw[hlen];exact h6)⟩
  obtain⟨k2,e,h⟩:=all _ hr;have:k2=k:=by omega
  rw[← this];exact h
theorem abB {m:Md}(hR:Rt m){i:Nat}(hi:i<m.units.length){q:Lk}(hq:q.1=26∨q.1=27):Cq m i q=comes m i q:=by
 rw[Bool.eq_iff_iff,Ma hR i hq];unfold Cq;simp only[List.any_eq_true,List.mem_range,Bool.and_eq_true,beq_iff_eq];constructor
 ·rintro⟨k,_,h1,c,hc,h2,h3⟩
  exact⟨(k:Int),((TS hR hi k).1 h1).2,c,hc,by rw[h2,h3]⟩
 ·rintro⟨k',hr,c,hc,e⟩
  have hk:∃ k:Nat,k'=k∧k<m.units.length:=by
   cases hr with
   | here=>exact⟨i,rfl,hi⟩
   | @step k c' h1 h2 h3 =>
    have hu:=JL hR k;obtain⟨kd,_,his⟩:=Hm (hu.2 _ h2) h3;obtain⟨x,h4,_,h5⟩:=yh his;exact⟨c'.a.toNat,(Int.toNat_of_nonneg h5).symm,(List.getElem?_eq_some_iff.1 h4).1⟩
  obtain⟨k,rfl,hkl⟩:=hk;exact⟨k,hkl,(TS hR hi k).2 ⟨hkl,hr⟩,c,hc,by rw[← e],by rw[← e]⟩
end Vf
end Go.Proofs.YtbdpdjcdhclbfaaGreat
namespace Go.Proofs.YtbdpdjcdhclbfaaGreat
open Go.RowKit
theorem Tryz.abC:(Tryz.prog.info? 26).map (fun i=>i.size)=some 1:=by kernel_rfl
theorem abD (d:Nat)(x y:Int)(w:World):(Op.equalIn (d+1) 26 (.int .i64 x) (.int .i64 y)).run Tryz.prog w=.ok (x==y) w:=by
 simp[Op.equalIn,run_underlying Tryz.underlying26]
theorem abE (a b c a' b' c':Int)(w:World):(Op.equalIn 10000 28 (gM a b c) (gM a' b' c')).run Tryz.prog w=.ok (a==a' && b==b' && c==c') w:=by
 have hu:=run_underlying (P:=Tryz.prog) (w:=w) Tryz.underlying28;obtain⟨j,hj,hj2⟩:=Option.map_eq_some_iff.1 Tryz.LQ;obtain⟨j',hj',abF⟩:=Option.map_eq_some_iff.1 Tryz.abC;have p0:∀ (a b c:Value) (w:World),(part 26 #[a,b,c] 0).run Tryz.prog w=.ok a w:=fun _ _ _ _=>by simp[part,sizeOf,typeInfo,hj',abF]
 have p1:∀ (a b c:Value) (w:World),(part 3 #[a,b,c] 1).run Tryz.prog w=.ok b w:=fun _ _ _ _=>by simp[part,sizeOf,typeInfo,hj,hj2]
 have p2:∀ (a b c:Value) (w:World),(part 3 #[a,b,c] 2).run Tryz.prog w=.ok c w:=fun _ _ _ _=>by simp[part,sizeOf,typeInfo,hj,hj2]
 have hst:Tryz.prog.stoodInHeld 28=false:=by kernel_rfl
 have hp:(Sem.program Sem.pure).run Tryz.prog w=.ok Tryz.prog w:=rfl;have h:∀ d:Nat,(Op.equalIn (d+2) 28 (gM a b c) (gM a' b' c')).run Tryz.prog w=.ok (a==a' && b==b' && c==c') w:=fun d=>by
  rw[Op.equalIn];simp[hu,program,hp,hst,p0,p1,p2,eq_int,abD];by_cases ha:a=a'
  ·by_cases hb:b=b'
   ·by_cases hc:c=c'
    ·simp[ha,hb,hc]
    ·simp[ha,hb,hc]
   ·simp[ha,hb]
  ·simp[ha]
 exact h 9998
end Go.Proofs.YtbdpdjcdhclbfaaGreat
