/- The walk of GraphCircle: WITHOUT A CIRCLE NOBODY WAITS TO SEND for one that waits to receive from it. -/
import Derived.Test.YtfcpglhpolpdcaaGreatDoorM35
import Derived.Test.YtfcpglhpolpdcaaGreatDoorM36
import Derived.Test.YtfcpglhpolpdcaaGreatDoorM48
import Derived.Test.YtfcpglhpolpdcaaGreatDoorRows
import Derived.Test.YtfcpglhpolpdcaaGreatDoorM44
import Derived.ChangeArms
import Derived.DataReads
import Derived.Lib.LaidTab
import Derived.LaidSub
import Derived.OpenShut
import Derived.MakeChecks
import Derived.SizedLaws
import Derived.LaidLaws
import Derived.Test.YtfcpglhpolpdcaaGreatDoorM1
set_option maxRecDepth 100000
set_option maxHeartbeats 4000000
namespace Go.Proofs.YtfcpglhpolpdcaaGreatDoor.Vw
open Go.RowKit Vf Vm
theorem afX {m:Md}{R:Wd}(h:Jh m R)(hv:verify m=(0,0,0)){o p:Nat}{t u:Tk}(ht:R.ts[o]?=some t)(hu:R.ts[p]?=some u):¬ ((stat aA m t R.x).1=2∧(stat aA m u R.x).1=3∧(stat aA m t R.x).2=(stat aA m u R.x).2):=by
 rintro⟨h1,h2,h3⟩;rcases h.Rf o t ht with⟨e,_⟩ | ⟨e,_⟩ | ⟨b,q,bx,e,hq,hb,hc⟩ | ⟨b,q,bx,e,hq,hb,hc⟩<;>rw[e] at h1 h3<;>simp at h1;rcases h.Rf p u hu with⟨e',_⟩ | ⟨e',_⟩ | ⟨b',q',bx',e',hq',hb',hc'⟩ | ⟨b',q',bx',e',hq',hb',hc'⟩<;>rw[e'] at h2 h3<;>simp at h2;simp only at h3;subst h3;rw[hq] at hq';cases hq';have:=Jb hv hb;omega
theorem afY {w:World}{b:Nat}{v0 v1 v2 v3:Value}{t:TypeId}(h:w.heap[b]?=some (.cells #[v0,v1,v2,v3] t (0,0))):w.cell? ⟨b,0,none⟩=some v0∧w.cell? ⟨b,1,none⟩=some v1:=by simp[World.cell?,h]
theorem afZ (m:Md)(ab au:Option Addr)(cb cu:Nat)(ps:List Pk)(a:Option Addr)(cap:Nat)(w:World)(hT:Gr.Hd (Xe.pM w))(hmd:aZ w.heap.size w m ab au)(hps:si w.heap.size w ps a)(q:Int) :
  Calls Tryz.prog 4 #[fC m ab au cb cu,.slice a ps.length cap,.int .i64 q] w fun e w'=>e=.returned (.bool true)∧Below w.heap.size w w':=by
 have Ak:=Sb.hide hmd;have zB:=Sb.hide hps;obtain⟨E,hE⟩:∃ E,E=dE m ps q:=⟨_,rfl⟩;obtain⟨R,hR⟩:∃ R,R=(mq m ps q).2:=⟨_,rfl⟩;have HE:=Sb.hide hE;have HRR:=Sb.hide hR;have HB0:Hid (Below w.heap.size w (w.alloc (mh m ab au cb cu))):=(Below.refl _ w).alloc (Nat.le_refl _) _;have qc:Hid ((w.alloc (mh m ab au cb cu)).heap[w.heap.size]?=some (mh m ab au cb cu)):=heap_alloc_new w _;have HT0:Gr.Hd (Xe.pM (w.alloc (mh m ab au cb cu))):=Xe.pM.below hT.out HB0.out;clear hmd hps hE hR;go_enter Tryz.func4,Tryz.ntmps4
 go_wp2_with fail
 generalize w.alloc (mh m ab au cb cu)=W0 at *;refine (Xe.afU _ HT0).mono ?_;rintro e w1 ⟨rfl,hb1⟩;have HB1:=Sb.hide (HB0.out.trans (hb1.mono HB0.out.size));have oK:=Sb.hide ((hb1.block _ (lt_of_block qc.out)).trans qc.out);have c1:=uI oK.out;clear hb1;go_wp2_with fail
 refine (acC m ab au cb cu w.heap.size ps a cap _ (Sb.hide (Ak.out.low HB1.out.block)) (Sb.hide (zB.out.low HB1.out.block)) HB1.out.size q E HE R HRR).mono ?_;rintro e w2 ⟨hb2,hr⟩;have HB2:=Sb.hide (HB1.out.trans (hb2.mono HB1.out.size));clear hb2 c1;rcases hr with⟨h0,rfl⟩ | ⟨h0,vE,vB,ov,bv,rfl,ni,K,hK,qN⟩
 ·have e0:(E != 0)=true:=by simpa using h0
  clear h0;go_wp2
  go_ret
  exact⟨rfl,HB2.out.alloc HB2.out.size _⟩
 ·have sK:(mq m ps q).1=0:=by
   have:=HE.out;rw[h0,dE] at this;split at this
   ·rename_i h1;exact absurd this.symm h1
   ·split at this
    ·exact this.symm
    ·cases this
  have rD:Hid (Jh m R):=by unfold Hid;rw[HRR.out] at qN ⊢;exact acL sK hK qN
  have HV:Hid (verify m=(0,0,0)):=by
   have hwz:o7 m ps.length=0:=by
    have:=HE.out;rw[h0,dE] at this;split at this
    ·rename_i h1;exact absurd this.symm h1
    ·rename_i h1;simpa using h1
   exact (QO hwz).1
  obtain⟨ea,ec,rfl⟩:=dR ni.ends;obtain⟨ba,bc,rfl⟩:=dR ni.jK;have hxl:R.x.length=m.boxes.length:=by
   obtain⟨t0,ht0⟩:∃ t,R.ts[0]?=some t:=⟨_,List.getElem?_eq_getElem qN.few.1⟩;exact (qN.tasks 0 t0 ht0).len
  have dC:=qN.few.2;have UT:=Sb.hide (ni.reads hxl);obtain⟨NT,Fz⟩:∃ N,N=R.ts.length:=⟨_,rfl⟩;have UU:=Sb.hide Fz;have Cc:Hid ((w2.alloc (jJ (.slice ea NT ec) (.slice ba m.boxes.length bc) R.steps)).heap[w2.heap.size]?=some (jJ (.slice ea NT ec) (.slice ba m.boxes.length bc) R.steps)):=heap_alloc_new w2 _;have HB3:Hid (Below w2.heap.size w2 (w2.alloc (jJ (.slice ea NT ec) (.slice ba m.boxes.length bc) R.steps))):=(Below.refl _ w2).alloc (Nat.le_refl _) _;rw[← Fz];rw[← Fz] at dC;subst h0;clear ni qN hK sK hxl Fz;go_wp2
  generalize w2.alloc (jJ (.slice ea NT ec) (.slice ba m.boxes.length bc) R.steps)=W3 at *;have I9:=Sb.hide (HB2.out.trans (HB3.out.mono HB2.out.size));have hy2:=HB2.out.size;have hy3:=HB3.out.size;go_loopw [27] (fun v wr=>∃ k:Nat,v=.int .i64 k∧k≤NT∧Below W3.heap.size W3 wr) (fun v _=>NT - (intOf v).toNat)
  case atStart=>exact⟨0,rfl,Nat.zero_le _,.refl _ _⟩
  case round =>
   obtain⟨k,rfl,hk,hb⟩:=hrel;have HB:=Sb.hide hb;have hzb:=hb.size;clear hb;by_cases hlt:k<NT
   ·obtain⟨t,ht⟩:∃ t,R.ts[k]?=some t:=⟨_,List.getElem?_eq_getElem (by have:=UU.out;omega)⟩
    obtain⟨ea',ec',e1,Co⟩:=((UT.out.below HB3.out).below HB.out).ends;cases e1;obtain⟨eb,eo,vo,rfl,x0,x1,x2,x3,xo⟩:=Co k t ht;obtain⟨oa,oc,rfl,_⟩:=xo;obtain⟨s1,hs1⟩:∃ s,s=(stat aA m t R.x).1:=⟨_,rfl⟩;obtain⟨b1,hb1⟩:∃ s,s=(stat aA m t R.x).2:=⟨_,rfl⟩;rw[← hs1] at x0;rw[← hb1] at x1;have HNO:Hid (∀ p u,R.ts[p]?=some u→¬ (s1=2∧(stat aA m u R.x).1=3∧b1=(stat aA m u R.x).2)):=fun p u hu=>by rw[hs1,hb1];exact afX rD.out HV.out ht hu
    have n0:(0:Int)≤(k:Int):=by omega
    have n1:(k:Int)<(NT:Int):=by omega
    obtain⟨W4,gp⟩:∃ W4,W4=wr.alloc (.cells #[.int .i64 s1,.int .i64 b1,.int .i64 t.trap,.slice oa t.out.length oc] 40):=⟨_,rfl⟩;have qF:Hid (Below W3.heap.size W3 W4):=by rw[gp];exact HB.out.alloc hzb _
    have FB:Hid (W4.heap[wr.heap.size]?=some (.cells #[.int .i64 s1,.int .i64 b1,.int .i64 t.trap,.slice oa t.out.length oc] 40 (0,0))):=by rw[gp];exact heap_alloc_new _ _
    have g:=(dN ((qF.out.block _ (lt_of_block Cc.out)).trans Cc.out)).1;obtain⟨NA,UW⟩:∃ N,N=wr.heap.size:=⟨_,rfl⟩;have UX:=Sb.hide UW;have ll:=Sb.hide gp;clear ht Co hs1 hb1 gp UW;go_upto_region 9 with fail
    rw[← ll.out,← UX.out];rw[← UX.out] at FB;clear ll x0 x1 x2 x3;go_wp2
    clear g;go_loopw [34] (fun v wi=>∃ p:Nat,v=.int .i64 p∧p≤NT∧Below W4.heap.size W4 wi) (fun v _=>NT - (intOf v).toNat)
    case atStart=>exact⟨0,rfl,Nat.zero_le _,.refl _ _⟩
    case round =>
     obtain⟨p,rfl,hp,hbi⟩:=hrel;have Li:=Sb.hide hbi;have hzi:=hbi.size;clear hbi;by_cases hlp:p<NT
     ·obtain⟨u,hu⟩:∃ u,R.ts[p]?=some u:=⟨_,List.getElem?_eq_getElem (by have:=UU.out;omega)⟩
      obtain⟨ea',ec',e1,Co⟩:=(((UT.out.below HB3.out).below qF.out).below Li.out).ends;cases e1;obtain⟨eb',eo',vo,e2,x0,x1,x2,x3,xo⟩:=Co p u hu;cases e2;obtain⟨oa2,oc2,rfl,_⟩:=xo;have hno:=HNO.out p u hu;obtain⟨s2,hs2⟩:∃ s,s=(stat aA m u R.x).1:=⟨_,rfl⟩;obtain⟨b2,hb2⟩:∃ s,s=(stat aA m u R.x).2:=⟨_,rfl⟩;rw[← hs2] at x0 hno;rw[← hb2] at x1 hno;have n2:(p:Int)<(NT:Int):=by omega
      have rU:Hid (Below W4.heap.size W4 (wr.alloc (.cells #[.int .i64 s2,.int .i64 b2,.int .i64 u.trap,.slice oa2 u.out.length oc2] 40))):=Li.out.alloc hzi _;obtain⟨y0,y1⟩:=afY ((rU.out.block _ (lt_of_block FB.out)).trans FB.out);have hN9:=lt_of_block FB.out;have hne:¬ NA=wr.heap.size:=by omega
      clear hu Co hs2 hb2;by_cases a2:s1=2
      ·have d2:((s1:Int)==2)=true:=by simp;omega
       by_cases b3:s2=3
       ·have d3:((s2:Int)==3)=true:=by simp;omega
        have d4:((b1:Int)==(b2:Int))=false:=by simp;omega
        clear a2 b3 hno;go_wp2
        go_roundw
        case rel=>exact⟨p+1,by go_num,hlp,rU.out⟩
        case measure=>simp[intOf];omega
       ·have d3:((s2:Int)==3)=false:=by simp;omega
        clear a2 b3 hno;go_wp2
        go_roundw
        case rel=>exact⟨p+1,by go_num,hlp,rU.out⟩
        case measure=>simp[intOf];omega
      ·have d2:((s1:Int)==2)=false:=by simp;omega
       clear a2 hno;go_wp2
       go_roundw
       case rel=>exact⟨p+1,by go_num,hlp,rU.out⟩
       case measure=>simp[intOf];omega
     ·have n2:¬ (p:Int)<(NT:Int):=by omega
      have Dw:Hid (Below W3.heap.size W3 wr):=qF.out.trans (Li.out.mono qF.out.size);go_wp2
      go_roundw
      case rel=>exact⟨k+1,by go_num,hlt,Dw.out⟩
      case measure=>simp[intOf];omega
   ·have n1:¬ (k:Int)<(NT:Int):=by omega
    go_wp2
    go_ret
    exact⟨rfl,I9.out.trans (HB.out.mono (Nat.le_trans hy2 hy3))⟩
end Go.Proofs.YtfcpglhpolpdcaaGreatDoor.Vw
namespace Go.Proofs.YtfcpglhpolpdcaaGreatDoor
open Go.RowKit
namespace Xe
def yN:List (String × DataW Unit):=[("yieldshape/syn.pairs",Rows.laid_yieldshape_syn_pairs),("yieldshape/sema.number",Rows.laid_yieldshape_sema_number),("yieldshape/sema.truth",Rows.laid_yieldshape_sema_truth)]
theorem two {cs:List Value}(h:cs.length=2):∃ a b,cs=[a,b]:=by
 match cs,h with
 | [a,b],_=>exact⟨a,b,rfl⟩
theorem three {cs:List Value}(h:cs.length=3):∃ a b c,cs=[a,b,c]:=by
 match cs,h with
 | [a,b,c],_=>exact⟨a,b,c,rfl⟩
theorem sZ:Tryz.prog.cellsOf 3=1:=by kernel_rfl
theorem UY:Tryz.prog.cellsOf 124=3:=by kernel_rfl
theorem af5:Tryz.prog.cellsOf 125=39:=by kernel_rfl
theorem af6:Tryz.prog.cellsOf 130=2:=by kernel_rfl
theorem UZ:Tryz.prog.cellsOf 9=1:=by kernel_rfl
section
variable {H:Type} {enc:TypeId × Value→H} {w:World} {base:Nat} {spare:Nat→Bool} {held:Bool} {fuel:Nat} {cs:List Value} {p:List MemPlace}
theorem pair_cells {k l:Int}{s:List UInt8}(h:DataW.trod enc Tryz.prog w base spare held fuel 124 cs=some (.agg [.lit (.int .i64 k),.lit (.string s),.lit (.int .i64 l)],p)) :
  cs=[iv k,sv s,iv l]:=by
 obtain⟨xs,n,rfl,hx,hl,hxl,hf⟩:=DataW.trod_struct Tryz.underlying124 h;rw[UY] at hl;obtain⟨a,b,c,rfl⟩:=three hl;have e:xs.map (·.1)=[.lit (.int .i64 k),.lit (.string s),.lit (.int .i64 l)]:=by
  have:=congrArg Prod.fst hx;simpa using this.symm
 match xs,e with
 | [x0,x1,x2],e =>
  simp only[List.map_cons,List.map_nil,List.cons.injEq,and_true] at e;have h0:DataW.trod enc Tryz.prog w base spare held n 3 (([a,b,c].drop 0).take (Tryz.prog.cellsOf 3))=some x0:=hf 0 _ rfl;have h1:DataW.trod enc Tryz.prog w base spare held n 9 (([a,b,c].drop 1).take (Tryz.prog.cellsOf 9))=some x1:=hf 1 _ rfl;have h2:DataW.trod enc Tryz.prog w base spare held n 3 (([a,b,c].drop 2).take (Tryz.prog.cellsOf 3))=some x2:=hf 2 _ rfl;rw[sZ] at h0 h2;rw[UZ] at h1;obtain⟨k',hk,rfl,_⟩:=DataW.trod_int Tryz.underlying3 h0;obtain⟨s',hs,rfl,_⟩:=DataW.trod_string Tryz.underlying9 h1;obtain⟨l',hl',rfl,_⟩:=DataW.trod_int Tryz.underlying3 h2;simp at hk hs hl';simp at e;obtain⟨e1,e2,e3⟩:=e;rw[hk,hs,hl',e1,e3,← e2];rfl
theorem U0 {k:Int}{s:List UInt8}(h:DataW.trod enc Tryz.prog w base spare held fuel 130 cs=some (.agg [.lit (.int .i64 k),.lit (.string s)],p)) :
  cs=[iv k,sv s]:=by
 obtain⟨xs,n,rfl,hx,hl,hxl,hf⟩:=DataW.trod_struct Tryz.underlying130 h;rw[af6] at hl;obtain⟨a,b,rfl⟩:=two hl;have e:xs.map (·.1)=[.lit (.int .i64 k),.lit (.string s)]:=by
  have:=congrArg Prod.fst hx;simpa using this.symm
 match xs,e with
 | [x0,x1],e =>
  simp only[List.map_cons,List.map_nil,List.cons.injEq,and_true] at e;have h0:DataW.trod enc Tryz.prog w base spare held n 3 (([a,b].drop 0).take (Tryz.prog.cellsOf 3))=some x0:=hf 0 _ rfl;have h1:DataW.trod enc Tryz.prog w base spare held n 9 (([a,b].drop 1).take (Tryz.prog.cellsOf 9))=some x1:=hf 1 _ rfl;rw[sZ] at h0;rw[UZ] at h1;obtain⟨k',hk,rfl,_⟩:=DataW.trod_int Tryz.underlying3 h0;obtain⟨s',hs,rfl,_⟩:=DataW.trod_string Tryz.underlying9 h1;simp at hk hs;simp at e;obtain⟨e1,e2⟩:=e;rw[hk,hs,e1,← e2];rfl
theorem chunks {α:Type}(f:α→List Value)(hf:∀ a,(f a).length=3):∀ (ts:List α) (cs:List Value),cs.length=3 * ts.length→(∀ i a,ts[i]?=some a→(cs.drop (i * 3)).take 3=f a)→cs=ts.flatMap f
 | [],cs,hl,_=>by simp at hl;simp[hl]
 | a :: ts,cs,hl,h=>by
  have h0:=h 0 a rfl;simp only[Nat.zero_mul,List.drop_zero] at h0;have ih:=chunks f hf ts (cs.drop 3) (by simp at hl ⊢;omega) (fun i b hb=>by
   have:=h (i+1) b (by simpa using hb);rw[List.drop_drop,show 3+i * 3=(i+1) * 3 by omega];exact this)
  rw[List.flatMap_cons,← h0,← ih,List.take_append_drop]
def signs:List (Int × List UInt8 × Int):=[(18,[111,114],1),(17,[97,110,100],2),(11,[61,61],3),(12,[33,61],3),(13,[60],3),(14,[60,61],3),(15,[62],3),(16,[62,61],3),(6,[43],4),(7,[45],4),(8,[42],5),(9,[47],5),(10,[37],5)]
def FD {H:Type}:List (DataW H):=signs.map fun p=>.agg [.lit (.int .i64 p.1),.lit (.string p.2.1),.lit (.int .i64 p.2.2)]
theorem af7 {H:Type}:(Rows.laid_yieldshape_syn_pairs:DataW H)=.agg FD:=rfl
theorem af8 (h:DataW.trod enc Tryz.prog w base spare held fuel 125 cs=some (.agg FD,p)):cs=sP:=by
 obtain⟨xs,n,rfl,hx,hl,hxl,hel⟩:=DataW.trod_array Tryz.underlying125 h;rw[af5] at hl;have hx1:xs.map (·.1)=FD:=by
  have:=congrArg Prod.fst hx;simpa using this.symm
 refine (chunks (fun p=>[iv p.1,sv p.2.1,iv p.2.2]) (fun _=>rfl) signs cs (by rw[hl];rfl) (fun i q hq=>?_)).trans rfl;have hi:i<13:=by have:=(List.getElem?_eq_some_iff.1 hq).1;simpa[signs] using this
 have he:=hel i hi;rw[UY] at he;obtain⟨x,hxi⟩:∃ x,xs[i]?=some x:=⟨_,List.getElem?_eq_getElem (by omega)⟩;rw[hxi] at he;have hd:x.1=.agg [.lit (.int .i64 q.1),.lit (.string q.2.1),.lit (.int .i64 q.2.2)]:=by
  have h1:(xs.map (·.1))[i]?=some x.1:=by rw[List.getElem?_map,hxi];rfl
  rw[hx1] at h1;unfold FD at h1;rw[List.getElem?_map,hq] at h1;simpa using h1.symm
 exact pair_cells (cs:=(cs.drop (i * 3)).take 3) (p:=x.2) (by rw[← hd];exact he)
end
theorem U1:Tryz.prog.globalNamed "yieldshape/syn.pairs" = some 0:=by kernel_rfl
theorem U3:Tryz.prog.globalNamed "yieldshape/sema.truth" = some 1:=by kernel_rfl
theorem U4:Tryz.prog.globalNamed "yieldshape/sema.number" = some 2:=by kernel_rfl
theorem af9:(Tryz.prog.globals[0]?).map (·.type)=some 125:=by kernel_rfl
theorem aga:(Tryz.prog.globals[1]?).map (·.type)=some 130:=by kernel_rfl
theorem agb:(Tryz.prog.globals[2]?).map (·.type)=some 130:=by kernel_rfl
theorem Lj {c:Array Value}{l:List Value}(h:c.toList=l):c=⟨l⟩:=by cases c;simp at h;rw[h]
theorem agc {W:World}(h:laidMetH Tryz.prog yN W):pM W:=by
 refine⟨?_,?_,?_⟩
 ·have h1:=h.filter (fun x=>x.1 == "yieldshape/syn.pairs")
  have e:yN.filter (fun x=>x.1 == "yieldshape/syn.pairs")=[("yieldshape/syn.pairs",Rows.laid_yieldshape_syn_pairs)]:=by rfl
  rw[e,MakeChecks.laidMetH_plain _ _ _ (by kernel_rfl)] at h1;obtain⟨ps,⟨g',t',cs,fuel,p,q,hg',ht',hvar,hd,_,_⟩,_⟩:=h1;obtain rfl:=Option.some.inj (U1.symm.trans hg');obtain rfl:=Option.some.inj (af9.symm.trans ht');rw[af7] at hd;have hc:=af8 hd;simp only[World.var?,U1,Option.bind_some] at hvar;split at hvar
  ·rename_i c t fr hh
   simp only[Option.some.injEq] at hvar;subst hvar;exact⟨t,fr,by rw[hh,Lj hc]⟩
  ·simp at hvar
 ·have h1:=h.filter (fun x=>x.1 == "yieldshape/sema.truth")
  have e:yN.filter (fun x=>x.1 == "yieldshape/sema.truth")=[("yieldshape/sema.truth",Rows.laid_yieldshape_sema_truth)]:=by rfl
  rw[e,MakeChecks.laidMetH_plain _ _ _ (by kernel_rfl)] at h1;obtain⟨ps,⟨g',t',cs,fuel,p,q,hg',ht',hvar,hd,_,_⟩,_⟩:=h1;obtain rfl:=Option.some.inj (U3.symm.trans hg');obtain rfl:=Option.some.inj (aga.symm.trans ht');have hc:=U0 hd;simp only[World.var?,U3,Option.bind_some] at hvar;split at hvar
  ·rename_i c t fr hh
   simp only[Option.some.injEq] at hvar;subst hvar;exact⟨t,fr,by rw[hh,Lj hc];rfl⟩
  ·simp at hvar
 ·have h1:=h.filter (fun x=>x.1 == "yieldshape/sema.number")
  have e:yN.filter (fun x=>x.1 == "yieldshape/sema.number")=[("yieldshape/sema.number",Rows.laid_yieldshape_sema_number)]:=by rfl
  rw[e,MakeChecks.laidMetH_plain _ _ _ (by kernel_rfl)] at h1;obtain⟨ps,⟨g',t',cs,fuel,p,q,hg',ht',hvar,hd,_,_⟩,_⟩:=h1;obtain rfl:=Option.some.inj (U4.symm.trans hg');obtain rfl:=Option.some.inj (agb.symm.trans ht');have hc:=U0 hd;simp only[World.var?,U4,Option.bind_some] at hvar;split at hvar
  ·rename_i c t fr hh
   simp only[Option.some.injEq] at hvar;subst hvar;exact⟨t,fr,by rw[hh,Lj hc];rfl⟩
  ·simp at hvar
def putCells (cs:Array Value)(o:Obj):Obj :=
 match o with
 | .cells _ t frozen=>.cells cs t frozen
 | o=>o
noncomputable def Ll (os:Os):World :=
 { World.holding Tryz.prog os ⟨#[],#[],[]⟩ with heap:=(((World.holding Tryz.prog os ⟨#[],#[],[]⟩).heap.modify 0 (putCells ⟨sP⟩)).modify 1 (putCells ⟨wD⟩)).modify 2 (putCells ⟨wE⟩) }
theorem agd (os:Os)(args:Array Value):laidMet Tryz.prog yN ((Ll os).forCall (fun _ _=>0) ⟨#[],args,[]⟩).memory :=
 laidMet_of_run' 8 (by kernel_rfl) (by kernel_rfl)
end Xe
section
variable {H:Type} {enc:TypeId × Value→H} {w:World} {base:Nat} {spare:Nat→Bool} {held:Bool}
theorem age {a:Addr}{i n:Nat}{cs:List Value}(hn:0<n)(h:w.cells? base (a.add (i * n)) n=some cs)(h0:a.spot=none) :
  a.block<w.heap.size∧∀ j,j<n→w.cell? ⟨a.block,a.off+i * n+j,none⟩=cs[j]?:=by
 obtain⟨hb,hl,hc⟩:=World.cells?_some h;have hadd:∀ k,a.add k=⟨a.block,a.off+k,none⟩:=by
  intro k;unfold Addr.add;split
  ·subst_vars;cases a;simp_all
  ·rfl
 have hcell:∀ j,j<n→w.cell? ⟨a.block,a.off+i * n+j,none⟩=cs[j]?:=by
  intro j hj;have:=hc j hj;rw[hadd] at this;rw[← this];congr 1
  unfold Addr.add;split
  ·subst_vars;rfl
  ·rfl
 refine⟨?_,hcell⟩;have h1:=hcell 0 hn;rw[List.getElem?_eq_getElem (by omega)] at h1;cases hh:w.heap[a.block]? with
 | none=>simp[World.cell?,hh] at h1
 | some o=>exact lt_of_block hh
theorem agf {a:Addr}{n:Nat}{cs:List Value}(hn:0<n)(h:w.cells? base (a.add (0 * n)) n=some cs):a.spot=none:=by
 obtain⟨hb,hl,hc⟩:=World.cells?_some h;have h1:=hc 0 hn;rw[List.getElem?_eq_getElem (by omega)] at h1;simp only[Nat.zero_mul,Addr.add,if_true] at h1;unfold World.cell? at h1;split at h1
 ·split at h1
  ·simp at h1
  ·rename_i hs;simpa using hs
 ·simp at h1
theorem U5 {α:Type}{p:Nat→α→Prop}:∀ (n:Nat),(∀ i,i<n→∃ y,p i y)→∃ l:List α,l.length=n∧∀ i y,l[i]?=some y→p i y
 | 0,_=>⟨[],rfl,fun i y hy=>by simp at hy⟩
 | m+1,hall=>by
  obtain⟨l,h1,h2⟩:=U5 m (fun i hi=>hall i (by omega));obtain⟨y,h3⟩:=hall m (by omega);refine⟨l++[y],by simp[h1],fun i z hz=>?_⟩;by_cases hi:i<l.length
  ·rw[List.getElem?_append_left hi] at hz;exact h2 i z hz
  ·rw[List.getElem?_append_right (by omega)] at hz
   have hi2:i - l.length=0:=by
    have:=(List.getElem?_eq_some_iff.1 hz).1;simp at this;omega
   rw[hi2] at hz;simp at hz;subst hz;obtain rfl:i=m:=by omega
   exact h3
theorem Cq {α:Type}{t e:TypeId}{n fuel:Nat}{cs:List Value}{x:DataW H × List MemPlace}(Q:Nat→List Value→α→Prop)
  (ht:Tryz.prog.underlying t=some (.slice e)) (hce:Tryz.prog.cellsOf e=n) (hn:0<n)
  (hQ:∀ f cs' x',f<fuel→DataW.trod enc Tryz.prog w base spare held f e cs'=some x'→∃ y,Q f cs' y)
  (h:DataW.trod enc Tryz.prog w base spare held fuel t cs=some x) :
  ∃ (l:List α) (a:Option Addr) (c:Nat),cs=[.slice a l.length c]∧l.length≤maxLen∧l.length≤c ∧
   ∀ i y,l[i]?=some y→∃ b off cs' f,a=some ⟨b,off,none⟩∧b<w.heap.size∧f<fuel∧cs'.length=n∧Q f cs' y∧∀ j,j<n→w.cell? ⟨b,off+i * n+j,none⟩=cs'[j]?:=by
 rcases DataW.trod_slice ht h with⟨rfl,_⟩ | ⟨a,len,cap,elems,rest,k,rfl,rfl,_,hb,hl,hm,hlen,hel,_,_⟩
 ·exact⟨[],none,0,rfl,Nat.zero_le _,Nat.zero_le _,fun i y hy=>by simp at hy⟩
 ·rw[hce] at hel
  have hall:∀ i,i<len→∃ cs' y,w.cells? base (a.add (i * n)) n=some cs'∧Q k cs' y:=by
   intro i hi;have:=hel i hi;rw[List.getElem?_eq_getElem (by omega)] at this;obtain⟨cs',h1,h2⟩:=Option.bind_eq_some_iff.1 this;obtain⟨y,hy⟩:=hQ k cs' _ (by omega) h2;exact⟨cs',y,h1,hy⟩
  obtain⟨l,hll,hlq⟩:=U5 (p:=fun i y=>∃ cs',w.cells? base (a.add (i * n)) n=some cs'∧Q k cs' y) len (fun i hi=>by
   obtain⟨cs',y,h1,h2⟩:=hall i hi;exact⟨y,cs',h1,h2⟩)
  refine⟨l,some a,cap,by rw[hll],by omega,by omega,fun i y hy=>?_⟩;have hi:=(List.getElem?_eq_some_iff.1 hy).1;have hsp:a.spot=none:=by
   obtain⟨cs0,y0,h1,_⟩:=hall 0 (by omega);exact agf hn h1
  obtain⟨cs',h1,h2⟩:=hlq i y hy;obtain⟨h3,h4⟩:=age hn h1 hsp;exact⟨a.block,a.off,cs',k,by cases a;simp_all,h3,by omega,(World.cells?_some h1).2.1,h2,h4⟩
theorem two {cs:List Value}(h:cs.length=2):∃ a b,cs=[a,b]:=by
 match cs,h with
 | [a,b],_=>exact⟨a,b,rfl⟩
theorem three {cs:List Value}(h:cs.length=3):∃ a b c,cs=[a,b,c]:=by
 match cs,h with
 | [a,b,c],_=>exact⟨a,b,c,rfl⟩
theorem kX {fs:Array Field}{n:Nat}{cs:List Value}{xs:List (DataW H × List MemPlace)}(hl:xs.length=fs.size)
  (h:∀ (i:Nat) (f:Field),fs[i]?=some f→DataW.trod enc Tryz.prog w base spare held n f.type ((cs.drop f.offset).take (Tryz.prog.cellsOf f.type))=xs[i]?)
  (i:Nat) (f:Field) (hf:fs[i]?=some f):∃ x,DataW.trod enc Tryz.prog w base spare held n f.type ((cs.drop f.offset).take (Tryz.prog.cellsOf f.type))=some x:=by
 have hi:i<fs.size:=(Array.getElem?_eq_some_iff.1 hf).1;exact⟨xs[i]'(by omega),by rw[h i f hf,List.getElem?_eq_getElem]⟩
theorem six {cs:List Value}(h:cs.length=6):∃ a b c d e f,cs=[a,b,c,d,e,f]:=by
 match cs,h with
 | [a,b,c,d,e,f],_=>exact⟨a,b,c,d,e,f,rfl⟩
theorem U6:Tryz.prog.cellsOf 103=2:=by kernel_rfl
theorem U7:Tryz.prog.cellsOf 147=3:=by kernel_rfl
theorem U8:Tryz.prog.cellsOf 87=6:=by kernel_rfl
theorem agh:Tryz.prog.cellsOf 25=2:=by kernel_rfl
theorem sZ:Tryz.prog.cellsOf 3=1:=by kernel_rfl
theorem agi:Tryz.prog.cellsOf 2=1:=by kernel_rfl
theorem agj:Tryz.prog.cellsOf 28=1:=by kernel_rfl
theorem agk:Tryz.prog.cellsOf 85=1:=by kernel_rfl
theorem agl:Tryz.prog.cellsOf 22=1:=by kernel_rfl
theorem agm:Tryz.prog.cellsOf 23=1:=by kernel_rfl
theorem wf_i64 {n:Int}(h:(Lit.int .i64 n).wf=true):bP n:=by
 simp only[Lit.wf,Bool.and_eq_true,decide_eq_true_eq] at h;have e1:IntKind.i64.min=-9223372036854775808:=by decide
 have e2:IntKind.i64.max=9223372036854775807:=by decide
 rw[e1,e2] at h;exact h
theorem nH {fuel:Nat}{cs:List Value}{x:DataW H × List MemPlace}(h:DataW.trod enc Tryz.prog w base spare held fuel 3 cs=some x):∃ n:Int,bP n∧cs=[.int .i64 n]:=by
 obtain⟨n,hn,_,hw⟩:=DataW.trod_int Tryz.underlying3 h;exact⟨n,wf_i64 hw,hn⟩
theorem agn {fuel:Nat}{cs:List Value}{x:DataW H × List MemPlace}(h:DataW.trod enc Tryz.prog w base spare held fuel 2 cs=some x):∃ n:Int,bP n∧cs=[.int .i64 n]:=by
 obtain⟨n,hn,_,hw⟩:=DataW.trod_int Tryz.underlying2 h;exact⟨n,wf_i64 hw,hn⟩
theorem agp {fuel:Nat}{cs:List Value}{x:DataW H × List MemPlace}(h:DataW.trod enc Tryz.prog w base spare held fuel 28 cs=some x) :
  ∃ (l:List Int) (a:Option Addr) (c:Nat),cs=[.slice a l.length c]∧IntsIn w.heap.size w l a∧l.length≤9223372036854775807∧l.length≤c:=by
 obtain⟨l,a,c,hcs,hm,hc,hall⟩:=Cq (n:=1) (fun _ cs' (y:Int)=>bP y∧cs'=[.int .i64 y]) Tryz.underlying28 sZ (by decide) (fun f cs' x' _ hx'=>nH hx') h;refine⟨l,a,c,hcs,fun i y hy=>?_,by unfold maxLen at hm;omega,hc⟩;obtain⟨b,off,cs',f,he,hb,_,_,⟨h1,rfl⟩,hcell⟩:=hall i y hy;exact⟨h1,b,off,he,hb,by have:=hcell 0 (by decide);rw[Nat.mul_one] at this;exact this⟩
theorem agq {fuel:Nat}{cs:List Value}{x:DataW H × List MemPlace}(h:DataW.trod enc Tryz.prog w base spare held fuel 103 cs=some x) :
  ∃ o:Vf.Bx,(bP o.ty∧bP o.cap)∧cs=[.int .i64 o.ty,.int .i64 o.cap]:=by
 obtain⟨xs,n,rfl,_,hl,hxl,hf⟩:=DataW.trod_struct Tryz.underlying103 h;rw[U6] at hl;obtain⟨a,b,rfl⟩:=two hl;obtain⟨x0,h0⟩:∃ x,DataW.trod enc Tryz.prog w base spare held n 3 (([a,b].drop 0).take (Tryz.prog.cellsOf 3))=some x:=kX hxl hf 0 _ rfl;obtain⟨x1,h1⟩:∃ x,DataW.trod enc Tryz.prog w base spare held n 3 (([a,b].drop 1).take (Tryz.prog.cellsOf 3))=some x:=kX hxl hf 1 _ rfl;simp only[sZ] at h0 h1;obtain⟨p,p1,p2⟩:=nH h0;obtain⟨q,q1,q2⟩:=nH h1;simp at p2 q2;exact⟨⟨p,q⟩,⟨p1,q1⟩,by rw[p2,q2]⟩
theorem agr {fuel:Nat}{cs:List Value}{x:DataW H × List MemPlace}(h:DataW.trod enc Tryz.prog w base spare held fuel 147 cs=some x) :
  ∃ o:Vf.Ins,(bP o.op∧bP o.a∧bP o.n)∧cs=[.int .i64 o.op,.int .i64 o.a,.int .i64 o.n]:=by
 obtain⟨xs,n,rfl,_,hl,hxl,hf⟩:=DataW.trod_struct Tryz.underlying147 h;rw[U7] at hl;obtain⟨a,b,c,rfl⟩:=three hl;obtain⟨x0,h0⟩:∃ x,DataW.trod enc Tryz.prog w base spare held n 3 (([a,b,c].drop 0).take (Tryz.prog.cellsOf 3))=some x:=kX hxl hf 0 _ rfl;obtain⟨x1,h1⟩:∃ x,DataW.trod enc Tryz.prog w base spare held n 3 (([a,b,c].drop 1).take (Tryz.prog.cellsOf 3))=some x:=kX hxl hf 1 _ rfl;obtain⟨x2,h2⟩:∃ x,DataW.trod enc Tryz.prog w base spare held n 2 (([a,b,c].drop 2).take (Tryz.prog.cellsOf 2))=some x:=kX hxl hf 2 _ rfl;simp only[sZ,agi] at h0 h1 h2;obtain⟨p,p1,p2⟩:=nH h0;obtain⟨q,q1,q2⟩:=nH h1;obtain⟨r,r1,r2⟩:=agn h2;simp at p2 q2 r2;exact⟨⟨p,q,r⟩,⟨p1,q1,r1⟩,by rw[p2,q2,r2]⟩
theorem ags {fuel:Nat}{cs:List Value}{x:DataW H × List MemPlace}(h:DataW.trod enc Tryz.prog w base spare held fuel 85 cs=some x) :
  ∃ (l:List Vf.Ins) (a:Option Addr) (c:Nat),cs=[.slice a l.length c]∧yQ w.heap.size w l a∧l.length≤9223372036854775807∧l.length≤c:=by
 obtain⟨l,a,c,hcs,hm,hc,hall⟩:=Cq (n:=3) (fun _ cs' (y:Vf.Ins)=>(bP y.op∧bP y.a∧bP y.n)∧cs'=[.int .i64 y.op,.int .i64 y.a,.int .i64 y.n]) Tryz.underlying85 U7 (by decide) (fun f cs' x' _ hx'=>agr hx') h;refine⟨l,a,c,hcs,fun i y hy=>?_,by unfold maxLen at hm;omega,hc⟩;obtain⟨b,off,cs',f,he,hb,_,_,⟨⟨h1,h2,h3⟩,rfl⟩,hcell⟩:=hall i y hy;exact⟨h1,h2,h3,b,off,he,hb,hcell 0 (by decide),hcell 1 (by decide),hcell 2 (by decide)⟩
theorem agt {fuel:Nat}{cs:List Value}{x:DataW H × List MemPlace}(h:DataW.trod enc Tryz.prog w base spare held fuel 87 cs=some x) :
  ∃ u:Vf.Un,∃ al cl ac cc,gB w.heap.size w u al ac cl cc∧cs=[.int .i64 u.kind,.int .i64 u.params,.slice al u.locals.length cl,.int .i64 u.result,.int .i64 u.takes,.slice ac u.code.length cc]:=by
 obtain⟨xs,n,rfl,_,hl,hxl,hf⟩:=DataW.trod_struct Tryz.underlying87 h;rw[U8] at hl;obtain⟨a,b,c,d,e,f,rfl⟩:=six hl;obtain⟨x0,h0⟩:∃ x,DataW.trod enc Tryz.prog w base spare held n 3 (([a,b,c,d,e,f].drop 0).take (Tryz.prog.cellsOf 3))=some x:=kX hxl hf 0 _ rfl;obtain⟨x1,h1⟩:∃ x,DataW.trod enc Tryz.prog w base spare held n 3 (([a,b,c,d,e,f].drop 1).take (Tryz.prog.cellsOf 3))=some x:=kX hxl hf 1 _ rfl;obtain⟨x2,h2⟩:∃ x,DataW.trod enc Tryz.prog w base spare held n 28 (([a,b,c,d,e,f].drop 2).take (Tryz.prog.cellsOf 28))=some x:=kX hxl hf 2 _ rfl;obtain⟨x3,h3⟩:∃ x,DataW.trod enc Tryz.prog w base spare held n 3 (([a,b,c,d,e,f].drop 3).take (Tryz.prog.cellsOf 3))=some x:=kX hxl hf 3 _ rfl;obtain⟨x4,h4⟩:∃ x,DataW.trod enc Tryz.prog w base spare held n 3 (([a,b,c,d,e,f].drop 4).take (Tryz.prog.cellsOf 3))=some x:=kX hxl hf 4 _ rfl;obtain⟨x5,h5⟩:∃ x,DataW.trod enc Tryz.prog w base spare held n 85 (([a,b,c,d,e,f].drop 5).take (Tryz.prog.cellsOf 85))=some x:=kX hxl hf 5 _ rfl;simp only[sZ,agj,agk] at h0 h1 h2 h3 h4 h5;obtain⟨p0,i0,e0⟩:=nH h0;obtain⟨p1,i1,e1⟩:=nH h1;obtain⟨p2,a2,c2,e2,i2,l2,k2⟩:=agp h2;obtain⟨p3,i3,e3⟩:=nH h3;obtain⟨p4,i4,e4⟩:=nH h4;obtain⟨p5,a5,c5,e5,i5,l5,k5⟩:=ags h5;simp at e0 e1 e2 e3 e4 e5;exact⟨⟨p0,p1,p2,p3,p4,p5⟩,a2,c2,a5,c5,⟨⟨i0,i1,i3,i4⟩,⟨l2,l5⟩,⟨k2,k5⟩,i2,i5⟩,by rw[e0,e1,e2,e3,e4,e5]⟩
theorem agu {fuel:Nat}{cs:List Value}{x:DataW H × List MemPlace}(h:DataW.trod enc Tryz.prog w base spare held fuel 25 cs=some x) :
  ∃ m:Vf.Md,∃ ab cb au cu,cs=[.slice ab m.boxes.length cb,.slice au m.units.length cu]∧aZ w.heap.size w m ab au:=by
 obtain⟨xs,n,rfl,_,hl,hxl,hf⟩:=DataW.trod_struct Tryz.underlying25 h;rw[agh] at hl;obtain⟨p,q,rfl⟩:=two hl;obtain⟨x0,h0⟩:∃ x,DataW.trod enc Tryz.prog w base spare held n 22 (([p,q].drop 0).take (Tryz.prog.cellsOf 22))=some x:=kX hxl hf 0 _ rfl;obtain⟨x1,h1⟩:∃ x,DataW.trod enc Tryz.prog w base spare held n 23 (([p,q].drop 1).take (Tryz.prog.cellsOf 23))=some x:=kX hxl hf 1 _ rfl;simp only[agl,agm] at h0 h1;obtain⟨l,a,c,hcs,hm,_,hall⟩:=Cq (n:=2) (fun _ cs' (y:Vf.Bx)=>(bP y.ty∧bP y.cap)∧cs'=[.int .i64 y.ty,.int .i64 y.cap]) Tryz.underlying22 U6 (by decide) (fun f cs' x' _ hx'=>agq hx') h0;obtain⟨l2,a2,c2,hcs2,hm2,_,agv⟩:=Cq (n:=6) (fun _ cs' (u:Vf.Un)=>∃ al cl ac cc,gB w.heap.size w u al ac cl cc∧cs'=[.int .i64 u.kind,.int .i64 u.params,.slice al u.locals.length cl,.int .i64 u.result,.int .i64 u.takes,.slice ac u.code.length cc]) Tryz.underlying23 U8 (by decide) (fun f cs' x' _ hx'=>agt hx') h1;simp at hcs hcs2;refine⟨⟨l,l2⟩,a,c,a2,c2,by rw[hcs,hcs2],⟨by unfold maxLen at hm;omega,by unfold maxLen at hm2;omega⟩,fun i y hy=>?_,fun i y hy=>?_⟩
 ·obtain⟨b,off,cs',f,he,hb,_,_,⟨⟨h1,h2⟩,rfl⟩,hcell⟩:=hall i y hy
  exact⟨h1,h2,b,off,he,hb,hcell 0 (by decide),hcell 1 (by decide)⟩
 ·obtain⟨b,off,cs',f,he,hb,_,_,⟨al,cl,ac,cc,hu,rfl⟩,hcell⟩:=agv i y hy
  exact⟨b,off,al,cl,ac,cc,he,hb,hu,hcell 0 (by decide),hcell 1 (by decide),hcell 2 (by decide),hcell 3 (by decide),hcell 4 (by decide),hcell 5 (by decide)⟩
end
end Go.Proofs.YtfcpglhpolpdcaaGreatDoor
