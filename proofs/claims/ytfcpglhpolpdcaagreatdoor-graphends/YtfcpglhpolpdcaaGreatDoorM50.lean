/- The walk of GraphEnds: WHO WAITS WAITS FOR SOMEBODY'S END,OR IN A CIRCLE. -/
import Derived.Test.YtfcpglhpolpdcaaGreatDoorM39
import Derived.Test.YtfcpglhpolpdcaaGreatDoorM49
import Derived.Test.YtfcpglhpolpdcaaGreatDoorRows
import Derived.Test.YtfcpglhpolpdcaaGreatDoorM47
import Derived.ChangeArms
import Derived.DataReads
import Derived.Lib.LaidTab
import Derived.LaidSub
import Derived.OpenShut
import Derived.MakeChecks
import Derived.SizedLaws
import Derived.LaidLaws
import Derived.Test.YtfcpglhpolpdcaaGreatDoorM1
set_option maxRecDepth 100000
set_option maxHeartbeats 4000000
namespace Go.Proofs.YtfcpglhpolpdcaaGreatDoor.Vw
open Go.RowKit Vf Vm
open Gr (gtr sO fJ vK mI bU)
theorem Vn:∀ (L:Nat) (l:List Nat),l.Nodup→(∀ x ∈ l,x<L)→l.length≤L
 | 0,[],_,_=>Nat.le_refl _
 | 0,x :: _,_,h=>absurd (h x List.mem_cons_self) (by omega)
 | L+1,l,hn,h=>by
  have h1:=Vn L (l.erase L) (hn.erase L) (fun x hx=>by
   have h2:=(hn.mem_erase_iff).1 hx;have:=h x h2.2;have:=h2.1;omega)
  rw[List.length_erase] at h1;split at h1<;>omega
def jg (w:World)(M:Nat)(S:List Nat):Prop:=∃ es cl,w.heap[M]?=some (.map es cl)∧es.toList.map (·.key)=S.map (fun (k:Nat)=>Value.int .i64 (k:Int))∧∀ e ∈ es.toList,e.val=.bool true
theorem jg.new (w:World):jg (w.alloc (.map #[] 0)) w.heap.size []:=⟨#[],0,heap_alloc_new w _,rfl,fun e he=>by simp at he⟩
theorem jg.lt {w:World}{M:Nat}{S:List Nat}(h:jg w M S):M<w.heap.size:=by
 obtain⟨es,cl,h1,_⟩:=h;exact bU h1
def CS (w:World)(M:Nat):Nat:=match w.heap[M]? with
 | some (.map es _)=>es.size
 | _=>0
theorem jg.size {w:World}{M:Nat}{S:List Nat}(h:jg w M S):CS w M=S.length:=by
 obtain⟨es,cl,h1,h2,_⟩:=h;unfold CS;rw[h1];simpa using congrArg List.length h2
theorem jg.keys {es:List MapEntry}{S:List Nat}(h:es.map (·.key)=S.map (fun (k:Nat)=>Value.int .i64 (k:Int))):(∀ x ∈ es,MapKept.IsKey (.int .i64) x.key)∧∀ k:Nat,k ∈ S ↔ ∃ e ∈ es,e.key=.int .i64 (k:Int):=by
 refine⟨fun x hx=>?_,fun k=>⟨fun hk=>?_,fun⟨e,he,hk⟩=>?_⟩⟩
 ·have:x.key ∈ S.map (fun (k:Nat)=>Value.int .i64 (k:Int)):=by rw[← h];exact List.mem_map.2 ⟨x,hx,rfl⟩
  obtain⟨k,_,e⟩:=List.mem_map.1 this;rw[← e];simp[MapKept.IsKey]
 ·have:(Value.int .i64 (k:Int)) ∈ es.map (·.key):=by rw[h];exact List.mem_map.2 ⟨k,hk,rfl⟩
  obtain⟨e,he,hk⟩:=List.mem_map.1 this;exact⟨e,he,hk⟩
 ·have:e.key ∈ S.map (fun (k:Nat)=>Value.int .i64 (k:Int)):=by rw[← h];exact List.mem_map.2 ⟨e,he,rfl⟩
  obtain⟨k',hk',e2⟩:=List.mem_map.1 this;rw[hk] at e2;simp at e2;have:k'=k:=by omega
  exact this ▸ hk'
theorem jg.look {w:World}{M:Nat}{S:List Nat}(h:jg w M S)(k:Nat):(Instr.lookup 41 (.map (some M)) (.int .i64 (k:Int)) false).run Tryz.prog w=.ok (.bool (decide (k ∈ S))) w:=by
 obtain⟨es,cl,h1,h2,h3⟩:=h;have hg:(getObj M).run Tryz.prog w=.ok (.map es cl) w:=MapKept.run_getObj_map h1;have hu:=run_underlying (P:=Tryz.prog) (w:=w) Tryz.underlying41;have hz:(zeroValue 4).run Tryz.prog w=.ok (.bool false) w:=by kernel_rfl
 obtain⟨hk1,hk2⟩:=jg.keys h2;have hck:∀ b,(Instr.checkKey b 10000 3 (.int .i64 (k:Int))).run Tryz.prog w=.ok () w:=fun b=>MapKept.run_checkKey (n:=9999) Tryz.underlying3 (by simp[MapKept.IsKey]) b;rcases MapKept.findNow_spec (d:=.int .i64) (k:=.int .i64 (k:Int)) (by simp[MapKept.IsKey]) es.toList 0 hk1 with⟨h4,h5⟩ | ⟨j,e,h4,h5,h6⟩
 ·have hf:=MapKept.run_findKey (P:=Tryz.prog) (w:=w) (kt:=3) Tryz.underlying3 h4
  have hn:¬ k ∈ S:=fun hS=>by
   obtain⟨e,he,hk⟩:=(hk2 k).1 hS;exact h5 e he hk
  simp[Instr.lookup,hu,hg,hck,hf,hz,hn]
 ·have hf:=MapKept.run_findKey (P:=Tryz.prog) (w:=w) (kt:=3) Tryz.underlying3 h4
  have hS:k ∈ S:=(hk2 k).2 ⟨e,List.mem_of_getElem? h5,h6⟩;have hv:=h3 e (List.mem_of_getElem? h5);simp[Instr.lookup,hu,hg,hck,hf,hS,hv]
theorem jg.put {w:World}{M:Nat}{S:List Nat}(h:jg w M S){k:Nat}(hk:k ∉ S):∃ w',(Instr.mapUpdate 41 (.map (some M)) (.int .i64 (k:Int)) (.bool true)).run Tryz.prog w=.ok () w'∧jg w' M (S++[k])∧w.grownBy w' (some M):=by
 obtain⟨es,cl,h1,h2,h3⟩:=h;have hg:(getObj M).run Tryz.prog w=.ok (.map es cl) w:=MapKept.run_getObj_map h1;have hu:=run_underlying (P:=Tryz.prog) (w:=w) Tryz.underlying41;obtain⟨hk1,hk2⟩:=jg.keys h2;have hck:∀ b,(Instr.checkKey b 10000 3 (.int .i64 (k:Int))).run Tryz.prog w=.ok () w:=fun b=>MapKept.run_checkKey (n:=9999) Tryz.underlying3 (by simp[MapKept.IsKey]) b;rcases MapKept.findNow_spec (d:=.int .i64) (k:=.int .i64 (k:Int)) (by simp[MapKept.IsKey]) es.toList 0 hk1 with⟨h4,_⟩ | ⟨j,e,h4,h5,h6⟩
 ·have hf:=MapKept.run_findKey (P:=Tryz.prog) (w:=w) (kt:=3) Tryz.underlying3 h4
  have hset:=MapKept.run_setObj_map (P:=Tryz.prog) (.map (es.push { key:=.int .i64 (k:Int),val:=.bool true,born:=cl }) (cl+1)) h1;obtain⟨m1,m2⟩:=MapKept.heap_set (o':=.map (es.push { key:=.int .i64 (k:Int),val:=.bool true,born:=cl }) (cl+1)) h1;refine⟨{ w with heap:=w.heap.setIfInBounds M (.map (es.push { key:=.int .i64 (k:Int),val:=.bool true,born:=cl }) (cl+1)) },by simp[Instr.mapUpdate,hu,hg,hck,hf,hset],⟨_,_,m1,by rw[Array.toList_push,List.map_append,h2,List.map_append];rfl,fun e he=>?_⟩,⟨rfl,rfl,rfl,by simp,fun b _ hne=>m2 b (fun e=>hne (by rw[e]))⟩⟩;rw[Array.toList_push] at he;rcases List.mem_append.1 he with he | he
  ·exact h3 e he
  ·simp at he;subst he;rfl
 ·exact absurd ((hk2 k).2 ⟨e,List.mem_of_getElem? h5,h6⟩) hk
theorem jg.len {w:World}{M:Nat}{S:List Nat}(h:jg w M S)(ty:TypeId):(Builtin.len_ #[41] ty #[.map (some M)]).run Tryz.prog w=.ok (.int .i64 (S.length:Int)) w:=by
 obtain⟨es,cl,h1,h2,_⟩:=h;have hg:(getObj M).run Tryz.prog w=.ok (.map es cl) w:=MapKept.run_getObj_map h1;have hu:=run_underlying (P:=Tryz.prog) (w:=w) Tryz.underlying41;have hs:es.size=S.length:=by simpa using congrArg List.length h2
 simp[Builtin.len_,hu,hg,hs,goInt]
theorem Vo {w:World}{B n:Nat}{va:Option Addr}{vc:Nat}{ks:List Int}(h:w.ownsRow B 3 1 (.slice va n vc) n (nums ks)){i:Nat}{k:Int}(hk:ks[i]?=some k):∃ g,va=some ⟨g,0,none⟩∧w.cell? ⟨g,i,none⟩=some (.int .i64 k):=Bh h (by simp[hk])
theorem agB (m:Md)(ab au:Option Addr)(cb cu:Nat)(ps:List Pk)(a:Option Addr)(cap:Nat)(w:World)(hT:Gr.Hd (Xe.qd w))(hmd:aW w.heap.size w m ab au)(hps:qV w.heap.size w ps a)(q F:Int) :
  Calls Tryz.prog 3 #[eU m ab au cb cu,.slice a ps.length cap,.int .i64 q,.int .i64 F] w fun e w'=>e=.returned (.bool true)∧Below w.heap.size w w':=by
 have xV:=Sb.hide hmd;have xy:=Sb.hide hps;obtain⟨E,hE⟩:∃ E,E=dU m ps q:=⟨_,rfl⟩;obtain⟨R,hR⟩:∃ R,R=(sN m ps q).2:=⟨_,rfl⟩;have HE:=Sb.hide hE;have HRR:=Sb.hide hR;have HB0:Hid (Below w.heap.size w (w.alloc (gG m ab au cb cu))):=(Below.refl _ w).alloc (Nat.le_refl _) _;have kQ:Hid ((w.alloc (gG m ab au cb cu)).heap[w.heap.size]?=some (gG m ab au cb cu)):=heap_alloc_new w _;have HT0:Gr.Hd (Xe.qd (w.alloc (gG m ab au cb cu))):=Xe.qd.below hT.out HB0.out;clear hmd hps hE hR;go_enter Tryz.func3,Tryz.ntmps3
 go_wp2_with fail
 generalize w.alloc (gG m ab au cb cu)=W0 at *;refine (Xe.agy _ HT0).mono ?_;rintro e w1 ⟨rfl,hb1⟩;have HB1:=Sb.hide (HB0.out.trans (hb1.mono HB0.out.size));have kP:=Sb.hide ((hb1.block _ (lt_of_block kQ.out)).trans kQ.out);have c1:=nG kP.out;clear hb1;go_wp2_with fail
 refine (adT m ab au cb cu w.heap.size ps a cap _ (Sb.hide (xV.out.low HB1.out.block)) (Sb.hide (xy.out.low HB1.out.block)) HB1.out.size q E HE R HRR).mono ?_;rintro e w2 ⟨hb2,hr⟩;have HB2:=Sb.hide (HB1.out.trans (hb2.mono HB1.out.size));have iW:=Sb.hide ((hb2.block _ (lt_of_block kP.out)).trans kP.out);have c2:=nG iW.out;clear hb2 c1;have F4:=Rv m ab au cb cu w.heap.size ps a cap w2 (Sb.hide (xV.out.low HB2.out.block)) (Sb.hide (xy.out.low HB2.out.block)) HB2.out.size q E HE R HRR;rcases hr with⟨h0,rfl⟩ | ⟨h0,v,ks,rfl,hks,hW⟩
 ·have e0:(E != 0)=true:=by simpa using h0
  have H0:=Sb.hide h0;clear h0;go_wp2_with fail
  refine F4.mono ?_;rintro e w3 ⟨hb3,hr⟩;have HB3:=Sb.hide (HB2.out.trans (hb3.mono HB2.out.size));rcases hr with⟨_,rfl⟩ | ⟨h1,_⟩
  ·clear hb3 c2 F4
   go_wp2
   go_ret
   exact⟨rfl,HB3.out.alloc HB3.out.size _⟩
  ·exact absurd h1 H0.out
 ·have Au:=Sb.hide hks
  have LJ:=Sb.hide hW;obtain⟨la,lc,rfl⟩:=dA hks;subst h0;clear hks hW;go_wp2_with fail
  refine F4.mono ?_;rintro e w3 ⟨hb3,hr⟩;have HB3:=Sb.hide (HB2.out.trans (hb3.mono HB2.out.size));have Vp:=Sb.hide hb3;clear hb3 c2 F4;rcases hr with⟨h1,_⟩ | ⟨_,vE,vB,ov,bv,rfl,jW,K,hK,nL⟩
  ·exact absurd rfl h1
  ·obtain⟨ea,ec,rfl⟩:=dA jW.ends
   obtain⟨ba,bc,rfl⟩:=dA jW.jA;have hxl:R.x.length=m.boxes.length:=by
    obtain⟨t0,ht0⟩:∃ t,R.ts[0]?=some t:=⟨_,List.getElem?_eq_getElem nL.few.1⟩;exact (nL.tasks 0 t0 ht0).len
   have dx:=nL.few.2;have JN:=Sb.hide (jW.reads hxl);have hlk:ks.length=R.ts.length:=LJ.out.1;obtain⟨NT,pO⟩:∃ N,N=R.ts.length:=⟨_,rfl⟩;have vN:=Sb.hide pO;obtain⟨W4,gF⟩:∃ W4,W4=w3.alloc (iY (.slice ea NT ec) (.slice ba m.boxes.length bc) R.steps):=⟨_,rfl⟩;have sG:Hid (W4.heap[w3.heap.size]?=some (iY (.slice ea NT ec) (.slice ba m.boxes.length bc) R.steps)):=by rw[gF];exact heap_alloc_new w3 _
   have LK:Hid (Below w3.heap.size w3 W4):=by rw[gF];exact (Below.refl _ w3).alloc (Nat.le_refl _) _
   have oH:Hid (Below w.heap.size w W4):=HB3.out.trans (LK.out.mono HB3.out.size);have JO:=Sb.hide (JN.out.below LK.out);have A8:Hid (W4.ownsRow w1.heap.size 3 1 (.slice la NT lc) NT (nums ks)):=by
    have hb:Below w2.heap.size w2 W4:=Vp.out.trans (LK.out.mono Vp.out.size);have hg:w2.grownBy W4 none:=⟨hb.os,hb.tape,hb.output,hb.size,fun k hk _=>hb.block k hk⟩;have h1:=Gr.yl Au.out hg;rw[hlk,← pO] at h1;exact h1
   have jO:=Sb.hide gF;rw[hlk,← pO];rw[← pO] at dx hlk;have r9:=Sb.hide hlk;clear jW nL hK hxl pO gF hlk;go_upto_region 5 with fail
   rw[← jO.out];clear jO;have g:=(dD sG.out).1;go_wp2
   clear g;obtain⟨ea',ec',e1,BF⟩:=JO.out.ends;cases e1;have HEn:=Sb.hide BF;clear BF;go_loopw [51] (fun q wr=>∃ j:Nat,q=.int .i64 j∧j≤NT∧wr=W4) (fun q _=>NT - (intOf q).toNat)
   case atStart=>exact⟨0,rfl,Nat.zero_le _,rfl⟩
   case round =>
    obtain⟨j,rfl,hj,rfl⟩:=hrel;by_cases hlt:j<NT
    ·obtain⟨t,ht⟩:∃ t,R.ts[j]?=some t:=⟨_,List.getElem?_eq_getElem (by have:=vN.out;omega)⟩
     obtain⟨k,hk⟩:∃ k,ks[j]?=some k:=⟨_,List.getElem?_eq_getElem (by have:=r9.out;omega)⟩;obtain⟨g,rfl,c0⟩:=Vo A8.out hk;obtain⟨eb,eo,vo,rfl,x0,_⟩:=HEn.out j t ht;have hw:=LJ.out.2 j t k ht hk;have g:=(dD sG.out).1;obtain⟨s1,hs1⟩:∃ s,s=(stat aG m t R.x).1:=⟨_,rfl⟩;rw[← hs1] at x0 hw;rw[← vN.out] at hw;have hjp:(j:Int)<(NT:Int):=by omega
     have hjn:(0:Int)≤(j:Int):=by omega
     have hge:¬ (NT:Int)≤k:=by rcases hw with h | h<;>omega
     have HJ:Hid (j+1≤NT):=hlt;clear ht hk hs1;by_cases h2:s1=2
     ·have d2:((s1:Int)==2)=true:=by simp;omega
      clear hw h2;by_cases h0:(0:Int)≤k
      ·go_wp2
       go_roundw
       case rel=>exact⟨j+1,by go_num,HJ.out,trivial⟩
       case measure=>have:=HJ.out;simp[intOf];omega
      ·go_wp2
       go_roundw
       case rel=>exact⟨j+1,by go_num,HJ.out,trivial⟩
       case measure=>have:=HJ.out;simp[intOf];omega
     ·have d2:((s1:Int)==2)=false:=by simp;omega
      by_cases h3:s1=3
      ·have d3:((s1:Int)==3)=true:=by simp;omega
       clear hw h2 h3;by_cases h0:(0:Int)≤k
       ·go_wp2
        go_roundw
        case rel=>exact⟨j+1,by go_num,HJ.out,trivial⟩
        case measure=>have:=HJ.out;simp[intOf];omega
       ·go_wp2
        go_roundw
        case rel=>exact⟨j+1,by go_num,HJ.out,trivial⟩
        case measure=>have:=HJ.out;simp[intOf];omega
      ·have d3:((s1:Int)==3)=false:=by simp;omega
       have h0:¬ (0:Int)≤k:=by rcases hw with h | h<;>omega
       clear hw h2 h3;go_wp2
       go_roundw
       case rel=>exact⟨j+1,by go_num,HJ.out,trivial⟩
       case measure=>have:=HJ.out;simp[intOf];omega
    ·have hjp:¬ (j:Int)<(NT:Int):=by omega
     by_cases hf0:F<0
     ·go_wp2
      go_ret
      exact⟨rfl,oH.out⟩
     ·by_cases hf1:(NT:Int)≤F
      ·go_wp2
       go_ret
       exact⟨rfl,oH.out⟩
      ·generalize wr=V at *
       have hmm:∀ w:World,(Instr.makeMap 41 Option.none).run Tryz.prog w=.ok (.map (some w.heap.size)) (w.alloc (.map #[] 0)):=fun _=>rfl;have aJ:Hid (0≤F∧F<(NT:Int)):=⟨by omega,by omega⟩;have mh:Hid (jg (V.alloc (.map #[] 0)) V.heap.size []):=jg.new V;have bz:Hid (V.grownBy (V.alloc (.map #[] 0)) none):=fJ _ _;go_wp2
       generalize V.alloc (.map #[] 0)=W5 at *;go_loopw [17] (fun q wi=>∃ (k:Int) (S:List Nat),q=.int .i64 k∧Hid (k=-1∨(0≤k∧k<(NT:Int)))∧Hid (S.Nodup∧(∀ x ∈ S,x<NT)∧(S=[]→0≤k))∧Hid (jg wi V.heap.size S)∧Hid (V.grownBy wi none)) (fun _ wi=>NT - CS wi V.heap.size)
       case atStart=>exact⟨F,[],rfl,.inr aJ.out,And.intro List.nodup_nil (And.intro (fun x hx=>by simp at hx) (fun _=>aJ.out.1)),mh.out,bz.out⟩
       case round =>
        obtain⟨k,S,rfl,HKq,LM,F5,HG⟩:=hrel;have hln:=F5.out.len 3;have EJ:Hid (Below w.heap.size w wr):=oH.out.trans ⟨HG.out.os,HG.out.tape,HG.out.output,HG.out.size,fun k hk=>HG.out.block k (by have:=oH.out.size;omega) (by simp)⟩;by_cases hk0:0≤k
        ·obtain⟨n,rfl⟩:∃ n:Nat,k=n:=⟨k.toNat,by omega⟩
         have hn:n<NT:=by rcases HKq.out with h | h<;>omega
         have hL:=F5.out.look n;by_cases hs:n ∈ S
         ·rw[decide_eq_true hs] at hL
          have hpos:0<S.length:=List.length_pos_of_mem hs;clear hs;go_wp2
          go_ret
          exact⟨rfl,EJ.out⟩
         ·rw[decide_eq_false hs] at hL
          obtain⟨w6,hup,LP,nS⟩:=F5.out.put hs;have nN:=Sb.hide (sO HG.out nS (Nat.le_refl _));have HS6:=Sb.hide LP;have hnd:(S++[n]).Nodup:=List.nodup_append.2 ⟨LM.out.1,by simp,fun a ha b hb e=>by simp at hb;subst hb;subst e;exact hs ha⟩;have hlt2:∀ x ∈ S++[n],x<NT:=fun x hx=>by
           rcases List.mem_append.1 hx with h | h
           ·exact LM.out.2.1 x h
           ·simp at h;omega
          have Ay:Hid (NT - CS w6 V.heap.size<NT - CS wr V.heap.size):=by
           have h1:=Vn NT _ hnd hlt2;unfold Hid;rw[LP.size,F5.out.size];simp at h1 ⊢;omega
          obtain⟨kk,hkk⟩:∃ kk,ks[n]?=some kk:=⟨_,List.getElem?_eq_getElem (by have:=r9.out;omega)⟩;obtain⟨t,ht⟩:∃ t,R.ts[n]?=some t:=⟨_,List.getElem?_eq_getElem (by have:=vN.out;omega)⟩;have hw:=LJ.out.2 n t kk ht hkk;rw[← vN.out] at hw;obtain⟨g,rfl,c0⟩:=Vo (Gr.yl A8.out nN.out) hkk;have HBf:Hid (Below w.heap.size w w6):=oH.out.trans ⟨nN.out.os,nN.out.tape,nN.out.output,nN.out.size,fun k hk=>nN.out.block k (by have:=oH.out.size;omega) (by simp)⟩;have hnp:(n:Int)<(NT:Int):=by omega
          have HND:=Sb.hide hnd;have HLT:=Sb.hide hlt2;clear LP nS hs hnd hlt2 hkk ht hln;by_cases hneg:kk<0
          ·clear hw
           go_wp2
           go_ret
           exact⟨rfl,HBf.out⟩
          ·have Vq:Hid (0≤kk∧kk<(NT:Int)):=by
            rcases hw with h | h
            ·omega
            ·exact⟨h.1,h.2.1⟩
           clear hw;go_wp2
           go_roundw
           case rel=>exact⟨kk,S++[n],rfl,.inr Vq.out,And.intro HND.out (And.intro HLT.out (fun _=>Vq.out.1)),HS6.out,nN.out⟩
           case measure=>exact Ay.out
        ·have hpos:0<S.length:=by
          cases S with
          | nil=>exact absurd (LM.out.2.2 rfl) hk0
          | cons x S=>simp
         go_wp2
         go_ret
         exact⟨rfl,EJ.out⟩
end Go.Proofs.YtfcpglhpolpdcaaGreatDoor.Vw
namespace Go.Proofs.YtfcpglhpolpdcaaGreatDoor
open Go.RowKit
namespace Xe
def zi:List (String × DataW Unit):=[("yieldshape/syn.pairs",Rows.laid_yieldshape_syn_pairs),("yieldshape/sema.number",Rows.laid_yieldshape_sema_number),("yieldshape/sema.truth",Rows.laid_yieldshape_sema_truth)]
theorem two {cs:List Value}(h:cs.length=2):∃ a b,cs=[a,b]:=by
 match cs,h with
 | [a,b],_=>exact⟨a,b,rfl⟩
theorem three {cs:List Value}(h:cs.length=3):∃ a b c,cs=[a,b,c]:=by
 match cs,h with
 | [a,b,c],_=>exact⟨a,b,c,rfl⟩
theorem tN:Tryz.prog.cellsOf 3=1:=by kernel_rfl
theorem Vr:Tryz.prog.cellsOf 124=3:=by kernel_rfl
theorem agI:Tryz.prog.cellsOf 125=39:=by kernel_rfl
theorem agJ:Tryz.prog.cellsOf 130=2:=by kernel_rfl
theorem Vs:Tryz.prog.cellsOf 9=1:=by kernel_rfl
section
variable {H:Type} {enc:TypeId × Value→H} {w:World} {base:Nat} {spare:Nat→Bool} {held:Bool} {fuel:Nat} {cs:List Value} {p:List MemPlace}
theorem pair_cells {k l:Int}{s:List UInt8}(h:DataW.trod enc Tryz.prog w base spare held fuel 124 cs=some (.agg [.lit (.int .i64 k),.lit (.string s),.lit (.int .i64 l)],p)) :
  cs=[iv k,sv s,iv l]:=by
 obtain⟨xs,n,rfl,hx,hl,hxl,hf⟩:=DataW.trod_struct Tryz.underlying124 h;rw[Vr] at hl;obtain⟨a,b,c,rfl⟩:=three hl;have e:xs.map (·.1)=[.lit (.int .i64 k),.lit (.string s),.lit (.int .i64 l)]:=by
  have:=congrArg Prod.fst hx;simpa using this.symm
 match xs,e with
 | [x0,x1,x2],e =>
  simp only[List.map_cons,List.map_nil,List.cons.injEq,and_true] at e;have h0:DataW.trod enc Tryz.prog w base spare held n 3 (([a,b,c].drop 0).take (Tryz.prog.cellsOf 3))=some x0:=hf 0 _ rfl;have h1:DataW.trod enc Tryz.prog w base spare held n 9 (([a,b,c].drop 1).take (Tryz.prog.cellsOf 9))=some x1:=hf 1 _ rfl;have h2:DataW.trod enc Tryz.prog w base spare held n 3 (([a,b,c].drop 2).take (Tryz.prog.cellsOf 3))=some x2:=hf 2 _ rfl;rw[tN] at h0 h2;rw[Vs] at h1;obtain⟨k',hk,rfl,_⟩:=DataW.trod_int Tryz.underlying3 h0;obtain⟨s',hs,rfl,_⟩:=DataW.trod_string Tryz.underlying9 h1;obtain⟨l',hl',rfl,_⟩:=DataW.trod_int Tryz.underlying3 h2;simp at hk hs hl';simp at e;obtain⟨e1,e2,e3⟩:=e;rw[hk,hs,hl',e1,e3,← e2];rfl
theorem Vt {k:Int}{s:List UInt8}(h:DataW.trod enc Tryz.prog w base spare held fuel 130 cs=some (.agg [.lit (.int .i64 k),.lit (.string s)],p)) :
  cs=[iv k,sv s]:=by
 obtain⟨xs,n,rfl,hx,hl,hxl,hf⟩:=DataW.trod_struct Tryz.underlying130 h;rw[agJ] at hl;obtain⟨a,b,rfl⟩:=two hl;have e:xs.map (·.1)=[.lit (.int .i64 k),.lit (.string s)]:=by
  have:=congrArg Prod.fst hx;simpa using this.symm
 match xs,e with
 | [x0,x1],e =>
  simp only[List.map_cons,List.map_nil,List.cons.injEq,and_true] at e;have h0:DataW.trod enc Tryz.prog w base spare held n 3 (([a,b].drop 0).take (Tryz.prog.cellsOf 3))=some x0:=hf 0 _ rfl;have h1:DataW.trod enc Tryz.prog w base spare held n 9 (([a,b].drop 1).take (Tryz.prog.cellsOf 9))=some x1:=hf 1 _ rfl;rw[tN] at h0;rw[Vs] at h1;obtain⟨k',hk,rfl,_⟩:=DataW.trod_int Tryz.underlying3 h0;obtain⟨s',hs,rfl,_⟩:=DataW.trod_string Tryz.underlying9 h1;simp at hk hs;simp at e;obtain⟨e1,e2⟩:=e;rw[hk,hs,e1,← e2];rfl
theorem chunks {α:Type}(f:α→List Value)(hf:∀ a,(f a).length=3):∀ (ts:List α) (cs:List Value),cs.length=3 * ts.length→(∀ i a,ts[i]?=some a→(cs.drop (i * 3)).take 3=f a)→cs=ts.flatMap f
 | [],cs,hl,_=>by simp at hl;simp[hl]
 | a :: ts,cs,hl,h=>by
  have h0:=h 0 a rfl;simp only[Nat.zero_mul,List.drop_zero] at h0;have ih:=chunks f hf ts (cs.drop 3) (by simp at hl ⊢;omega) (fun i b hb=>by
   have:=h (i+1) b (by simpa using hb);rw[List.drop_drop,show 3+i * 3=(i+1) * 3 by omega];exact this)
  rw[List.flatMap_cons,← h0,← ih,List.take_append_drop]
def signs:List (Int × List UInt8 × Int):=[(18,[111,114],1),(17,[97,110,100],2),(11,[61,61],3),(12,[33,61],3),(13,[60],3),(14,[60,61],3),(15,[62],3),(16,[62,61],3),(6,[43],4),(7,[45],4),(8,[42],5),(9,[47],5),(10,[37],5)]
def F6 {H:Type}:List (DataW H):=signs.map fun p=>.agg [.lit (.int .i64 p.1),.lit (.string p.2.1),.lit (.int .i64 p.2.2)]
theorem agK {H:Type}:(Rows.laid_yieldshape_syn_pairs:DataW H)=.agg F6:=rfl
theorem agL (h:DataW.trod enc Tryz.prog w base spare held fuel 125 cs=some (.agg F6,p)):cs=tC:=by
 obtain⟨xs,n,rfl,hx,hl,hxl,hel⟩:=DataW.trod_array Tryz.underlying125 h;rw[agI] at hl;have hx1:xs.map (·.1)=F6:=by
  have:=congrArg Prod.fst hx;simpa using this.symm
 refine (chunks (fun p=>[iv p.1,sv p.2.1,iv p.2.2]) (fun _=>rfl) signs cs (by rw[hl];rfl) (fun i q hq=>?_)).trans rfl;have hi:i<13:=by have:=(List.getElem?_eq_some_iff.1 hq).1;simpa[signs] using this
 have he:=hel i hi;rw[Vr] at he;obtain⟨x,hxi⟩:∃ x,xs[i]?=some x:=⟨_,List.getElem?_eq_getElem (by omega)⟩;rw[hxi] at he;have hd:x.1=.agg [.lit (.int .i64 q.1),.lit (.string q.2.1),.lit (.int .i64 q.2.2)]:=by
  have h1:(xs.map (·.1))[i]?=some x.1:=by rw[List.getElem?_map,hxi];rfl
  rw[hx1] at h1;unfold F6 at h1;rw[List.getElem?_map,hq] at h1;simpa using h1.symm
 exact pair_cells (cs:=(cs.drop (i * 3)).take 3) (p:=x.2) (by rw[← hd];exact he)
end
theorem Vu:Tryz.prog.globalNamed "yieldshape/syn.pairs" = some 0:=by kernel_rfl
theorem Vv:Tryz.prog.globalNamed "yieldshape/sema.truth" = some 1:=by kernel_rfl
theorem Vx:Tryz.prog.globalNamed "yieldshape/sema.number" = some 2:=by kernel_rfl
theorem agM:(Tryz.prog.globals[0]?).map (·.type)=some 125:=by kernel_rfl
theorem agN:(Tryz.prog.globals[1]?).map (·.type)=some 130:=by kernel_rfl
theorem agO:(Tryz.prog.globals[2]?).map (·.type)=some 130:=by kernel_rfl
theorem LQ {c:Array Value}{l:List Value}(h:c.toList=l):c=⟨l⟩:=by cases c;simp at h;rw[h]
theorem agP {W:World}(h:laidMetH Tryz.prog zi W):qd W:=by
 refine⟨?_,?_,?_⟩
 ·have h1:=h.filter (fun x=>x.1 == "yieldshape/syn.pairs")
  have e:zi.filter (fun x=>x.1 == "yieldshape/syn.pairs")=[("yieldshape/syn.pairs",Rows.laid_yieldshape_syn_pairs)]:=by rfl
  rw[e,MakeChecks.laidMetH_plain _ _ _ (by kernel_rfl)] at h1;obtain⟨ps,⟨g',t',cs,fuel,p,q,hg',ht',hvar,hd,_,_⟩,_⟩:=h1;obtain rfl:=Option.some.inj (Vu.symm.trans hg');obtain rfl:=Option.some.inj (agM.symm.trans ht');rw[agK] at hd;have hc:=agL hd;simp only[World.var?,Vu,Option.bind_some] at hvar;split at hvar
  ·rename_i c t fr hh
   simp only[Option.some.injEq] at hvar;subst hvar;exact⟨t,fr,by rw[hh,LQ hc]⟩
  ·simp at hvar
 ·have h1:=h.filter (fun x=>x.1 == "yieldshape/sema.truth")
  have e:zi.filter (fun x=>x.1 == "yieldshape/sema.truth")=[("yieldshape/sema.truth",Rows.laid_yieldshape_sema_truth)]:=by rfl
  rw[e,MakeChecks.laidMetH_plain _ _ _ (by kernel_rfl)] at h1;obtain⟨ps,⟨g',t',cs,fuel,p,q,hg',ht',hvar,hd,_,_⟩,_⟩:=h1;obtain rfl:=Option.some.inj (Vv.symm.trans hg');obtain rfl:=Option.some.inj (agN.symm.trans ht');have hc:=Vt hd;simp only[World.var?,Vv,Option.bind_some] at hvar;split at hvar
  ·rename_i c t fr hh
   simp only[Option.some.injEq] at hvar;subst hvar;exact⟨t,fr,by rw[hh,LQ hc];rfl⟩
  ·simp at hvar
 ·have h1:=h.filter (fun x=>x.1 == "yieldshape/sema.number")
  have e:zi.filter (fun x=>x.1 == "yieldshape/sema.number")=[("yieldshape/sema.number",Rows.laid_yieldshape_sema_number)]:=by rfl
  rw[e,MakeChecks.laidMetH_plain _ _ _ (by kernel_rfl)] at h1;obtain⟨ps,⟨g',t',cs,fuel,p,q,hg',ht',hvar,hd,_,_⟩,_⟩:=h1;obtain rfl:=Option.some.inj (Vx.symm.trans hg');obtain rfl:=Option.some.inj (agO.symm.trans ht');have hc:=Vt hd;simp only[World.var?,Vx,Option.bind_some] at hvar;split at hvar
  ·rename_i c t fr hh
   simp only[Option.some.injEq] at hvar;subst hvar;exact⟨t,fr,by rw[hh,LQ hc];rfl⟩
  ·simp at hvar
def putCells (cs:Array Value)(o:Obj):Obj :=
 match o with
 | .cells _ t frozen=>.cells cs t frozen
 | o=>o
noncomputable def LU (os:Os):World :=
 { World.holding Tryz.prog os ⟨#[],#[],[]⟩ with heap:=(((World.holding Tryz.prog os ⟨#[],#[],[]⟩).heap.modify 0 (putCells ⟨tC⟩)).modify 1 (putCells ⟨wL⟩)).modify 2 (putCells ⟨wM⟩) }
theorem agQ (os:Os)(args:Array Value):laidMet Tryz.prog zi ((LU os).forCall (fun _ _=>0) ⟨#[],args,[]⟩).memory :=
 laidMet_of_run' 8 (by kernel_rfl) (by kernel_rfl)
end Xe
section
variable {H:Type} {enc:TypeId × Value→H} {w:World} {base:Nat} {spare:Nat→Bool} {held:Bool}
theorem agR {a:Addr}{i n:Nat}{cs:List Value}(hn:0<n)(h:w.cells? base (a.add (i * n)) n=some cs)(h0:a.spot=none) :
  a.block<w.heap.size∧∀ j,j<n→w.cell? ⟨a.block,a.off+i * n+j,none⟩=cs[j]?:=by
 obtain⟨hb,hl,hc⟩:=World.cells?_some h;have hadd:∀ k,a.add k=⟨a.block,a.off+k,none⟩:=by
  intro k;unfold Addr.add;split
  ·subst_vars;cases a;simp_all
  ·rfl
 have hcell:∀ j,j<n→w.cell? ⟨a.block,a.off+i * n+j,none⟩=cs[j]?:=by
  intro j hj;have:=hc j hj;rw[hadd] at this;rw[← this];congr 1
  unfold Addr.add;split
  ·subst_vars;rfl
  ·rfl
 refine⟨?_,hcell⟩;have h1:=hcell 0 hn;rw[List.getElem?_eq_getElem (by omega)] at h1;cases hh:w.heap[a.block]? with
 | none=>simp[World.cell?,hh] at h1
 | some o=>exact lt_of_block hh
theorem agS {a:Addr}{n:Nat}{cs:List Value}(hn:0<n)(h:w.cells? base (a.add (0 * n)) n=some cs):a.spot=none:=by
 obtain⟨hb,hl,hc⟩:=World.cells?_some h;have h1:=hc 0 hn;rw[List.getElem?_eq_getElem (by omega)] at h1;simp only[Nat.zero_mul,Addr.add,if_true] at h1;unfold World.cell? at h1;split at h1
 ·split at h1
  ·simp at h1
  ·rename_i hs;simpa using hs
 ·simp at h1
theorem Vy {α:Type}{p:Nat→α→Prop}:∀ (n:Nat),(∀ i,i<n→∃ y,p i y)→∃ l:List α,l.length=n∧∀ i y,l[i]?=some y→p i y
 | 0,_=>⟨[],rfl,fun i y hy=>by simp at hy⟩
 | m+1,hall=>by
  obtain⟨l,h1,h2⟩:=Vy m (fun i hi=>hall i (by omega));obtain⟨y,h3⟩:=hall m (by omega);refine⟨l++[y],by simp[h1],fun i z hz=>?_⟩;by_cases hi:i<l.length
  ·rw[List.getElem?_append_left hi] at hz;exact h2 i z hz
  ·rw[List.getElem?_append_right (by omega)] at hz
   have hi2:i - l.length=0:=by
    have:=(List.getElem?_eq_some_iff.1 hz).1;simp at this;omega
   rw[hi2] at hz;simp at hz;subst hz;obtain rfl:i=m:=by omega
   exact h3
theorem CU {α:Type}{t e:TypeId}{n fuel:Nat}{cs:List Value}{x:DataW H × List MemPlace}(Q:Nat→List Value→α→Prop)
  (ht:Tryz.prog.underlying t=some (.slice e)) (hce:Tryz.prog.cellsOf e=n) (hn:0<n)
  (hQ:∀ f cs' x',f<fuel→DataW.trod enc Tryz.prog w base spare held f e cs'=some x'→∃ y,Q f cs' y)
  (h:DataW.trod enc Tryz.prog w base spare held fuel t cs=some x) :
  ∃ (l:List α) (a:Option Addr) (c:Nat),cs=[.slice a l.length c]∧l.length≤maxLen∧l.length≤c ∧
   ∀ i y,l[i]?=some y→∃ b off cs' f,a=some ⟨b,off,none⟩∧b<w.heap.size∧f<fuel∧cs'.length=n∧Q f cs' y∧∀ j,j<n→w.cell? ⟨b,off+i * n+j,none⟩=cs'[j]?:=by
 rcases DataW.trod_slice ht h with⟨rfl,_⟩ | ⟨a,len,cap,elems,rest,k,rfl,rfl,_,hb,hl,hm,hlen,hel,_,_⟩
 ·exact⟨[],none,0,rfl,Nat.zero_le _,Nat.zero_le _,fun i y hy=>by simp at hy⟩
 ·rw[hce] at hel
  have hall:∀ i,i<len→∃ cs' y,w.cells? base (a.add (i * n)) n=some cs'∧Q k cs' y:=by
   intro i hi;have:=hel i hi;rw[List.getElem?_eq_getElem (by omega)] at this;obtain⟨cs',h1,h2⟩:=Option.bind_eq_some_iff.1 this;obtain⟨y,hy⟩:=hQ k cs' _ (by omega) h2;exact⟨cs',y,h1,hy⟩
  obtain⟨l,hll,hlq⟩:=Vy (p:=fun i y=>∃ cs',w.cells? base (a.add (i * n)) n=some cs'∧Q k cs' y) len (fun i hi=>by
   obtain⟨cs',y,h1,h2⟩:=hall i hi;exact⟨y,cs',h1,h2⟩)
  refine⟨l,some a,cap,by rw[hll],by omega,by omega,fun i y hy=>?_⟩;have hi:=(List.getElem?_eq_some_iff.1 hy).1;have hsp:a.spot=none:=by
   obtain⟨cs0,y0,h1,_⟩:=hall 0 (by omega);exact agS hn h1
  obtain⟨cs',h1,h2⟩:=hlq i y hy;obtain⟨h3,h4⟩:=agR hn h1 hsp;exact⟨a.block,a.off,cs',k,by cases a;simp_all,h3,by omega,(World.cells?_some h1).2.1,h2,h4⟩
theorem two {cs:List Value}(h:cs.length=2):∃ a b,cs=[a,b]:=by
 match cs,h with
 | [a,b],_=>exact⟨a,b,rfl⟩
theorem three {cs:List Value}(h:cs.length=3):∃ a b c,cs=[a,b,c]:=by
 match cs,h with
 | [a,b,c],_=>exact⟨a,b,c,rfl⟩
theorem lH {fs:Array Field}{n:Nat}{cs:List Value}{xs:List (DataW H × List MemPlace)}(hl:xs.length=fs.size)
  (h:∀ (i:Nat) (f:Field),fs[i]?=some f→DataW.trod enc Tryz.prog w base spare held n f.type ((cs.drop f.offset).take (Tryz.prog.cellsOf f.type))=xs[i]?)
  (i:Nat) (f:Field) (hf:fs[i]?=some f):∃ x,DataW.trod enc Tryz.prog w base spare held n f.type ((cs.drop f.offset).take (Tryz.prog.cellsOf f.type))=some x:=by
 have hi:i<fs.size:=(Array.getElem?_eq_some_iff.1 hf).1;exact⟨xs[i]'(by omega),by rw[h i f hf,List.getElem?_eq_getElem]⟩
theorem six {cs:List Value}(h:cs.length=6):∃ a b c d e f,cs=[a,b,c,d,e,f]:=by
 match cs,h with
 | [a,b,c,d,e,f],_=>exact⟨a,b,c,d,e,f,rfl⟩
theorem Vz:Tryz.prog.cellsOf 103=2:=by kernel_rfl
theorem VB:Tryz.prog.cellsOf 147=3:=by kernel_rfl
theorem VC:Tryz.prog.cellsOf 87=6:=by kernel_rfl
theorem agT:Tryz.prog.cellsOf 25=2:=by kernel_rfl
theorem tN:Tryz.prog.cellsOf 3=1:=by kernel_rfl
theorem agU:Tryz.prog.cellsOf 2=1:=by kernel_rfl
theorem agV:Tryz.prog.cellsOf 28=1:=by kernel_rfl
theorem agW:Tryz.prog.cellsOf 85=1:=by kernel_rfl
theorem agX:Tryz.prog.cellsOf 22=1:=by kernel_rfl
theorem agY:Tryz.prog.cellsOf 23=1:=by kernel_rfl
theorem wf_i64 {n:Int}(h:(Lit.int .i64 n).wf=true):bP n:=by
 simp only[Lit.wf,Bool.and_eq_true,decide_eq_true_eq] at h;have e1:IntKind.i64.min=-9223372036854775808:=by decide
 have e2:IntKind.i64.max=9223372036854775807:=by decide
 rw[e1,e2] at h;exact h
theorem mO {fuel:Nat}{cs:List Value}{x:DataW H × List MemPlace}(h:DataW.trod enc Tryz.prog w base spare held fuel 3 cs=some x):∃ n:Int,bP n∧cs=[.int .i64 n]:=by
 obtain⟨n,hn,_,hw⟩:=DataW.trod_int Tryz.underlying3 h;exact⟨n,wf_i64 hw,hn⟩
theorem agZ {fuel:Nat}{cs:List Value}{x:DataW H × List MemPlace}(h:DataW.trod enc Tryz.prog w base spare held fuel 2 cs=some x):∃ n:Int,bP n∧cs=[.int .i64 n]:=by
 obtain⟨n,hn,_,hw⟩:=DataW.trod_int Tryz.underlying2 h;exact⟨n,wf_i64 hw,hn⟩
theorem ag0 {fuel:Nat}{cs:List Value}{x:DataW H × List MemPlace}(h:DataW.trod enc Tryz.prog w base spare held fuel 28 cs=some x) :
  ∃ (l:List Int) (a:Option Addr) (c:Nat),cs=[.slice a l.length c]∧IntsIn w.heap.size w l a∧l.length≤9223372036854775807∧l.length≤c:=by
 obtain⟨l,a,c,hcs,hm,hc,hall⟩:=CU (n:=1) (fun _ cs' (y:Int)=>bP y∧cs'=[.int .i64 y]) Tryz.underlying28 tN (by decide) (fun f cs' x' _ hx'=>mO hx') h;refine⟨l,a,c,hcs,fun i y hy=>?_,by unfold maxLen at hm;omega,hc⟩;obtain⟨b,off,cs',f,he,hb,_,_,⟨h1,rfl⟩,hcell⟩:=hall i y hy;exact⟨h1,b,off,he,hb,by have:=hcell 0 (by decide);rw[Nat.mul_one] at this;exact this⟩
theorem ag1 {fuel:Nat}{cs:List Value}{x:DataW H × List MemPlace}(h:DataW.trod enc Tryz.prog w base spare held fuel 103 cs=some x) :
  ∃ o:Vf.Bx,(bP o.ty∧bP o.cap)∧cs=[.int .i64 o.ty,.int .i64 o.cap]:=by
 obtain⟨xs,n,rfl,_,hl,hxl,hf⟩:=DataW.trod_struct Tryz.underlying103 h;rw[Vz] at hl;obtain⟨a,b,rfl⟩:=two hl;obtain⟨x0,h0⟩:∃ x,DataW.trod enc Tryz.prog w base spare held n 3 (([a,b].drop 0).take (Tryz.prog.cellsOf 3))=some x:=lH hxl hf 0 _ rfl;obtain⟨x1,h1⟩:∃ x,DataW.trod enc Tryz.prog w base spare held n 3 (([a,b].drop 1).take (Tryz.prog.cellsOf 3))=some x:=lH hxl hf 1 _ rfl;simp only[tN] at h0 h1;obtain⟨p,p1,p2⟩:=mO h0;obtain⟨q,q1,q2⟩:=mO h1;simp at p2 q2;exact⟨⟨p,q⟩,⟨p1,q1⟩,by rw[p2,q2]⟩
theorem ag2 {fuel:Nat}{cs:List Value}{x:DataW H × List MemPlace}(h:DataW.trod enc Tryz.prog w base spare held fuel 147 cs=some x) :
  ∃ o:Vf.Ins,(bP o.op∧bP o.a∧bP o.n)∧cs=[.int .i64 o.op,.int .i64 o.a,.int .i64 o.n]:=by
 obtain⟨xs,n,rfl,_,hl,hxl,hf⟩:=DataW.trod_struct Tryz.underlying147 h;rw[VB] at hl;obtain⟨a,b,c,rfl⟩:=three hl;obtain⟨x0,h0⟩:∃ x,DataW.trod enc Tryz.prog w base spare held n 3 (([a,b,c].drop 0).take (Tryz.prog.cellsOf 3))=some x:=lH hxl hf 0 _ rfl;obtain⟨x1,h1⟩:∃ x,DataW.trod enc Tryz.prog w base spare held n 3 (([a,b,c].drop 1).take (Tryz.prog.cellsOf 3))=some x:=lH hxl hf 1 _ rfl;obtain⟨x2,h2⟩:∃ x,DataW.trod enc Tryz.prog w base spare held n 2 (([a,b,c].drop 2).take (Tryz.prog.cellsOf 2))=some x:=lH hxl hf 2 _ rfl;simp only[tN,agU] at h0 h1 h2;obtain⟨p,p1,p2⟩:=mO h0;obtain⟨q,q1,q2⟩:=mO h1;obtain⟨r,r1,r2⟩:=agZ h2;simp at p2 q2 r2;exact⟨⟨p,q,r⟩,⟨p1,q1,r1⟩,by rw[p2,q2,r2]⟩
theorem ag3 {fuel:Nat}{cs:List Value}{x:DataW H × List MemPlace}(h:DataW.trod enc Tryz.prog w base spare held fuel 85 cs=some x) :
  ∃ (l:List Vf.Ins) (a:Option Addr) (c:Nat),cs=[.slice a l.length c]∧zn w.heap.size w l a∧l.length≤9223372036854775807∧l.length≤c:=by
 obtain⟨l,a,c,hcs,hm,hc,hall⟩:=CU (n:=3) (fun _ cs' (y:Vf.Ins)=>(bP y.op∧bP y.a∧bP y.n)∧cs'=[.int .i64 y.op,.int .i64 y.a,.int .i64 y.n]) Tryz.underlying85 VB (by decide) (fun f cs' x' _ hx'=>ag2 hx') h;refine⟨l,a,c,hcs,fun i y hy=>?_,by unfold maxLen at hm;omega,hc⟩;obtain⟨b,off,cs',f,he,hb,_,_,⟨⟨h1,h2,h3⟩,rfl⟩,hcell⟩:=hall i y hy;exact⟨h1,h2,h3,b,off,he,hb,hcell 0 (by decide),hcell 1 (by decide),hcell 2 (by decide)⟩
theorem ag4 {fuel:Nat}{cs:List Value}{x:DataW H × List MemPlace}(h:DataW.trod enc Tryz.prog w base spare held fuel 87 cs=some x) :
  ∃ u:Vf.Un,∃ al cl ac cc,gI w.heap.size w u al ac cl cc∧cs=[.int .i64 u.kind,.int .i64 u.params,.slice al u.locals.length cl,.int .i64 u.result,.int .i64 u.takes,.slice ac u.code.length cc]:=by
 obtain⟨xs,n,rfl,_,hl,hxl,hf⟩:=DataW.trod_struct Tryz.underlying87 h;rw[VC] at hl;obtain⟨a,b,c,d,e,f,rfl⟩:=six hl;obtain⟨x0,h0⟩:∃ x,DataW.trod enc Tryz.prog w base spare held n 3 (([a,b,c,d,e,f].drop 0).take (Tryz.prog.cellsOf 3))=some x:=lH hxl hf 0 _ rfl;obtain⟨x1,h1⟩:∃ x,DataW.trod enc Tryz.prog w base spare held n 3 (([a,b,c,d,e,f].drop 1).take (Tryz.prog.cellsOf 3))=some x:=lH hxl hf 1 _ rfl;obtain⟨x2,h2⟩:∃ x,DataW.trod enc Tryz.prog w base spare held n 28 (([a,b,c,d,e,f].drop 2).take (Tryz.prog.cellsOf 28))=some x:=lH hxl hf 2 _ rfl;obtain⟨x3,h3⟩:∃ x,DataW.trod enc Tryz.prog w base spare held n 3 (([a,b,c,d,e,f].drop 3).take (Tryz.prog.cellsOf 3))=some x:=lH hxl hf 3 _ rfl;obtain⟨x4,h4⟩:∃ x,DataW.trod enc Tryz.prog w base spare held n 3 (([a,b,c,d,e,f].drop 4).take (Tryz.prog.cellsOf 3))=some x:=lH hxl hf 4 _ rfl;obtain⟨x5,h5⟩:∃ x,DataW.trod enc Tryz.prog w base spare held n 85 (([a,b,c,d,e,f].drop 5).take (Tryz.prog.cellsOf 85))=some x:=lH hxl hf 5 _ rfl;simp only[tN,agV,agW] at h0 h1 h2 h3 h4 h5;obtain⟨p0,i0,e0⟩:=mO h0;obtain⟨p1,i1,e1⟩:=mO h1;obtain⟨p2,a2,c2,e2,i2,l2,k2⟩:=ag0 h2;obtain⟨p3,i3,e3⟩:=mO h3;obtain⟨p4,i4,e4⟩:=mO h4;obtain⟨p5,a5,c5,e5,i5,l5,k5⟩:=ag3 h5;simp at e0 e1 e2 e3 e4 e5;exact⟨⟨p0,p1,p2,p3,p4,p5⟩,a2,c2,a5,c5,⟨⟨i0,i1,i3,i4⟩,⟨l2,l5⟩,⟨k2,k5⟩,i2,i5⟩,by rw[e0,e1,e2,e3,e4,e5]⟩
theorem ag5 {fuel:Nat}{cs:List Value}{x:DataW H × List MemPlace}(h:DataW.trod enc Tryz.prog w base spare held fuel 25 cs=some x) :
  ∃ m:Vf.Md,∃ ab cb au cu,cs=[.slice ab m.boxes.length cb,.slice au m.units.length cu]∧aW w.heap.size w m ab au:=by
 obtain⟨xs,n,rfl,_,hl,hxl,hf⟩:=DataW.trod_struct Tryz.underlying25 h;rw[agT] at hl;obtain⟨p,q,rfl⟩:=two hl;obtain⟨x0,h0⟩:∃ x,DataW.trod enc Tryz.prog w base spare held n 22 (([p,q].drop 0).take (Tryz.prog.cellsOf 22))=some x:=lH hxl hf 0 _ rfl;obtain⟨x1,h1⟩:∃ x,DataW.trod enc Tryz.prog w base spare held n 23 (([p,q].drop 1).take (Tryz.prog.cellsOf 23))=some x:=lH hxl hf 1 _ rfl;simp only[agX,agY] at h0 h1;obtain⟨l,a,c,hcs,hm,_,hall⟩:=CU (n:=2) (fun _ cs' (y:Vf.Bx)=>(bP y.ty∧bP y.cap)∧cs'=[.int .i64 y.ty,.int .i64 y.cap]) Tryz.underlying22 Vz (by decide) (fun f cs' x' _ hx'=>ag1 hx') h0;obtain⟨l2,a2,c2,hcs2,hm2,_,ag6⟩:=CU (n:=6) (fun _ cs' (u:Vf.Un)=>∃ al cl ac cc,gI w.heap.size w u al ac cl cc∧cs'=[.int .i64 u.kind,.int .i64 u.params,.slice al u.locals.length cl,.int .i64 u.result,.int .i64 u.takes,.slice ac u.code.length cc]) Tryz.underlying23 VC (by decide) (fun f cs' x' _ hx'=>ag4 hx') h1;simp at hcs hcs2;refine⟨⟨l,l2⟩,a,c,a2,c2,by rw[hcs,hcs2],⟨by unfold maxLen at hm;omega,by unfold maxLen at hm2;omega⟩,fun i y hy=>?_,fun i y hy=>?_⟩
 ·obtain⟨b,off,cs',f,he,hb,_,_,⟨⟨h1,h2⟩,rfl⟩,hcell⟩:=hall i y hy
  exact⟨h1,h2,b,off,he,hb,hcell 0 (by decide),hcell 1 (by decide)⟩
 ·obtain⟨b,off,cs',f,he,hb,_,_,⟨al,cl,ac,cc,hu,rfl⟩,hcell⟩:=ag6 i y hy
  exact⟨b,off,al,cl,ac,cc,he,hb,hu,hcell 0 (by decide),hcell 1 (by decide),hcell 2 (by decide),hcell 3 (by decide),hcell 4 (by decide),hcell 5 (by decide)⟩
end
end Go.Proofs.YtfcpglhpolpdcaaGreatDoor
