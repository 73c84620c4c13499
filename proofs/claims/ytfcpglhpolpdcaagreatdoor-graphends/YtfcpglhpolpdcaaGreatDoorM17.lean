/- The walk of Run: WHAT RUNNING A TASK LEAVES. -/
import Derived.Test.YtfcpglhpolpdcaaGreatDoorM16
import Derived.Test.YtfcpglhpolpdcaaGreatDoorChecked
import Derived.WalkKit
import Derived.WalkSpells
import Derived.WalkLawsBesides
import Derived.Deep.QuietTactic
import Derived.BigQuiet
import Derived.Deep.RegionHeld3
import Derived.Laws.AppendOwnNone
set_option maxRecDepth 100000
set_option maxHeartbeats 2000000
namespace Go.Proofs.YtfcpglhpolpdcaaGreatDoor.Vw
open Go.RowKit Vf Vm
structure Oi {β:Type} (X:gN β) (c:Cx) (I:Nat→Tk→β→Prop):Prop where
 at':∀ n t x,I n t x→t.over=0→∃ f rs u i,nu c t f rs u i
 step:∀ n t x,n≤1000000→(∀ (j:Nat) h,t.ae[j]?=some h→h.ws.length≤400)→I n t x→(stat X c.m t x).1=1→∃ f rs u i,jN X c t x f rs u i∧I (n+1) (one X c.m t x).1 (one X c.m t x).2
theorem YG {β:Type}{X:gN β}{c:Cx}{t:Tk}{x:β}{f:Wk}{rs:List Wk}{u:Un}{i:Ins}(h:jN X c t x f rs u i):t.frame=f∧t.ins c.m=i:=by
 have e:t.frame=f:=by simp[Tk.frame,h.fs]
 exact⟨e,by simp[Tk.ins,e,mf h.un,h.code]⟩
section
variable {β:Type} (E:Env β) (X:gN β) (c:Cx) (vB:Value) (N:Nat) (af:Array Value) (hN:Hid (jl E c N af)) (hX:Hid (mq E X c vB)) (I:Nat→Tk→β→Prop) (hI:Hid (Oi X c I)) (o T:Nat)
include hN hX hI
def Hr (L:av)(w:World)(n0 most:Nat)(t:Tk)(x:β)(k:Nat)(wr:World):Prop :=
 k≤most∧∃ t' x',aS E c vB (.func (.func N) #[] af) o T L w wr t' x'∧I (n0+k) t' x'∧go X c.m most t x=((go X c.m (most - k) t' x').1+k,(go X c.m (most - k) t' x').2)
theorem YH (L:av)(P:Nat→Nat)(w:World)(t:Tk)(x:β)(vR vO:Value)(H:Hid (St E c vB (.func (.func N) #[] af) o T L P w t x vR vO))(n0 most:Nat)(hm:n0+most≤1000000)(h0:Hid (I n0 t x)) :
  Calls Tryz.prog 62 #[.pointer (some ⟨T,0,none⟩),.int .i64 most] w fun e w'=>e=.returned (.int .i64 (go X c.m most t x).1)∧aS E c vB (.func (.func N) #[] af) o T L w w' (go X c.m most t x).2.1 (go X c.m most t x).2.2∧I (n0+(go X c.m most t x).1) (go X c.m most t x).2.1 (go X c.m most t x).2.2:=by
 obtain⟨R,hR⟩:∃ R,R=go X c.m most t x:=⟨_,rfl⟩;have Ht:=Sb.hide hm;have hm2:most≤1000000:=by omega
 clear hm;rw[← hR];have HR:=Sb.hide hR;have HST:Hid (Hr E X c vB N af I o T L w n0 most t x 0 w):=⟨Nat.zero_le _,t,x,aS.refl H.out,h0.out,by simp⟩;clear hR;go_enter Tryz.func62,Tryz.ntmps62
 go_wp2
 go_loopw [5] (fun s wr=>∃ k:Nat,s=.int .i64 k∧Hr E X c vB N af I o T L w n0 most t x k wr) (fun s _=>most - (intOf s).toNat)
 case atStart=>exact⟨0,rfl,HST.out⟩
 case round =>
  obtain⟨k,rfl,hk,t',x',hW,Oj,hgo⟩:=hrel;have uA:=Sb.hide hgo;have Dz:=Sb.hide Oj;have HW0:=Sb.hide hW;clear hgo Oj hW HST;by_cases hlt:k<most
  ·obtain⟨L1,P1,Hu,Hw,s1,q1,k1⟩:=HW0.out
   have S1:=Sb.hide s1;have E1:=Sb.hide q1;have C1:=Sb.hide k1;have YI:(k:Int)<(most:Int):=by omega
   have HAT:Hid (t'.over=0→∃ f rs u i,nu c t' f rs u i):=hI.out.at' _ _ _ Dz.out;clear s1 q1 k1;by_cases hst:(stat X c.m t' x').1=1
   ·have HS:=Sb.hide hst
    clear hst;go_wp2_with fail
    refine (Dy E X c vB _ o T L1 P1 _ t' x' Hu Hw S1 hX HAT true (Sb.hide (by rw[HS.out];rfl))).mono ?_;rintro e w2 ⟨rfl,hb2⟩;have HB2:=Sb.hide hb2;obtain⟨f,rs,u,i,Ad,hI2⟩:=hI.out.step _ _ _ (by have:=Ht.out;omega) (fun j h hh=>by
     obtain⟨S,g,r,vU,hT⟩:=S1.out.tk.ae j h hh;exact Nat.le_trans hT.stack.2.2.1 hT.stack.2.2.2.1) Dz.out HS.out
    have Ae:=Sb.hide Ad;obtain⟨ef,ei⟩:=YG Ad;have Ol:=Sb.hide ei;have Om:=Sb.hide ef;have HI2:=Sb.hide hI2;clear hb2 Ad ef ei hI2;go_wp2_with fail
    refine (Dx E X c vB N af hN o T L1 P1 _ t' x' Hu Hw (Sb.hide (S1.out.below HB2.out)) hX f rs u i Ae).mono ?_;rintro e w3 ⟨rfl,hW3⟩;have jK:Hid (Hr E X c vB N af I o T L w n0 most t x (k+1) w3):=by
     refine⟨hlt,(one X c.m t' x').1,(one X c.m t' x').2,?_,HI2.out,?_⟩
     ·have e1:(one X c.m t' x').1=(t'.goto (f.pc+1)).act c.m i (X.head x' i.a.toNat):=by unfold one Tk.step;rw[Om.out,Ol.out]
      have e2:(one X c.m t' x').2=ou X i (t'.goto (f.pc+1)).last x':=by unfold one;rw[Om.out,Ol.out]
      rw[e1,e2];exact (hW3.under HB2.out).trans E1.out C1.out
     ·rw[uA.out]
      have e3:most - k=(most - (k+1))+1:=by omega
      rw[e3];show ((if (stat X c.m t' x').1=1 then _ else _:Nat × Tk × β).1+k,(if (stat X c.m t' x').1=1 then _ else _:Nat × Tk × β).2)=_
      rw[if_pos HS.out];simp only[Prod.mk.injEq,and_true];omega
    clear hW3;go_wp2
    go_roundw
    case rel=>exact⟨k+1,by go_num,jK.out⟩
    case measure=>simp[intOf];omega
   ·have HS:=Sb.hide hst
    clear hst;have qz:Hid (R=(k,t',x')):=by
     unfold Hid;rw[HR.out,uA.out];have e3:most - k=(most - (k+1))+1:=by omega
     rw[e3];show ((if (stat X c.m t' x').1=1 then _ else _:Nat × Tk × β).1+k,(if (stat X c.m t' x').1=1 then _ else _:Nat × Tk × β).2)=_
     rw[if_neg HS.out];simp
    go_wp2_with fail
    refine (Dy E X c vB _ o T L1 P1 _ t' x' Hu Hw S1 hX HAT false (Sb.hide (by have:=HS.out;simpa using this))).mono ?_;rintro e w2 ⟨rfl,hb2⟩;have HB2:=Sb.hide hb2;clear hb2;go_wp2
    go_ret
    rw[qz.out];exact⟨rfl,((aS.refl (S1.out.below HB2.out)).under HB2.out).trans E1.out C1.out,Dz.out⟩
  ·have qz:Hid (R=(k,t',x')):=by
    unfold Hid;rw[HR.out,uA.out,show most - k=0 by omega];simp[go]
   have YI:¬ (k:Int)<(most:Int):=by omega
   go_wp2
   go_ret
   rw[qz.out];exact⟨rfl,HW0.out,Dz.out⟩
end
theorem nobody (e:Ev)(w:World):Calls Tryz.prog 100 (#[Ns e]++#[]) w fun r w'=>r=.returned (.tuple #[])∧Below w.heap.size w w':=by
 go_enter Tryz.func100,Tryz.ntmps100
 go_wp2
 go_end0
 exact⟨rfl,(Below.refl _ w).alloc (Nat.le_refl _) _⟩
theorem made {c:Cx}{L1:av}{o:Nat}{w1:World}{Hn:Nat}{h:Th}{S g r:Nat}{vU:Value}(H:aD c L1 o 0 (fun _=>Hn) w1 h S g r vU)(hL:bF c.B L1 w1)(hth:∀ b,(L1 b).cls=1→(L1 b).idx=o→(L1 b).th≤1)(vB ev:Value) :
  ∃ L',dN c vB ev L' o (w1.heap.size+1) (fun _=>Hn) (((w1.setCell ⟨Hn,2,none⟩ (.int .i64 2)).alloc (.cells #[.pointer (some ⟨Hn,0,none⟩)] 161)).alloc (fG c vB ev (.slice (some ⟨w1.heap.size,0,none⟩) 1 1) Hn (.slice none 0 0) 0 0)) ⟨[{ h with stands:=2 }],0,[],0,0,[]⟩ (.slice (some ⟨w1.heap.size,0,none⟩) 1 1) (.slice none 0 0) ∧
   bF c.B L' (((w1.setCell ⟨Hn,2,none⟩ (.int .i64 2)).alloc (.cells #[.pointer (some ⟨Hn,0,none⟩)] 161)).alloc (fG c vB ev (.slice (some ⟨w1.heap.size,0,none⟩) 1 1) Hn (.slice none 0 0) 0 0))∧iI o L1 L' w1:=by
 obtain⟨L2,S2,g2,r2,qA,jk,hE2,hL2,hC2⟩:=H.stood hL 2;obtain⟨w2,hw2⟩:∃ w2,w2=w1.setCell ⟨Hn,2,none⟩ (.int .i64 2):=⟨_,rfl⟩;have hz2:w2.heap.size=w1.heap.size:=by rw[hw2];simp[World.setCell]
 change aD c L2 o 0 (fun _=>Hn) (w1.setCell ⟨Hn,2,none⟩ (.int .i64 2)) _ _ _ _ _ at jk
 change bF c.B L2 (w1.setCell ⟨Hn,2,none⟩ (.int .i64 2)) at hL2
 clear hC2;rw[← hw2] at jk hL2 ⊢;rw[← hz2];have old:∀ b,b<w2.heap.size→((w2.alloc (.cells #[.pointer (some ⟨Hn,0,none⟩)] 161)).alloc (fG c vB ev (.slice (some ⟨w2.heap.size,0,none⟩) 1 1) Hn (.slice none 0 0) 0 0)).heap[b]?=w2.heap[b]?:=fun b hb=>(Below.heap_alloc _ _ _ (by simp;omega)).trans (Below.heap_alloc _ _ _ hb);have lab:∀ b,b<w2.heap.size→(fun b=>if b=w2.heap.size+1 then (⟨1,o,0,4⟩:Lb) else if b=w2.heap.size then ⟨1,o,0,5⟩ else L2 b) b=L2 b:=fun b hb=>by
  have e1:¬ b=w2.heap.size+1:=by omega
  have e2:¬ b=w2.heap.size:=by omega
  simp only[e1,e2,if_false]
 have hR:((w2.alloc (.cells #[.pointer (some ⟨Hn,0,none⟩)] 161)).alloc (fG c vB ev (.slice (some ⟨w2.heap.size,0,none⟩) 1 1) Hn (.slice none 0 0) 0 0)).heap[w2.heap.size]?=some (.cells #[.pointer (some ⟨Hn,0,none⟩)] 161):=(Below.heap_alloc _ _ _ (by simp)).trans (heap_alloc_new w2 _);have hT:((w2.alloc (.cells #[.pointer (some ⟨Hn,0,none⟩)] 161)).alloc (fG c vB ev (.slice (some ⟨w2.heap.size,0,none⟩) 1 1) Hn (.slice none 0 0) 0 0)).heap[w2.heap.size+1]?=some (fG c vB ev (.slice (some ⟨w2.heap.size,0,none⟩) 1 1) Hn (.slice none 0 0) 0 0):=by
  have:=heap_alloc_new (w2.alloc (.cells #[.pointer (some ⟨Hn,0,none⟩)] 161)) (fG c vB ev (.slice (some ⟨w2.heap.size,0,none⟩) 1 1) Hn (.slice none 0 0) 0 0);simpa using this
 refine⟨fun b=>if b=w2.heap.size+1 then ⟨1,o,0,4⟩ else if b=w2.heap.size then ⟨1,o,0,5⟩ else L2 b,⟨hT,⟨rfl,.inr ⟨w2.heap.size,1,#[.pointer (some ⟨Hn,0,none⟩)],rfl,Nat.zero_le _,hR,Nat.le_refl _,by unfold maxLen;omega,rfl,rfl⟩⟩,⟨rfl,.inl ⟨rfl,rfl⟩⟩,fun i h' hh=>?_,(by show 1≤31;omega),(by show 0<1;omega),by simp,fun b hb=>(by cases hb;simp),fun b hb=>(by cases hb),fun b h1 h2=>?_⟩,⟨fun b hb=>?_,fun b hb=>?_,by have:=hL2.size;simp;omega⟩,⟨fun b hb=>(lab b (by omega)).trans (hE2.1 b hb),fun b=>?_⟩⟩
 ·cases i with
  | zero =>
   cases hh;exact⟨S2,g2,r2,qA,jk.keep lab rfl rfl (fun b hb _=>old b hb)⟩
  | succ i=>cases hh
 ·show _≤1
  by_cases e1:b=w2.heap.size+1
  ·simp only[e1,if_true];omega
  ·by_cases e2:b=w2.heap.size
   ·simp only[e2,if_true];simp
   ·simp only[e1,e2,if_false] at h1 h2 ⊢
    rcases hE2.2 b with e | e
    ·rw[e] at h1 h2 ⊢;exact hth b h1 h2
    ·omega
 ·exact (congrArg Lb.cls (lab b (by have:=hL2.size;omega))).trans (hL2.low b hb)
 ·have hb':w2.heap.size+2≤b:=by simpa using hb
  have e1:¬ b=w2.heap.size+1:=by omega
  have e2:¬ b=w2.heap.size:=by omega
  simp only[e1,e2,if_false];exact hL2.new b (by omega)
 ·by_cases e1:b=w2.heap.size+1
  ·right;left;simp[e1]
  ·by_cases e2:b=w2.heap.size
   ·right;left;simp[e2]
   ·unfold WB EB
    simp only[e1,e2,if_false];rcases hE2.2 b with e | e
    ·exact .inl e
    ·exact .inr (.inl ⟨e.1,e.2.1⟩)
theorem YJ (c:Cx)(L:av)(o:Nat)(w:World)(hL:Hid (bF c.B L w))(hcx:Hid (kR c w))(hfr:Hid (∀ b,¬ ((L b).cls=1∧(L b).idx=o)))(ab:Option Addr)(cb:Nat)(sa:Option Addr)(sn sc n:Nat)(u:Un)(hu:Hid (c.m.units[n]?=some u))(hp:u.params=0)(hl2:u.locals.length≤200) :
  Calls Tryz.prog 59 #[.agg #[.slice ab c.m.boxes.length cb,.slice c.au c.m.units.length c.cu],.int .i64 n,.slice sa sn sc] w fun e w'=>∃ T L' P vR vO,e=.returned (.pointer (some ⟨T,0,none⟩))∧dN c (.slice sa sn sc) (.func (.func 100) #[] #[]) L' o T P w' (zw u n) vR vO∧bF c.B L' w'∧iI o L L' w∧Below w.heap.size w w':=by
 have rQ:∀ (fn:Fn) (first cap:Array Value) (w:World),(Instr.makeFunc fn first cap).run Tryz.prog w=.ok (.func fn first cap) w:=fun _ _ _ _=>rfl;obtain⟨ub,kW,al,cl,ng,hub,_,u0,u1,u2,u3,u4,u5⟩:=hcx.out.units n u hu.out;have hnl:n<c.m.units.length:=(List.getElem?_eq_some_iff.1 hu.out).1;have dx:=hcx.out.few;obtain⟨ml,kz⟩:∃ m,m=c.m.units.length:=⟨_,rfl⟩;have mr:=Sb.hide ng;rw[ng,← kz];rw[← kz] at hnl dx;have n0:(0:Int)≤(n:Int):=by omega
 have n1:(n:Int)<(ml:Int):=by omega
 have xE:=Sb.hide kz;have Ho:ub<w.heap.size:=by have:=hL.out.size;omega
 have hne:¬ w.heap.size=ub:=by omega
 have hne2:¬ ub=w.heap.size:=by omega
 have HP:=Sb.hide hp;have HX0:Hid ((w.alloc (.cells #[.slice ab c.m.boxes.length cb,.slice (some ⟨ub,kW,none⟩) ml c.cu] 25)).heap[w.heap.size]?=some (.cells #[.slice ab c.m.boxes.length cb,.slice (some ⟨ub,kW,none⟩) ml c.cu] 25)):=heap_alloc_new w _;clear kz ng hp;go_enter Tryz.func59,Tryz.ntmps59
 go_wp2_with fail
 refine (Nk c L o 0 _ (Sb.hide (hL.out.on (by simp))) (Sb.hide (fun b hx=>hfr.out b ⟨hx.1,hx.2.1⟩)) n u hu al cl (by rw[HP.out];decide) (by rw[HP.out];omega) hl2 [] (by rw[HP.out];rfl) none 0 (Sb.hide (fun j x h=>by cases h))).mono ?_;rintro e w1 ⟨Hn,L1,rfl,qE,hth,hE1,hL1,hB1⟩;obtain⟨S,g,r,vU,hT⟩:=hth (fun _=>Hn) rfl;obtain⟨t0,t1,t2,t3⟩:=hT.cells;have fr:=hT.free 2;have jo:Hid (w1.heap[w.heap.size]?=some (.cells #[.slice ab c.m.boxes.length cb,.slice (some ⟨ub,kW,none⟩) ml c.cu] 25)):=(hB1.block _ (by simp)).trans HX0.out;have m1:w1.cell? ⟨w.heap.size,1,none⟩=some (.slice (some ⟨ub,kW,none⟩) ml c.cu):=by simp[World.cell?,jo.out]
 have hHn:¬ w.heap.size=Hn:=by simp at qE;omega
 have HT:=Sb.hide hT;have bC:=Sb.hide hE1;have bW:=Sb.hide hL1;have HB1:=Sb.hide hB1;have YK:=Sb.hide qE;have hHw:Hn<w1.heap.size:=lt_of_block hT.blk;clear hth hT hE1 hL1 hB1 qE;go_wp2
 go_ret
 obtain⟨L',k1,k2,k3⟩:=made HT.out bW.out (fun b h1 h2=>by
  rcases bC.out.2 b with e | e
  ·rw[e] at h1 h2;exact absurd ⟨h1,h2⟩ (hfr.out b)
  ·omega) (.slice sa sn sc) (.func (.func 100) #[] #[])
 have qE:=YK.out;have Hy:=HB1.out.size;simp at qE Hy;have hB0:Below w.heap.size w w1:=((Below.refl _ w).alloc (Nat.le_refl _) _).trans (HB1.out.mono (by simp));unfold fG at k1 k2;rw[mr.out,← xE.out] at k1 k2;refine⟨w1.heap.size+1,L',fun _=>Hn,_,_,rfl,k1,k2,?_,?_⟩
 ·have YL:iI o L L1 w:=⟨fun b hb=>bC.out.1 b (by simp;omega),fun b=>(bC.out.2 b).imp id (fun e=>.inl ⟨e.1,e.2.1⟩)⟩
  exact YL.trans k3 hB0.size
 ·exact ((hB0.setCell (p:=⟨Hn,2,none⟩) (by show w.heap.size≤Hn;omega) _).alloc (by simp[World.setCell];omega) _).alloc (by simp[World.setCell];omega) _
end Go.Proofs.YtfcpglhpolpdcaaGreatDoor.Vw
namespace Go.Proofs.YtfcpglhpolpdcaaGreatDoor.Mb
open Go.RowKit
theorem Tryz.qp:(Tryz.prog.info? 2).map (fun i=>(i.zero,i.size,i.bytes))=some (some (.int .i64 0),1,8):=by kernel_rfl
theorem hide {p:Prop}(h:p):Hid p:=h
abbrev uB (g n f c:Nat):Obj:=.cells #[.slice (some ⟨g,0,none⟩) n n,.int .i64 f,.int .i64 c] 153 (0,0)
abbrev ints (l:List Int):List Value:=l.map (.int .i64)
def RK (w:World)(g:Nat)(ws:List Int)(f n:Nat):Prop:=∃ cs:List Value,w.heap[g]?=some (.cells cs.toArray 2 (0,0))∧cs.length=n∧∀ i x,ws[i]?=some x→cs[(f+i) % n]?=some (.int .i64 x)
structure BX (w:World) (S g:Nat) (ws:List Int) (f n:Nat):Prop where
 blk:w.heap[S]?=some (uB g n f ws.length)
 row:RK w g ws f n
 few:ws.length≤n
 at':f<n
 most:n≤20
theorem BX.cells {w:World}{S g:Nat}{ws:List Int}{f n:Nat}(h:BX w S g ws f n) :
  w.cell? ⟨S,0,none⟩=some (.slice (some ⟨g,0,none⟩) n n)∧w.cell? ⟨S,1,none⟩=some (.int .i64 f)∧w.cell? ⟨S,2,none⟩=some (.int .i64 ws.length):=by
 have h:=h.blk;simp[World.cell?,h]
theorem BX.free {w:World}{S g:Nat}{ws:List Int}{f n:Nat}(h:BX w S g ws f n):w.frozen? ⟨S,1,none⟩=false∧w.frozen? ⟨S,2,none⟩=false:=by
 have h:=h.blk;simp[World.frozen?,h]
theorem BX.ne {w:World}{S g:Nat}{ws:List Int}{f n:Nat}(h:BX w S g ws f n):S≠g:=by
 rintro rfl;obtain⟨cs,hc,_⟩:=h.row;have h1:=h.blk;rw[hc] at h1;simp at h1
theorem BX.drewN {w:World}{S g:Nat}{ws:List Int}{f n:Nat}(h:BX w S g ws f n)(d:Nat):BX (w.drewN d) S g ws f n:=⟨h.blk,h.row,h.few,h.at',h.most⟩
theorem BX.drew {w:World}{S g:Nat}{ws:List Int}{f n:Nat}(h:BX w S g ws f n):BX w.drew S g ws f n:=⟨h.blk,h.row,h.few,h.at',h.most⟩
theorem RK.far {w w':World}{g:Nat}{ws:List Int}{f n:Nat}(e:w'.heap[g]?=w.heap[g]?)(h:RK w g ws f n):RK w' g ws f n:=by
 obtain⟨cs,hc,hr⟩:=h;exact⟨cs,e.trans hc,hr⟩
theorem BX.alloc {w:World}{S g:Nat}{ws:List Int}{f n:Nat}(h:BX w S g ws f n)(o:Obj):BX (w.alloc o) S g ws f n:=by
 obtain⟨cs,hc,hr⟩:=h.row;exact⟨(Below.heap_alloc _ _ _ (lt_of_block h.blk)).trans h.blk,⟨cs,(Below.heap_alloc _ _ _ (lt_of_block hc)).trans hc,hr⟩,h.few,h.at',h.most⟩
theorem RK.at {w:World}{g:Nat}{ws:List Int}{f n:Nat}(h:RK w g ws f n)(j:Nat)(hj:j<n):∃ v,w.cell? ⟨g,j,none⟩=some v∧w.frozen? ⟨g,j,none⟩=false:=by
 obtain⟨cs,hc,hl,_⟩:=h;obtain⟨v,hv⟩:∃ v,cs[j]?=some v:=⟨_,List.getElem?_eq_getElem (by omega)⟩;exact⟨v,by simp[World.cell?,hc,hv],by simp[World.frozen?,hc]⟩
theorem RK.word {w:World}{g:Nat}{ws:List Int}{f n:Nat}(h:RK w g ws f n){i:Nat}{x:Int}(hx:ws[i]?=some x):w.cell? ⟨g,(f+i) % n,none⟩=some (.int .i64 x):=by
 obtain⟨cs,hc,_,hl⟩:=h;simp[World.cell?,hc,hl i x hx]
theorem wY {w:World}{g:Nat}{cs:List Value}{t:TypeId}(h:w.heap[g]?=some (.cells cs.toArray t (0,0)))(j:Nat)(v:Value):(w.setCell ⟨g,j,none⟩ v).heap[g]?=some (.cells (cs.set j v).toArray t (0,0)):=by
 simp only[World.setCell,Array.getElem?_modify,if_true,h,Option.map_some,List.setIfInBounds_toArray];rfl
theorem YM {f i c n:Nat}(hf:f<n)(hi:i<c)(hc:c<n):(f+i) % n≠(f+c) % n:=by
 by_cases h1:f+i<n
 ·rw[Nat.mod_eq_of_lt h1]
  by_cases h2:f+c<n
  ·rw[Nat.mod_eq_of_lt h2];omega
  ·rw[Nat.mod_eq_sub_mod (by omega),Nat.mod_eq_of_lt (by omega)];omega
 ·rw[Nat.mod_eq_sub_mod (by omega),Nat.mod_eq_of_lt (by omega)]
  rw[Nat.mod_eq_sub_mod (by omega),Nat.mod_eq_of_lt (by omega)];omega
theorem RK.put {w:World}{g:Nat}{ws:List Int}{f n:Nat}(h:RK w g ws f n)(hf:f<n)(hc:ws.length<n)(v:Int):RK (w.setCell ⟨g,(f+ws.length) % n,none⟩ (.int .i64 v)) g (ws++[v]) f n:=by
 obtain⟨cs,hc1,hl,ht⟩:=h;refine⟨_,wY hc1 _ _,by simpa using hl,fun i x hx=>?_⟩;by_cases hi:i<ws.length
 ·rw[List.getElem?_append_left hi] at hx
  rw[List.getElem?_set_ne (fun e=>YM hf hi hc e.symm)];exact ht i x hx
 ·have hi2:i=ws.length:=by
   have:=(List.getElem?_eq_some_iff.1 hx).1;simp at this;omega
  subst hi2;simp at hx;subst hx;rw[List.getElem?_set_self (by rw[hl];exact Nat.mod_lt _ (by omega))]
theorem RK.take {w:World}{g:Nat}{ws:List Int}{f n:Nat}(h:RK w g ws f n):RK w g ws.tail ((f+1) % n) n:=by
 obtain⟨cs,hc,hl,ht⟩:=h;refine⟨cs,hc,hl,fun i x hx=>?_⟩;have:=ht (i+1) x (by simpa using hx);rw[Nat.mod_add_mod,show f+1+i=f+(i+1) by omega];exact this
structure Mv (w w':World) (S g:Nat):Prop where
 os:w'.os=w.os
 tape:w'.tape=w.tape
 output:w'.output=w.output
 size:w.heap.size≤w'.heap.size
 block:∀ k,k<w.heap.size→k≠S→k≠g→w'.heap[k]?=w.heap[k]?
theorem Mv.refl (w:World)(S g:Nat):Mv w w S g:=⟨rfl,rfl,rfl,Nat.le_refl _,fun _ _ _ _=>rfl⟩
theorem Mv.drew {w w':World}{S g:Nat}(h:Mv w w' S g):Mv w w'.drew S g:=⟨h.os,h.tape,h.output,h.size,h.block⟩
theorem Mv.drewN {w w':World}{S g:Nat}(h:Mv w w' S g)(n:Nat):Mv w (w'.drewN n) S g:=⟨h.os,h.tape,h.output,h.size,h.block⟩
theorem Mv.set {w w':World}{S g:Nat}(h:Mv w w' S g){a:Addr}(ha:a.block=S∨a.block=g∨w.heap.size≤a.block)(u:Value):Mv w (w'.setCell a u) S g :=
 ⟨h.os,h.tape,h.output,by simpa[World.setCell] using h.size,fun k hk h1 h2=>(Below.heap_setCell _ _ _ _ (by omega)).trans (h.block k hk h1 h2)⟩
theorem Mv.alloc {w w':World}{S g:Nat}(h:Mv w w' S g)(o:Obj):Mv w (w'.alloc o) S g :=
 ⟨h.os,h.tape,h.output,by have:=h.size;simp;omega,fun k hk h1 h2=>(Below.heap_alloc _ _ _ (by have:=h.size;omega)).trans (h.block k hk h1 h2)⟩
theorem YN {w:World}{S g n f c f':Nat}(h:w.heap[S]?=some (uB g n f c)){v:Int}(hv:v=f'):(w.setCell ⟨S,1,none⟩ (.int .i64 v)).heap[S]?=some (uB g n f' c):=by
 subst hv;simp only[World.setCell,Array.getElem?_modify,if_true,h,Option.map_some];rfl
theorem Oo {w:World}{S g n f c c':Nat}(h:w.heap[S]?=some (uB g n f c)){v:Int}(hv:v=c'):(w.setCell ⟨S,2,none⟩ (.int .i64 v)).heap[S]?=some (uB g n f c'):=by
 subst hv;simp only[World.setCell,Array.getElem?_modify,if_true,h,Option.map_some];rfl
theorem Hz (S g:Nat)(ws:List Int)(f n i:Nat)(w:World)(h:Hid (BX w S g ws f n))(hi:i≤20)(r:Nat)(hr:Hid (r=(f+i) % n)) :
  Calls Tryz.prog 65 #[.pointer (some ⟨S,0,none⟩),.int .i64 i] w fun e w'=>e=.returned (.int .i64 r)∧∃ d,w'=w.drewN d:=by
 obtain⟨c0,c1,c2⟩:=h.out.cells;have h1:=h.out.at';have h2:=h.out.most;go_enter Tryz.func65,Tryz.ntmps65
 go_wp2
 go_quiet (fail)
 go_wp2
 go_ret
 exact⟨by rw[hr.out];rfl,_,rfl⟩
theorem Oq (S g:Nat)(ws:List Int)(f n:Nat)(w:World)(h:Hid (BX w S g ws f n))(b:Bool)(hb:Hid (b=decide (ws.length=n))) :
  Calls Tryz.prog 249 #[.pointer (some ⟨S,0,none⟩)] w fun e w'=>e=.returned (.bool b)∧∃ d,w'=w.drewN d:=by
 obtain⟨c0,c1,c2⟩:=h.out.cells;have e1:((ws.length:Int)==(n:Int))=b:=by rw[hb.out,Bool.eq_iff_iff];simp;omega
 go_enter Tryz.func249,Tryz.ntmps249
 go_wp2
 go_quiet (fail)
 go_wp2
 go_ret
 exact⟨rfl,_,rfl⟩
theorem Ot (S g:Nat)(ws:List Int)(f n:Nat)(w:World)(h:Hid (BX w S g ws f n))(b:Bool)(hb:Hid (b=decide (ws.length=0))) :
  Calls Tryz.prog 248 #[.pointer (some ⟨S,0,none⟩)] w fun e w'=>e=.returned (.bool b)∧w'=w:=by
 obtain⟨c0,c1,c2⟩:=h.out.cells;have e1:((ws.length:Int)==0)=b:=by rw[hb.out,Bool.eq_iff_iff];simp
 go_enter Tryz.func248,Tryz.ntmps248
 go_wp2
 go_ret
 exact⟨rfl,rfl⟩
theorem YO (S g:Nat)(ws:List Int)(f n:Nat)(v:Int)(w:World)(h:Hid (BX w S g ws f n))(hf:ws.length<n) :
  Calls Tryz.prog 250 #[.pointer (some ⟨S,0,none⟩),.int .i64 v] w fun e w'=>e=.returned (.tuple #[])∧BX w' S g (ws++[v]) f n∧Mv w w' S g:=by
 obtain⟨c0,c1,c2⟩:=h.out.cells;obtain⟨f1,f2⟩:=h.out.free;have hne:¬ g=S:=fun e=>h.out.ne e.symm;have h1:=h.out.at';have h2:=h.out.most;obtain⟨r,hr⟩:∃ r,r=(f+ws.length) % n:=⟨_,rfl⟩;have hrn:r<n:=by rw[hr];exact Nat.mod_lt _ (by omega)
 obtain⟨u,cu,fu⟩:=h.out.row.at r hrn;have HR:=hide hr;clear hr;have n0:(0:Int)≤(r:Int):=by omega
 have n1:(r:Int)<(n:Int):=by omega
 go_enter Tryz.func250,Tryz.ntmps250
 go_wp2_with fail
 refine (Oq S g ws f n _ h false (hide (by simp;omega))).mono ?_;rintro e w' ⟨rfl,d,rfl⟩;go_wp2
 go_region_held3 (fun w'=>w'.cell? ⟨S,0,none⟩=some (.slice (some ⟨g,0,none⟩) n n)∧w'.cell? ⟨S,2,none⟩=some (.int .i64 ws.length)) (go_keep) ((go_at_call 65;refine (Hz S g ws f n ws.length _ (hide (h.out.drewN _)) (by omega) r HR).mono ?_;rintro e w' ⟨rfl,d,rfl⟩))
 go_wp2
 go_end0
 refine⟨rfl,⟨?_,?_,by simp;omega,h1,h2⟩,(((Mv.refl w S g).set (.inr (.inl rfl)) _).set (.inl rfl) _).drewN _⟩
 ·rw[List.length_append];exact Oo ((Below.heap_setCell _ _ _ _ (fun e=>hne e.symm)).trans h.out.blk) (by go_num)
 ·have hp:=h.out.row.put h1 hf v
  rw[← HR.out] at hp;exact RK.far (Below.heap_setCell _ ⟨S,2,none⟩ _ _ hne) hp
theorem YP (S g:Nat)(ws:List Int)(x:Int)(f n:Nat)(w:World)(h:Hid (BX w S g ws f n))(hx:Hid (ws[0]?=some x)) :
  Calls Tryz.prog 251 #[.pointer (some ⟨S,0,none⟩)] w fun e w'=>e=.returned (.int .i64 x)∧BX w' S g ws.tail ((f+1) % n) n∧Mv w w' S g:=by
 obtain⟨c0,c1,c2⟩:=h.out.cells;obtain⟨f1,f2⟩:=h.out.free;have hne:¬ g=S:=fun e=>h.out.ne e.symm;have h1:=h.out.at';have h2:=h.out.most;have hl:0<ws.length:=(List.getElem?_eq_some_iff.1 hx.out).1;obtain⟨r,hr⟩:∃ r,r=(f+1) % n:=⟨_,rfl⟩;have hrn:r<n:=by rw[hr];exact Nat.mod_lt _ (by omega)
 have cx:=h.out.row.word hx.out;rw[Nat.add_zero,Nat.mod_eq_of_lt h1] at cx;have HR:=hide hr;clear hr;have n0:(0:Int)≤(f:Int):=by omega
 have n1:(f:Int)<(n:Int):=by omega
 have hln:=h.out.few;go_enter Tryz.func251,Tryz.ntmps251
 go_wp2_with fail
 refine (Ot S g ws f n _ h false (hide (by simp;intro e;rw[e] at hl;simp at hl))).mono ?_;rintro e w' ⟨rfl,rfl⟩;go_wp2
 go_quiet (fail)
 go_wp2_with fail
 refine (Hz S g ws f n 1 _ (hide (h.out.drewN _)) (by omega) r HR).mono ?_;rintro e w' ⟨rfl,d,rfl⟩;go_wp2
 go_ret
 refine⟨rfl,⟨?_,?_,by simp;omega,Nat.mod_lt _ (by omega),h2⟩,(((Mv.refl _ S g).set (.inl rfl) _).set (.inl rfl) _).drewN _⟩
 ·rw[List.length_tail];exact Oo (YN h.out.blk (by rw[HR.out])) (by go_num)
 ·exact RK.far ((Below.heap_setCell _ ⟨S,2,none⟩ _ _ hne).trans (Below.heap_setCell _ ⟨S,1,none⟩ _ _ hne)) h.out.row.take
end Go.Proofs.YtfcpglhpolpdcaaGreatDoor.Mb
