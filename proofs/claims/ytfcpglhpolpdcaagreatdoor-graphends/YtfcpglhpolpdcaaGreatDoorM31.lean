/- The walks of pick and follow. -/
import Derived.Test.YtfcpglhpolpdcaaGreatDoorM30
import Derived.Laws.Small
set_option maxRecDepth 100000
set_option maxHeartbeats 2000000
namespace Go.Proofs.YtfcpglhpolpdcaaGreatDoor.Vw
open Go.RowKit Vf Vm
theorem QM {β:Type}(X:gN β)(m:Md):∀ (n:Nat) (t:Tk) (x:β),(go X m n t x).2.1.log.length≤t.log.length+2 * (go X m n t x).1
 | 0,t,x=>Nat.le_refl _
 | n+1,t,x=>by
  by_cases h:(stat X m t x).1=1
  ·rw[x9 h]
   have ih:=QM X m n (one X m t x).1 (one X m t x).2;have h1:(one X m t x).1.log.length≤t.log.length+2:=Qw m (t.ins m) (t.goto (t.frame.pc+1)) (X.head x (t.ins m).a.toNat);dsimp only;omega
  ·rw[yc h]
   exact Nat.le_refl _
theorem WI.pick {m:Md}{K:KM}{W:Wd}(h:WI m K W){o:Nat}{t:Tk}(ht:W.ts[o]?=some t){p:Pk}(ho:p.task=o)(hr:dI m W p=0)(h2:MI m K (W.steps+(ran m W p).1) (ran m W p).2.1 (ran m W p).2.2)(hle:(ran m W p).1≤20000 - W.steps):WI m K (dC m W p):=by
 unfold dC;rw[if_pos hr];have hol:=(List.getElem?_eq_some_iff.1 ht).1;have hst:=h.steps;have hev:=h.evs;have hgl:(ran m W p).2.1.log.length≤(W.tk p.task).log.length+2 * (ran m W p).1:=QM aG m _ _ _;refine⟨fun j u hu=>?_,by show W.steps+_≤20000;omega,?_,by simpa using h.few,by
  show (W.evs++((ran m W p).2.1.log.drop (W.tk p.task).log.length).map fun e=>(p.task.toNat,e)).length≤2 * (W.steps+_)
  rw[List.length_append,List.length_map,List.length_drop];omega⟩
 ·simp only[ho,Int.toNat_natCast] at hu
  rw[List.getElem?_set] at hu;split at hu
  ·cases hu;exact h2
  ·obtain⟨a,b,c,d,e,_⟩:=h.tasks j u hu
   exact⟨a,b,by show u.out.length≤W.steps+_;omega,by show u.log.length≤2 * (W.steps+_);omega,h2.len,h2.boxes⟩
 ·show -1≤p.task∧p.task<((W.ts.set p.task.toNat _).length:Int)
  rw[ho];simp;omega
section
variable {s:Sx} {B:kE} {L L1:av} {w w1:World} {W:Wd} {vt vx:Value}
theorem dS.ran (H:dS s B L w W vt vx){o:Nat}{t t':Tk}{x':List Bq}(ht:W.ts[o]?=some t){P:Nat→Nat}{vR vO:Value}(hS:St (s.E (qR B o W.evs t.log.length)) s.c s.vb (s.ev o) o (s.T o) L1 P w1 t' x' vR vO)(hE:iI o L L1 w)(hC:aQ (WB L o) w w1)(steps:Nat)(last:Int) :
  w1.heap[s.WB]?=some (sI vt vx W.steps W.last)∧dS s B L1 ((w1.setCell ⟨s.WB,2,none⟩ (.int .i64 steps)).setCell ⟨s.WB,3,none⟩ (.int .i64 last)) ⟨W.ts.set o t',x',steps,last,W.evs++(t'.log.drop t.log.length).map fun e=>(o,e)⟩ vt vx∧Kp L w ((w1.setCell ⟨s.WB,2,none⟩ (.int .i64 steps)).setCell ⟨s.WB,3,none⟩ (.int .i64 last)):=by
 have hz:=hC.size;have fV:=lt_of_block H.blk;have c0:∀ b,b<w.heap.size→(L b).cls=0∨(L b).cls=4→w1.heap[b]?=w.heap[b]?:=fun b hb h0=>hC.block b hb (fun hx=>by unfold Vw.WB EB at hx;omega);have hblk:=(c0 _ fV (.inr H.lW)).trans H.blk;have hset:∀ b,b≠s.WB→((w1.setCell ⟨s.WB,2,none⟩ (.int .i64 steps)).setCell ⟨s.WB,3,none⟩ (.int .i64 last)).heap[b]?=w1.heap[b]?:=fun b hb=>(Below.heap_setCell _ ⟨s.WB,3,none⟩ _ _ hb).trans (Below.heap_setCell _ ⟨s.WB,2,none⟩ _ _ hb);have hsz:((w1.setCell ⟨s.WB,2,none⟩ (.int .i64 steps)).setCell ⟨s.WB,3,none⟩ (.int .i64 last)).heap.size=w1.heap.size:=by simp[World.setCell]
 have lab:∀ b,b<w.heap.size→L1 b=L b:=hE.1;have vz:∀ b,b<w1.heap.size→(L1 b).cls≠4→b≠s.WB:=fun b _ h0 e=>h0 (by rw[e,lab _ fV];exact H.lW);generalize hW2:(w1.setCell ⟨s.WB,2,none⟩ (.int .i64 steps)).setCell ⟨s.WB,3,none⟩ (.int .i64 last)=w2 at *;have hol:=(List.getElem?_eq_some_iff.1 ht).1;have QN:∀ {e n:Nat} {v:Value} {xs:List Value},w.ownsRow 0 e 1 v n xs→e≠100→(∀ b,v.ownBlock=some b→(L b).cls=0)→w2.ownsRow 0 e 1 v n xs:=fun ho he hl=>bA ho (fun b hb=>by
  have hbz:=(ho.lt b hb).2;refine (hset b (fun e2=>?_)).trans (c0 b hbz (.inl (hl b hb)));obtain⟨cur,hc⟩:=ic ho hb;rw[e2,H.blk] at hc;simp at hc;exact he hc.2.symm)
 refine⟨hblk,⟨?_,?_,?_,?_,fun b hb=>?_,fun b hb=>?_,H.low,fun j u hu=>?_,?_,?_,hS.ok.on (by omega),hS.cx.low (fun b hb=>hset b (fun e=>by have:=H.low s.WB (.inr (.inr rfl));omega))⟩,⟨?_,?_,?_,by omega,fun b hb h0=>(hset b (fun e=>by rw[e,H.lW] at h0;cases h0)).trans (c0 b hb (.inl h0))⟩⟩
 ·rw[← hW2]
  simp only[World.setCell,Array.getElem?_modify,if_true,hblk,Option.map_some];rfl
 ·rw[lab _ fV];exact H.lW
 ·have e:(W.ts.set o t').length=W.ts.length:=by simp
  show w2.ownsRow 0 _ 1 vt (W.ts.set o t').length (ptrs s.T (W.ts.set o t').length)
  rw[e];exact QN H.kZ (by decide) H.lt
 ·exact QN H.qU (by decide) H.lx
 ·rw[lab _ (H.kZ.lt b hb).2];exact H.lt b hb
 ·rw[lab _ (H.qU.lt b hb).2];exact H.lx b hb
 ·simp only at hu
  rw[List.getElem?_set] at hu;split at hu
  ·rename_i e
   subst e;cases hu;exact⟨P,vR,vO,uZ hS.tk (fun b hb h1 _=>hset b (vz b hb (by omega))) (.refl _ _) hS.tk.kv⟩
  ·rename_i e
   obtain⟨P',xq,xC,hT⟩:=H.tasks j u hu;refine⟨P',xq,xC,uZ hT (fun b hb h1 h2=>?_) (fun b hb=>lab b hb) (fun b h1 h2=>?_)⟩
   ·exact (hset b (fun e2=>by rw[e2,H.lW] at h1;cases h1)).trans (hC.block b hb (fun hx=>by unfold Vw.WB EB at hx;omega))
   ·rcases hE.2 b with e2 | e2
    ·rw[e2] at h1 h2 ⊢;exact hT.kv b h1 h2
    ·unfold Vw.WB EB at e2;omega
 ·by_cases h0:0<s.c.m.boxes.length
  ·have hr:=hS.en.1.row 0 h0
   exact hS.en.1.keep (.refl _ _) (by omega) (fun b hb hx=>hset b (vz b hb (by rcases hx with rfl | hx<;>omega)))
  ·have hx0:x'=[]:=List.eq_nil_of_length_eq_zero (by have:=hS.en.1.len;omega)
   exact⟨hS.en.1.len,fun n hn=>by omega,fun n q hq=>by rw[hx0] at hq;cases hq⟩
 ·exact B.keep hS.en.2.2 (.refl _ _) (by omega) (fun b hb hx=>hset b (vz b hb (by omega)))
 ·rw[← hW2];exact hC.os
 ·rw[← hW2];exact hC.tape
 ·rw[← hW2];exact hC.output
theorem dS.more {L0:av}{w0:World}{W0:Wd}(H0:dS s B L0 w0 W0 vt vx)(H:dS s B L w W vt vx)(F:Nat→Prop)(hF:∀ k,F k→w0.heap.size≤k∧(L k).cls=0)(hw:∀ k,k<w.heap.size→¬ F k→w1.heap[k]?=w.heap[k]?)(hz:w.heap.size≤w1.heap.size):dS s B L w1 W vt vx:=by
 have nb:∀ k,(L k).cls≠0→¬ F k:=fun k hk e=>hk (hF k e).2;have lo:∀ k,k<w0.heap.size→¬ F k:=fun k hk e=>by have:=(hF k e).1;omega
 have hrb:pq s.Q s.c.m.boxes.length s.rb 0 L w1 W.x:=by
  by_cases h0:0<s.c.m.boxes.length
  ·have hr:=H0.boxes.row 0 h0
   exact H.boxes.keep (.refl _ _) hz (fun k hk hx=>hw k hk (hx.elim (fun e=>by rw[e];exact lo _ hr.1) (fun e=>nb k (by omega))))
  ·have hx0:W.x=[]:=List.eq_nil_of_length_eq_zero (by have:=H.boxes.len;omega)
   exact⟨H.boxes.len,fun n hn=>by omega,fun n q hq=>by rw[hx0] at hq;cases hq⟩
 refine⟨(hw _ (lt_of_block H.blk) (nb _ (by rw[H.lW];decide))).trans H.blk,H.lW,bA H.kZ (fun k hk=>hw k (H.kZ.lt k hk).2 (lo k (H0.kZ.lt k hk).2)),bA H.qU (fun k hk=>hw k (H.qU.lt k hk).2 (lo k (H0.qU.lt k hk).2)),H.lt,H.lx,H.low,fun o t ht=>?_,hrb,B.keep H.Jb (.refl _ _) hz (fun k hk hx=>hw k hk (nb k (by omega))),H.ok.on hz,H.cx.low (fun k hk=>hw k (by have:=H.ok.size;omega) (lo k (by have:=H0.ok.size;omega)))⟩;obtain⟨P,vR,vO,h⟩:=H.tasks o t ht;exact⟨P,vR,vO,uZ h (fun k hk h1 _=>hw k hk (nb k (by omega))) (.refl _ _) h.kv⟩
theorem dS.far {L0:av}{w0:World}{W0:Wd}(H0:dS s B L0 w0 W0 vt vx)(H:dS s B L w W vt vx){b:Nat}(hb0:w0.heap.size≤b)(hl:(L b).cls=0)(hw:∀ k,k≠b→w1.heap[k]?=w.heap[k]?)(hz:w1.heap.size=w.heap.size):dS s B L w1 W vt vx :=
 H0.more H (fun k=>k=b) (fun k e=>by rw[e];exact⟨hb0,hl⟩) (fun k _ hk=>hw k hk) (by omega)
end
abbrev Jf (d:Dd):Value:=.agg #[.int .i64 d.err,.int .i64 d.steps]
abbrev kF (e s:Int):Obj:=.cells #[.int .i64 e,.int .i64 s] 111 (0,0)
theorem A7 {w:World}{b:Nat}{e s:Int}(h:w.heap[b]?=some (kF e s)):(w.cell? ⟨b,0,none⟩=some (.int .i64 e)∧w.cell? ⟨b,1,none⟩=some (.int .i64 s))∧∀ j,w.frozen? ⟨b,j,none⟩=false:=by simp[World.cell?,World.frozen?,h]
theorem QO {w:World}{b:Nat}{e s e' s':Int}(h:w.heap[b]?=some (kF e s)):((w.setCell ⟨b,0,none⟩ (.int .i64 e')).setCell ⟨b,1,none⟩ (.int .i64 s')).heap[b]?=some (kF e' s'):=by
 simp only[World.setCell,Array.getElem?_modify,if_true,h,Option.map_some];rfl
def QP (s:Sx)(B:kE)(K:KM)(L:av)(w w':World)(W:Wd)(vt vx:Value):Prop:=∃ L',dS s B L' w' W vt vx∧WI s.c.m K W∧Ext L L' w∧Kp L w w'
theorem QQ (s:Sx)(B:kE)(hS:Hid (sH s B))(K:KM)(hK:Hid (ib s.c.m K))(L:av)(w:World)(W:Wd)(vt vx:Value)(H:Hid (dS s B L w W vt vx))(hI:Hid (WI s.c.m K W))(p:Pk)(d:Dd)(hd:Hid (d=iX s.c.m W p))(W':Wd)(hW':Hid (W'=dC s.c.m W p)) :
  Calls Tryz.prog 37 #[.pointer (some ⟨s.WB,0,none⟩),QF p] w fun e w'=>e=.returned (Jf d)∧QP s B K L w w' W' vt vx:=by
 have HB0:Hid (Below w.heap.size w ((w.alloc (iq p)).alloc (kF 0 0))):=((Below.refl _ w).alloc (Nat.le_refl _) _).alloc (by simp) _;have Jg:Hid (((w.alloc (iq p)).alloc (kF 0 0)).heap[w.heap.size]?=some (iq p)):=(Below.heap_alloc _ _ _ (by simp)).trans (heap_alloc_new w _);have HD0:Hid (((w.alloc (iq p)).alloc (kF 0 0)).heap[w.heap.size+1]?=some (kF 0 0)):=by
  have e:(w.alloc (iq p)).heap.size=w.heap.size+1:=by simp
  unfold Hid;rw[← e];exact heap_alloc_new _ _
 have c0:((w.alloc (iq p)).alloc (kF 0 0)).cell? ⟨w.heap.size,0,none⟩=some (.int .i64 p.task)∧((w.alloc (iq p)).alloc (kF 0 0)).cell? ⟨w.heap.size,1,none⟩=some (.int .i64 p.q):=by
  have:=Jg.out;simp[World.cell?,this]
 obtain⟨r,hr⟩:∃ r,r=dI s.c.m W p:=⟨_,rfl⟩;have HR:=Sb.hide hr;clear hr;go_enter Tryz.func37,Tryz.ntmps37
 go_wp2_with fail
 generalize (w.alloc (iq p)).alloc (kF 0 0)=W0 at *;refine (abZ s B hS K hK L _ W vt vx (Sb.hide (H.out.below HB0.out)) hI p r HR).mono ?_;rintro e w1 ⟨rfl,hb1⟩;have HB1:=Sb.hide (HB0.out.trans (hb1.mono HB0.out.size));have uG:=Sb.hide ((hb1.block _ (lt_of_block Jg.out)).trans Jg.out);have HD1:=Sb.hide ((hb1.block _ (lt_of_block HD0.out)).trans HD0.out);have H1:=Sb.hide (H.out.below HB1.out);clear hb1 c0;obtain⟨⟨x0,x1⟩,xf⟩:=A7 HD1.out;by_cases h0:r=0
 ·have e0:(r != 0)=false:=by simpa using h0
  have uV:Hid (dI s.c.m W p=0):=by unfold Hid;rw[← HR.out];exact h0
  have c1:w1.cell? ⟨w.heap.size,0,none⟩=some (.int .i64 p.task)∧w1.cell? ⟨w.heap.size,1,none⟩=some (.int .i64 p.q):=by
   have:=uG.out;simp[World.cell?,this]
  have hre:=uV.out;unfold dI at hre;split at hre
  ·cases hre
  rename_i t1;split at hre;case isFalse=>cases hre
  rename_i t2;split at hre;case isFalse=>cases hre
  rename_i t3;split at hre
  ·cases hre
  rename_i t4;clear h0 hre;obtain⟨o,ho⟩:∃ o:Nat,p.task=o:=⟨p.task.toNat,by omega⟩;obtain⟨t,ht⟩:∃ t,W.ts[o]?=some t:=⟨_,List.getElem?_eq_getElem (by omega)⟩;have gM:Hid (W.tk p.task=t):=by unfold Hid Wd.tk;rw[ho];simp[ht]
  have HO:=Sb.hide ho;have HT:=Sb.hide ht;obtain⟨y0,_,y2,_,yf⟩:=H1.out.cells;obtain⟨ta,tc,u6⟩:∃ a c,vt=.slice a W.ts.length c:=dA H1.out.kZ;subst u6;obtain⟨g,u7,htc⟩:=qQ H1.out.kZ (xh s.T (by omega:o<W.ts.length));subst u7;obtain⟨mm,hmm⟩:∃ mm,mm=min p.q.toNat (20000 - W.steps):=⟨_,rfl⟩;have Ht:=Sb.hide hmm;have vC:(if 20000 - (W.steps:Int)<p.q then 20000 - (W.steps:Int) else p.q)=(mm:Int):=by split<;>omega
  have ahY:IntKind.i64.wrap (20000 - (W.steps:Int))=20000 - (W.steps:Int):=by have:=hI.out.steps;rw[IntKind.wrap_i64];omega
  have ahZ:mm≤20000:=by omega
  obtain⟨N,hN⟩:∃ N,N=W.ts.length:=⟨_,rfl⟩;have HN:=Sb.hide hN;rw[ho] at c1 t1;rw[← hN] at y0 t1;have n0:(0:Int)≤(o:Int):=by omega
  have n1:(o:Int)<(N:Int):=by omega
  obtain⟨c10,c11⟩:=c1;have hst:=hI.out.steps;clear ho ht hmm hN t2 t3 t4 t1;obtain⟨P,vR,vO,hSt⟩:=H1.out.st HT.out;have HST:=Sb.hide hSt;have HI0:=Sb.hide (hI.out.tasks o t HT.out);have HKE:=Sb.hide (QA (c:=s.c) hK.out);have uW:Hid (ran s.c.m W p=go aG s.c.m mm t W.x):=by unfold Hid ran;rw[gM.out,← Ht.out]
  have HDR:Hid (Below w1.heap.size w1 w1.drew):=(Below.refl _ _).drew;have AZ:Hid (∀ b,w.heap.size≤b→(L b).cls=0):=H.out.ok.new;have hgz:=World.block_lt_of_cell? w1 _ htc;have fV:=lt_of_block H1.out.blk;have zC:=lt_of_block uG.out;clear hSt;go_wp2
  go_region_held3 (fun w'=>((w'.cell? ⟨w.heap.size,0,none⟩=some (.int .i64 (o:Int))∧w'.cell? ⟨w.heap.size,1,none⟩=some (.int .i64 p.q))∧(w'.cell? ⟨s.WB,0,none⟩=some (.slice (some ⟨g,0,none⟩) N tc)∧w'.cell? ⟨s.WB,2,none⟩=some (.int .i64 W.steps)))∧w'.cell? ⟨g,o,none⟩=some (.pointer (some ⟨s.T o,0,none⟩))) (go_keep) ((go_at_call 62;refine (YH (s.E (qR B o W.evs t.log.length)) aG s.c s.vb (s.N o) (s.af o) (Sb.hide (hS.out.hears o W.evs t.log.length (by have h1:=hI.out.evs;have h2:=hI.out.steps;omega))) (Sb.hide (hS.out.boxes _)) (MI s.c.m K) HKE o (s.T o) L P _ t W.x vR vO (Sb.hide (HST.out.below HDR.out)) W.steps mm (by omega) HI0).mono ?_;rintro e w2 ⟨rfl,hW2,hI2⟩;obtain⟨L2,P2,mU,mV,s2,q2,k2⟩:=hW2;have S2:=Sb.hide s2;have E2:=Sb.hide q2;have C2:=Sb.hide k2;have HI2:=Sb.hide hI2;have j0:w2.cell? ⟨w.heap.size,0,none⟩=some (.int .i64 (o:Int)):=(aI (k2.block w.heap.size (by exact zC) (by intro hx;have:=AZ.out w.heap.size (Nat.le_refl _);unfold Vw.WB EB at hx;omega)) _).trans c10;have j1:w2.cell? ⟨w.heap.size,1,none⟩=some (.int .i64 p.q):=(aI (k2.block w.heap.size (by exact zC) (by intro hx;have:=AZ.out w.heap.size (Nat.le_refl _);unfold Vw.WB EB at hx;omega)) _).trans c11;have j2:w2.cell? ⟨s.WB,0,none⟩=some (.slice (some ⟨g,0,none⟩) N tc):=(aI (k2.block s.WB (by exact fV) (by intro hx;have:=H1.out.lW;unfold Vw.WB EB at hx;omega)) _).trans y0;have j3:w2.cell? ⟨s.WB,2,none⟩=some (.int .i64 W.steps):=(aI (k2.block s.WB (by exact fV) (by intro hx;have:=H1.out.lW;unfold Vw.WB EB at hx;omega)) _).trans y2;have j4:w2.cell? ⟨g,o,none⟩=some (.pointer (some ⟨s.T o,0,none⟩)):=(aI (k2.block g (by exact hgz) (by intro hx;have:=H1.out.lt g rfl;unfold Vw.WB EB at hx;omega)) _).trans htc;clear s2 q2 k2 hI2))
  obtain⟨R,hR⟩:∃ R,R=go aG s.c.m mm t W.x:=⟨_,rfl⟩;rw[← hR] at S2 HI2 uW ⊢;have hRl:R.1≤mm:=by rw[hR];exact Ec _ _ _
  clear hR;obtain⟨hb2,hWd,Jh⟩:=(H1.out.below HDR.out).ran HT.out S2.out E2.out C2.out (W.steps+R.1) (o:Int);have hcast:((W.steps+R.1:Nat):Int)=(W.steps:Int)+(R.1:Int):=by simp
  rw[hcast] at hWd Jh;have jO:=Sb.hide hWd;have A8:=Sb.hide Jh;have wf:=(show w2.cell? ⟨s.WB,3,none⟩=some (.int .i64 W.last)∧∀ j,w2.frozen? ⟨s.WB,j,none⟩=false by simp[World.cell?,World.frozen?,hb2]);have HD2:Hid (w2.heap[w.heap.size+1]?=some (kF 0 0)):=(C2.out.block _ (by exact lt_of_block HD1.out) (by intro hx;have:=AZ.out (w.heap.size+1) (by omega);unfold Vw.WB EB at hx;omega)).trans HD1.out;have vz:¬ w.heap.size+1=s.WB:=by have:=lt_of_block H.out.blk;omega
  have ah0:¬ s.WB=w.heap.size+1:=fun e=>vz e.symm;have ab4:¬ w.heap.size=s.WB:=by have:=lt_of_block H.out.blk;omega
  have ah1:¬ s.WB=w.heap.size:=fun e=>ab4 e.symm;have HD4:Hid (((w2.setCell ⟨s.WB,2,none⟩ (.int .i64 ((W.steps:Int)+(R.1:Int)))).setCell ⟨s.WB,3,none⟩ (.int .i64 (o:Int))).heap[w.heap.size+1]?=some (kF 0 0)):=(Below.heap_setCell _ ⟨s.WB,3,none⟩ _ _ vz).trans ((Below.heap_setCell _ ⟨s.WB,2,none⟩ _ _ vz).trans HD2.out);have zz:=(A7 HD2.out).1;have zf:=(A7 HD2.out).2;have hwr:IntKind.i64.wrap ((W.steps:Int)+(R.1:Int))=(W.steps:Int)+(R.1:Int):=by rw[IntKind.wrap_i64];omega
  clear hWd Jh hb2;go_wp2
  have hX:=QO (e':=0) (s':=(R.1:Int)) HD4.out;have ab5:=H.out.far jO.out (b:=w.heap.size+1) (w1:=(((w2.setCell ⟨s.WB,2,none⟩ (.int .i64 ((W.steps:Int)+(R.1:Int)))).setCell ⟨s.WB,3,none⟩ (.int .i64 (o:Int))).setCell ⟨w.heap.size+1,0,none⟩ (.int .i64 0)).setCell ⟨w.heap.size+1,1,none⟩ (.int .i64 (R.1:Int))) (by omega) (by rw[E2.out.1 _ (by exact lt_of_block HD1.out)];exact AZ.out _ (by omega)) (fun k hk=>(Below.heap_setCell _ ⟨w.heap.size+1,1,none⟩ _ _ hk).trans (Below.heap_setCell _ ⟨w.heap.size+1,0,none⟩ _ _ hk)) (by simp[World.setCell]);have hkp:Kp L w ((((w2.setCell ⟨s.WB,2,none⟩ (.int .i64 ((W.steps:Int)+(R.1:Int)))).setCell ⟨s.WB,3,none⟩ (.int .i64 (o:Int))).setCell ⟨w.heap.size+1,0,none⟩ (.int .i64 0)).setCell ⟨w.heap.size+1,1,none⟩ (.int .i64 (R.1:Int))):=by
   have hz:=A8.out.size;have hz1:=HB1.out.size;have k4:=A8.out;refine⟨k4.os.trans HB1.out.os,k4.tape.trans HB1.out.tape,k4.output.trans HB1.out.output,?_,fun b hb h0=>?_⟩
   ·have hz':w1.heap.size≤((w2.setCell ⟨s.WB,2,none⟩ (.int .i64 ((W.steps:Int)+(R.1:Int)))).setCell ⟨s.WB,3,none⟩ (.int .i64 (o:Int))).heap.size:=hz
    simp[World.setCell] at hz' ⊢;omega
   ·exact (Below.heap_setCell _ ⟨w.heap.size+1,1,none⟩ _ _ (by show b≠w.heap.size+1;omega)).trans ((Below.heap_setCell _ ⟨w.heap.size+1,0,none⟩ _ _ (by show b≠w.heap.size+1;omega)).trans ((k4.block b (by exact Nat.lt_of_lt_of_le hb hz1) h0).trans (HB1.out.block b hb)))
  generalize (((w2.setCell ⟨s.WB,2,none⟩ (.int .i64 ((W.steps:Int)+(R.1:Int)))).setCell ⟨s.WB,3,none⟩ (.int .i64 (o:Int))).setCell ⟨w.heap.size+1,0,none⟩ (.int .i64 0)).setCell ⟨w.heap.size+1,1,none⟩ (.int .i64 (R.1:Int))=W5 at *;obtain⟨⟨g0,g1⟩,_⟩:=A7 hX;have Ji:Hid (d=⟨0,R.1⟩):=by unfold Hid;rw[hd.out,iX,if_pos uV.out,uW.out]
  have jT:Hid (W'=⟨W.ts.set o R.2.1,R.2.2,W.steps+R.1,o,W.evs++(R.2.1.log.drop t.log.length).map fun e=>(o,e)⟩):=by
   unfold Hid;rw[hW'.out,dC,if_pos uV.out,uW.out,gM.out,HO.out];simp
  refine bodyPost_ret (v:=Jf ⟨0,R.1⟩) (by simp[results,Tryz.results37,go_sem,g0,g1]) rfl ⟨by rw[Ji.out],L2,?_,?_,fun b hb=>E2.out.1 b (by have:=HB1.out.size;show b<w1.heap.size;omega),hkp⟩
  ·rw[jT.out];exact ab5
  ·rw[hW'.out]
   exact hI.out.pick HT.out HO.out uV.out (by rw[uW.out];exact HI2.out) (by rw[uW.out];omega)
 ·have e0:(r != 0)=true:=by simpa using h0
  have Ji:Hid (d=⟨r,0⟩):=by unfold Hid;rw[hd.out,iX,if_neg (by rw[← HR.out];exact h0),← HR.out]
  have jT:Hid (W'=W):=by unfold Hid;rw[hW'.out,dC,if_neg (by rw[← HR.out];exact h0)]
  clear h0;go_wp2
  have hX:=QO (e':=r) (s':=0) HD1.out;have kG:Below w.heap.size w ((w1.setCell ⟨w.heap.size+1,0,none⟩ (.int .i64 r)).setCell ⟨w.heap.size+1,1,none⟩ (.int .i64 0)):=(HB1.out.setCell (p:=⟨w.heap.size+1,0,none⟩) (Nat.le_succ _) _).setCell (p:=⟨w.heap.size+1,1,none⟩) (Nat.le_succ _) _;generalize (w1.setCell ⟨w.heap.size+1,0,none⟩ (.int .i64 r)).setCell ⟨w.heap.size+1,1,none⟩ (.int .i64 0)=W2 at *;obtain⟨⟨g0,g1⟩,_⟩:=A7 hX;refine bodyPost_ret (v:=Jf ⟨r,0⟩) (by simp[results,Tryz.results37,go_sem,g0,g1]) rfl ⟨by rw[Ji.out],L,?_,?_,.refl _ _,.of_below kG⟩
  ·rw[jT.out];exact H.out.below kG
  ·rw[jT.out];exact hI.out
theorem Tryz.ab6:(Tryz.prog.info? 111).map (fun i=>(i.zero,i.size,i.bytes))=some (some (.agg #[.int .i64 0,.int .i64 0]),2,16):=by kernel_rfl
def qV (B:Nat)(w:World)(ps:List Pk)(a:Option Addr):Prop:=∀ (i:Nat) p,ps[i]?=some p→∃ b off,a=some ⟨b,off,none⟩∧b<B∧w.cell? ⟨b,off+i * 2,none⟩=some (.int .i64 p.task)∧w.cell? ⟨b,off+i * 2+1,none⟩=some (.int .i64 p.q)
def qW (d:Dd):List Value:=[.int .i64 d.err,.int .i64 (d.steps:Int)]
def vD (l:List Dd):List Value:=l.flatMap qW
theorem ab7 (l:List Dd)(d:Dd):vD (l++[d])=vD l++qW d:=by simp[vD]
theorem Ef (m:Md):∀ (w:Wd) (ps:List Pk) (p:Pk),jU m w (ps++[p])=dC m (jU m w ps) p∧sw m w (ps++[p])=sw m w ps++[iX m (jU m w ps) p]
 | w,[],p=>⟨rfl,rfl⟩
 | w,q :: ps,p=>by
  obtain⟨h1,h2⟩:=Ef m (dC m w q) ps p;exact⟨h1,by simp[sw,h2,jU]⟩
structure Eg (s:Sx) (B:kE) (K:KM) (L:av) (w:World) (W:Wd) (vt vx:Value) (ps:List Pk) (k:Nat) (vd:Value) (L':av) (wr:World):Prop where
 le:k≤ps.length
 wd:dS s B L' wr (jU s.c.m W (ps.take k)) vt vx
 wi:WI s.c.m K (jU s.c.m W (ps.take k))
 ext:Ext L L' w
 kp:Kp L w wr
 row:wr.ownsRow w.heap.size 111 2 vd k (vD (sw s.c.m W (ps.take k)))
 lab:∀ b,vd.ownBlock=some b→(L' b).cls=0
theorem ab8 (W:World)(d:Dd):∀ j u,(qW d)[j]?=some u→(W.alloc (.cells #[.int .i64 d.err,.int .i64 (d.steps:Int)] 111)).cell? ((⟨W.heap.size,0,none⟩:Addr).add j)=some u:=by
 intro j u hu;rw[o6,World.cell?_alloc_mark];match j,hu with
 | 0,hu=>simpa[qW] using hu
 | 1,hu=>simpa[qW] using hu
 | j+2,hu=>simp[qW] at hu
theorem ab9 (d:Dd):∀ u ∈ qW d,u.oneCell'=true:=by
 intro u hu;simp[qW] at hu;rcases hu with rfl | rfl<;>rfl
theorem aca (s:Sx)(B:kE)(hS:Hid (sH s B))(K:KM)(hK:Hid (ib s.c.m K))(L:av)(w:World)(W:Wd)(vt vx:Value)(H:Hid (dS s B L w W vt vx))(hI:Hid (WI s.c.m K W))(ps:List Pk)(a:Option Addr)(cap:Nat)(hps:Hid (qV s.c.B w ps a))(hn:ps.length≤400) :
  Calls Tryz.prog 35 #[.pointer (some ⟨s.WB,0,none⟩),.slice a ps.length cap] w fun e w'=>∃ vd L',e=.returned vd∧Eg s B K L w W vt vx ps ps.length vd L' w':=by
 obtain⟨i0,hi,hz0,hz1,hz2⟩:=info_parts Tryz.ab6;have HST:Hid (Eg s B K L w W vt vx ps 0 (.slice none 0 0) L w):=⟨Nat.zero_le _,H.out,hI.out,.refl _ _,.refl _ _,⟨rfl,.inl ⟨rfl,rfl⟩⟩,fun b hb=>by cases hb⟩;go_enter Tryz.func35,Tryz.ntmps35
 go_wp2
 go_loopw [5,10] (fun vd v wr=>∃ k:Nat,v=.int .i64 k∧∃ L',Eg s B K L w W vt vx ps k vd L' wr) (fun _ v _=>ps.length - (intOf v).toNat)
 case atStart=>exact⟨0,rfl,L,HST.out⟩
 case round =>
  obtain⟨k,rfl,L1,hA⟩:=hrel;have HA:=Sb.hide hA;have hk:=hA.le;clear hA HST;by_cases hlt:k<ps.length
  ·obtain⟨p,hp⟩:∃ p,ps[k]?=some p:=⟨_,List.getElem?_eq_getElem hlt⟩
   obtain⟨pb,QS,rfl,hpb,x0,x1⟩:=hps.out k p hp;have Hy:=H.out.ok.size;have hp0:=H.out.ok.low pb hpb;have y0:wr.cell? ⟨pb,QS+k * 2,none⟩=some (.int .i64 p.task):=(aI (HA.out.kp.block pb (by omega) hp0) _).trans x0;have y1:wr.cell? ⟨pb,QS+k * 2+1,none⟩=some (.int .i64 p.q):=(aI (HA.out.kp.block pb (by omega) hp0) _).trans x1;obtain⟨n,hnn⟩:∃ n,n=ps.length:=⟨_,rfl⟩;have bG:=Sb.hide hnn;rw[← hnn] at hlt hn hk ⊢;have n0:(0:Int)≤(k:Int):=by omega
   have n1:(k:Int)<(n:Int):=by omega
   have gM:Hid (ps.take (k+1)=ps.take k++[p]):=by unfold Hid;rw[List.take_add_one,hp];rfl
   obtain⟨d,hd⟩:∃ d,d=iX s.c.m (jU s.c.m W (ps.take k)) p:=⟨_,rfl⟩;obtain⟨W2,hW2⟩:∃ d,d=dC s.c.m (jU s.c.m W (ps.take k)) p:=⟨_,rfl⟩;have HD:=Sb.hide hd;have HW2:=Sb.hide hW2;have Jj:Hid (Below wr.heap.size wr (wr.alloc (iq p))):=(Below.refl _ wr).alloc (Nat.le_refl _) _;have c0:(wr.alloc (iq p)).cell? ⟨wr.heap.size,0,none⟩=some (.int .i64 p.task):=by simp[World.cell?_alloc_mark]
   have c1:(wr.alloc (iq p)).cell? ⟨wr.heap.size,1,none⟩=some (.int .i64 p.q):=by simp[World.cell?_alloc_mark]
   clear hd hW2 hnn hp x0 x1;go_wp2_with fail
   generalize wr.alloc (iq p)=WA at *;refine (QQ s B hS K hK L1 _ (jU s.c.m W (ps.take k)) vt vx (Sb.hide (HA.out.wd.below Jj.out)) (Sb.hide HA.out.wi) p d HD W2 HW2).mono ?_;rintro e w2 ⟨rfl,L2,hwd2,QT,QU,Jk⟩;have hz2':=Jk.size;have hzA:=Jj.out.size;have A9:=HA.out.kp.size;have Jl:=Sb.hide hwd2;have acb:=Sb.hide QT;have QV:Hid (Ext L1 L2 wr):=fun b hb=>QU b (by omega);have QW:Hid (Kp L1 wr w2):=(Kp.of_below Jj.out).trans (.refl _ _) Jk;have HR2:Hid (w2.ownsRow w.heap.size 111 2 u5 k (vD (sw s.c.m W (ps.take k)))):=bA HA.out.row (fun b hb=>QW.out.block b (HA.out.row.lt b hb).2 (HA.out.lab b hb));have HL2:Hid (∀ b,u5.ownBlock=some b→(L2 b).cls=0):=fun b hb=>by rw[QV.out b (HA.out.row.lt b hb).2];exact HA.out.lab b hb
   have HRW:Hid ((w2.alloc (kF d.err (d.steps:Int))).ownsRow w.heap.size 111 2 u5 k (vD (sw s.c.m W (ps.take k)))):=HR2.out.alloc _;clear hwd2 QT QU Jk c0 c1;go_wp2_with (at_builtin;refine wZ rfl (.tmp 14) (.tmp 18) 108 rfl w.heap.size 111 i0 (.agg #[.int .i64 0,.int .i64 0]) 2 16 Tryz.underlying108 hi hz0 hz1 hz2 rfl (by decide) u5 k (vD (sw s.c.m W (ps.take k))) rfl HRW.out ⟨w2.heap.size,0,none⟩ 1 1 (qW d) rfl rfl (ab8 w2 d) (ab9 d) (by decide) (by unfold maxLen;omega) (by omega) (by simp;omega) ?_)
   intro R4 cap4 w4 bO hg4 bJ;have hzg:=hg4.size;simp at hzg;have hF:∀ b,(u5.ownBlock=some b∨b=w2.heap.size∨b=w2.heap.size+1)→w.heap.size≤b∧(L2 b).cls=0:=fun b hb=>by
    rcases hb with hb | rfl | rfl
    ·exact⟨(HR2.out.lt b hb).1,HL2.out b hb⟩
    ·exact⟨by omega,Jl.out.ok.new _ (Nat.le_refl _)⟩
    ·exact⟨by omega,Jl.out.ok.new _ (by omega)⟩
   have vF:∀ b,b<w2.heap.size→¬ u5.ownBlock=some b→w4.heap[b]?=w2.heap[b]?:=fun b hb hn=>(hg4.block b (by simp;omega) (fun e=>hn e.symm)).trans (Below.heap_alloc _ _ _ hb);have jK:Hid (Eg s B K L w W vt vx ps (k+1) (.slice (some ⟨R4,0,none⟩) (k+1) cap4) L2 w4):=by
    refine⟨by have:=bG.out;omega,?_,?_,fun b hb=>(QV.out b (by omega)).trans (HA.out.ext b hb),?_,?_,fun b hb=>?_⟩
    ·rw[gM.out,(Ef s.c.m W (ps.take k) p).1,← HW2.out]
     exact H.out.more Jl.out (fun b=>u5.ownBlock=some b) (fun b hb=>hF b (.inl hb)) vF (by omega)
    ·rw[gM.out,(Ef s.c.m W (ps.take k) p).1,← HW2.out]
     exact acb.out
    ·have k1:=HA.out.kp.trans HA.out.ext QW.out
     refine⟨hg4.os.trans k1.os,hg4.tape.trans k1.tape,hg4.output.trans k1.output,by omega,fun b hb h0=>(vF b (by omega) (fun e=>?_)).trans (k1.block b hb h0)⟩;have:=(HR2.out.lt b e).1;omega
    ·rw[gM.out,(Ef s.c.m W (ps.take k) p).2,ab7,← HD.out]
     exact bO
    ·simp[Value.ownBlock] at hb
     subst hb;rcases bJ with e | e
     ·exact HL2.out _ e
     ·exact (hF _ (.inr (.inr (by simpa using e)))).2
   clear bO hg4 bJ hF vF;go_wp2
   go_roundw
   case rel=>exact⟨k+1,by go_num,L2,jK.out⟩
   case measure=>simp[intOf];omega
  ·have ek:k=ps.length:=by omega
   subst ek;go_wp2
   go_ret
   exact⟨_,L1,rfl,HA.out⟩
end Go.Proofs.YtfcpglhpolpdcaaGreatDoor.Vw
