/- Boxes,as a task has them;the walks of send,recv,state,Ready. -/
import Derived.Test.YtfcpglhpolpdcaaGreatDoorM13
set_option maxRecDepth 100000
set_option maxHeartbeats 4000000
namespace Go.Proofs.YtfcpglhpolpdcaaGreatDoor.Vw
open Go.RowKit Vf Vm
structure NY {β:Type} (E:Env β) (X:gN β) (c:Cx) (n:Nat) (ty:TypeId) (p:Value) (fF fE fP fT:Nat):Prop where
 Ya:∀ w:World,Sem.run Tryz.prog (do let q ← program;let y ← method (q.types.size+100) ty p "Full";callFunc y.fst #[y.snd]) w=.ok (.enter fF #[p]) w
 Yb:∀ w:World,Sem.run Tryz.prog (do let q ← program;let y ← method (q.types.size+100) ty p "Empty";callFunc y.fst #[y.snd]) w=.ok (.enter fE #[p]) w
 Yc:∀ (v:Value) (w:World),Sem.run Tryz.prog (do let q ← program;let y ← method (q.types.size+100) ty p "Put";callFunc y.fst #[y.snd,v]) w=.ok (.enter fP #[p,v]) w
 runT:∀ w:World,Sem.run Tryz.prog (do let q ← program;let y ← method (q.types.size+100) ty p "Take";callFunc y.fst #[y.snd]) w=.ok (.enter fT #[p]) w
 full:∀ (L:av) (w:World) (l:List Ev) (x:β),Hid (E.En L w l x)→Calls Tryz.prog fF #[p] w fun e w'=>e=.returned (.bool (X.full x n))∧∃ d,w'=w.drewN d
 empty:∀ (L:av) (w:World) (l:List Ev) (x:β),Hid (E.En L w l x)→Calls Tryz.prog fE #[p] w fun e w'=>e=.returned (.bool (X.empty x n))∧∃ d,w'=w.drewN d
 put:∀ (L:av) (w:World) (l:List Ev) (x:β) (v:Int),Hid (E.En L w l x)→Hid (bF c.B L w)→Hid (X.may x n)→Calls Tryz.prog fP #[p,.int .i64 v] w fun e w'=>e=.returned (.tuple #[])∧∃ L',E.En L' w' l (X.put x n v)∧zJ L L' w∧bF c.B L' w'∧aQ (EB L) w w'
 take:∀ (L:av) (w:World) (l:List Ev) (x:β),Hid (E.En L w l x)→Hid (bF c.B L w)→Hid (X.empty x n=false)→Calls Tryz.prog fT #[p] w fun e w'=>e=.returned (.int .i64 (X.head x n))∧∃ L',E.En L' w' l (X.take x n)∧zJ L L' w∧bF c.B L' w'∧aQ (EB L) w w'
structure mq {β:Type} (E:Env β) (X:gN β) (c:Cx) (vB:Value):Prop where
 at':∀ n,n<c.m.boxes.length→∃ b off cap ty p fF fE fP fT,vB=.slice (some ⟨b,off,none⟩) c.m.boxes.length cap∧(∀ (L:av) (w:World) (l:List Ev) (x:β),E.En L w l x→w.cell? ⟨b,off+n,none⟩=some (.iface ty p))∧NY E X c n ty p fF fE fP fT
section
variable {β:Type} {E:Env β} {c:Cx} {vB ev:Value} {o T:Nat} {L:av} {P:Nat→Nat} {w w1:World} {t:Tk} {x x':β} {vR vO:Value}
theorem St.boxed (H:St E c vB ev o T L P w t x vR vO){L':av}(hn:E.En L' w1 t.log x')(hE:zJ L L' w)(hL:bF c.B L' w1)(hC:aQ (EB L) w w1):o8 E c vB ev o T L P w w1 t x' vR vO:=by
 have hW:aQ (WB L o) w w1:=hC.mono (fun b _ hx=>.inr hx);have blk:∀ b,b<w.heap.size→(L b).cls=1→w1.heap[b]?=w.heap[b]?:=fun b hb h1=>hC.block b hb (fun hx=>by unfold EB at hx;omega);have one:∀ {b i p:Nat},L b=⟨1,o,i,p⟩→(L b).cls=1:=fun e=>by rw[e]
 refine⟨L',⟨⟨(blk _ (lt_of_block H.tk.blk) (one H.tk.lT)).trans H.tk.blk,bA H.tk.rows (fun b hb=>blk b (H.tk.rows.lt b hb).2 (one (H.tk.lR b hb))),bA H.tk.out (fun b hb=>blk b (H.tk.out.lt b hb).2 (one (H.tk.lO b hb))),fun i h hh=>?_,H.tk.few,H.tk.hand,(hE.1 _ (lt_of_block H.tk.blk)).trans H.tk.lT,fun b hb=>(hE.1 _ (H.tk.rows.lt b hb).2).trans (H.tk.lR b hb),fun b hb=>(hE.1 _ (H.tk.out.lt b hb).2).trans (H.tk.lO b hb),fun b h1 h2=>?_⟩,hn,hL,H.cx.ui H.ok hW⟩,⟨hE.1,fun b=>?_⟩,hW⟩
 ·obtain⟨S,g,r,vU,hT⟩:=H.tk.ae i h hh
  exact⟨S,g,r,vU,hT.keep hE.1 rfl rfl (fun b hb hx=>blk b hb hx.1)⟩
 ·rcases hE.2 b with e | e
  ·rw[e] at h1 h2 ⊢;exact H.tk.kv b h1 h2
  ·unfold EB at e;omega
 ·rcases hE.2 b with e | e
  ·exact .inl e
  ·exact .inr (.inr e)
end
section
variable {β:Type} (E:Env β) (X:gN β) (c:Cx) (vB:Value) (hX:Hid (mq E X c vB)) (N:Nat) (af:Array Value) (hN:Hid (jl E c N af)) (o T:Nat) (L:av) (P:Nat→Nat) (w:World) (t:Tk) (x:β) (vR vO:Value) (H:Hid (St E c vB (.func (.func N) #[] af) o T L P w t x vR vO)) (bI:Hid (t.log.length≤2000000))
include hX hN H bI
theorem Yd (n:Nat)(hn:n<c.m.boxes.length)(hf:Hid (X.may x n)) :
  Calls Tryz.prog 149 #[.pointer (some ⟨T,0,none⟩),.int .i64 n] w fun e w'=>e=.returned (.tuple #[])∧aS E c vB (.func (.func N) #[] af) o T L w w' (t.cut.note ⟨2,n,t.last⟩) (X.put x n t.last):=by
 obtain⟨b,off,cap,ty,p,fF,fE,fP,fT,hv,hcell,hB⟩:=hX.out.at' n hn;have d0:=cO H.out;obtain⟨nb,ow⟩:∃ m,m=c.m.boxes.length:=⟨_,rfl⟩;rw[← ow] at hv hn;have HV:=Sb.hide hv;have HC:=Sb.hide hcell;have HB:=Sb.hide hB;have hrun:=hB.Yc;have hent:=hN.out.enter;have n0:(0:Int)≤(n:Int):=by omega
 have n1:(n:Int)<(nb:Int):=by omega
 clear hv hcell hB ow;go_enter Tryz.func149,Tryz.ntmps149
 go_wp2_with fail
 refine (taken E c vB (.func (.func N) #[] af) o T L P _ t x vR vO H).mono ?_;rintro e w1 ⟨rfl,L1,s1,q1,k1⟩;have b1:=(bS s1.tk.blk).2.1;rw[HV.out] at b1;have bc:=HC.out _ _ _ _ s1.en;have S1:=Sb.hide s1;have E1:=Sb.hide q1;have C1:=Sb.hide k1;clear s1 q1 k1;go_wp2_with fail
 refine (HB.out.put L1 _ _ x t.last (Sb.hide S1.out.en) (Sb.hide S1.out.ok) hf).mono ?_;rintro e w2 ⟨rfl,Ye,h1,h2,h3,h4⟩;obtain⟨L2,s2,q2,k2⟩:=S1.out.boxed h1 h2 h3 h4;have f2:=(bS s2.tk.blk).2.2.1;have S2:=Sb.hide s2;have E2:=Sb.hide q2;have C2:=Sb.hide k2;clear s2 q2 k2 h1 h2 h3 h4;go_wp2_with fail
 refine (hN.out.call ⟨2,n,t.last⟩ L2 _ _ _ (Sb.hide S2.out.en) (Sb.hide S2.out.ok) (by have:=bI.out;exact Nat.le_succ_of_le this)).mono ?_;rintro e w3 ⟨rfl,L3,h1,h2,h3,h4⟩;have HW:=Sb.hide (((S2.out.heard h1 h2 h3 h4).trans E2.out C2.out).trans E1.out C1.out);clear h1 h2 h3 h4;go_wp2
 go_end0
 exact⟨rfl,HW.out⟩
theorem Yf (n:Nat)(hn:n<c.m.boxes.length)(hf:Hid (X.empty x n=false)) :
  Calls Tryz.prog 150 #[.pointer (some ⟨T,0,none⟩),.int .i64 n] w fun e w'=>e=.returned (.tuple #[])∧aS E c vB (.func (.func N) #[] af) o T L w w' ((t.note ⟨3,n,X.head x n⟩).put (X.head x n)) (X.take x n):=by
 obtain⟨b,off,cap,ty,p,fF,fE,fP,fT,hv,hcell,hB⟩:=hX.out.at' n hn;obtain⟨nb,ow⟩:∃ m,m=c.m.boxes.length:=⟨_,rfl⟩;rw[← ow] at hv hn;have b1:=(bS H.out.tk.blk).2.1;rw[hv] at b1;have bc:=hcell _ _ _ _ H.out.en;have HB:=Sb.hide hB;have hrun:=hB.runT;have hent:=hN.out.enter;have n0:(0:Int)≤(n:Int):=by omega
 have n1:(n:Int)<(nb:Int):=by omega
 clear hv hcell hB ow;go_enter Tryz.func150,Tryz.ntmps150
 go_wp2_with fail
 refine (HB.out.take L _ _ x (Sb.hide H.out.en) (Sb.hide H.out.ok) hf).mono ?_;rintro e w2 ⟨rfl,Ye,h1,h2,h3,h4⟩;obtain⟨L2,s2,q2,k2⟩:=H.out.boxed h1 h2 h3 h4;have f2:=(bS s2.tk.blk).2.2.1;have S2:=Sb.hide s2;have E2:=Sb.hide q2;have C2:=Sb.hide k2;clear s2 q2 k2 h1 h2 h3 h4;go_wp2_with fail
 refine (hN.out.call ⟨3,n,X.head x n⟩ L2 _ _ _ (Sb.hide S2.out.en) (Sb.hide S2.out.ok) (by have:=bI.out;exact Nat.le_succ_of_le this)).mono ?_;rintro e w3 ⟨rfl,L3',h1,h2,h3,h4⟩;obtain⟨L3,P3,N7,N8,s3,q3,k3⟩:=S2.out.heard h1 h2 h3 h4;have S3:=Sb.hide s3;have E3:=Sb.hide q3;have C3:=Sb.hide k3;clear s3 q3 k3 h1 h2 h3 h4;go_wp2_with fail
 refine (gJ E c vB N af hN o T L3 P3 _ _ _ N7 N8 S3 (Sb.hide (by have h1:=bI.out;show (t.log++[_]).length≤2000001;rw[List.length_append];simp;omega)) (X.head x n)).mono ?_;rintro e w4 ⟨rfl,hW⟩;have HW:=Sb.hide ((hW.trans E3.out C3.out).trans E2.out C2.out);clear hW;go_wp2
 go_end0
 exact⟨rfl,HW.out⟩
end
def qH (m:Md)(i:Ins)(t:Tk):Tk :=
 if i.op=23 then t.call m i.a.toNat
 else if i.op=24 then t.ret
 else if i.op=29 then t.start m i.a.toNat
 else if i.op=30 then t.resume
 else if i.op=31 then t.cut.give 1 t.last
 else if i.op=25 then t.fin
 else if i.op=32 then t.alive
 else t.reckon i.op
structure Hl (c:Cx) (t:Tk) (i:Ins):Prop where
 un:i.op=23∨i.op=29→∃ n:Nat,i.a=n∧∃ u,c.m.units[n]?=some u∧0≤u.params∧u.params≤t.top.ws.length∧u.params≤u.locals.length∧u.locals.length≤200
 ret:i.op=24→∃ f r,t.top.fs=f :: r∧f.base<t.top.ws.length
 res:i.op=30→0≤t.cut.last∧t.cut.last.toNat<t.ae.length
 alive:i.op=32→0≤t.last∧t.last.toNat<t.ae.length
 up:i.op=31∨i.op=25∧t.hand≠0→∃ j,t.top.up=some j∧j<t.ae.length
 ups:∀ (k:Nat) h j,t.ae[k]?=some h→h.up=some j→j<t.ae.length
abbrev az (i:Ins):Obj:=.cells #[.int .i64 i.op,.int .i64 i.a,.int .i64 i.n] 147
section
variable {β:Type} (E:Env β) (c:Cx) (vB:Value) (N:Nat) (af:Array Value) (hN:Hid (jl E c N af)) (o T:Nat) (L:av) (P:Nat→Nat) (w:World) (t:Tk) (x:β) (vR vO:Value) (H:Hid (St E c vB (.func (.func N) #[] af) o T L P w t x vR vO)) (bI:Hid (t.log.length≤2000000))
include hN H bI
theorem Hm (i:Ins)(hi:Hid (Hl c t i))(ho:8≤i.op∧i.op≤20∨i.op=23∨i.op=24∨i.op=25∨i.op=29∨i.op=30∨i.op=31∨i.op=32) :
  Calls Tryz.prog 152 #[.pointer (some ⟨T,0,none⟩),Gw i] w fun e w'=>e=.returned (.tuple #[])∧aS E c vB (.func (.func N) #[] af) o T L w w' (qH c.m i t) x:=by
 have H0:=Sb.hide (H.out.below ((Below.refl _ w).alloc (Nat.le_refl _) (az i)));have jM:=lt_of_block H.out.tk.blk;have NN:¬ w.heap.size=T:=by omega
 by_cases iV:i.op=24
 ·obtain⟨f,r,hf,hb⟩:=hi.out.ret iV
  have HF:=Sb.hide hf;have HB:=Sb.hide hb;clear hf hb ho;have e0:i.op=24:=iV;obtain⟨xD,ia,rO⟩:=i;simp only at e0;subst e0;go_enter Tryz.func152,Tryz.ntmps152
  go_wp2_with fail
  refine (XQ E c vB N af hN o T L P _ t x vR vO H0 (Sb.hide (by have:=bI.out;exact Nat.le_succ_of_le this)) f r HF HB).mono ?_;rintro e w3 ⟨rfl,hW⟩;have HW:=Sb.hide hW.alloc;clear hW;go_wp2
  go_end0
  exact⟨rfl,HW.out⟩
 by_cases mY:i.op=30
 ·have HR:=Sb.hide (hi.out.res mY)
  clear ho;have e0:i.op=30:=mY;obtain⟨xD,ia,rO⟩:=i;simp only at e0;subst e0;go_enter Tryz.func152,Tryz.ntmps152
  go_wp2_with fail
  refine (Gi E c vB N af hN o T L P _ t x vR vO H0 (Sb.hide (by have:=bI.out;exact Nat.le_succ_of_le this)) HR).mono ?_;rintro e w3 ⟨rfl,hW⟩;have HW:=Sb.hide hW.alloc;clear hW;go_wp2
  go_end0
  exact⟨rfl,HW.out⟩
 by_cases mZ:i.op=25
 ·have HR:Hid (t.hand≠0→∃ j,t.top.up=some j∧j<t.ae.length):=fun e=>hi.out.up (.inr ⟨mZ,e⟩)
  clear ho;have e0:i.op=25:=mZ;obtain⟨xD,ia,rO⟩:=i;simp only at e0;subst e0;go_enter Tryz.func152,Tryz.ntmps152
  go_wp2_with fail
  refine (XR E c vB N af hN o T L P _ t x vR vO H0 (Sb.hide (by have:=bI.out;exact Nat.le_succ_of_le this)) HR).mono ?_;rintro e w3 ⟨rfl,hW⟩;have HW:=Sb.hide hW.alloc;clear hW;go_wp2
  go_end0
  exact⟨rfl,HW.out⟩
 by_cases gU:i.op=29
 ·obtain⟨n,hn,u,hu,p1,p2,p3,p4⟩:=hi.out.un (.inr gU)
  have HU:=Sb.hide hu;have Yg:=Sb.hide hi.out.ups;have bG:=Sb.hide hn;clear ho hu;have e0:i.op=29:=gU;obtain⟨xD,ia,rO⟩:=i;simp only at e0 hn;subst e0 hn;go_enter Tryz.func152,Tryz.ntmps152
  go_wp2_with fail
  refine (X0 E c vB N af hN o T L P _ t x vR vO H0 bI n u HU p1 p2 p3 p4 Yg).mono ?_;rintro e w3 ⟨rfl,hW⟩;have HW:=Sb.hide hW.alloc;clear hW;go_wp2
  go_end0
  exact⟨rfl,HW.out⟩
 by_cases h31:i.op=31
 ·obtain⟨j,hj⟩:=hi.out.up (.inl h31)
  have d0:=cO H.out;have HJ:Hid (t.cut.top.up=some j∧j<t.cut.ae.length):=by
   obtain⟨h0,_,_,_,_,hh0,_,ht0⟩:=H.out.at
   unfold Hid;rw[fw,mW hh0,eD (eT hh0)];rw[ht0] at hj;exact hj
  clear ho hj;have e0:i.op=31:=h31;obtain⟨xD,ia,rO⟩:=i;simp only at e0;subst e0;go_enter Tryz.func152,Tryz.ntmps152
  go_wp2_with fail
  refine (taken E c vB (.func (.func N) #[] af) o T L P _ t x vR vO H0).mono ?_;rintro e w1 ⟨rfl,L1,s1,q1,k1⟩;have S1:=Sb.hide s1;have E1:=Sb.hide q1;have C1:=Sb.hide k1;clear s1 q1 k1;go_wp2_with fail
  refine (NI E c vB N af hN o T L1 P _ t.cut x vR vO S1 (Sb.hide (by have:=bI.out;exact Nat.le_succ_of_le this)) 1 t.last j HJ).mono ?_;rintro e w3 ⟨rfl,hW⟩;have HW:=Sb.hide (hW.trans E1.out C1.out).alloc;clear hW;go_wp2
  go_end0
  exact⟨rfl,HW.out⟩
 by_cases h23:i.op=23
 ·obtain⟨n,hn,u,hu,p1,p2,p3,p4⟩:=hi.out.un (.inl h23)
  obtain⟨ub,kW,al,cl,ng,hub,_,u0,u1,u2,u3,u4,u5⟩:=H.out.cx.units n u hu;have hnl:n<c.m.units.length:=(List.getElem?_eq_some_iff.1 hu).1;have dx:=H.out.cx.few;have c0:=(bS H.out.tk.blk).1;rw[ng] at c0;obtain⟨ml,kz⟩:∃ m,m=c.m.units.length:=⟨_,rfl⟩;rw[← kz] at c0 hnl dx;have xE:=Sb.hide kz;have mr:=Sb.hide ng;have n0:(0:Int)≤(n:Int):=by omega
  have n1:(n:Int)<(ml:Int):=by omega
  have NQ:=H.out.ok.size;have Ho:ub<w.heap.size:=by omega
  have aht:¬ w.heap.size=ub:=by omega
  have HU:=Sb.hide hu;have Yh:Hid (∀ (L':av),iI o L L' (w.alloc (az i))→¬ WB L o w.heap.size):=fun _ _ hx=>by
   have:=H.out.ok.new w.heap.size (Nat.le_refl _);unfold WB EB at hx;omega
  clear ho hu kz ng;have e0:i.op=23:=h23;obtain⟨xD,ia,rO⟩:=i;simp only at e0 hn;subst e0 hn;go_enter Tryz.func152,Tryz.ntmps152
  go_wp2
  go_region_held3 (fun w'=>w'.cell? ⟨T,0,none⟩=some (.slice (some ⟨ub,kW,none⟩) ml c.cu)∧w'.cell? ⟨w.heap.size,1,none⟩=some (.int .i64 n)∧w'.cell? ⟨ub,kW+n * 6,none⟩=some (.int .i64 u.kind)∧w'.cell? ⟨ub,kW+n * 6+1,none⟩=some (.int .i64 u.params)∧w'.cell? ⟨ub,kW+n * 6+2,none⟩=some (.slice al u.locals.length cl)∧w'.cell? ⟨ub,kW+n * 6+3,none⟩=some (.int .i64 u.result)∧w'.cell? ⟨ub,kW+n * 6+4,none⟩=some (.int .i64 u.takes)∧w'.cell? ⟨ub,kW+n * 6+5,none⟩=some (.slice (c.cv n) u.code.length (c.cc n))) (go_keep) ((go_at_call 185;refine (XT E c vB N af hN o T L P _ t x vR vO (Sb.hide H0.out.drew) (Sb.hide (by have:=bI.out;exact Nat.le_succ_of_le this)) n u HU al cl p1 p2 p3 p4).mono ?_;rintro e w3 ⟨rfl,hW⟩;have HW:=Sb.hide hW.drew.alloc;obtain⟨L3,P3,N7,N8,s3,q3,k3⟩:=hW;have c0:w3.cell? ⟨T,0,none⟩=some (.slice (some ⟨ub,kW,none⟩) ml c.cu):=(by have hc:=(bS s3.tk.blk).1;rw[mr.out,← xE.out] at hc;exact hc);have kx:w3.heap[w.heap.size]?=(w.alloc (az ⟨23,n,rO⟩)).heap[w.heap.size]?:=k3.block w.heap.size (by simp) (Yh.out L (.refl _ _ _));have x1:w3.cell? ⟨w.heap.size,1,none⟩=some (.int .i64 n):=(by have h1:=kx.trans (heap_alloc_new w _);simp[World.cell?,h1]);have ku:w3.heap[ub]?=w.heap[ub]?:=(k3.block ub (by simp;omega) (fun hx=>by have:=H.out.ok.low ub hub;unfold WB EB at hx;omega)).trans (Below.heap_alloc _ _ _ Ho);have u0:=(aI ku _).trans u0;have u1:=(aI ku _).trans u1;have u2:=(aI ku _).trans u2;have u3:=(aI ku _).trans u3;have u4:=(aI ku _).trans u4;have u5:=(aI ku _).trans u5;clear s3 q3 k3 kx ku))
  go_wp2
  go_end0
  exact⟨rfl,HW.out⟩
 by_cases h32:i.op=32
 ·obtain⟨hj0,hj1⟩:=hi.out.alive h32
  obtain⟨j,hj⟩:∃ j:Nat,j=t.last.toNat:=⟨_,rfl⟩;have HJ:Hid (t.last=(j:Int)):=by unfold Hid;omega
  have He:=Sb.hide hj;obtain⟨R,cap,hv,hcap,_⟩:=H.out.row;obtain⟨nn,hnn⟩:∃ n,n=t.ae.length:=⟨_,rfl⟩;have hjl:j<nn:=by omega
  have hnf:nn≤31:=by have:=H.out.tk.few;omega
  have n0:(0:Int)≤(j:Int):=by omega
  have n1:(j:Int)<(nn:Int):=by omega
  rw[← hnn] at hv;have HV:=Sb.hide hv;have bG:=Sb.hide hnn;have b3:=(bS H.out.tk.blk).2.2.2.1;rw[hv] at b3;have b4:=cO H.out;have br:=xA H.out hv j (by omega);have xu:=World.new_ne w ⟨R,j,none⟩ br;clear hv hnn hj hcap hj0 hj1 ho;have e0:i.op=32:=h32;obtain⟨xD,ia,rO⟩:=i;simp only at e0;subst e0;go_enter Tryz.func152,Tryz.ntmps152
  go_wp2
  go_region_held3 (fun w'=>w'.cell? ⟨T,3,none⟩=some (.slice (some ⟨R,0,none⟩) nn cap)∧w'.cell? ⟨T,4,none⟩=some (.pointer (some ⟨P t.hand,0,none⟩))∧w'.cell? ⟨R,j,none⟩=some (.pointer (some ⟨P j,0,none⟩))) (go_keep) ((go_at_call 148;refine (zY E c vB (.func (.func N) #[] af) o T L P _ t x vR vO (Sb.hide H0.out.drew) j HJ).mono ?_;rintro e w2 ⟨rfl,L2,s2,q2,k2⟩;have S2:=Sb.hide s2;have E2:=Sb.hide q2;have C2:=Sb.hide k2;have b3:=(bS s2.tk.blk).2.2.2.1;rw[HV.out] at b3;have b4:w2.cell? ⟨T,4,none⟩=some (.pointer (some ⟨P t.hand,0,none⟩)):=(by have hc:=cO s2;exact hc);have br:w2.cell? ⟨R,j,none⟩=some (.pointer (some ⟨P j,0,none⟩)):=xA s2 HV.out j (by rw[fw,← bG.out];exact hjl);clear s2 q2 k2))
  obtain⟨hx,Sx,gx,rx,Du,hhx,hTx,hxs⟩:=zZ S2.out j (by rw[fw,← bG.out];exact hjl);have p2:=hTx.cells.2.2.1;rw[hxs] at p2;clear hhx hTx hxs;go_wp2_with fail
  refine (Xk E c vB N af hN o T L2 P _ t.cut x vR vO S2 (Sb.hide (by have:=bI.out;exact Nat.le_succ_of_le this)) _).mono ?_;rintro e w3 ⟨rfl,hW⟩;have HW:=Sb.hide (hW.trans E2.out C2.out).drew.alloc;clear hW;go_wp2
  go_end0
  refine⟨rfl,?_⟩;have e9:qH c.m ⟨32,ia,rO⟩ t=t.cut.put (yes ((t.cut.th j).stands != 3)):=by
   rw[He.out];rfl
  have e8:(((t.cut.th j).stands:Int) != 3)=((t.cut.th j).stands != 3):=by rw[Bool.eq_iff_iff];simp;omega
  rw[e9,← e8];exact HW.out
 ·have ho2:8≤i.op∧i.op≤20:=by omega
  have e23:(i.op==23)=false:=by simp;omega
  have e24:(i.op==24)=false:=by simp;omega
  have e25:(i.op==25)=false:=by simp;omega
  have e29:(i.op==29)=false:=by simp;omega
  have e30:(i.op==30)=false:=by simp;omega
  have e31:(i.op==31)=false:=by simp;omega
  have e32:(i.op==32)=false:=by simp;omega
  have HS:Hid (qH c.m i t=t.reckon i.op):=by unfold Hid qH;rw[if_neg h23,if_neg iV,if_neg gU,if_neg mY,if_neg h31,if_neg mZ,if_neg h32]
  clear h23 iV mZ gU mY h31 h32 ho ho2;go_enter Tryz.func152,Tryz.ntmps152
  go_wp2_with fail
  refine (GI E c vB N af hN o T L P _ t x vR vO H0 (Sb.hide (by have:=bI.out;exact Nat.le_succ_of_le this)) i.op).mono ?_;rintro e w3 ⟨rfl,hW⟩;have HW:=Sb.hide hW.alloc;clear hW;go_wp2
  go_end0
  refine⟨rfl,?_⟩;rw[HS.out];exact HW.out
end
section
variable {β:Type} {E:Env β} {c:Cx} {vB ev:Value} {o T:Nat} {L:av} {P:Nat→Nat} {w wb w1:World} {t:Tk} {x:β} {vR vO:Value}
theorem aS.under (hb:Below w.heap.size w wb)(H:aS E c vB ev o T L wb w1 t x):aS E c vB ev o T L w w1 t x:=by
 obtain⟨L2,P2,mU,mV,h1,h2,h3⟩:=H;have hz:=hb.size;exact⟨L2,P2,mU,mV,h1,⟨fun b hb'=>h2.1 b (by omega),h2.2⟩,h3.os.trans hb.os,h3.tape.trans hb.tape,h3.output.trans hb.output,Nat.le_trans hz h3.size,fun b hb' hn=>(h3.block b (by omega) hn).trans (hb.block b hb')⟩
theorem o8.toW (H:o8 E c vB ev o T L P w w1 t x vR vO):aS E c vB ev o T L w w1 t x:=by
 obtain⟨L',h1,h2,h3⟩:=H;exact⟨L',P,vR,vO,h1,h2,h3⟩
theorem St.goto (H:St E c vB ev o T L P w t x vR vO){h:Th}{S g r:Nat}{vU:Value}{f:Wk}{rs:List Wk}{U cap:Nat}(hh:t.ae[t.hand]?=some h)(hT:aD c L o t.hand P w h S g r vU)(hf:h.fs=f :: rs)(hU:vU=.slice (some ⟨U,0,none⟩) (rs.length+1) cap)(n:Nat) :
  ∃ L',St E c vB ev o T L' P (w.setCell ⟨U,rs.length * 3+1,none⟩ (.int .i64 n)) (t.goto n) x vR vO∧aD c L' o t.hand P (w.setCell ⟨U,rs.length * 3+1,none⟩ (.int .i64 n)) { h with fs:={ f with pc:=n } :: rs } S g r vU∧iI o L L' w∧aQ (WB L o) w (w.setCell ⟨U,rs.length * 3+1,none⟩ (.int .i64 n)):=by
 have hg:=hT.goto hf hU n;have hl:L U=⟨1,o,t.hand+1,3⟩:=hT.l3 U (by rw[hU];rfl);have hp:fq c L o t.hand P w (w.setCell ⟨U,rs.length * 3+1,none⟩ (.int .i64 n)) { h with fs:={ f with pc:=n } :: rs }:=⟨L,S,g,r,vU,hg,.refl _ _ _ _,H.ok.on (by simp[World.setCell]),(aQ.refl _ _).set (.inl (by unfold dn;rw[hl];exact⟨rfl,rfl,rfl⟩)) _⟩;have hC:aQ (WB L o) w (w.setCell ⟨U,rs.length * 3+1,none⟩ (.int .i64 n)):=(aQ.refl _ _).set (.inl (.inl (by rw[hl];exact⟨rfl,rfl⟩))) _;obtain⟨L1,s1,q1,k1⟩:=H.thread hh hp;have e:t.goto n=t.set t.hand { h with fs:={ f with pc:=n } :: rs }:=qD hh hf n;rw[← e] at s1;refine⟨L1,s1,?_,q1,k1⟩;exact hg.keep (fun b hb=>q1.1 b (by simpa[World.setCell] using hb)) rfl rfl (fun _ _ _=>rfl)
end
structure jN {β:Type} (X:gN β) (c:Cx) (t:Tk) (x:β) (f:Wk) (rs:List Wk) (u:Un) (i:Ins):Prop where
 fs:t.top.fs=f :: rs
 un:c.m.units[f.u]?=some u
 code:u.code[f.pc]?=some i
 pc:f.pc≤4000
 base:f.base≤400
 op:1≤i.op∧i.op≤32
 loc:i.op=3∨i.op=4→0≤i.a∧i.a<200
 jump:i.op=21∨i.op=22→0≤i.a
 send:i.op=26→∃ n:Nat,i.a=n∧n<c.m.boxes.length∧X.may x n
 recv:i.op=27→∃ n:Nat,i.a=n∧n<c.m.boxes.length∧X.empty x n=false
 out:t.out.length≤1000000
 log:t.log.length≤2000000
 qH:Hl c (t.goto (f.pc+1)) i
theorem Yi {c:Cx}{i:Ins}{t:Tk}{rv:Int}(ho:8≤i.op∧i.op≤20∨i.op=23∨i.op=24∨i.op=25∨i.op=29∨i.op=30∨i.op=31∨i.op=32):t.act c.m i rv=qH c.m i t:=by
 unfold Tk.act qH;rw[if_neg (by omega),if_neg (by omega),if_neg (by omega),if_neg (by omega),if_neg (by omega),if_neg (by omega),if_neg (by omega),if_neg (by omega),if_neg (by omega),if_neg (by omega),if_neg (by omega),if_neg (by omega)]
section
variable {β:Type} (E:Env β) (X:gN β) (c:Cx) (vB:Value) (N:Nat) (af:Array Value) (hN:Hid (jl E c N af)) (o T:Nat) (L:av) (P:Nat→Nat) (w:World) (t:Tk) (x:β) (vR vO:Value) (H:Hid (St E c vB (.func (.func N) #[] af) o T L P w t x vR vO))
include hN H
theorem Yj (f:Wk)(rs:List Wk)(u:Un)(i:Ins)(hs:Hid (jN X c t x f rs u i))(ho:i.op=1) :
  Calls Tryz.prog 101 #[.pointer (some ⟨T,0,none⟩)] w fun e w'=>e=.returned (.tuple #[])∧aS E c vB (.func (.func N) #[] af) o T L w w' ((t.goto (f.pc+1)).put i.n) x:=by
 have e1:(i.op==1)=true:=by simpa using ho
 clear ho;obtain⟨h,S,g,r,vU,hh,hT,htop⟩:=H.out.at
 have hf:h.fs=f :: rs:=by rw[← htop];exact hs.out.fs
 obtain⟨U,cap,cur,hU,cB,_⟩:=hT.work hf;have hUz:=lt_of_block cB;have d0:=cO H.out;have hpc:=hs.out.pc;have HF:=Sb.hide hf;have HU:=Sb.hide hU;have HH:=Sb.hide hh;have HT:=Sb.hide hT;have bT:=Sb.hide hs.out.un;have dQ:=Sb.hide hs.out.code;clear hf hU hh hT cB htop;go_enter Tryz.func101,Tryz.ntmps101
 go_wp2_with fail
 refine (iT c L o t.hand P _ h S g r vU HT (Sb.hide H.out.cx) (Sb.hide H.out.ok) f rs HF u bT i dQ).mono ?_;rintro e w1 ⟨rfl,hb1⟩;have hz1:=hb1.size;have HT2:Hid (aD c L o t.hand P (w1.alloc (az i)) h S g r vU):=HT.out.keep (.refl _ _) rfl rfl (fun b hb _=>(Below.heap_alloc _ _ _ (by omega)).trans (hb1.block b hb));have HS2:Hid (St E c vB (.func (.func N) #[] af) o T L P (w1.alloc (az i)) t x vR vO):=H.out.below (hb1.alloc hb1.size _);have HB2:Hid (Below w.heap.size w (w1.alloc (az i))):=hb1.alloc hb1.size _;have dP:¬ w1.heap.size=U:=by omega
 have ni:¬ U=w1.heap.size:=by omega
 clear hb1 d0;go_wp2_with fail
 refine (kT c L o t.hand P _ h S g r vU HT2 f rs HF U cap HU).mono ?_;rintro e w' ⟨rfl,d,rfl⟩;obtain⟨k0,k1,k2,k3⟩:=(HT2.out.drewN d).inner HF.out HU.out;obtain⟨L3,s3,t3,q3,c3⟩:=(HS2.out.below (below_drewN (Below.refl _ _) d)).goto HH.out (HT2.out.drewN d) HF.out HU.out (f.pc+1);have ecast:((f.pc+1:Nat):Int)=(f.pc:Int)+1:=by omega
 rw[ecast] at s3 t3 c3;have y0:(((w1.alloc (az i)).drewN d).setCell ⟨U,rs.length * 3+1,none⟩ (.int .i64 ((f.pc:Int)+1))).heap[w1.heap.size]?=some (az i):=(Below.heap_setCell _ ⟨U,rs.length * 3+1,none⟩ _ _ (by show w1.heap.size≠U;exact dP)).trans (heap_alloc_new w1 _);have S3:=Sb.hide s3;have T3:=Sb.hide t3;have E3:=Sb.hide q3;have C3:=Sb.hide c3;have HX0:=Sb.hide y0;have cZ:Hid (Below w.heap.size w ((w1.alloc (az i)).drewN d)):=below_drewN HB2.out d;clear s3 t3 q3 c3 y0 ecast;obtain⟨t1,ht1⟩:∃ t1,t1=t.goto (f.pc+1):=⟨_,rfl⟩;rw[← ht1] at S3;have bW:Hid (t1.log.length≤2000000):=by unfold Hid;rw[ht1];exact hs.out.log
 have HT1:=Sb.hide ht1;clear ht1;go_wp2_with fail
 refine (gJ E c vB N af hN o T L3 P _ t1 x vR vO S3 (Sb.hide (Nat.le_succ_of_le bW.out)) i.n).mono ?_;rintro e w3 ⟨rfl,hW⟩;have HW:=Sb.hide ((hW.trans E3.out C3.out).under cZ.out);clear hW;go_wp2
 go_end0
 refine⟨rfl,?_⟩;rw[← HT1.out];exact HW.out
theorem Yk (f:Wk)(rs:List Wk)(u:Un)(i:Ins)(hs:Hid (jN X c t x f rs u i))(ho:i.op=2) :
  Calls Tryz.prog 101 #[.pointer (some ⟨T,0,none⟩)] w fun e w'=>e=.returned (.tuple #[])∧aS E c vB (.func (.func N) #[] af) o T L w w' ((t.goto (f.pc+1)).put i.a) x:=by
 have e1:(i.op==1)=false:=by simp;omega
 have e2:(i.op==2)=true:=by simpa using ho
 clear ho;obtain⟨h,S,g,r,vU,hh,hT,htop⟩:=H.out.at
 have hf:h.fs=f :: rs:=by rw[← htop];exact hs.out.fs
 obtain⟨U,cap,cur,hU,cB,_⟩:=hT.work hf;have hUz:=lt_of_block cB;have d0:=cO H.out;have hpc:=hs.out.pc;have HF:=Sb.hide hf;have HU:=Sb.hide hU;have HH:=Sb.hide hh;have HT:=Sb.hide hT;have bT:=Sb.hide hs.out.un;have dQ:=Sb.hide hs.out.code;clear hf hU hh hT cB htop;go_enter Tryz.func101,Tryz.ntmps101
 go_wp2_with fail
 refine (iT c L o t.hand P _ h S g r vU HT (Sb.hide H.out.cx) (Sb.hide H.out.ok) f rs HF u bT i dQ).mono ?_;rintro e w1 ⟨rfl,hb1⟩;have hz1:=hb1.size;have HT2:Hid (aD c L o t.hand P (w1.alloc (az i)) h S g r vU):=HT.out.keep (.refl _ _) rfl rfl (fun b hb _=>(Below.heap_alloc _ _ _ (by omega)).trans (hb1.block b hb));have HS2:Hid (St E c vB (.func (.func N) #[] af) o T L P (w1.alloc (az i)) t x vR vO):=H.out.below (hb1.alloc hb1.size _);have HB2:Hid (Below w.heap.size w (w1.alloc (az i))):=hb1.alloc hb1.size _;have dP:¬ w1.heap.size=U:=by omega
 have ni:¬ U=w1.heap.size:=by omega
 clear hb1 d0;go_wp2_with fail
 refine (kT c L o t.hand P _ h S g r vU HT2 f rs HF U cap HU).mono ?_;rintro e w' ⟨rfl,d,rfl⟩;obtain⟨k0,k1,k2,k3⟩:=(HT2.out.drewN d).inner HF.out HU.out;obtain⟨L3,s3,t3,q3,c3⟩:=(HS2.out.below (below_drewN (Below.refl _ _) d)).goto HH.out (HT2.out.drewN d) HF.out HU.out (f.pc+1);have ecast:((f.pc+1:Nat):Int)=(f.pc:Int)+1:=by omega
 rw[ecast] at s3 t3 c3;have y0:(((w1.alloc (az i)).drewN d).setCell ⟨U,rs.length * 3+1,none⟩ (.int .i64 ((f.pc:Int)+1))).heap[w1.heap.size]?=some (az i):=(Below.heap_setCell _ ⟨U,rs.length * 3+1,none⟩ _ _ (by show w1.heap.size≠U;exact dP)).trans (heap_alloc_new w1 _);have S3:=Sb.hide s3;have T3:=Sb.hide t3;have E3:=Sb.hide q3;have C3:=Sb.hide c3;have HX0:=Sb.hide y0;have cZ:Hid (Below w.heap.size w ((w1.alloc (az i)).drewN d)):=below_drewN HB2.out d;clear s3 t3 q3 c3 y0 ecast;obtain⟨t1,ht1⟩:∃ t1,t1=t.goto (f.pc+1):=⟨_,rfl⟩;rw[← ht1] at S3;have bW:Hid (t1.log.length≤2000000):=by unfold Hid;rw[ht1];exact hs.out.log
 have HT1:=Sb.hide ht1;clear ht1;go_wp2_with fail
 refine (gJ E c vB N af hN o T L3 P _ t1 x vR vO S3 (Sb.hide (Nat.le_succ_of_le bW.out)) i.a).mono ?_;rintro e w3 ⟨rfl,hW⟩;have HW:=Sb.hide ((hW.trans E3.out C3.out).under cZ.out);clear hW;go_wp2
 go_end0
 refine⟨rfl,?_⟩;rw[← HT1.out];exact HW.out
theorem step_drop (f:Wk)(rs:List Wk)(u:Un)(i:Ins)(hs:Hid (jN X c t x f rs u i))(ho:i.op=5) :
  Calls Tryz.prog 101 #[.pointer (some ⟨T,0,none⟩)] w fun e w'=>e=.returned (.tuple #[])∧aS E c vB (.func (.func N) #[] af) o T L w w' ((t.goto (f.pc+1)).cut) x:=by
 have _:=hN;have e1:(i.op==1)=false:=by simp;omega
 have e2:(i.op==2)=false:=by simp;omega
 have e3:(i.op==3)=false:=by simp;omega
 have e4:(i.op==4)=false:=by simp;omega
 have e5:(i.op==5)=true:=by simpa using ho
 clear ho;obtain⟨h,S,g,r,vU,hh,hT,htop⟩:=H.out.at
 have hf:h.fs=f :: rs:=by rw[← htop];exact hs.out.fs
 obtain⟨U,cap,cur,hU,cB,_⟩:=hT.work hf;have hUz:=lt_of_block cB;have d0:=cO H.out;have hpc:=hs.out.pc;have HF:=Sb.hide hf;have HU:=Sb.hide hU;have HH:=Sb.hide hh;have HT:=Sb.hide hT;have bT:=Sb.hide hs.out.un;have dQ:=Sb.hide hs.out.code;clear hf hU hh hT cB htop;go_enter Tryz.func101,Tryz.ntmps101
 go_wp2_with fail
 refine (iT c L o t.hand P _ h S g r vU HT (Sb.hide H.out.cx) (Sb.hide H.out.ok) f rs HF u bT i dQ).mono ?_;rintro e w1 ⟨rfl,hb1⟩;have hz1:=hb1.size;have HT2:Hid (aD c L o t.hand P (w1.alloc (az i)) h S g r vU):=HT.out.keep (.refl _ _) rfl rfl (fun b hb _=>(Below.heap_alloc _ _ _ (by omega)).trans (hb1.block b hb));have HS2:Hid (St E c vB (.func (.func N) #[] af) o T L P (w1.alloc (az i)) t x vR vO):=H.out.below (hb1.alloc hb1.size _);have HB2:Hid (Below w.heap.size w (w1.alloc (az i))):=hb1.alloc hb1.size _;have dP:¬ w1.heap.size=U:=by omega
 have ni:¬ U=w1.heap.size:=by omega
 clear hb1 d0;go_wp2_with fail
 refine (kT c L o t.hand P _ h S g r vU HT2 f rs HF U cap HU).mono ?_;rintro e w' ⟨rfl,d,rfl⟩;obtain⟨k0,k1,k2,k3⟩:=(HT2.out.drewN d).inner HF.out HU.out;obtain⟨L3,s3,t3,q3,c3⟩:=(HS2.out.below (below_drewN (Below.refl _ _) d)).goto HH.out (HT2.out.drewN d) HF.out HU.out (f.pc+1);have ecast:((f.pc+1:Nat):Int)=(f.pc:Int)+1:=by omega
 rw[ecast] at s3 t3 c3;have y0:(((w1.alloc (az i)).drewN d).setCell ⟨U,rs.length * 3+1,none⟩ (.int .i64 ((f.pc:Int)+1))).heap[w1.heap.size]?=some (az i):=(Below.heap_setCell _ ⟨U,rs.length * 3+1,none⟩ _ _ (by show w1.heap.size≠U;exact dP)).trans (heap_alloc_new w1 _);have S3:=Sb.hide s3;have T3:=Sb.hide t3;have E3:=Sb.hide q3;have C3:=Sb.hide c3;have HX0:=Sb.hide y0;have cZ:Hid (Below w.heap.size w ((w1.alloc (az i)).drewN d)):=below_drewN HB2.out d;clear s3 t3 q3 c3 y0 ecast;obtain⟨t1,ht1⟩:∃ t1,t1=t.goto (f.pc+1):=⟨_,rfl⟩;rw[← ht1] at S3;have bW:Hid (t1.log.length≤2000000):=by unfold Hid;rw[ht1];exact hs.out.log
 have HT1:=Sb.hide ht1;clear ht1;have hhd:t1.hand=t.hand:=by rw[HT1.out];rfl
 go_wp2_with fail
 rw[← hhd];refine (taken E c vB (.func (.func N) #[] af) o T L3 P _ t1 x vR vO S3).mono ?_;rintro e w4 ⟨rfl,L4,s4,q4,k4⟩;have S4:=Sb.hide s4;have E4:=Sb.hide q4;have C4:=Sb.hide k4;clear s4 q4 k4;have HW:=Sb.hide (((o8.toW ⟨L4,S4.out,E4.out,C4.out⟩).trans E3.out C3.out).under cZ.out);go_wp2
 go_end0
 refine⟨rfl,?_⟩;rw[← HT1.out];exact HW.out
theorem Yl (f:Wk)(rs:List Wk)(u:Un)(i:Ins)(hs:Hid (jN X c t x f rs u i))(ho:i.op=6) :
  Calls Tryz.prog 101 #[.pointer (some ⟨T,0,none⟩)] w fun e w'=>e=.returned (.tuple #[])∧aS E c vB (.func (.func N) #[] af) o T L w w' ((t.goto (f.pc+1)).cut.put (wrap (-(t.goto (f.pc+1)).last))) x:=by
 have e1:(i.op==1)=false:=by simp;omega
 have e2:(i.op==2)=false:=by simp;omega
 have e3:(i.op==3)=false:=by simp;omega
 have e4:(i.op==4)=false:=by simp;omega
 have e5:(i.op==5)=false:=by simp;omega
 have e6:(i.op==6)=true:=by simpa using ho
 clear ho;obtain⟨h,S,g,r,vU,hh,hT,htop⟩:=H.out.at
 have hf:h.fs=f :: rs:=by rw[← htop];exact hs.out.fs
 obtain⟨U,cap,cur,hU,cB,_⟩:=hT.work hf;have hUz:=lt_of_block cB;have d0:=cO H.out;have hpc:=hs.out.pc;have HF:=Sb.hide hf;have HU:=Sb.hide hU;have HH:=Sb.hide hh;have HT:=Sb.hide hT;have bT:=Sb.hide hs.out.un;have dQ:=Sb.hide hs.out.code;clear hf hU hh hT cB htop;go_enter Tryz.func101,Tryz.ntmps101
 go_wp2_with fail
 refine (iT c L o t.hand P _ h S g r vU HT (Sb.hide H.out.cx) (Sb.hide H.out.ok) f rs HF u bT i dQ).mono ?_;rintro e w1 ⟨rfl,hb1⟩;have hz1:=hb1.size;have HT2:Hid (aD c L o t.hand P (w1.alloc (az i)) h S g r vU):=HT.out.keep (.refl _ _) rfl rfl (fun b hb _=>(Below.heap_alloc _ _ _ (by omega)).trans (hb1.block b hb));have HS2:Hid (St E c vB (.func (.func N) #[] af) o T L P (w1.alloc (az i)) t x vR vO):=H.out.below (hb1.alloc hb1.size _);have HB2:Hid (Below w.heap.size w (w1.alloc (az i))):=hb1.alloc hb1.size _;have dP:¬ w1.heap.size=U:=by omega
 have ni:¬ U=w1.heap.size:=by omega
 clear hb1 d0;go_wp2_with fail
 refine (kT c L o t.hand P _ h S g r vU HT2 f rs HF U cap HU).mono ?_;rintro e w' ⟨rfl,d,rfl⟩;obtain⟨k0,k1,k2,k3⟩:=(HT2.out.drewN d).inner HF.out HU.out;obtain⟨L3,s3,t3,q3,c3⟩:=(HS2.out.below (below_drewN (Below.refl _ _) d)).goto HH.out (HT2.out.drewN d) HF.out HU.out (f.pc+1);have ecast:((f.pc+1:Nat):Int)=(f.pc:Int)+1:=by omega
 rw[ecast] at s3 t3 c3;have y0:(((w1.alloc (az i)).drewN d).setCell ⟨U,rs.length * 3+1,none⟩ (.int .i64 ((f.pc:Int)+1))).heap[w1.heap.size]?=some (az i):=(Below.heap_setCell _ ⟨U,rs.length * 3+1,none⟩ _ _ (by show w1.heap.size≠U;exact dP)).trans (heap_alloc_new w1 _);have S3:=Sb.hide s3;have T3:=Sb.hide t3;have E3:=Sb.hide q3;have C3:=Sb.hide c3;have HX0:=Sb.hide y0;have cZ:Hid (Below w.heap.size w ((w1.alloc (az i)).drewN d)):=below_drewN HB2.out d;clear s3 t3 q3 c3 y0 ecast;obtain⟨t1,ht1⟩:∃ t1,t1=t.goto (f.pc+1):=⟨_,rfl⟩;rw[← ht1] at S3;have bW:Hid (t1.log.length≤2000000):=by unfold Hid;rw[ht1];exact hs.out.log
 have HT1:=Sb.hide ht1;clear ht1;have hhd:t1.hand=t.hand:=by rw[HT1.out];rfl
 go_wp2_with fail
 rw[← hhd];refine (taken E c vB (.func (.func N) #[] af) o T L3 P _ t1 x vR vO S3).mono ?_;rintro e w4 ⟨rfl,L4,s4,q4,k4⟩;have S4:=Sb.hide s4;have E4:=Sb.hide q4;have C4:=Sb.hide k4;clear s4 q4 k4;go_wp2_with fail
 refine (gJ E c vB N af hN o T L4 P _ t1.cut x vR vO S4 (Sb.hide (by exact Nat.le_succ_of_le bW.out)) (wrap (-t1.last))).mono ?_;rintro e w3 ⟨rfl,hW⟩;have HW:=Sb.hide (((hW.trans E4.out C4.out).trans E3.out C3.out).under cZ.out);clear hW;go_wp2
 go_end0
 refine⟨rfl,?_⟩;rw[← HT1.out];exact HW.out
theorem Ym (f:Wk)(rs:List Wk)(u:Un)(i:Ins)(hs:Hid (jN X c t x f rs u i))(ho:i.op=7) :
  Calls Tryz.prog 101 #[.pointer (some ⟨T,0,none⟩)] w fun e w'=>e=.returned (.tuple #[])∧aS E c vB (.func (.func N) #[] af) o T L w w' ((t.goto (f.pc+1)).cut.put (wrap (1 - (t.goto (f.pc+1)).last))) x:=by
 have e1:(i.op==1)=false:=by simp;omega
 have e2:(i.op==2)=false:=by simp;omega
 have e3:(i.op==3)=false:=by simp;omega
 have e4:(i.op==4)=false:=by simp;omega
 have e5:(i.op==5)=false:=by simp;omega
 have e6:(i.op==6)=false:=by simp;omega
 have e7:(i.op==7)=true:=by simpa using ho
 clear ho;obtain⟨h,S,g,r,vU,hh,hT,htop⟩:=H.out.at
 have hf:h.fs=f :: rs:=by rw[← htop];exact hs.out.fs
 obtain⟨U,cap,cur,hU,cB,_⟩:=hT.work hf;have hUz:=lt_of_block cB;have d0:=cO H.out;have hpc:=hs.out.pc;have HF:=Sb.hide hf;have HU:=Sb.hide hU;have HH:=Sb.hide hh;have HT:=Sb.hide hT;have bT:=Sb.hide hs.out.un;have dQ:=Sb.hide hs.out.code;clear hf hU hh hT cB htop;go_enter Tryz.func101,Tryz.ntmps101
 go_wp2_with fail
 refine (iT c L o t.hand P _ h S g r vU HT (Sb.hide H.out.cx) (Sb.hide H.out.ok) f rs HF u bT i dQ).mono ?_;rintro e w1 ⟨rfl,hb1⟩;have hz1:=hb1.size;have HT2:Hid (aD c L o t.hand P (w1.alloc (az i)) h S g r vU):=HT.out.keep (.refl _ _) rfl rfl (fun b hb _=>(Below.heap_alloc _ _ _ (by omega)).trans (hb1.block b hb));have HS2:Hid (St E c vB (.func (.func N) #[] af) o T L P (w1.alloc (az i)) t x vR vO):=H.out.below (hb1.alloc hb1.size _);have HB2:Hid (Below w.heap.size w (w1.alloc (az i))):=hb1.alloc hb1.size _;have dP:¬ w1.heap.size=U:=by omega
 have ni:¬ U=w1.heap.size:=by omega
 clear hb1 d0;go_wp2_with fail
 refine (kT c L o t.hand P _ h S g r vU HT2 f rs HF U cap HU).mono ?_;rintro e w' ⟨rfl,d,rfl⟩;obtain⟨k0,k1,k2,k3⟩:=(HT2.out.drewN d).inner HF.out HU.out;obtain⟨L3,s3,t3,q3,c3⟩:=(HS2.out.below (below_drewN (Below.refl _ _) d)).goto HH.out (HT2.out.drewN d) HF.out HU.out (f.pc+1);have ecast:((f.pc+1:Nat):Int)=(f.pc:Int)+1:=by omega
 rw[ecast] at s3 t3 c3;have y0:(((w1.alloc (az i)).drewN d).setCell ⟨U,rs.length * 3+1,none⟩ (.int .i64 ((f.pc:Int)+1))).heap[w1.heap.size]?=some (az i):=(Below.heap_setCell _ ⟨U,rs.length * 3+1,none⟩ _ _ (by show w1.heap.size≠U;exact dP)).trans (heap_alloc_new w1 _);have S3:=Sb.hide s3;have T3:=Sb.hide t3;have E3:=Sb.hide q3;have C3:=Sb.hide c3;have HX0:=Sb.hide y0;have cZ:Hid (Below w.heap.size w ((w1.alloc (az i)).drewN d)):=below_drewN HB2.out d;clear s3 t3 q3 c3 y0 ecast;obtain⟨t1,ht1⟩:∃ t1,t1=t.goto (f.pc+1):=⟨_,rfl⟩;rw[← ht1] at S3;have bW:Hid (t1.log.length≤2000000):=by unfold Hid;rw[ht1];exact hs.out.log
 have HT1:=Sb.hide ht1;clear ht1;have hhd:t1.hand=t.hand:=by rw[HT1.out];rfl
 go_wp2_with fail
 rw[← hhd];refine (taken E c vB (.func (.func N) #[] af) o T L3 P _ t1 x vR vO S3).mono ?_;rintro e w4 ⟨rfl,L4,s4,q4,k4⟩;have S4:=Sb.hide s4;have E4:=Sb.hide q4;have C4:=Sb.hide k4;clear s4 q4 k4;go_wp2_with fail
 refine (gJ E c vB N af hN o T L4 P _ t1.cut x vR vO S4 (Sb.hide (by exact Nat.le_succ_of_le bW.out)) (wrap (1 - t1.last))).mono ?_;rintro e w3 ⟨rfl,hW⟩;have HW:=Sb.hide (((hW.trans E4.out C4.out).trans E3.out C3.out).under cZ.out);clear hW;go_wp2
 go_end0
 refine⟨rfl,?_⟩;rw[← HT1.out];exact HW.out
end
end Go.Proofs.YtfcpglhpolpdcaaGreatDoor.Vw
