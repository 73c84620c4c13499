/- The walk of newThread. -/
import Derived.Test.YtfcpglhpolpdcaaGreatDoorM8
import Derived.Test.YtfcpglhpolpdcaaGreatDoorM4
import Derived.Test.YtfcpglhpolpdcaaGreatDoorM1
set_option maxRecDepth 100000
set_option maxHeartbeats 4000000
namespace Go.Proofs.YtfcpglhpolpdcaaGreatDoor.Vw
open Go.RowKit Vf Vm
abbrev zH:Th:=⟨[],[],0,none⟩
theorem Xa {c:Cx}{L:av}{o i:Nat}{w w0 w1:World}{S g:Nat}(hL:bF c.B L w)(h0:w.heap.size≤w0.heap.size)(hg:w0.heap.size≤g)(hgS:g<S)(hS:Sb.SK w1 S g [] 8 8 400)(hb:Below w0.heap.size w0 w1) :
  ∃ L1,aD c L1 o i (fun _=>w1.heap.size) (w1.alloc (kr S (.slice none 0 0) 0 (.pointer none))) zH S g 8 (.slice none 0 0)∧Ex o i L L1 w0∧bF c.B L1 (w1.alloc (kr S (.slice none 0 0) 0 (.pointer none))):=by
 obtain⟨cs,hc,_⟩:=hS.2.1;have z1:=lt_of_block hS.1;have z2:=lt_of_block hc;have hz:=hb.size;refine⟨fun b=>if b=S then ⟨1,o,i+1,1⟩ else if b=g then ⟨1,o,i+1,2⟩ else if b=w1.heap.size then ⟨1,o,i+1,0⟩ else L b,⟨heap_alloc_new w1 _,SK.far hS (Below.heap_alloc _ _ _ z1) (Below.heap_alloc _ _ _ z2),World.ownsRow_nil _ _ _ _,by simp,?_,by simp,?_,fun U hU=>by cases hU⟩,⟨fun b hb'=>?_,fun b=>?_⟩,⟨fun b hb'=>?_,fun b hb'=>?_,by have:=hL.size;simp;omega⟩⟩
 ·have a1:¬ w1.heap.size=S:=by omega
  have a2:¬ w1.heap.size=g:=by omega
  simp[a1,a2]
 ·have a1:¬ g=S:=by omega
  simp[a1]
 ·have a1:¬ b=S:=by omega
  have a2:¬ b=g:=by omega
  have a3:¬ b=w1.heap.size:=by omega
  simp[a1,a2,a3]
 ·by_cases a1:b=S
  ·right;simp[a1]
  ·by_cases a2:b=g
   ·right;simp[a2];split<;>simp
   ·by_cases a3:b=w1.heap.size
    ·right
     have b1:¬ w1.heap.size=S:=by omega
     have b2:¬ w1.heap.size=g:=by omega
     simp[a3,b1,b2]
    ·left;simp[a1,a2,a3]
 ·have:=hL.size
  have a1:¬ b=S:=by omega
  have a2:¬ b=g:=by omega
  have a3:¬ b=w1.heap.size:=by omega
  simp[a1,a2,a3,hL.low b hb']
 ·simp at hb'
  have a1:¬ b=S:=by omega
  have a2:¬ b=g:=by omega
  have a3:¬ b=w1.heap.size:=by omega
  simp only[a1,a2,a3,if_false];exact hL.new b (by omega)
structure zI (c:Cx) (L1:av) (o i H:Nat) (w0 w2:World) (ps:List Int) (X:Nat) (ob:Obj) (k:Nat) (wr:World):Prop where
 post:fq c L1 o i (fun _=>H) w2 wr { zH with ws:=ps.take k }
 below:Below w0.heap.size w0 wr
 box:wr.heap[X]?=some ob
theorem Nj {c:Cx}{L L1:av}{o i:Nat}{w0 w2 w3:World}(hfr:∀ b,¬ dn L o i b)(hE:Ex o i L L1 w0)(hb:Below w0.heap.size w0 w2)(hc:aQ (dn L1 o i) w2 w3)(_:c=c):Below w0.heap.size w0 w3 :=
 ⟨hc.os.trans hb.os,hc.tape.trans hb.tape,hc.output.trans hb.output,Nat.le_trans hb.size hc.size,fun b hb'=>(hc.block b (by have:=hb.size;omega) (fun hx=>hfr b (by unfold dn at hx ⊢;rw[hE.1 b hb'] at hx;exact hx))).trans (hb.block b hb')⟩
theorem zI.next {c:Cx}{L L1 L2:av}{o i H:Nat}{w0 w2 wr w3:World}{ps:List Int}{X:Nat}{ob:Obj}{k S:Nat}{x:Int}{vU:Value}(hfr:∀ b,¬ dn L o i b)(hE:Ex o i L L1 w0)(hX:X<w0.heap.size)(hA:Below w0.heap.size w0 wr)(hbx:wr.heap[X]?=some ob)(hE2:Ex o i L1 L2 w2)(hC2:aQ (dn L1 o i) w2 wr)(hz:w0.heap.size≤w2.heap.size)(hx:ps[k]?=some x)(hp:iG c L2 o i (fun _=>H) wr w3 { zH with ws:=ps.take k++[x] } S vU):zI c L1 o i H w0 w2 ps X ob (k+1) w3:=by
 have e:ps.take k++[x]=ps.take (k+1):=by rw[List.take_add_one,hx];rfl
 rw[e] at hp;have hT:=hp.qw.trans hE2 hC2;obtain⟨L3,g3,r3,_,_,_,h4⟩:=hp;have hb:Below w0.heap.size w0 w3:=Nj (c:=c) hfr (hE.trans hE2 hz) hA h4 rfl;exact⟨hT,hb,(hb.block X hX).trans ((hA.block X hX).symm.trans hbx)⟩
theorem Nk (c:Cx)(L:av)(o i:Nat)(w:World)(hL:Hid (bF c.B L w))(hfr:Hid (∀ b,¬ dn L o i b))(n:Nat)(u:Un)(hu:Hid (c.m.units[n]?=some u))(al:Option Addr)(cl:Nat)(hp0:0≤u.params)(hpl:u.params≤u.locals.length)(hl2:u.locals.length≤200)(ps:List Int)(hps:ps.length=u.params.toNat)(a:Option Addr)(cp:Nat)(hin:Hid (∀ (j:Nat) x,ps[j]?=some x→∃ b off,a=some ⟨b,off,none⟩∧b<w.heap.size∧w.cell? ⟨b,off+j,none⟩=some (.int .i64 x))) :
  Calls Tryz.prog 99 #[qh c n u al cl,.slice a ps.length cp] w fun e w'=>∃ H L',e=.returned (.pointer (some ⟨H,0,none⟩))∧w.heap.size≤H∧(∀ P:Nat→Nat,P i=H→∃ S g r vU,aD c L' o i P w' (gQ u n ps) S g r vU)∧Ex o i L L' w∧bF c.B L' w'∧Below w.heap.size w w':=by
 have Xb:ps.length≤200:=by omega
 go_enter Tryz.func99,Tryz.ntmps99
 go_wp2_with fail
 refine (Sb.WH 8 400 _ (by omega) (by omega) (by omega)).mono ?_;rintro e w1 ⟨S,rfl,hS,hSz,hb⟩;obtain⟨L1,hT1,hE1,hL1⟩:=Xa (o:=o) (i:=i) hL.out (w0:=w.alloc (aX c n u al cl)) (by simp) (Nat.le_refl _) hSz hS hb;have HT1:=Sb.hide hT1;have bC:=Sb.hide hE1;have bW:=Sb.hide hL1;have HB1:=Sb.hide hb;have hz1:=hb.size;simp at hz1;have Nl:Hid (zI c L1 o i w1.heap.size (w.alloc (aX c n u al cl)) (w1.alloc (kr S (.slice none 0 0) 0 (.pointer none))) ps w.heap.size (aX c n u al cl) 0 (w1.alloc (kr S (.slice none 0 0) 0 (.pointer none)))) :=
  ⟨(iG.of_same hT1 hL1 0).qw,hb.alloc (by simp;omega) _,(Below.heap_alloc _ _ _ (by omega)).trans ((hb.block _ (by simp)).trans (heap_alloc_new w _))⟩
 clear hT1 hE1 hL1 hb hS;go_wp2
 go_loopw [19] (fun i' wr=>∃ k:Nat,i'=.int .i64 k∧k≤ps.length∧zI c L1 o i w1.heap.size (w.alloc (aX c n u al cl)) (w1.alloc (kr S (.slice none 0 0) 0 (.pointer none))) ps w.heap.size (aX c n u al cl) k wr) (fun i' _=>ps.length - (intOf i').toNat)
 case atStart=>exact⟨0,rfl,Nat.zero_le _,Nl.out⟩
 case round =>
  obtain⟨k,rfl,hk,hA⟩:=hrel;obtain⟨⟨L2,S2,g2,r2,qA,jk,hE2,hL2,hC2⟩,hbl,hbx⟩:=hA;have HT2:=Sb.hide jk;have HE2:=Sb.hide hE2;have HL2:=Sb.hide hL2;have zG:=Sb.hide hC2;have xg:=Sb.hide hbl;have kU:=Sb.hide hbx;obtain⟨d0,d1,d2,d3⟩:=jk.cells;obtain⟨x1,x2,x5⟩:=Di hbx;have y0:wr.cell? ⟨w.heap.size,0,none⟩=some (.int .i64 u.kind):=by simp[World.cell?,hbx]
  have y3:wr.cell? ⟨w.heap.size,3,none⟩=some (.int .i64 u.result):=by simp[World.cell?,hbx]
  have y4:wr.cell? ⟨w.heap.size,4,none⟩=some (.int .i64 u.takes):=by simp[World.cell?,hbx]
  clear jk hE2 hL2 hC2 hbl hbx Nl;by_cases hlt:k<ps.length
  ·obtain⟨x,hx⟩:∃ x,ps[k]?=some x:=⟨_,List.getElem?_eq_getElem hlt⟩
   obtain⟨b,off,rfl,hbz,cx⟩:=hin.out k x hx;have Gb:wr.cell? ⟨b,off+k,none⟩=some (.int .i64 x):=(xg.out.cell (p:=⟨b,off+k,none⟩) (by simp;omega)).trans ((World.cell?_of_block (Below.heap_alloc _ _ _ hbz)).trans cx);have HX:=Sb.hide hx;have n0:(0:Int)≤(k:Int):=by omega
   have n1:(k:Int)<(ps.length:Int):=by omega
   have Nn:Hid ((ps.take k).length=k):=by unfold Hid;simp;omega
   clear hx cx;go_wp2_with fail
   refine (zA c L2 o i _ _ _ S2 g2 r2 qA HT2 HL2 x 0 (Sb.hide (by rw[if_neg (by simp;omega)])) _ (Sb.hide rfl)).mono ?_;rintro e w3 ⟨rfl,hp3⟩;rw[if_neg (by simp;omega)] at hp3;have jK:=Sb.hide (zI.next hfr.out bC.out (by simp) xg.out kU.out HE2.out zG.out (by simp;omega) HX.out hp3);clear hp3;go_wp2
   go_roundw
   case rel=>exact⟨k+1,by go_num,hlt,jK.out⟩
   case measure=>simp[intOf];omega
  ·obtain rfl:k=ps.length:=by omega
   have gM:Hid (ps.take ps.length=ps):=by unfold Hid;simp
   have HT3:Hid (aD c L2 o i (fun _=>w1.heap.size) wr { zH with ws:=ps } S2 g2 r2 qA):=by have:=HT2.out;rw[gM.out] at this;exact this
   clear HT2;go_wp2_with fail
   refine (M9 c L2 o i (fun _=>w1.heap.size) _ { zH with ws:=ps } S2 g2 r2 qA HT3 HL2 n u hu al cl hp0 (by show u.params≤(ps.length:Int);omega) hpl hl2 (by show 0<40;omega) true (Sb.hide (by simp;omega)) (gQ u n ps) (Sb.hide (by simp[gQ,hps]))).mono ?_;rintro e w4 ⟨rfl,Xc⟩;obtain⟨L4,S4,g4,r4,Xd,Np,Nq,hL4,Nr⟩:=Xc;have hE:Ex o i L L4 (w.alloc (aX c n u al cl)):=(bC.out.trans HE2.out (by simp;omega)).trans Nq xg.out.size;have qz:Hid ((∀ P:Nat→Nat,P i=w1.heap.size→∃ S g r vU,aD c L4 o i P w4 (gQ u n ps) S g r vU)∧Ex o i L L4 w∧bF c.B L4 w4∧Below w.heap.size w w4):=by
    refine⟨fun P hP=>⟨S4,g4,r4,Xd,Np.keep (.refl _ _) hP rfl (fun _ _ _=>rfl)⟩,⟨fun b hb=>hE.1 b (by simp;omega),hE.2⟩,hL4,?_⟩;have:=Nj (c:=c) hfr.out (bC.out.trans HE2.out (by simp;omega)) xg.out Nr rfl;exact ((Below.refl _ w).alloc (Nat.le_refl _) _).trans (this.mono (by simp))
   clear Np Nq hL4 Nr hE;go_wp2
   go_ret
   exact⟨_,L4,rfl,by omega,qz.out⟩
theorem Xf {α:Type}{l:List α}{i:Nat}{x:α}(h:l[i]?=some x):l.set i x=l:=by
 refine List.ext_getElem? (fun j=>?_);rw[List.getElem?_set];split
 ·rename_i e
  subst e;split
  ·exact h.symm
  ·rename_i hn;rw[List.getElem?_eq_none (by omega)] at h;cases h
 ·rfl
def ptrs (P:Nat→Nat)(n:Nat):List Value:=(List.range n).map fun i=>.pointer (some ⟨P i,0,none⟩)
theorem xh (P:Nat→Nat){n i:Nat}(h:i<n):(ptrs P n)[i]?=some (.pointer (some ⟨P i,0,none⟩)):=by simp[ptrs,h]
abbrev fG (c:Cx) (vB ev vR:Value) (hp:Nat) (vO:Value) (over trap:Nat):Obj:=.cells #[.slice c.au c.m.units.length c.cu,vB,ev,vR,.pointer (some ⟨hp,0,none⟩),vO,.int .i64 over,.int .i64 trap] 163 (0,0)
structure dN (c:Cx) (vB ev:Value) (L:av) (o T:Nat) (P:Nat→Nat) (w:World) (t:Tk) (vR vO:Value):Prop where
 blk:w.heap[T]?=some (fG c vB ev vR (P t.hand) vO t.over t.trap)
 rows:w.ownsRow 0 161 1 vR t.ae.length (ptrs P t.ae.length)
 out:w.ownsRow 0 2 1 vO t.out.length (ints t.out)
 ae:∀ (i:Nat) h,t.ae[i]?=some h→∃ S g r vU,aD c L o i P w h S g r vU
 few:t.ae.length≤31
 hand:t.hand<t.ae.length
 lT:L T=⟨1,o,0,4⟩
 lR:∀ b,vR.ownBlock=some b→L b=⟨1,o,0,5⟩
 lO:∀ b,vO.ownBlock=some b→L b=⟨1,o,0,6⟩
 kv:∀ b,(L b).cls=1→(L b).idx=o→(L b).th≤t.ae.length
structure Env (β:Type) where
 En:av→World→List Ev→β→Prop
 keep:∀ {L L':av} {w w':World} {l:List Ev} {x:β},En L w l x→Ext L L' w→w.heap.size≤w'.heap.size→(∀ b,b<w.heap.size→(L b).cls≠1→w'.heap[b]?=w.heap[b]?)→En L' w' l x
def EB (L:av)(b:Nat):Prop:=(L b).cls=2∨(L b).cls=3
def WB (L:av)(o b:Nat):Prop:=((L b).cls=1∧(L b).idx=o)∨EB L b
def iI (o:Nat)(L L':av)(w:World):Prop:=Ext L L' w∧∀ b,L' b=L b∨WB L' o b
theorem iI.refl (o:Nat)(L:av)(w:World):iI o L L w:=⟨.refl _ _,fun _=>.inl rfl⟩
theorem iI.trans {o:Nat}{L L1 L2:av}{w w1:World}(h:iI o L L1 w)(k:iI o L1 L2 w1)(hz:w.heap.size≤w1.heap.size):iI o L L2 w:=⟨h.1.trans k.1 hz,fun b=>by
 rcases k.2 b with e | e
 ·rcases h.2 b with e2 | e2
  ·exact .inl (e.trans e2)
  ·unfold WB EB at e2 ⊢;rw[← e] at e2;exact .inr e2
 ·exact .inr e⟩
theorem aQ.Xg {o:Nat}{L L1:av}{w w1 w2:World}(hE:iI o L L1 w)(h:aQ (WB L o) w w1)(k:aQ (WB L1 o) w1 w2):aQ (WB L o) w w2 :=
 ⟨k.os.trans h.os,k.tape.trans h.tape,k.output.trans h.output,Nat.le_trans h.size k.size,fun b hb hn=>(k.block b (by have:=h.size;omega) (fun hx=>hn (by unfold WB EB at hx ⊢;rw[hE.1 b hb] at hx;exact hx))).trans (h.block b hb hn)⟩
structure St {β:Type} (E:Env β) (c:Cx) (vB ev:Value) (o T:Nat) (L:av) (P:Nat→Nat) (w:World) (t:Tk) (x:β) (vR vO:Value):Prop where
 tk:dN c vB ev L o T P w t vR vO
 en:E.En L w t.log x
 ok:bF c.B L w
 cx:kR c w
def aS {β:Type}(E:Env β)(c:Cx)(vB ev:Value)(o T:Nat)(L:av)(w w':World)(t:Tk)(x:β):Prop:=∃ L' P' vR vO,St E c vB ev o T L' P' w' t x vR vO∧iI o L L' w∧aQ (WB L o) w w'
section
variable {β:Type} {E:Env β} {c:Cx} {vB ev:Value} {o T:Nat} {L L1:av} {P:Nat→Nat} {w w1 w2:World} {t:Tk} {x:β} {vR vO:Value}
theorem aS.trans (hE:iI o L L1 w)(hC:aQ (WB L o) w w1)(H:aS E c vB ev o T L1 w1 w2 t x):aS E c vB ev o T L w w2 t x:=by
 obtain⟨L2,P2,mU,mV,h1,h2,h3⟩:=H;exact⟨L2,P2,mU,mV,h1,hE.trans h2 hC.size,hC.Xg hE h3⟩
theorem aS.refl (H:St E c vB ev o T L P w t x vR vO):aS E c vB ev o T L w w t x:=⟨L,P,vR,vO,H,.refl _ _ _,.refl _ _⟩
theorem aS.drewN {d:Nat}(H:aS E c vB ev o T L (w.drewN d) w1 t x):aS E c vB ev o T L w w1 t x:=by
 obtain⟨L2,P2,mU,mV,h1,h2,h3⟩:=H;exact⟨L2,P2,mU,mV,h1,h2,h3.os,h3.tape,h3.output,h3.size,h3.block⟩
theorem aS.alloc {ob:Obj}(H:aS E c vB ev o T L (w.alloc ob) w1 t x):aS E c vB ev o T L w w1 t x:=by
 obtain⟨L2,P2,mU,mV,h1,h2,h3⟩:=H;have hz:=h3.size;simp at hz;exact⟨L2,P2,mU,mV,h1,⟨fun b hb=>h2.1 b (by simp;omega),h2.2⟩,h3.os,h3.tape,h3.output,by omega,fun b hb hn=>(h3.block b (by simp;omega) hn).trans (Below.heap_alloc _ _ _ hb)⟩
theorem kR.ui (h:kR c w)(hk:bF c.B L w)(hC:aQ (WB L o) w w1):kR c w1:=h.low (hC.low hk.size (fun b hb hx=>by have:=hk.low b hb;unfold WB EB at hx;omega))
theorem St.below (H:St E c vB ev o T L P w t x vR vO)(hb:Below w.heap.size w w1):St E c vB ev o T L P w1 t x vR vO:=by
 have blk:∀ b,b<w.heap.size→w1.heap[b]?=w.heap[b]?:=hb.block;exact⟨⟨(blk _ (lt_of_block H.tk.blk)).trans H.tk.blk,bA H.tk.rows (fun b hb=>blk b (H.tk.rows.lt b hb).2),bA H.tk.out (fun b hb=>blk b (H.tk.out.lt b hb).2),fun i h hh=>by
  obtain⟨S,g,r,vU,hT⟩:=H.tk.ae i h hh;exact⟨S,g,r,vU,hT.keep (.refl _ _) rfl rfl (fun b hb _=>blk b hb)⟩,H.tk.few,H.tk.hand,H.tk.lT,H.tk.lR,H.tk.lO,H.tk.kv⟩,E.keep H.en (.refl _ _) hb.size (fun b hb _=>blk b hb),H.ok.on hb.size,H.cx.low (fun b hb'=>blk b (by have:=H.ok.size;omega))⟩
theorem bS (h:w.heap[T]?=some (fG c vB ev vR (P t.hand) vO t.over t.trap)) :
  w.cell? ⟨T,0,none⟩=some (.slice c.au c.m.units.length c.cu)∧w.cell? ⟨T,1,none⟩=some vB∧w.cell? ⟨T,2,none⟩=some ev∧w.cell? ⟨T,3,none⟩=some vR∧w.cell? ⟨T,4,none⟩=some (.pointer (some ⟨P t.hand,0,none⟩))∧w.cell? ⟨T,5,none⟩=some vO∧w.cell? ⟨T,6,none⟩=some (.int .i64 t.over)∧w.cell? ⟨T,7,none⟩=some (.int .i64 t.trap)∧∀ j,w.frozen? ⟨T,j,none⟩=false:=by
 simp[World.cell?,World.frozen?,h]
theorem St.thread (H:St E c vB ev o T L P w t x vR vO){i:Nat}{h h':Th}(hh:t.ae[i]?=some h)(hp:fq c L o i P w w1 h'):∃ L',St E c vB ev o T L' P w1 (t.set i h') x vR vO∧iI o L L' w∧aQ (WB L o) w w1:=by
 obtain⟨L',S,g,r,vU,hT,hE,hL,hC⟩:=hp;have hil:=(List.getElem?_eq_some_iff.1 hh).1;have hW:aQ (WB L o) w w1:=hC.mono (fun b _ hx=>.inl ⟨hx.1,hx.2.1⟩);have blk:∀ b,b<w.heap.size→¬ dn L o i b→w1.heap[b]?=w.heap[b]?:=hC.block;have k0:∀ {b p:Nat},L b=⟨1,o,0,p⟩→¬ dn L o i b:=fun e hx=>by unfold dn at hx;rw[e] at hx;cases hx.2.2
 refine⟨L',⟨⟨?_,?_,?_,fun j hj qB=>?_,by simpa[Tk.set] using H.tk.few,by simpa[Tk.set] using H.tk.hand,(hE.1 _ (lt_of_block H.tk.blk)).trans H.tk.lT,fun b hb=>(hE.1 _ (H.tk.rows.lt b hb).2).trans (H.tk.lR b hb),fun b hb=>(hE.1 _ (H.tk.out.lt b hb).2).trans (H.tk.lO b hb),fun b h1 h2=>?_⟩,?_,hL,H.cx.ui H.ok hW⟩,⟨hE.1,fun b=>?_⟩,hW⟩
 ·exact (blk _ (lt_of_block H.tk.blk) (k0 H.tk.lT)).trans H.tk.blk
 ·have:(t.set i h').ae.length=t.ae.length:=by simp[Tk.set]
  rw[this];exact bA H.tk.rows (fun b hb=>blk b (H.tk.rows.lt b hb).2 (k0 (H.tk.lR b hb)))
 ·exact bA H.tk.out (fun b hb=>blk b (H.tk.out.lt b hb).2 (k0 (H.tk.lO b hb)))
 ·by_cases e:j=i
  ·subst e
   simp only[Tk.set,List.getElem?_set_self hil,Option.some.injEq] at qB;subst qB;exact⟨S,g,r,vU,hT⟩
  ·simp only[Tk.set,List.getElem?_set_ne (fun e2=>e e2.symm)] at qB
   obtain⟨S2,g2,r2,qA,jk⟩:=H.tk.ae j hj qB;exact⟨S2,g2,r2,qA,jk.keep hE.1 rfl rfl (fun b hb hx=>blk b hb (fun hy=>e (by unfold dn at hy;omega)))⟩
 ·have hl:(t.set i h').ae.length=t.ae.length:=by simp[Tk.set]
  rw[hl];rcases hE.2 b with e | e
  ·rw[e] at h1 h2 ⊢;exact H.tk.kv b h1 h2
  ·omega
 ·exact E.keep H.en hE.1 hC.size (fun b hb hx=>blk b hb (fun hy=>by unfold dn at hy;omega))
 ·rcases hE.2 b with e | e
  ·exact .inl e
  ·exact .inr (.inl ⟨e.1,e.2.1⟩)
end
abbrev Ns (e:Ev):Value:=.agg #[.int .i64 0,.int .i64 e.kind,.int .i64 e.box,.int .i64 e.v]
def zJ (L L':av)(w:World):Prop:=Ext L L' w∧∀ b,L' b=L b∨EB L' b
structure jl {β:Type} (E:Env β) (c:Cx) (N:Nat) (af:Array Value):Prop where
 enter:∀ (args:Array Value) (w:World),Sem.run Tryz.prog (callFunc N args) w=.ok (.enter N args) w
 call:∀ (e:Ev) (L:av) (w:World) (l:List Ev) (x:β),Hid (E.En L w l x)→Hid (bF c.B L w)→l.length≤2000001→Calls Tryz.prog N (#[Ns e]++af) w fun r w'=>r=.returned (.tuple #[])∧∃ L',E.En L' w' (l++[e]) x∧zJ L L' w∧bF c.B L' w'∧aQ (EB L) w w'
section
variable {β:Type} {E:Env β} {c:Cx} {vB:Value} {N:Nat} {af:Array Value} {o T:Nat} {L:av} {P:Nat→Nat} {w w1:World} {t:Tk} {x:β} {vR vO:Value}
theorem St.heard {ev:Value}(H:St E c vB ev o T L P w t x vR vO){e:Ev}{L':av}(hn:E.En L' w1 (t.log++[e]) x)(hE:zJ L L' w)(hL:bF c.B L' w1)(hC:aQ (EB L) w w1):aS E c vB ev o T L w w1 (t.note e) x:=by
 have hW:aQ (WB L o) w w1:=hC.mono (fun b _ hx=>.inr hx);have blk:∀ b,b<w.heap.size→(L b).cls=1→w1.heap[b]?=w.heap[b]?:=fun b hb h1=>hC.block b hb (fun hx=>by unfold EB at hx;omega);have one:∀ {b i p:Nat},L b=⟨1,o,i,p⟩→(L b).cls=1:=fun e=>by rw[e]
 refine⟨L',P,vR,vO,⟨⟨(blk _ (lt_of_block H.tk.blk) (one H.tk.lT)).trans H.tk.blk,bA H.tk.rows (fun b hb=>blk b (H.tk.rows.lt b hb).2 (one (H.tk.lR b hb))),bA H.tk.out (fun b hb=>blk b (H.tk.out.lt b hb).2 (one (H.tk.lO b hb))),fun i h hh=>?_,H.tk.few,H.tk.hand,(hE.1 _ (lt_of_block H.tk.blk)).trans H.tk.lT,fun b hb=>(hE.1 _ (H.tk.rows.lt b hb).2).trans (H.tk.lR b hb),fun b hb=>(hE.1 _ (H.tk.out.lt b hb).2).trans (H.tk.lO b hb),fun b h1 h2=>?_⟩,hn,hL,H.cx.ui H.ok hW⟩,⟨hE.1,fun b=>?_⟩,hW⟩
 ·obtain⟨S,g,r,vU,hT⟩:=H.tk.ae i h hh
  exact⟨S,g,r,vU,hT.keep hE.1 rfl rfl (fun b hb hx=>blk b hb hx.1)⟩
 ·rcases hE.2 b with e | e
  ·rw[e] at h1 h2 ⊢;exact H.tk.kv b h1 h2
  ·unfold EB at e;omega
 ·rcases hE.2 b with e | e
  ·exact .inl e
  ·exact .inr (.inr e)
theorem Xh {ev:Value}{n m hp ov tr:Nat}(h:w.heap[T]?=some (fG c vB ev vR hp vO ov tr)):((w.setCell ⟨T,6,none⟩ (.int .i64 n)).setCell ⟨T,7,none⟩ (.int .i64 m)).heap[T]?=some (fG c vB ev vR hp vO n m):=by
 simp only[World.setCell,Array.getElem?_modify,if_true,h,Option.map_some];rfl
theorem St.own {ev:Value}(H:St E c vB ev o T L P w t x vR vO){t':Tk}(hb:∀ b,b≠T→w1.heap[b]?=w.heap[b]?)(hz:w1.heap.size=w.heap.size)(hos:w1.os=w.os∧w1.tape=w.tape∧w1.output=w.output)(hT:w1.heap[T]?=some (fG c vB ev vR (P t'.hand) vO t'.over t'.trap))(e1:t'.ae=t.ae)(e2:t'.out=t.out)(e3:t'.log=t.log)(e4:t'.hand<t.ae.length):St E c vB ev o T L P w1 t' x vR vO∧aQ (WB L o) w w1:=by
 have ne:∀ {b i p:Nat},L b=⟨1,o,i,p⟩→¬ (i=0∧p=4)→b≠T:=fun e hn e2=>hn (by have:=H.tk.lT;rw[← e2,e] at this;simp at this;exact this);have hC:aQ (WB L o) w w1:=⟨hos.1,hos.2.1,hos.2.2,by omega,fun b hb' hn=>hb b (fun e=>hn (.inl (by rw[e,H.tk.lT];exact⟨rfl,rfl⟩)))⟩;refine⟨⟨⟨hT,?_,?_,?_,by rw[e1];exact H.tk.few,by rw[e1];exact e4,H.tk.lT,H.tk.lR,H.tk.lO,by rw[e1];exact H.tk.kv⟩,?_,H.ok.on (by omega),H.cx.ui H.ok hC⟩,hC⟩
 ·rw[e1];exact bA H.tk.rows (fun b hb'=>hb b (ne (H.tk.lR b hb') (by omega)))
 ·rw[e2];exact bA H.tk.out (fun b hb'=>hb b (ne (H.tk.lO b hb') (by omega)))
 ·rw[e1]
  intro i h hh;obtain⟨S,g,r,vU,qC⟩:=H.tk.ae i h hh;exact⟨S,g,r,vU,qC.keep (.refl _ _) rfl rfl (fun b _ hx=>hb b (fun e=>by rw[e,H.tk.lT] at hx;cases hx.2.2))⟩
 ·rw[e3]
  exact E.keep H.en (.refl _ _) (by omega) (fun b _ hx=>hb b (fun e=>by rw[e,H.tk.lT] at hx;exact hx rfl))
end
theorem uj {β:Type}(E:Env β)(c:Cx)(vB:Value)(N:Nat)(af:Array Value)(hN:Hid (jl E c N af))(o T:Nat)(L:av)(P:Nat→Nat)(w:World)(t:Tk)(x:β)(vR vO:Value)(H:Hid (St E c vB (.func (.func N) #[] af) o T L P w t x vR vO))(bI:Hid (t.log.length≤2000001))(n:Nat) :
  Calls Tryz.prog 183 #[.pointer (some ⟨T,0,none⟩),.int .i64 n] w fun e w'=>e=.returned (.tuple #[])∧aS E c vB (.func (.func N) #[] af) o T L w w' (t.fall n) x:=by
 obtain⟨c0,c1,c2,c3,c4,c5,c6,c7,fr⟩:=bS H.out.tk.blk;obtain⟨hS1,gT⟩:=H.out.own (t':={ t with over:=5,trap:=n }) (w1:=(w.setCell ⟨T,6,none⟩ (.int .i64 5)).setCell ⟨T,7,none⟩ (.int .i64 n)) (fun b hb=>(Below.heap_setCell _ ⟨T,7,none⟩ _ _ hb).trans (Below.heap_setCell _ ⟨T,6,none⟩ _ _ hb)) (by simp[World.setCell]) ⟨rfl,rfl,rfl⟩ (Xh H.out.tk.blk) rfl rfl rfl H.out.tk.hand;have dM:=Sb.hide hS1;have nW:=Sb.hide gT;have hent:=hN.out.enter;clear hS1 gT;go_enter Tryz.func183,Tryz.ntmps183
 go_wp2_with fail
 refine (hN.out.call ⟨5,0,n⟩ L _ _ _ (Sb.hide dM.out.en) (Sb.hide dM.out.ok) bI.out).mono ?_;rintro e w1 ⟨rfl,L',h1,h2,h3,h4⟩;have HF:=Sb.hide ((dM.out.heard h1 h2 h3 h4).trans (.refl _ _ _) nW.out);clear h1 h2 h3 h4;go_wp2
 go_end0
 exact⟨rfl,HF.out⟩
theorem gJ {β:Type}(E:Env β)(c:Cx)(vB:Value)(N:Nat)(af:Array Value)(hN:Hid (jl E c N af))(o T:Nat)(L:av)(P:Nat→Nat)(w:World)(t:Tk)(x:β)(vR vO:Value)(H:Hid (St E c vB (.func (.func N) #[] af) o T L P w t x vR vO))(bI:Hid (t.log.length≤2000001))(v:Int) :
  Calls Tryz.prog 145 #[.pointer (some ⟨T,0,none⟩),.int .i64 v] w fun e w'=>e=.returned (.tuple #[])∧aS E c vB (.func (.func N) #[] af) o T L w w' (t.put v) x:=by
 obtain⟨c0,c1,c2,c3,c4,c5,c6,c7,fr⟩:=bS H.out.tk.blk;obtain⟨h,hh⟩:∃ h,t.ae[t.hand]?=some h:=⟨_,List.getElem?_eq_getElem H.out.tk.hand⟩;obtain⟨S,g,r,vU,hT⟩:=H.out.tk.ae _ _ hh;obtain⟨d0,d1,d2,d3⟩:=hT.cells;have HT:=Sb.hide hT;have HH:=Sb.hide hh;have kV:Hid (t.top=h):=by unfold Hid;simp[Tk.top,Tk.th,hh]
 clear hT hh;by_cases hf:h.ws.length=400
 ·have HF:=Sb.hide hf
  clear hf;go_enter Tryz.func145,Tryz.ntmps145
  go_wp2_with fail
  refine (zA c L o t.hand P _ h S g r vU HT (Sb.hide H.out.ok) v 4 (Sb.hide (by rw[if_pos HF.out])) h.ws (Sb.hide (by rw[if_pos HF.out]))).mono ?_;rintro e w1 ⟨rfl,hp⟩;obtain⟨L1,hS1,hE1,gT⟩:=H.out.thread HH.out hp.qw;have e1:t.set t.hand h=t:=by
   have:t.ae.set t.hand h=t.ae:=by exact Xf HH.out
   simp[Tk.set,this]
  have hS2:St E c vB (.func (.func N) #[] af) o T L1 P w1 t x vR vO:=by have:=hS1;rw[show ({ h with ws:=h.ws }:Th)=h from rfl,e1] at this;exact this
  have HS2:=Sb.hide hS2;have bC:=Sb.hide hE1;have nW:=Sb.hide gT;clear hp hS1 hE1 gT hS2 e1;go_wp2_with fail
  refine (uj E c vB N af hN o T L1 P _ t x vR vO HS2 bI 4).mono ?_;rintro e w2 ⟨rfl,hW⟩;have HW:=Sb.hide (hW.trans bC.out nW.out);clear hW;go_wp2
  go_end0
  refine⟨rfl,?_⟩;unfold Tk.put;rw[kV.out,if_pos HF.out];exact HW.out
 ·have HF:=Sb.hide hf
  clear hf;go_enter Tryz.func145,Tryz.ntmps145
  go_wp2_with fail
  refine (zA c L o t.hand P _ h S g r vU HT (Sb.hide H.out.ok) v 0 (Sb.hide (by rw[if_neg HF.out])) _ (Sb.hide rfl)).mono ?_;rintro e w1 ⟨rfl,hp⟩;rw[if_neg HF.out] at hp;obtain⟨L1,hS1,hE1,gT⟩:=H.out.thread HH.out hp.qw;have HW:Hid (aS E c vB (.func (.func N) #[] af) o T L w w1 (t.put v) x):=by
   unfold Hid Tk.put Tk.words;rw[kV.out,if_neg HF.out];exact⟨L1,P,vR,vO,hS1,hE1,gT⟩
  clear hp hS1 hE1 gT;go_wp2
  go_end0
  exact⟨rfl,HW.out⟩
theorem GH (b:Bool)(w:World) :
  Calls Tryz.prog 208 #[.bool b] w fun e w'=>e=.returned (.int .i64 (yes b))∧w'=w:=by
 cases b
 ·go_enter Tryz.func208,Tryz.ntmps208
  go_wp2
  go_ret
  exact⟨rfl,rfl⟩
 ·go_enter Tryz.func208,Tryz.ntmps208
  go_wp2
  go_ret
  exact⟨rfl,rfl⟩
theorem Nt (op a b:Int)(w:World)(r:Bool)(hr:Hid (r=holds op a b)) :
  Calls Tryz.prog 218 #[.int .i64 op,.int .i64 a,.int .i64 b] w fun e w'=>e=.returned (.bool r)∧w'=w:=by
 rw[hr.out];clear hr;by_cases xk:op=13
 ·skip
  have e0:op=13:=xk;subst e0;go_enter Tryz.func218,Tryz.ntmps218
  go_wp2
  go_ret
  exact⟨rfl,rfl⟩
 by_cases zK:op=14
 ·skip
  have e0:op=14:=zK;subst e0;go_enter Tryz.func218,Tryz.ntmps218
  go_wp2
  go_ret
  exact⟨rfl,rfl⟩
 by_cases zL:op=15
 ·skip
  have e0:op=15:=zL;subst e0;go_enter Tryz.func218,Tryz.ntmps218
  go_wp2
  go_ret
  exact⟨rfl,rfl⟩
 by_cases h16:op=16
 ·skip
  have e0:op=16:=h16;subst e0;go_enter Tryz.func218,Tryz.ntmps218
  go_wp2
  go_ret
  exact⟨rfl,rfl⟩
 by_cases zM:op=17
 ·skip
  have e0:op=17:=zM;subst e0;go_enter Tryz.func218,Tryz.ntmps218
  go_wp2
  go_ret
  exact⟨rfl,rfl⟩
 by_cases h18:op=18
 ·skip
  have e0:op=18:=h18;subst e0;go_enter Tryz.func218,Tryz.ntmps218
  go_wp2
  go_ret
  exact⟨rfl,rfl⟩
 by_cases h19:op=19
 ·have e0:op=19:=h19
  subst e0;clear xk zK zL h16 zM h18 h19;by_cases ha:a=0
  ·have e1:(a != 0)=false:=by simpa using ha
   clear ha;go_enter Tryz.func218,Tryz.ntmps218
   go_wp2
   go_ret
   exact⟨by simp[holds,e1],rfl⟩
  ·have e1:(a != 0)=true:=by simpa using ha
   clear ha;go_enter Tryz.func218,Tryz.ntmps218
   go_wp2
   go_ret
   exact⟨by simp[holds,e1],rfl⟩
 ·have e13:(op==13)=false:=by simpa using xk
  have e14:(op==14)=false:=by simpa using zK
  have e15:(op==15)=false:=by simpa using zL
  have e16:(op==16)=false:=by simpa using h16
  have e17:(op==17)=false:=by simpa using zM
  have e18:(op==18)=false:=by simpa using h18
  have e19:(op==19)=false:=by simpa using h19
  have HE:Hid (holds op a b=(a != 0 || b != 0)):=by unfold Hid holds;rw[if_neg xk,if_neg zK,if_neg zL,if_neg h16,if_neg zM,if_neg h18,if_neg h19]
  clear xk zK zL h16 zM h18 h19;by_cases ha:a=0
  ·have e1:(a != 0)=false:=by simpa using ha
   clear ha;go_enter Tryz.func218,Tryz.ntmps218
   go_wp2
   go_ret
   exact⟨by rw[HE.out,e1];rfl,rfl⟩
  ·have e1:(a != 0)=true:=by simpa using ha
   clear ha;go_enter Tryz.func218,Tryz.ntmps218
   go_wp2
   go_ret
   exact⟨by rw[HE.out,e1];rfl,rfl⟩
theorem Xi (op a b:Int)(w:World)(hz:¬ (b=0∧(op=11∨op=12)))(r:Int)(hr:Hid (r=two op a b)) :
  Calls Tryz.prog 209 #[.int .i64 op,.int .i64 a,.int .i64 b] w fun e w'=>e=.returned (.tuple #[.int .i64 r,.int .i64 0])∧w'=w:=by
 rw[hr.out];clear hr;by_cases h8:op=8
 ·skip
  have e0:op=8:=h8;subst e0;clear hz;by_cases hb:b=0
  ·have fb:(b==0)=true:=by simpa using hb
   clear hb;go_enter Tryz.func209,Tryz.ntmps209
   go_wp2
   exact bodyPost_ret (v:=.tuple #[_,_]) (by simp[results,Tryz.results209,go_sem]<;>first | exact⟨rfl,rfl⟩ | rfl) rfl ⟨rfl,rfl⟩
  ·have fb:(b==0)=false:=by simpa using hb
   clear hb;go_enter Tryz.func209,Tryz.ntmps209
   go_wp2
   exact bodyPost_ret (v:=.tuple #[_,_]) (by simp[results,Tryz.results209,go_sem]<;>first | exact⟨rfl,rfl⟩ | rfl) rfl ⟨rfl,rfl⟩
 by_cases h9:op=9
 ·skip
  have e0:op=9:=h9;subst e0;clear hz;by_cases hb:b=0
  ·have fb:(b==0)=true:=by simpa using hb
   clear hb;go_enter Tryz.func209,Tryz.ntmps209
   go_wp2
   exact bodyPost_ret (v:=.tuple #[_,_]) (by simp[results,Tryz.results209,go_sem]<;>first | exact⟨rfl,rfl⟩ | rfl) rfl ⟨rfl,rfl⟩
  ·have fb:(b==0)=false:=by simpa using hb
   clear hb;go_enter Tryz.func209,Tryz.ntmps209
   go_wp2
   exact bodyPost_ret (v:=.tuple #[_,_]) (by simp[results,Tryz.results209,go_sem]<;>first | exact⟨rfl,rfl⟩ | rfl) rfl ⟨rfl,rfl⟩
 by_cases h10:op=10
 ·skip
  have e0:op=10:=h10;subst e0;clear hz;by_cases hb:b=0
  ·have fb:(b==0)=true:=by simpa using hb
   clear hb;go_enter Tryz.func209,Tryz.ntmps209
   go_wp2
   exact bodyPost_ret (v:=.tuple #[_,_]) (by simp[results,Tryz.results209,go_sem]<;>first | exact⟨rfl,rfl⟩ | rfl) rfl ⟨rfl,rfl⟩
  ·have fb:(b==0)=false:=by simpa using hb
   clear hb;go_enter Tryz.func209,Tryz.ntmps209
   go_wp2
   exact bodyPost_ret (v:=.tuple #[_,_]) (by simp[results,Tryz.results209,go_sem]<;>first | exact⟨rfl,rfl⟩ | rfl) rfl ⟨rfl,rfl⟩
 by_cases h11:op=11
 ·skip
  have hb:b≠0:=fun e=>hz ⟨e,.inl h11⟩;have e0:op=11:=h11;subst e0;have fb:(b==0)=false:=by simpa using hb
  clear hz;go_enter Tryz.func209,Tryz.ntmps209
  go_wp2
  exact bodyPost_ret (v:=.tuple #[_,_]) (by simp[results,Tryz.results209,go_sem]<;>first | exact⟨rfl,rfl⟩ | rfl) rfl ⟨rfl,rfl⟩
 by_cases h12:op=12
 ·skip
  have hb:b≠0:=fun e=>hz ⟨e,.inr h12⟩;have e0:op=12:=h12;subst e0;have fb:(b==0)=false:=by simpa using hb
  clear hz;go_enter Tryz.func209,Tryz.ntmps209
  go_wp2
  exact bodyPost_ret (v:=.tuple #[_,_]) (by simp[results,Tryz.results209,go_sem]<;>first | exact⟨rfl,rfl⟩ | rfl) rfl ⟨rfl,rfl⟩
 have e8:(op==8)=false:=by simpa using h8
 have e9:(op==9)=false:=by simpa using h9
 have e10:(op==10)=false:=by simpa using h10
 have e11:(op==11)=false:=by simpa using h11
 have e12:(op==12)=false:=by simpa using h12
 have HE:Hid (two op a b=yes (holds op a b)):=by unfold Hid two;rw[if_neg h8,if_neg h9,if_neg h10,if_neg h11,if_neg h12]
 clear h8 h9 h10 h11 h12 hz;by_cases hb:b=0
 ·have fb:(b==0)=true:=by simpa using hb
  clear hb;go_enter Tryz.func209,Tryz.ntmps209
  go_wp2_with fail
  refine (Nt op a b _ _ (hide rfl)).mono ?_;rintro e w' ⟨rfl,rfl⟩;go_wp2_with fail
  refine (GH (holds op a b) _).mono ?_;rintro e w' ⟨rfl,rfl⟩;go_wp2
  exact bodyPost_ret (v:=.tuple #[_,_]) (by simp[results,Tryz.results209,go_sem]<;>first | exact⟨rfl,rfl⟩ | rfl) rfl ⟨by rw[HE.out],rfl⟩
 ·have fb:(b==0)=false:=by simpa using hb
  clear hb;go_enter Tryz.func209,Tryz.ntmps209
  go_wp2_with fail
  refine (Nt op a b _ _ (hide rfl)).mono ?_;rintro e w' ⟨rfl,rfl⟩;go_wp2_with fail
  refine (GH (holds op a b) _).mono ?_;rintro e w' ⟨rfl,rfl⟩;go_wp2
  exact bodyPost_ret (v:=.tuple #[_,_]) (by simp[results,Tryz.results209,go_sem]<;>first | exact⟨rfl,rfl⟩ | rfl) rfl ⟨by rw[HE.out],rfl⟩
theorem Xj (op a b:Int)(w:World)(hz:b=0∧(op=11∨op=12)) :
  Calls Tryz.prog 209 #[.int .i64 op,.int .i64 a,.int .i64 b] w fun e w'=>e=.returned (.tuple #[.int .i64 0,.int .i64 1])∧w'=w:=by
 obtain⟨rfl,hz⟩:=hz;rcases hz with rfl | rfl
 ·skip
  go_enter Tryz.func209,Tryz.ntmps209
  go_wp2
  exact bodyPost_ret (v:=.tuple #[_,_]) (by simp[results,Tryz.results209,go_sem]<;>first | exact⟨rfl,rfl⟩ | rfl) rfl ⟨rfl,rfl⟩
 ·skip
  go_enter Tryz.func209,Tryz.ntmps209
  go_wp2
  exact bodyPost_ret (v:=.tuple #[_,_]) (by simp[results,Tryz.results209,go_sem]<;>first | exact⟨rfl,rfl⟩ | rfl) rfl ⟨rfl,rfl⟩
end Go.Proofs.YtfcpglhpolpdcaaGreatDoor.Vw
