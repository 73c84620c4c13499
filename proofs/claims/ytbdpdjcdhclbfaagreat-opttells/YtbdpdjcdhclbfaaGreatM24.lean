/- A unit,a module in a block of their own. -/
import Derived.Test.YtbdpdjcdhclbfaaGreatM1
import Derived.Test.YtbdpdjcdhclbfaaGreatM23
import Derived.Test.YtbdpdjcdhclbfaaGreatM18
set_option maxRecDepth 100000
set_option maxHeartbeats 4000000
namespace Go.Proofs.YtbdpdjcdhclbfaaGreat.Aw
open Go.RowKit
abbrev gP (u:Vf.Un) (al ac:Option Addr) (cl cc:Nat):Obj:=.cells #[.int .i64 u.kind,.int .i64 u.params,.slice al u.locals.length cl,.int .i64 u.result,.int .i64 u.takes,.slice ac u.code.length cc] 40 (0,0)
theorem Eo {w:World}{N:Nat}{u:Vf.Un}{al ac:Option Addr}{cl cc:Nat}(h:w.heap[N]?=some (gP u al ac cl cc)) :
  w.cell? ⟨N,0,none⟩=some (.int .i64 u.kind)∧w.cell? ⟨N,1,none⟩=some (.int .i64 u.params)∧w.cell? ⟨N,2,none⟩=some (.slice al u.locals.length cl)∧w.cell? ⟨N,3,none⟩=some (.int .i64 u.result)∧w.cell? ⟨N,4,none⟩=some (.int .i64 u.takes)∧w.cell? ⟨N,5,none⟩=some (.slice ac u.code.length cc):=by
 simp[World.cell?,h]
theorem BU {w:World}{k:Nat}{x y:Value}(h:w.heap[k]?=some (.cells #[x,y] 25 (0,0))):w.cell? ⟨k,0,none⟩=some x∧w.cell? ⟨k,1,none⟩=some y:=by
 simp[World.cell?,h]
abbrev vv (m:Vf.Md) (ab au:Option Addr) (cb cu:Nat):Obj:=.cells #[.slice ab m.boxes.length cb,.slice au m.units.length cu] 25 (0,0)
end Go.Proofs.YtbdpdjcdhclbfaaGreat.Aw
namespace Go.Proofs.YtbdpdjcdhclbfaaGreat.Ow
open Go.RowKit Vf Vm Ot
theorem SY {w w':World}(h:w.grownBy w' Option.none):Below w.heap.size w w':=⟨h.os,h.tape,h.output,h.size,fun k hk=>h.block k hk (by simp)⟩
theorem S9 {B C:Nat}{w:World}{u:Un}{al ac:Option Addr}{cl cc:Nat}(h:ig B w u al ac cl cc)(hB:B≤C):ig C w u al ac cl cc:=by
 refine⟨h.nums,h.few,h.uh,fun i x hx=>?_,Iq h.code hB⟩;obtain⟨a,b,c,d,f,g⟩:=h.locals i x hx;exact⟨a,b,c,d,by omega,g⟩
theorem Ir {w w':World}{u:Un}{al ac:Option Addr}{cl cc:Nat}(h:ig w.heap.size w u al ac cl cc)(hb:Below w.heap.size w w'):ig w'.heap.size w' u al ac cl cc:=S9 (h.low hb.block) hb.size
structure za (w:World) (x:UV):Prop where
 un:ig w.heap.size w x.u x.al x.ac x.cl x.cc
 al:xm w x.al
 ac:xm w x.ac
theorem za.on {w w':World}{x:UV}(h:za w x)(hb:Below w.heap.size w w'):za w' x:=⟨Ir h.un hb,h.al.on hb,h.ac.on hb⟩
theorem Ni {w w':World}{a:Option Addr}{r:Option Nat}(h:xm w a)(hg:w.grownBy w' r)(hr:∀ k,r=some k→∃ cs t,w.heap[k]?=some (.cells cs t (0,0))∧t≠3∧t≠47):(∀ ad,a=some ad→w'.heap[ad.block]?=w.heap[ad.block]?)∧xm w' a:=by
 have key:∀ ad,a=some ad→w'.heap[ad.block]?=w.heap[ad.block]?:=fun ad ha=>by
  obtain⟨cs,t,h1,h2⟩:=h ad ha;refine hg.block _ (lt_of_block h1) (fun e=>?_);obtain⟨cs',t',h3,h4,h5⟩:=hr _ e.symm;rw[h1] at h3;simp at h3;rcases h2 with h2 | h2
  ·exact h4 (by rw[← h3.2,h2])
  ·exact h5 (by rw[← h3.2,h2])
 refine⟨key,fun ad ha=>?_⟩;obtain⟨cs,t,h1,h2⟩:=h ad ha;exact⟨cs,t,(key ad ha).trans h1,h2⟩
theorem za.grown {w w':World}{x:UV}{r:Option Nat}(h:za w x)(hg:w.grownBy w' r)(hr:∀ k,r=some k→∃ cs t,w.heap[k]?=some (.cells cs t (0,0))∧t≠3∧t≠47):za w' x:=by
 obtain⟨k1,r1⟩:=Ni h.al hg hr;obtain⟨k2,r2⟩:=Ni h.ac hg hr;refine⟨⟨h.un.nums,h.un.few,h.un.uh,fun i y hy=>?_,fun i y hy=>?_⟩,r1,r2⟩
 ·obtain⟨a,b,o,e,hb,c0⟩:=h.un.locals i y hy
  exact⟨a,b,o,e,Nat.lt_of_lt_of_le hb hg.size,(gZ (k1 _ e) _).trans c0⟩
 ·obtain⟨a1,a2,a3,b,o,e,hb,c0,c1,c2⟩:=h.un.code i y hy
  exact⟨a1,a2,a3,b,o,e,Nat.lt_of_lt_of_le hb hg.size,(gZ (k2 _ e) _).trans c0,(gZ (k2 _ e) _).trans c1,(gZ (k2 _ e) _).trans c2⟩
structure zb (C:Nat) (us:List UV) (v:Value) (w:World):Prop where
 own:w.ownsRow C 40 6 v us.length (xk us)
 each:∀ x ∈ us,za w x
theorem Nj {w:World}{B n size:Nat}{e:TypeId}{v:Value}{xs:List Value}(h:w.ownsRow B e size v n xs):∀ k,v.ownBlock=some k→∃ cs,w.heap[k]?=some (.cells cs e (0,0)):=fun k hk=>by
 rcases h.2 with⟨rfl,_⟩ | ⟨g,cap,cur,rfl,_,hh,_⟩
 ·cases hk
 ·cases hk
  exact⟨cur,hh⟩
theorem Ta {w:World}{B n:Nat}{v:Value}{xs:List Value}(h:w.ownsRow B 40 6 v n xs):∀ k,v.ownBlock=some k→∃ cs t,w.heap[k]?=some (.cells cs t (0,0))∧t≠3∧t≠47:=fun k hk=>by
 obtain⟨cs,hcs⟩:=Nj h k hk;exact⟨cs,_,hcs,by decide,by decide⟩
theorem zb.more {C N5:Nat}{us:List UV}{v v':Value}{x:UV}{W5 w6:World}{a b:Value}{p:Value}(h:zb C us v W5)(hx:za W5 x)(hown:w6.ownsRow C 40 6 v' (us.length+1) (xk us++xV x))(hgr:W5.grownBy w6 v.ownBlock)(Tc:N5<C)(h5:w6.heap[N5]?=some (.cells #[a,b] 25 (0,0))):zb C (us++[x]) v' (w6.setCell ⟨N5,1,none⟩ p):=by
 have hset:w6.grownBy (w6.setCell ⟨N5,1,none⟩ p) (some N5):=yz (World.grownBy.refl _ _) _ rfl _;have key:∀ y,za W5 y→za (w6.setCell ⟨N5,1,none⟩ p) y:=fun y hy=>(hy.grown hgr (Ta h.own)).grown hset (fun k hk=>by cases hk;exact⟨_,_,h5,by decide,by decide⟩);refine⟨?_,fun y hy=>?_⟩
 ·have e:xk (us++[x])=xk us++xV x:=by simp[xk]
  rw[e,List.length_append];refine⟨hown.1,?_⟩;rcases hown.2 with h1 | ⟨g,cap,cur,h1,h2,h3,h4⟩
  ·exact .inl h1
  ·exact .inr ⟨g,cap,cur,h1,h2,(Below.heap_setCell _ ⟨N5,1,none⟩ _ _ (by show g≠N5;omega)).trans h3,h4⟩
 ·rcases List.mem_append.1 hy with hy | hy
  ·exact key y (h.each y hy)
  ·simp at hy
   subst hy;exact key _ hx
theorem Ep {w w':World}{C:Nat}{e:TypeId}{size n:Nat}{v:Value}{xs:List Value}(h:w.ownsRow C e size v n xs)(hb:Below w.heap.size w w'):w'.ownsRow C e size v n xs:=aaN h (Fv hb none)
theorem zb.on {C:Nat}{us:List UV}{v:Value}{w w':World}(h:zb C us v w)(hb:Below w.heap.size w w'):zb C us v w':=⟨Ep h.own hb,fun x hx=>(h.each x hx).on hb⟩
theorem zb.keep {C j:Nat}{us:List UV}{v:Value}{w w':World}(h:zb C us v w)(hg:w.grownBy w' (some j))(hj:j<C){cs:Array Value}{t:TypeId}(ht:w.heap[j]?=some (.cells cs t (0,0)))(h1:t≠3)(h2:t≠47):zb C us v w':=by
 refine⟨⟨h.own.1,?_⟩,fun x hx=>(h.each x hx).grown hg (fun k hk=>by cases hk;exact⟨_,_,ht,h1,h2⟩)⟩;rcases h.own.2 with h3 | ⟨g,cap,cur,h3,h4,h5,h6⟩
 ·exact .inl h3
 ·exact .inr ⟨g,cap,cur,h3,h4,(hg.block g (lt_of_block h5) (by intro e;cases e;omega)).trans h5,h6⟩
theorem Td {B j:Nat}{w w':World}{bs:List Bx}{a:Option Addr}(h:xw B w bs a)(hb:∀ ad,a=some ad→∃ cs,w.heap[ad.block]?=some (.cells cs 36 (0,0)))(hg:w.grownBy w' (some j)){cs:Array Value}{t:TypeId}(ht:w.heap[j]?=some (.cells cs t (0,0)))(h1:t≠36):xw B w' bs a∧∀ ad,a=some ad→∃ cs,w'.heap[ad.block]?=some (.cells cs 36 (0,0)):=by
 have key:∀ ad,a=some ad→w'.heap[ad.block]?=w.heap[ad.block]?:=fun ad ha=>by
  obtain⟨cs',h2⟩:=hb ad ha;refine hg.block _ (lt_of_block h2) (fun e=>?_);cases e;rw[h2] at ht;simp at ht;exact h1 ht.2.symm
 refine⟨fun i x hx=>?_,fun ad ha=>?_⟩
 ·obtain⟨a1,a2,b,o,e,hb',c0,c1⟩:=h i x hx
  exact⟨a1,a2,b,o,e,hb',(gZ (key _ e) _).trans c0,(gZ (key _ e) _).trans c1⟩
 ·obtain⟨cs',h2⟩:=hb ad ha
  exact⟨cs',(key ad ha).trans h2⟩
theorem zb.mod {C:Nat}{us:List UV}{v:Value}{w:World}{bs:List Bx}{ab:Option Addr}(h:zb C us v w)(hb:xw w.heap.size w bs ab)(hbl:bs.length≤4000)(yA:us.length≤4000):∃ au cu,v=.slice au us.length cu∧aD w.heap.size w ⟨bs,us.map (·.u)⟩ ab au:=by
 obtain⟨au,cu,rfl,hc,hr⟩:=yX h.own;refine⟨au,cu,rfl,⟨by simp;omega,by simp;omega⟩,hb,?_⟩;by_cases h0:0<us.length
 ·obtain⟨g,cap,e,_,_,_,hU⟩:=SG h.own h0 (fun i x hx=>(h.each x (List.mem_of_getElem? hx)).un)
  cases e;exact hU.units (Nat.le_refl _)
 ·obtain rfl:us=[]:=List.eq_nil_of_length_eq_zero (by omega)
  exact fun i x hx=>by simp at hx
abbrev AP (m:Md) (ab au:Option Addr) (cb cu:Nat):Value:=.agg #[.slice ab m.boxes.length cb,.slice au m.units.length cu]
abbrev xI (m:Md) (ab au:Option Addr) (cb cu:Nat):Obj:=.cells #[.slice ab m.boxes.length cb,.slice au m.units.length cu] 25 (0,0)
abbrev Gq:Obj:=.cells #[.slice none 0 0,.slice none 0 0] 25 (0,0)
abbrev Fz:Obj:=.cells #[.int .i64 0,.int .i64 0,.int .i64 0] 28 (0,0)
theorem Iu (m:Md):∀ (n k:Nat),(from' m n k).1=0→from' m n k=(0,0,0)
 | 0,_,_=>rfl
 | n+1,k,h=>by
  unfold from' at h ⊢
  split
  ·rename_i h0
   rw[if_pos h0] at h;exact Iu m n (k+1) h
  ·rename_i h0
   rw[if_neg h0] at h;exact absurd h h0
theorem Te {m:Md}(h:(verify m).1=0):verify m=(0,0,0):=Iu m 6 0 h
def made (m:Md):Md:=if (verify m).1=0 then BZ m else ⟨[],[]⟩
def Ku (m:Md)(w:World)(e:Ending)(w':World):Prop:=∃ ab cb au cu,e=.returned (.tuple #[AP (made m) ab au cb cu,gM (verify m).1 (verify m).2.1 (verify m).2.2])∧aD w'.heap.size w' (made m) ab au∧Below w.heap.size w w'
theorem Tf (B:Nat)(w:World):aD B w ⟨[],[]⟩ none none:=⟨⟨by simp,by simp⟩,fun i x hx=>by simp at hx,fun i x hx=>by simp at hx⟩
theorem vR {w:World}{k:Nat}{x y:Value}{t:TypeId}(h:w.heap[k]?=some (.cells #[x,y] t (0,0))):w.cell? ⟨k,0,none⟩=some x∧w.cell? ⟨k,1,none⟩=some y∧w.frozen? ⟨k,0,none⟩=false∧w.frozen? ⟨k,1,none⟩=false:=by simp[World.cell?,World.frozen?,h]
theorem Er {w:World}{k:Nat}{x y z:Value}{t:TypeId}(h:w.heap[k]?=some (.cells #[x,y,z] t (0,0))):w.cell? ⟨k,0,none⟩=some x∧w.cell? ⟨k,1,none⟩=some y∧w.cell? ⟨k,2,none⟩=some z∧w.frozen? ⟨k,0,none⟩=false∧w.frozen? ⟨k,1,none⟩=false∧w.frozen? ⟨k,2,none⟩=false:=by simp[World.cell?,World.frozen?,h]
theorem zO {w:World}{k:Nat}{a b c d e f:Value}{t:TypeId}(h:w.heap[k]?=some (.cells #[a,b,c,d,e,f] t (0,0))):w.cell? ⟨k,0,none⟩=some a∧w.cell? ⟨k,1,none⟩=some b∧w.cell? ⟨k,2,none⟩=some c∧w.cell? ⟨k,3,none⟩=some d∧w.cell? ⟨k,4,none⟩=some e∧w.cell? ⟨k,5,none⟩=some f∧w.frozen? ⟨k,2,none⟩=false∧w.frozen? ⟨k,5,none⟩=false:=by simp[World.cell?,World.frozen?,h]
theorem abb {w:World}{k:Nat}{a b c d e f:Value}{t:TypeId}(h:w.heap[k]?=some (.cells #[a,b,c,d,e,f] t (0,0)))(x y:Value):((w.setCell ⟨k,2,none⟩ x).setCell ⟨k,5,none⟩ y).heap[k]?=some (.cells #[a,b,x,d,e,y] t (0,0)):=by
 simp only[World.setCell,Array.getElem?_modify,if_true,h,Option.map_some];rfl
theorem Tg {w:World}{k:Nat}{a b:Value}{t:TypeId}(h:w.heap[k]?=some (.cells #[a,b] t (0,0)))(y:Value):(w.setCell ⟨k,1,none⟩ y).heap[k]?=some (.cells #[a,y] t (0,0)):=by
 simp only[World.setCell,Array.getElem?_modify,if_true,h,Option.map_some];rfl
theorem Ti (x:UV):∀ v ∈ xV x,v.oneCell'=true:=by
 intro v hv;simp at hv;rcases hv with rfl | rfl | rfl | rfl | rfl | rfl<;>rfl
theorem Iw {B N:Nat}{w W:World}(h:Below B w W)(hN:B≤N)(a b c d e:Value):Below B w (((((W.setCell ⟨N+1,0,none⟩ a).setCell ⟨N+1,1,none⟩ b).setCell ⟨N+1+1,0,none⟩ c).setCell ⟨N+1+1,1,none⟩ d).setCell ⟨N+1+1,2,none⟩ e) :=
 ((((h.setCell (p:=⟨N+1,0,none⟩) (by show B≤N+1;omega) _).setCell (p:=⟨N+1,1,none⟩) (by show B≤N+1;omega) _).setCell (p:=⟨N+1+1,0,none⟩) (by show B≤N+1+1;omega) _).setCell (p:=⟨N+1+1,1,none⟩) (by show B≤N+1+1;omega) _).setCell (p:=⟨N+1+1,2,none⟩) (by show B≤N+1+1;omega) _
theorem abd (B:Nat)(m:Md)(ab au:Option Addr)(cb cu:Nat)(w:World)(hB:Hid (B≤w.heap.size))(hin:Hid (aD B w m ab au)) :
  Calls Tryz.prog 4 #[AP m ab au cb cu] w fun e w'=>Ku m w e w':=by
 obtain⟨V,hV⟩:∃ V,V=((w.alloc (xI m ab au cb cu)).alloc Gq).alloc Fz:=⟨_,rfl⟩;have Iy:Below w.heap.size w V:=by rw[hV];exact EM _ _ _ _
 have hN0:V.heap[w.heap.size]?=some (xI m ab au cb cu):=by rw[hV,Below.heap_alloc _ _ _ (by simp;omega)];exact yY _ _ _
 have hN1:V.heap[w.heap.size+1]?=some Gq:=by rw[hV,Below.heap_alloc _ _ _ (by simp)];exact yZ _ _ _
 have AJ:V.heap[w.heap.size+1+1]?=some Fz:=by rw[hV];exact uU _ _ _ _
 have Iz:V.heap.size=w.heap.size+3:=by rw[hV];simp
 have HV:=hide hV.symm;have ll:=hide Iy;have uY:=hide hN0;have wM:=hide hN1;have aX:=hide AJ;have Nk:=hide Iz;clear hV Iy hN1 AJ Iz;obtain⟨N,hN⟩:∃ N,N=w.heap.size:=⟨_,rfl⟩;have AQ:=hide hN;have xJ:Hid (∀ W:World,Below w.heap.size w W→B≤W.heap.size∧aD B W m ab au):=fun W h=>⟨Nat.le_trans hB.out h.size,hin.out.low (fun k hk=>h.block k (by have:=hB.out;omega))⟩;obtain⟨r,hr⟩:∃ r,r=verify m:=⟨_,rfl⟩;have HR:=hide hr;have IA:=ZA m ab au cb cu B V (hide (xJ.out _ ll.out).2) (xJ.out _ ll.out).1 r HR;have IB:=hide IA;clear hr IA;obtain⟨a0,a1,_,_⟩:=vR hN0;clear hN0;go_enter Tryz.func4,Tryz.ntmps4
 go_upto_region 1 with fail
 rw[HV.out];rw[← hN] at a0 a1 uY wM aX ⊢;clear hN HV;go_wp2_with fail
 refine IB.out.mono ?_;rintro e w1 ⟨rfl,hg1⟩;have hb1:=SY hg1;obtain⟨W1,hW1⟩:∃ W1,W1=w1.alloc (.cells #[.int .i64 r.1,.int .i64 r.2.1,.int .i64 r.2.2] 28):=⟨_,rfl⟩;have hbW:Below V.heap.size V W1:=by rw[hW1];exact az hb1 (fG _ _)
 have hq:W1.heap[w1.heap.size]?=some (.cells #[.int .i64 r.1,.int .i64 r.2.1,.int .i64 r.2.2] 28 (0,0)):=by rw[hW1];exact heap_alloc_new _ _
 have HW1:=hide hW1.symm;have uF:=hide hbW;have Es:Hid (Below w.heap.size w W1):=az ll.out hbW;have Cj:=hide (lD hbW uY.out);have zW:=hide (lD hbW wM.out);have uJ:=hide (lD hbW aX.out);have HQ:=hide hq;have hz1:=hb1.size;clear hg1 hb1 hW1 hbW hq uY wM aX a0 a1 IB;go_upto_region 2 with fail
 rw[HW1.out];clear HW1;generalize hN4:w1.heap.size=N4 at *;have abf:N+3≤N4:=by have:=AQ.out;have:=Nk.out;omega
 obtain⟨b0,b1,b2,_⟩:=Er HQ.out;obtain⟨x0,x1,y0,y1⟩:=vR zW.out;obtain⟨u0,u1,u2,v0,v1,v2⟩:=Er uJ.out;by_cases h0:r.1=0
 ·have e1:(r.1 != 0)=false:=by simpa using h0
  have Ac:verify m=(0,0,0):=Te (by rw[← HR.out];exact h0);have hmd:made m=BZ m:=by unfold made;rw[Ac];rfl
  have Nl:Hid (r=(0,0,0)):=HR.out.trans Ac;have hlk:=MN.1 Ac;obtain⟨aS,IC⟩:=Fp (hlk 0 (by omega)) (hlk 1 (by omega)) (hlk 2 (by omega));have HJ:Hid (∀ u ∈ m.units,yI u.code∧0<u.code.length∧u.code.length≤4000∧u.locals.length≤200):=fun u hu=>by
   obtain⟨j1,j2,j3⟩:=RN Ac hu;obtain⟨k,hk⟩:=List.getElem?_of_mem hu;obtain⟨_,h2,_⟩:=Ao (aS.heads k u hk).1;unfold sized at h2;simp only[Bool.and_eq_true,decide_eq_true_eq] at h2;exact⟨j1,j2,j3,h2.1.1.1.1⟩
  have IE:=aS.units;have uH:=hide hmd;have Nn:=hide IE;have Im:=hide IC;obtain⟨a0,a1,_,_⟩:=vR Cj.out;have hcp:=aa3 B m.boxes ab cb W1 (hide (xJ.out _ Es.out).2.boxes) (by omega);have Kt:=hide hcp;clear h0 Ac hmd hlk aS IE IC hcp;go_wp2_with fail
  refine Kt.out.mono ?_;rintro e w2 ⟨vJ,cb',rfl,hBx,Tj,hb2⟩;obtain⟨W2,hW2⟩:∃ W2,W2=w2.alloc (.cells #[.slice vJ m.boxes.length cb',.slice none 0 0] 25):=⟨_,rfl⟩;have hbW2:Below w2.heap.size w2 W2:=by rw[hW2];exact fG _ _
  have hq2:W2.heap[w2.heap.size]?=some (.cells #[.slice vJ m.boxes.length cb',.slice none 0 0] 25 (0,0)):=by rw[hW2];exact heap_alloc_new _ _
  have HW2:=hide hW2.symm;have Ck:=hide (az hb2 hbW2);have abg:Hid (xw w2.heap.size W2 m.boxes vJ):=hBx.low hbW2.block;have abh:Hid (∀ ad,vJ=some ad→∃ cs,W2.heap[ad.block]?=some (.cells cs 36 (0,0))):=fun ad ha=>by
   obtain⟨cs,h1⟩:=Tj ad ha;exact⟨cs,lD hbW2 h1⟩
  have zA:=hide hq2;have hz2:N4<w2.heap.size:=by
   have h1:=lt_of_block HQ.out;have h2:=hb2.size;omega
  clear hW2 hbW2 hq2 hBx Tj hb2 Kt a0 a1 b0 b1 b2 x0 x1 y0 y1 u0 u1 u2 v0 v1 v2;go_upto_region 5 with fail
  rw[HW2.out];clear HW2;generalize Tc:w2.heap.size=N5 at *;have Np:=hide (lD Ck.out Cj.out);have Nq:=hide (lD Ck.out zW.out);have Nr:=hide (lD Ck.out uJ.out);have ze:Hid (Below w.heap.size w W2):=az Es.out Ck.out;obtain⟨a0,a1,_,_⟩:=vR Np.out;have Ns:N5<W2.heap.size:=lt_of_block zA.out;obtain⟨nu,hnu⟩:∃ nu,nu=m.units.length:=⟨_,rfl⟩;rw[← hnu] at a1;have Cm:=hide hnu;have nu1:(nu:Int)≤30:=by have:=Nn.out;omega
  clear hnu;go_wp2
  clear a0 a1;go_loopw [22] (fun i wr=>∃ (k:Nat) (us:List UV) (v:Value),k≤nu∧i=.int .i64 k∧us.map (·.u)=(m.units.take k).map xU∧zb W2.heap.size us v wr∧wr.heap[N5]?=some (.cells #[.slice vJ m.boxes.length cb',v] 25 (0,0))∧kY (fun j=>j=N5) W2 wr) (fun i _=>nu - (intOf i).toNat)
  case atStart=>exact⟨0,[],.slice none 0 0,Nat.zero_le _,rfl,rfl,⟨Gp _ _ _ _,fun x hx=>by cases hx⟩,zA.out,kY.refl _ _⟩
  case round =>
   obtain⟨k,us,v,hk,rfl,FB,IG,h5,xW⟩:=hrel;have II:=hide FB;have FD:=hide IG;have H5:=hide h5;have Cn:=hide xW;have yA:us.length=k:=by
    have:=congrArg List.length FB;simp at this;have:=Cm.out;omega
   have FE:=hide yA;have lh:Hid (Below w.heap.size w wr):=⟨xW.os.trans ze.out.os,xW.tape.trans ze.out.tape,xW.output.trans ze.out.output,Nat.le_trans ze.out.size xW.size,fun j hj=>(xW.block j (Nat.lt_of_lt_of_le hj ze.out.size) (by have:=AQ.out;omega)).trans (ze.out.block j hj)⟩;clear FB IG h5 xW yA;by_cases hlt:k<nu
   ·obtain⟨u,hu⟩:∃ u,m.units[k]?=some u:=⟨_,List.getElem?_eq_getElem (by rw[← Cm.out];exact hlt)⟩
    obtain⟨hB2,zD⟩:=xJ.out _ lh.out;obtain⟨b,off,al,cl,ac,cc,yB,hb,hU,x0,x1,x2,x3,x4,x5⟩:=zD.units k u hu;subst yB;obtain⟨j1,j2,j3,j4⟩:=HJ.out u (List.mem_of_getElem? hu);have HU:=hide hU;have Nt:=hide hu;have Nu:=hide j1;have k0:(0:Int)≤(k:Int):=by omega
    have k1:(k:Int)<(nu:Int):=by omega
    have hbl:b<wr.heap.size:=by omega
    obtain⟨W3,hW3⟩:∃ W3,W3=wr.alloc (.cells #[.int .i64 u.kind,.int .i64 u.params,.slice al u.locals.length cl,.int .i64 u.result,.int .i64 u.takes,.slice ac u.code.length cc] 40):=⟨_,rfl⟩;have hb3:Below wr.heap.size wr W3:=by rw[hW3];exact fG _ _
    have hq3:W3.heap[wr.heap.size]?=some (.cells #[.int .i64 u.kind,.int .i64 u.params,.slice al u.locals.length cl,.int .i64 u.result,.int .i64 u.takes,.slice ac u.code.length cc] 40 (0,0)):=by rw[hW3];exact heap_alloc_new _ _
    have HW3:=hide hW3.symm;have HB3:=hide hb3;have xR:=hide hq3;have HC3:Hid (∀ X:World,Below W3.heap.size W3 X→Calls Tryz.prog 9 #[.slice al u.locals.length cl] X fun e w'=>∃ a' c',e=.returned (.slice a' u.locals.length c')∧u.locals.length≤c'∧IntsIn w'.heap.size w' u.locals a'∧xm w' a'∧Below X.heap.size X w'):=fun X hX=>aa2 B u.locals al cl X (hide ((HU.out.locals.low (fun k hk=>HB3.out.block k (by omega))).low (fun k hk=>hX.block k (by have:=HB3.out.size;omega)))) (by omega);have jD:Hid (∀ X:World,Below W3.heap.size W3 X→Calls Tryz.prog 10 #[.slice ac u.code.length cc] X fun e w'=>∃ g cap,e=.returned (.slice (some ⟨g,0,none⟩) (short u.code).length cap)∧(short u.code).length≤cap∧aV w'.heap.size w' (short u.code) (some ⟨g,0,none⟩)∧xm w' (some ⟨g,0,none⟩)∧Below X.heap.size X w'):=fun X hX=>aa9 B u.code ac cc X (hide ((HU.out.code.low (fun k hk=>HB3.out.block k (by omega))).low (fun k hk=>hX.block k (by have:=HB3.out.size;omega)))) (by have:=HB3.out.size;have:=hX.size;omega) j2 j3 Nu;clear hW3 hb3 hq3 hu hU zD j1;go_upto_region 8 with fail
    rw[HW3.out];clear HW3 x0 x1 x2 x3 x4 x5;generalize Kv:wr.heap.size=N7 at *;obtain⟨z0,z1,z2,z3,z4,z5,f2,f5⟩:=zO xR.out;have HD3:Hid (Below W3.heap.size W3 W3.drew):=Below.drew (Below.refl _ _);have Nv:N7<W3.heap.size:=lt_of_block xR.out;go_region_with (first | (go_at_call 9;refine (HC3.out _ HD3.out).mono ?_;rintro e w4 ⟨al',cl',rfl,hcl,Tm,hRl,hb4⟩;have IJ:Hid (Below W3.heap.size W3 w4):=az HD3.out hb4;have Nw:=hide Tm;have Ia:=hide hRl;have HCL:=hide hcl;clear Tm hRl hb4 hcl;obtain⟨z0,z1,z2,z3,z4,z5,f2,f5⟩:=zO (lD IJ.out xR.out)) | (go_at_call 10;refine (jD.out _ IJ.out).mono ?_;rintro e w5 ⟨g,cc',rfl,hcc,Tn,Tp,hb5⟩;have Co:Hid (Below W3.heap.size W3 w5):=az IJ.out hb5;have Kw:=hide Tn;have HRC:=hide Tp;have Tq:=hide hcc;have vL:=hide hb5;clear Tn Tp hb5 hcc;obtain⟨z0,z1,z2,z3,z4,z5,f2,f5⟩:=zO (lD Co.out xR.out)))
    all_goals (
     obtain⟨W4,rP⟩:∃ W4,W4=(w5.setCell ⟨N7,2,none⟩ (.slice al' u.locals.length cl')).setCell ⟨N7,5,none⟩ (.slice (some ⟨g,0,none⟩) (short u.code).length cc'):=⟨_,rfl⟩;have hb5:Below N7 wr w5:=HB3.out.trans (Co.out.mono (Nat.le_of_lt Nv));have Ky:Below N7 wr W4:=by rw[rP];exact (hb5.setCell (p:=⟨N7,2,none⟩) (Nat.le_refl _) _).setCell (p:=⟨N7,5,none⟩) (Nat.le_refl _) _
     have Tt:zb W2.heap.size us v W4:=FD.out.on (by rw[Kv];exact Ky);have Ad:=lD Co.out xR.out;have hq4:W4.heap[N7]?=some (.cells #[.int .i64 u.kind,.int .i64 u.params,.slice al' u.locals.length cl',.int .i64 u.result,.int .i64 u.takes,.slice (some ⟨g,0,none⟩) (short u.code).length cc'] 40 (0,0)):=by rw[rP];exact abb Ad _ _
     have hg4:w5.grownBy W4 (some N7):=by rw[rP];exact yz (yz (World.grownBy.refl _ _) ⟨N7,2,none⟩ rfl _) ⟨N7,5,none⟩ rfl _
     have hx5:za w5 ⟨xU u,al',some ⟨g,0,none⟩,cl',cc'⟩:=⟨⟨HU.out.nums,⟨by have:=HU.out.few.1;exact this,by have:=Tq.out;have:=(MP u.code.length u.code).1;show (short u.code).length≤_;unfold short;omega⟩,⟨HCL.out,Tq.out⟩,fun i y hy=>(by obtain⟨a1,b1,o1,e1,hb1,c1⟩:=(Nw.out.low vL.out.block) i y hy;exact⟨a1,b1,o1,e1,Nat.lt_of_lt_of_le hb1 vL.out.size,c1⟩),Kw.out⟩,Ia.out.on vL.out,HRC.out⟩;have hx4:za W4 ⟨xU u,al',some ⟨g,0,none⟩,cl',cc'⟩:=hx5.grown hg4 (fun k hk=>by cases hk;exact⟨_,_,Ad,by decide,by decide⟩);have Tu:W4.heap[N5]?=some (.cells #[.slice vJ m.boxes.length cb',v] 25 (0,0)):=(Ky.block N5 (by have:=lt_of_block H5.out;omega)).trans H5.out;have xC:=hide rP.symm;have IK:=hide Ky;have abn:=hide Tt;have abo:=hide hx4;have Tv:=hide Tu;have Ff:=hide hq4;clear rP hb5 Ky Tt Ad hg4 hx5 hx4 Tu hq4 z0 z1 z2 z3 z4 z5 f2 f5;go_upto_region 9 with fail
     rw[xC.out];clear xC;obtain⟨y0,y1,y2,y3,y4,y5,_,_⟩:=zO Ff.out;obtain⟨d0,d1,d2,d3⟩:=vR Tv.out;obtain⟨i0,hi,hz0,hz1,hz2⟩:=Em Tryz.SC;obtain⟨x,hx⟩:∃ x:UV,x=⟨xU u,al',some ⟨g,0,none⟩,cl',cc'⟩:=⟨_,rfl⟩;obtain⟨W5,kX⟩:∃ W5,W5=W4.alloc (.cells #[.int .i64 u.kind,.int .i64 u.params,.slice al' u.locals.length cl',.int .i64 u.result,.int .i64 u.takes,.slice (some ⟨g,0,none⟩) (short u.code).length cc'] 40):=⟨_,rfl⟩;have Gs:Below W4.heap.size W4 W5:=by rw[kX];exact fG _ _
     have Kz:=hide (abn.out.on Gs);have Ny:Hid (za W5 x):=by unfold Hid;rw[hx];exact abo.out.on Gs
     have IL:Hid (W5.heap[N5]?=some (.cells #[.slice vJ m.boxes.length cb',v] 25 (0,0))):=lD Gs Tv.out;have Nz:Hid (∀ j u',(xV x)[j]?=some u'→W5.cell? ((⟨W4.heap.size,0,none⟩:Addr).add j)=some u'):=fun j u' hu'=>by
      rw[Gn,Nat.zero_add];have h8:W5.heap[W4.heap.size]?=some (.cells (xV x).toArray 40 (0,0)):=by rw[kX,hx];exact heap_alloc_new _ _
      simp only[World.cell?,h8];simpa using hu'
     have ad8:=hide Gs;have xn:Hid (kY (fun j=>j=N5) W2 W5):=(Cn.out.trans ⟨IK.out.os,IK.out.tape,IK.out.output,IK.out.size,fun j hj _=>IK.out.block j (by omega)⟩).trans (.of Gs);have yt:=hide kX.symm;have HXE:=hide hx;have hlen:us.length+1≤31:=by have:=FE.out;omega
     have NA:Hid ((us++[x]).map (·.u)=(m.units.take (k+1)).map xU):=by
      unfold Hid;rw[List.map_append,II.out,List.take_add_one,Nt.out,hx];simp
     clear kX Gs hx;go_wp2_with (at_builtin;rw[yt.out];refine Io rfl _ _ 23 rfl W2.heap.size 40 i0 _ 6 80 Tryz.underlying23 hi hz0 hz1 hz2 rfl (by decide) v us.length (xk us) rfl Kz.out.own (some ⟨W4.heap.size,0,none⟩) 1 1 (xV x) rfl (fun e=>by cases e) rfl (fun ad e=>by cases e;exact Nz.out) (Ti x) (by unfold maxLen;omega) (by omega) (by have:=xn.out.size;exact this) ?_;intro v' w6 hown hgr;obtain⟨a6,c6,hv6,_,_⟩:=yX hown;subst hv6;have AR:w6.heap[N5]?=some (.cells #[.slice vJ m.boxes.length cb',v] 25 (0,0)):=(hgr.block N5 (lt_of_block IL.out) (fun e=>by have:=(Kz.out.own.lt N5 e.symm).1;omega)).trans IL.out;obtain⟨g0,g1,g2,g3⟩:=vR AR;have IM:=hide AR;have HOWN:=hide hown;have wS:=hide hgr;clear hown hgr AR)
     have NC:=hide (Kz.out.more (p:=.slice a6 (us.length+1) c6) Ny.out HOWN.out wS.out Ns IM.out);have ND:Hid (kY (fun j=>j=N5) W2 (w6.setCell ⟨N5,1,none⟩ (.slice a6 (us.length+1) c6))):=by
      have h6:kY (fun j=>j=N5) W2 w6:=⟨wS.out.os.trans xn.out.os,wS.out.tape.trans xn.out.tape,wS.out.output.trans xn.out.output,Nat.le_trans xn.out.size wS.out.size,fun j h1 h2=>(wS.out.block j (Nat.lt_of_lt_of_le h1 xn.out.size) (fun e=>by have:=(Kz.out.own.lt j e.symm).1;omega)).trans (xn.out.block j h1 h2)⟩;exact h6.set ⟨N5,1,none⟩ rfl _
     go_roundw
     case rel=>exact⟨k+1,us++[x],.slice a6 (us.length+1) c6,by omega,by go_num,NA.out,NC.out,Tg IM.out _,ND.out⟩
     case measure=>simp[intOf];omega)
   ·obtain rfl:k=nu:=by omega
    have aea:N+1+1<N5:=by omega
    have hr1:wr.heap[N+1]?=some Gq:=(Cn.out.block (N+1) (by omega) (by omega)).trans Nq.out;have hr2:wr.heap[N+1+1]?=some Fz:=(Cn.out.block (N+1+1) (by omega) (by omega)).trans Nr.out;obtain⟨d0,d1,_,_⟩:=vR H5.out;obtain⟨x0,x1,y0,y1⟩:=vR hr1;obtain⟨u0,u1,u2,v0,v1,v2⟩:=Er hr2;have NF:xw N5 wr m.boxes vJ:=abg.out.low (fun j hj=>Cn.out.block j (by omega) (by omega));have Tw:∀ ad,vJ=some ad→∃ cs,wr.heap[ad.block]?=some (.cells cs 36 (0,0)):=fun ad ha=>by
     obtain⟨cs,h1⟩:=abh.out ad ha;refine⟨cs,(Cn.out.block _ (lt_of_block h1) (fun e=>?_)).trans h1⟩;rw[e] at h1;rw[zA.out] at h1;simp at h1
    obtain⟨zf,AU,hv,_⟩:=FD.out.mod (bs:=m.boxes) (ab:=vJ) (fun i x hx=>(by obtain⟨h1,h2,b,o,e,hb,c0⟩:=NF i x hx;exact⟨h1,h2,b,o,e,by have:=lt_of_block H5.out;omega,c0⟩)) (by have:=Im.out;omega) (by have:=FE.out;omega);subst hv;have NG:Hid (∀ a b c d e,aD ((((((wr.setCell ⟨N+1,0,none⟩ a).setCell ⟨N+1,1,none⟩ b).setCell ⟨N+1+1,0,none⟩ c).setCell ⟨N+1+1,1,none⟩ d).setCell ⟨N+1+1,2,none⟩ e)).heap.size (((((wr.setCell ⟨N+1,0,none⟩ a).setCell ⟨N+1,1,none⟩ b).setCell ⟨N+1+1,0,none⟩ c).setCell ⟨N+1+1,1,none⟩ d).setCell ⟨N+1+1,2,none⟩ e) (BZ m) vJ zf):=fun a b c d e=>by
     have g1:wr.grownBy ((wr.setCell ⟨N+1,0,none⟩ a).setCell ⟨N+1,1,none⟩ b) (some (N+1)):=yz (yz (World.grownBy.refl _ _) ⟨N+1,0,none⟩ rfl _) ⟨N+1,1,none⟩ rfl _;have t2:((wr.setCell ⟨N+1,0,none⟩ a).setCell ⟨N+1,1,none⟩ b).heap[N+1+1]?=some Fz:=(g1.block _ (lt_of_block hr2) (by simp)).trans hr2;have g2:((wr.setCell ⟨N+1,0,none⟩ a).setCell ⟨N+1,1,none⟩ b).grownBy (((((wr.setCell ⟨N+1,0,none⟩ a).setCell ⟨N+1,1,none⟩ b).setCell ⟨N+1+1,0,none⟩ c).setCell ⟨N+1+1,1,none⟩ d).setCell ⟨N+1+1,2,none⟩ e) (some (N+1+1)):=yz (yz (yz (World.grownBy.refl _ _) ⟨N+1+1,0,none⟩ rfl _) ⟨N+1+1,1,none⟩ rfl _) ⟨N+1+1,2,none⟩ rfl _;have m1:=(FD.out.keep g1 (by omega) hr1 (by decide) (by decide)).keep g2 (by omega) t2 (by decide) (by decide);obtain⟨b1,b1'⟩:=Td NF Tw g1 hr1 (by decide);obtain⟨b2,_⟩:=Td b1 b1' g2 t2 (by decide);obtain⟨au2,cu2,e2,hM2⟩:=m1.mod (bs:=m.boxes) (ab:=vJ) (fun i x hx=>(by obtain⟨h1,h2,bb,o,e,hb,c0⟩:=b2 i x hx;exact⟨h1,h2,bb,o,e,by have:=lt_of_block H5.out;simp;omega,c0⟩)) (by have:=Im.out;omega) (by have:=FE.out;omega);cases e2;have e3:us.map (·.u)=m.units.map xU:=by rw[II.out,Cm.out,List.take_length]
     rw[e3] at hM2;exact hM2
    have Eg:Hid ((BZ m).units.length=us.length∧(BZ m).boxes.length=m.boxes.length):=by
     refine⟨?_,rfl⟩;show (m.units.map xU).length=_
     rw[List.length_map,FE.out,Cm.out]
    have HF:Hid (∀ a b c d e,Below w.heap.size w (((((wr.setCell ⟨N+1,0,none⟩ a).setCell ⟨N+1,1,none⟩ b).setCell ⟨N+1+1,0,none⟩ c).setCell ⟨N+1+1,1,none⟩ d).setCell ⟨N+1+1,2,none⟩ e)):=fun a b c d e=>Iw lh.out (by rw[AQ.out];exact Nat.le_refl _) _ _ _ _ _;obtain⟨ul,yA⟩:∃ ul,ul=us.length:=⟨_,rfl⟩;rw[← yA] at d1;have NH:=hide yA;clear yA hr1 hr2 NF Tw hlt;go_wp2
    exact bodyPost_ret (v:=.tuple #[.agg #[.slice vJ m.boxes.length cb',.slice zf ul AU],gM 0 0 0]) (by simp[results,Tryz.results4,go_sem,x0,x1,u0,u1,u2]) rfl ⟨vJ,cb',zf,AU,by rw[uH.out,← HR.out,Nl.out];simp only[AP];rw[Eg.out.1,← NH.out];rfl,by rw[uH.out];exact NG.out _ _ _ _ _,HF.out _ _ _ _ _⟩
 ·have e1:(r.1 != 0)=true:=by simpa using h0
  have uH:Hid (made m=⟨[],[]⟩):=by unfold made Hid;rw[← HR.out,if_neg h0]
  have HF:Hid (∀ W a b c d e,Below w.heap.size w W→Below w.heap.size w (((((W.setCell ⟨N+1,0,none⟩ a).setCell ⟨N+1,1,none⟩ b).setCell ⟨N+1+1,0,none⟩ c).setCell ⟨N+1+1,1,none⟩ d).setCell ⟨N+1+1,2,none⟩ e)):=fun W a b c d e h=>Iw h (by rw[AQ.out];exact Nat.le_refl _) _ _ _ _ _;clear h0;go_wp2
  go_region
  all_goals go_wp2
  all_goals exact bodyPost_ret (v:=.tuple #[AP ⟨[],[]⟩ none none 0 0,gM r.1 r.2.1 r.2.2]) (by simp[results,Tryz.results4,go_sem,x0,x1,u0,u1,u2]) rfl ⟨none,0,none,0,by rw[uH.out,HR.out],by rw[uH.out];exact Tf _ _,Below.drew (HF.out _ _ _ _ _ _ Es.out)⟩
end Go.Proofs.YtbdpdjcdhclbfaaGreat.Ow
