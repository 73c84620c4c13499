/- The walk of graph.Order. -/
import Derived.Test.YtfcpglhpolpdcaaGreatDoorM38
import Derived.Deep.QuietTactic
import Derived.BigQuiet
import Derived.Deep.Cut
import Derived.Calls
import Derived.Defers
import Derived.OrdersHeld
set_option maxRecDepth 100000
set_option maxHeartbeats 4000000
namespace Go.Proofs.YtfcpglhpolpdcaaGreatDoor
open Go.RowKit
namespace Gr
abbrev nM:Obj:=.cells #[.int .i64 0,.int .i64 0] 46 (0,0)
def entry (w:World):World:=(w.alloc (sP (.slice none 0 0))).alloc nM
structure Kq (S:Nat→Prop) (w w':World):Prop where
 os:w'.os=w.os
 tape:w'.tape=w.tape
 output:w'.output=w.output
 size:w.heap.size≤w'.heap.size
 block:∀ k,k<w.heap.size→S k→w'.heap[k]?=w.heap[k]?
theorem Kq.trans {S S':Nat→Prop}{a b c:World}(h:Kq S a b)(h2:Kq S' b c)(hs:∀ k,S k→S' k):Kq S a c:=⟨h2.os.trans h.os,h2.tape.trans h.tape,h2.output.trans h.output,Nat.le_trans h.size h2.size,fun k hk hS=>(h2.block k (Nat.lt_of_lt_of_le hk h.size) (hs k hS)).trans (h.block k hk hS)⟩
theorem Kq.alloc {S:Nat→Prop}{a b:World}(h:Kq S a b)(o:Obj):Kq S a (b.alloc o):=h.trans (S':=fun _=>True) ⟨rfl,rfl,rfl,(fJ b o).size,fun k hk _=>(fJ b o).block k hk (by simp)⟩ fun _ _=>trivial
theorem Kq.set {S:Nat→Prop}{a b:World}(h:Kq S a b){g:Nat}(hg:a.heap.size≤g)(i:Nat)(v:Value):Kq S a (b.setCell ⟨g,i,none⟩ v):=⟨h.os,h.tape,h.output,Nat.le_trans h.size (mI b g i v).size,fun k hk hS=>((mI b g i v).block k (Nat.lt_of_lt_of_le hk h.size) (by simp;omega)).trans (h.block k hk hS)⟩
theorem Kq.drew {S:Nat→Prop}{a b:World}(h:Kq S a b):Kq S a b.drew:=⟨h.os,h.tape,h.output,h.size,h.block⟩
theorem Kq.below {B:Nat}{a b:World}(h:Kq (·<B) a b)(hB:B≤a.heap.size):Below B a b:=⟨h.os,h.tape,h.output,h.size,fun k hk=>h.block k (by omega) hk⟩
def RY (S:Nat→Prop)(ks:List (Int × ByteArray))(a:Option Addr)(r:Except (Int × Int) (List Ed))(w0 W:World)(e:Ending)(w1:World):Prop :=
 Kq (fun k=>w0.heap.size≤k∨S k) W w1∧match r with
 | .error x=>x.1≠0∧e=.returned (.tuple #[.slice none 0 0,.agg #[.int .i64 x.1,.int .i64 x.2]])
 | .ok es=>pK w1 ks a∧ks.length≤1000000∧es.length≤1000000∧∃ ea ec,e=.returned (.tuple #[.slice ea es.length ec,.agg #[.int .i64 0,.int .i64 0]])∧Bl (·<w1.heap.size) w1 es ea
def RZ (S:Nat→Prop)(ks:List (Int × ByteArray))(r:Except (Int × Int) (List Ed))(w:World)(e:Ending)(w':World):Prop:=Kq S w w'∧match r with
 | .error x=>e=.returned (.tuple #[.slice none 0 0,.slice none 0 0,.agg #[.int .i64 x.1,.int .i64 x.2]])
 | .ok es=>∃ vo vl,e=.returned (.tuple #[vo,vl,.agg #[.int .i64 0,.int .i64 0]])∧w'.ownsRow w.heap.size 9 1 vo (order es (tasks ks)).1.length (strs (order es (tasks ks)).1)∧w'.ownsRow w.heap.size 9 1 vl (order es (tasks ks)).2.length (strs (order es (tasks ks)).2)
def set2 (w:World)(b:Nat)(x y:Value):World:=(w.setCell ⟨b,0,none⟩ x).setCell ⟨b,1,none⟩ y
theorem Bt {w:World}{b k:Nat}(h:k≠b)(x y:Value):(set2 w b x y).heap[k]?=w.heap[k]?:=(Below.heap_setCell _ ⟨b,1,none⟩ y k h).trans (Below.heap_setCell w ⟨b,0,none⟩ x k h)
theorem JD {w:World}{b:Nat}{u v:Value}{t:TypeId}(h:w.heap[b]?=some (.cells #[u,v] t (0,0)))(x y:Value):(set2 w b x y).heap[b]?=some (.cells #[x,y] t (0,0)):=by
 simp only[set2,World.setCell,Array.getElem?_modify,if_true,h,Option.map_some];rfl
theorem R6 (w:World)(b:Nat)(x y:Value):(set2 w b x y).heap.size=w.heap.size:=by simp[set2,World.setCell]
theorem Kq.set2 {S:Nat→Prop}{b:Nat}{a w:World}(h:Kq S a w)(hb:a.heap.size≤b)(x y:Value):Kq S a (set2 w b x y):=(h.set hb 0 x).set hb 1 y
theorem two {w:World}{b:Nat}{x y:Value}{t:TypeId}(h:w.heap[b]?=some (.cells #[x,y] t (0,0))):w.cell? ⟨b,0,none⟩=some x∧w.cell? ⟨b,1,none⟩=some y∧w.frozen? ⟨b,0,none⟩=false∧w.frozen? ⟨b,1,none⟩=false:=by simp[World.cell?,World.frozen?,h]
theorem one {w:World}{b:Nat}{x:Value}{t:TypeId}(h:w.heap[b]?=some (.cells #[x] t (0,0))):w.cell? ⟨b,0,none⟩=some x∧w.frozen? ⟨b,0,none⟩=false:=by simp[World.cell?,World.frozen?,h]
theorem ends {W:World}{O F:Nat}{u p q:Value}{tO tF:TypeId}(hO:W.heap[O]?=some (.cells #[u] tO (0,0)))(hF:W.heap[F]?=some (.cells #[p,q] tF (0,0)))(hne:O≠F)(v x y:Value) :
  (set2 (W.setCell ⟨O,0,none⟩ v) F x y).drew.cell? ⟨O,0,none⟩=some v∧(set2 (W.setCell ⟨O,0,none⟩ v) F x y).drew.cell? ⟨F,0,none⟩=some x∧(set2 (W.setCell ⟨O,0,none⟩ v) F x y).drew.cell? ⟨F,1,none⟩=some y:=by
 have h3:(set2 (W.setCell ⟨O,0,none⟩ v) F x y).drew.heap[O]?=some (.cells #[v] tO (0,0)):=(Bt hne x y).trans (Ez hO v);have h4:(set2 (W.setCell ⟨O,0,none⟩ v) F x y).drew.heap[F]?=some (.cells #[x,y] tF (0,0)):=JD ((Below.heap_setCell W ⟨O,0,none⟩ v F (Ne.symm hne)).trans hF) x y;generalize (set2 (W.setCell ⟨O,0,none⟩ v) F x y).drew=W' at *;refine⟨?_,?_,?_⟩<;>simp[World.cell?,h3,h4]
theorem R8 (a b:ByteArray):(a.toList==b.toList)=decide (a=b):=by
 rw[Lib.toList_data,Lib.toList_data,Bool.eq_iff_iff];simp only[beq_iff_eq,decide_eq_true_eq];refine⟨fun e=>?_,fun e=>by rw[e]⟩;cases a;cases b;simp only[ByteArray.mk.injEq] at *;exact Array.toList_inj.1 e
theorem three {w:World}{b:Nat}{x y z:Value}{t:TypeId}(h:w.heap[b]?=some (.cells #[x,y,z] t (0,0))):w.cell? ⟨b,0,none⟩=some x∧w.cell? ⟨b,1,none⟩=some y∧w.cell? ⟨b,2,none⟩=some z:=by simp[World.cell?,h]
theorem R9 {w:World}{B e n:Nat}{g:Nat}{c:Nat}{l:List ByteArray}(h:w.ownsRow B e 1 (.slice (some ⟨g,0,none⟩) n c) n (strs l)){i:Nat}(hi:i<n):w.cell? ⟨g,i,none⟩=some (.string (nm l i)):=by
 obtain⟨g',e1,h1⟩:=Eu h hi;cases e1;exact h1
theorem JE {w:World}{B B' e size n:Nat}{v:Value}{xs:List Value}(h:w.ownsRow B e size v n xs)(hB:B'≤B):w.ownsRow B' e size v n xs:=by
 refine⟨h.1,?_⟩;rcases h.2 with h2 | ⟨g,cap,cur,rfl,hb,hr⟩
 ·exact .inl h2
 ·exact .inr ⟨g,cap,cur,rfl,by omega,hr⟩
theorem Sa {w:World}{B e size n:Nat}{v:Value}{xs:List Value}(h:w.ownsRow B e size v n xs):w.drew.ownsRow B e size v n xs:=⟨h.1,h.2⟩
theorem Sc {w:World}{B e size n b:Nat}{v:Value}{xs:List Value}(h:w.ownsRow B e size v n xs)(hb:b<B)(x y:Value):(set2 w b x y).ownsRow B e size v n xs:=by
 have h2:=h.kept (mI _ b 0 x) (own_ne h hb);exact h2.kept (mI _ b 1 y) (own_ne h2 hb)
structure Fin (S:Nat→Prop) (w:World) (o r:List ByteArray) (vo vl:Value) (W:World):Prop where
 z0:W.cell? ⟨w.heap.size,0,none⟩=some vl
 z1:W.cell? ⟨w.heap.size+1,0,none⟩=some (.int .i64 0)
 z2:W.cell? ⟨w.heap.size+1,1,none⟩=some (.int .i64 0)
 below:Kq S w W
 order:W.ownsRow w.heap.size 9 1 vo o.length (strs o)
 left:W.ownsRow w.heap.size 9 1 vl r.length (strs r)
theorem St.fault {K:Kx}{L:Lk}{o r:List ByteArray}{vo vl:Value}{w W:World}(h:St K L o r vo vl W)(JF:K.LB=w.heap.size)(hF:K.W.heap[w.heap.size+1]?=some nM):W.heap[w.heap.size+1]?=some nM:=(h.kp.block _ (bU hF) (by omega)).trans hF
theorem St.fin {K:Kx}{L:Lk}{o r:List ByteArray}{vo vl:Value}{w W:World}{S:Nat→Prop}(h:St K L o r vo vl W)(hko:K.Ok)(JF:K.LB=w.heap.size)(hb2:Kq S w K.W)(hF:K.W.heap[w.heap.size+1]?=some nM):Fin S w o r vo vl (set2 (W.setCell ⟨w.heap.size,0,none⟩ vl) (w.heap.size+1) (.int .i64 0) (.int .i64 0)).drew:=by
 obtain⟨k1,k2,k3,k4,k5⟩:=hko;have hl:=bU hF;have hf:=h.fault JF hF;have hx:=h.box;rw[JF] at hx;obtain⟨z0,z1,z2⟩:=ends hx hf (by omega) vl (.int .i64 0) (.int .i64 0);have hbW:Kq S w W:=⟨h.kp.os.trans hb2.os,h.kp.tape.trans hb2.tape,h.kp.output.trans hb2.output,Nat.le_trans hb2.size h.kp.size,fun k hk hS=>(h.kp.block k (by omega) (by omega)).trans (hb2.block k hk hS)⟩;refine⟨z0,z1,z2,((hbW.set (Nat.le_refl _) 0 vl).set2 (by omega) _ _).drew,?_,?_⟩
 ·exact JE (Sa (Sc (h.order.kept (mI W w.heap.size 0 vl) (own_ne h.order (by omega))) (by omega) _ _)) (by omega)
 ·exact JE (Sa (Sc (h.left.kept (mI W w.heap.size 0 vl) (own_ne h.left (by omega))) (by omega) _ _)) (by omega)
theorem adF (S:Nat→Prop)(ks:List (Int × ByteArray))(a:Option Addr)(c:Nat)(r:Except (Int × Int) (List Ed))(w:World)
  (hE:Calls Tryz.prog 23 #[.slice a ks.length c] (entry w) fun e w1=>RY S ks a r w (entry w) e w1) :
  Calls Tryz.prog 9 #[.slice a ks.length c] w fun e w'=>RZ S ks r w e w':=by
 obtain⟨W0,hW0⟩:∃ W0,W0=entry w:=⟨_,rfl⟩;have HW0:Hd (W0=_):=hW0;have HB0:Hd (Kq S w W0):=by rw[hW0];exact (Kq.alloc ⟨rfl,rfl,rfl,Nat.le_refl _,fun _ _ _=>rfl⟩ _).alloc _
 have mh:Hd (W0.heap.size=w.heap.size+2):=by rw[hW0];unfold entry;simp[Hd]
 have JG:Hd (W0.heap[w.heap.size]?=some (sP (.slice none 0 0))):=by rw[hW0];exact (Below.heap_alloc _ _ _ (by simp)).trans (heap_alloc_new _ _)
 have aJ:Hd (W0.heap[w.heap.size+1]?=some nM):=by
  rw[hW0];have:=heap_alloc_new (w.alloc (sP (.slice none 0 0))) nM;rw[World.size_alloc] at this;exact this
 unfold entry at HW0;rw[← hW0] at hE;clear hW0;go_enter Tryz.func9,Tryz.ntmps9
 go_wp2_with fail
 rw[← HW0.out];refine hE.mono ?_;rintro e w1 ⟨hb1,hr1⟩;have hk1:=fun k h1 h2=>hb1.block k h2 (.inl h1);have HA1:Hd (w1.heap[w.heap.size]?=some (sP (.slice none 0 0))):=(hk1 _ (by omega) (bU JG.out)).trans JG.out;have hF1:w1.heap[w.heap.size+1]?=some nM:=(hk1 _ (by omega) (bU aJ.out)).trans aJ.out;have HB1:Hd (Kq S w w1):=HB0.out.trans hb1 fun _=>.inr;obtain⟨f0,f1,Bu,Bv⟩:=two hF1;clear hk1 hb1 HB0 JG aJ mh HW0 hE;cases r with
 | error x =>
  obtain⟨hx,rfl⟩:=hr1;obtain⟨x1,x2⟩:=x;dsimp only at hx ⊢;have e0:(x1 != 0)=true:=by simpa using hx
  obtain⟨W2,hW2⟩:∃ W2,W2=set2 w1 (w.heap.size+1) (.int .i64 x1) (.int .i64 x2):=⟨_,rfl⟩;have HB2:Hd (Kq S w W2):=by rw[hW2];exact HB1.out.set2 (by omega) _ _
  have HA2:Hd (W2.heap[w.heap.size]?=some (sP (.slice none 0 0))):=by rw[hW2];exact (Bt (by omega) _ _).trans HA1.out
  have bQ:Hd (W2.heap[w.heap.size+1]?=some (.cells #[.int .i64 x1,.int .i64 x2] 46 (0,0))):=by rw[hW2];exact JD hF1 _ _
  have HW2:Hd (W2=_):=hW2;clear hW2 hF1 HA1 HB1 hx;go_upto_region 2 with fail
  unfold set2 at HW2;rw[← HW2.out];clear f0 f1 Bu Bv HW2;obtain⟨f0,f1,Bu,Bv⟩:=two bQ.out;obtain⟨o0,dX⟩:=one HA2.out;have HZ:=hd (ends HA2.out bQ.out (by omega) (.slice none 0 0) (.int .i64 x1) (.int .i64 x2));have HB3:Hd (Kq S w (set2 (W2.setCell ⟨w.heap.size,0,none⟩ (.slice none 0 0)) (w.heap.size+1) (.int .i64 x1) (.int .i64 x2)).drew):=((HB2.out.set (Nat.le_refl _) 0 (.slice none 0 0)).set2 (by omega) _ _).drew;unfold set2 at HZ HB3;clear HB2 HA2 bQ;go_wp2
  go_region
  generalize (((W2.setCell ⟨w.heap.size,0,none⟩ (.slice none 0 0)).setCell ⟨w.heap.size+1,0,none⟩ (.int .i64 x1)).setCell ⟨w.heap.size+1,1,none⟩ (.int .i64 x2)).drew=W9 at *;obtain⟨z0,z1,z2⟩:=HZ.out;go_wp2
  exact bodyPost_ret (v:=.tuple #[.slice none 0 0,.slice none 0 0,.agg #[.int .i64 x1,.int .i64 x2]]) (by simp[results,Tryz.results9,go_sem,z0,z1,z2]) rfl ⟨HB3.out,rfl⟩
 | ok es =>
  obtain⟨hD1,hl,hes,ea,ec,rfl,hE1⟩:=hr1;have e0:((0:Int) != 0)=false:=rfl;obtain⟨W2,hW2⟩:∃ W2,W2=set2 w1 (w.heap.size+1) (.int .i64 0) (.int .i64 0):=⟨_,rfl⟩;have HB2:Hd (Kq S w W2):=by rw[hW2];exact HB1.out.set2 (by omega) _ _
  have HA2:Hd (W2.heap[w.heap.size]?=some (sP (.slice none 0 0))):=by rw[hW2];exact (Bt (by omega) _ _).trans HA1.out
  have bQ:Hd (W2.heap[w.heap.size+1]?=some nM):=by rw[hW2];exact JD hF1 _ _
  have hnf:∀ (o:Nat) (d:ByteArray),w1.cell? ⟨w.heap.size+1,o,none⟩≠some (.string d):=by
   intro o d h;rcases o with _ | _ | o<;>simp[World.cell?,hF1] at h
  have hna:∀ (o:Nat) (d:ByteArray),w1.cell? ⟨w.heap.size,o,none⟩≠some (.string d):=by
   intro o d h;rcases o with _ | o<;>simp[World.cell?,HA1.out] at h
  have HD2:Hd (pK W2 ks a):=by
   rw[hW2];refine hD1.same (Nat.le_of_eq (R6 _ _ _ _).symm) fun b _=>?_;by_cases e:b=w.heap.size+1
   ·subst e;exact .inr hnf
   ·exact .inl (Bt e _ _)
  have HE2:Hd (Bl (fun b=>b<W2.heap.size∧b≠w.heap.size) W2 es ea):=by
   rw[hW2];refine hE1.keep fun b hb ⟨o,d,hd⟩=>⟨Bt (fun e=>?_) _ _,by rw[R6];exact hb,fun e=>?_⟩
   ·subst e;exact hnf _ _ hd
   ·subst e;exact hna _ _ hd
  have HW2:Hd (W2=_):=hW2;have JH:=hd hes;clear hW2 hF1 HA1 HB1 hD1 hE1 hnf hna hes;go_upto_region 2 with fail
  unfold set2 at HW2;rw[← HW2.out];clear f0 f1 Bu Bv HW2;obtain⟨f0,f1,Bu,Bv⟩:=two bQ.out;have hmm:∀ w:World,(Instr.makeMap 77 Option.none).run Tryz.prog w=.ok (.map (some w.heap.size)) (w.alloc (.map #[] 0)):=fun _=>rfl;have hz:∀ w,(zeroValue 3).run Tryz.prog w=.ok (.int .i64 0) w:=fun w=>by kernel_rfl
  obtain⟨W4,gF⟩:∃ W4,W4=(W2.alloc (.map #[] 0)).alloc (ym W2.heap.size):=⟨_,rfl⟩;have gK:Hd (W2.grownBy W4 none):=by rw[gF];exact gtr (fJ _ _) (fJ _ _)
  have Sd:Hd (dE W4 W2.heap.size fun _=>0):=by rw[gF];exact (dE.new W2).grow (fJ _ _) (by simp)
  have Bw:Hd (W4.heap[W2.heap.size+1]?=some (ym W2.heap.size)):=by
   rw[gF];have:=heap_alloc_new (W2.alloc (.map #[] 0)) (ym W2.heap.size);rw[World.size_alloc] at this;exact this
  have jO:Hd (W4=_):=gF;obtain⟨N,hN⟩:∃ N,N=es.length:=⟨_,rfl⟩;have HN:Hd (N=es.length):=hN;have hN9:N≤1000000:=by rw[hN];exact JH.out
  rw[← hN];clear gF hN;go_upto_region 5 with fail
  rw[← jO.out];clear f0 f1 Bu Bv jO;go_wp2
  go_loopw [25] (fun q wr=>∃ j:Nat,q=.int .i64 j∧j≤N∧Hd (dE wr W2.heap.size (adds (es.take j) fun _=>0))∧Hd (W4.grownBy wr (some W2.heap.size))) (fun q _=>N - (intOf q).toNat)
  case atStart=>exact⟨0,rfl,Nat.zero_le _,Sd.out,vK _ _⟩
  case round =>
   obtain⟨j,rfl,hj,HM,HG⟩:=hrel;have yt:Hd (W2.grownBy wr none):=sO gK.out HG.out (Nat.le_refl _);have Sg:Hd (wr.heap[W2.heap.size+1]?=some (ym W2.heap.size)):=(HG.out.block _ (bU Bw.out) (by simp)).trans Bw.out;by_cases hlt:j<N
   ·have hj1:j<es.length:=by rw[← HN.out];exact hlt
    obtain⟨e,he⟩:∃ e,es[j]?=some e:=⟨_,List.getElem?_eq_getElem hj1⟩;obtain⟨b,off,rfl,⟨hb,_⟩,k0,k1,k2⟩:=(HE2.out.keep (S':=fun _=>True) fun b hb _=>⟨yt.out.block b hb.1 (by simp),trivial⟩) j e he;have hjp:(j:Int)<(N:Int):=by omega
    have HJ:Hd (j+1≤N):=hlt;obtain⟨W5,dH⟩:∃ W5,W5=wr.alloc (.cells #[.string e.1,.string e.2.1,.string e.2.2] 79):=⟨_,rfl⟩;have JI:W4.grownBy W5 (some W2.heap.size):=by rw[dH];exact gtr HG.out (adi (fJ _ _))
    have JJ:dE W5 W2.heap.size (adds (es.take j) fun _=>0):=by rw[dH];exact HM.out.grow (fJ _ _) (by simp)
    obtain⟨c0,_⟩:=one ((JI.block _ (bU Bw.out) (by simp)).trans Bw.out);obtain⟨q,hq⟩:∃ q,q=adds (es.take j) (fun _=>0) e.2.2:=⟨_,rfl⟩;have Bz:-1000000≤q∧q≤1000000:=by
     have h1:=jC.adds (m:=0) (es.take j) (L:=fun _=>0) (fun x=>by simp) e.2.2;have h2:(es.take j).length≤N:=by simp;omega
     rw[← hq] at h1;omega
    have hL:=dE.look Tryz.underlying77 Tryz.underlying9 JJ e.2.2 (hz _);obtain⟨w6,hup,Si,nS⟩:=dE.up Tryz.underlying77 Tryz.underlying9 JJ e.2.2 1;rw[← hq] at hL hup;have Ay:Hd (dE w6 W2.heap.size (adds (es.take (j+1)) fun _=>0)):=by rw[ac3 es j e he];exact Si
    have nN:Hd (W4.grownBy w6 (some W2.heap.size)):=gtr JI nS;subst dH;clear JJ Si nS JI hq he;go_wp2
    go_roundw
    case rel=>exact⟨j+1,by go_num,HJ.out,Ay,nN⟩
    case measure=>have:=HJ.out;simp[intOf];omega
   ·have Sj:Hd (dE wr W2.heap.size (adds es fun _=>0)):=by
     have h1:=HM.out;rw[List.take_of_length_le (by have:=HN.out;omega)] at h1;exact h1
    have hjp:¬ (j:Int)<(N:Int):=by omega
    have Sl:=hd (HD2.out.grow yt.out);have rQ:∀ (fn:Fn) (first cap:Array Value) (w:World),(Instr.makeFunc fn first cap).run Tryz.prog w=.ok (.func fn first cap) w:=fun _ _ _ _=>rfl;clear HM HG Sd gK Bw hlt;go_wp2_with fail
    refine (AX ks a c wr Sl hl).mono ?_;rintro e w5 ⟨v,rfl,hg5,EA⟩;obtain⟨T,hT⟩:∃ T,T=tasks ks:=⟨_,rfl⟩;rw[← hT] at EA;have xX:T.length≤1000000:=by rw[hT];have:=RD ks;omega
    obtain⟨hko,hst⟩:=St.begin Sj.out HA2.out Sg.out yt.out hg5 EA;obtain⟨la,lc,rfl⟩:=dA EA;obtain⟨x0,JK⟩:=one (((hg5.block _ (Nat.lt_of_lt_of_le (bU HA2.out) yt.out.size) (by simp)).trans (yt.out.block _ (bU HA2.out) (by simp))).trans HA2.out);have HT:=hd hT;have nI:=hd xX;clear hg5 EA Sl HD2 Sg Sj yt HA2 hT xX;obtain⟨K,hK⟩:∃ K,K=kx W2 w.heap.size wr.heap.size w5.heap.size:=⟨_,rfl⟩;have jX:Hd (K.LB=w.heap.size∧K.C=W2.heap.size+1∧K.M=W2.heap.size):=by rw[hK];exact⟨rfl,rfl,rfl⟩
    have Ar:Hd (K.W=W2):=by rw[hK];rfl
    rw[← hK] at hko hst;have BA:=hd hko;have HST:=hd hst;have hcs:=hst.at jX.out;obtain⟨y0,_,y1⟩:=hcs;have BB:=hst.map jX.out;have BC:=hd hst.left;clear hK hko hst;go_wp2_with fail
    refine (iT _ T _ w.heap.size (W2.heap.size+1) W2.heap.size _ _ BC y0 y1 BB nI.out).mono ?_;rintro e w6 ⟨rfl,rfl⟩;generalize w5.setCell ⟨w.heap.size,0,none⟩ (.slice la T.length lc)=W6 at *;clear y0 y1 BB BC x0 JK;go_wp2_with fail
    go_loopw [2,10] (fun s q wr=>∃ (f:Nat) (L:Lk) (o r:List ByteArray) (oa la:Option Addr) (oc lc:Nat),s=.slice oa o.length oc∧q=.int .i64 (pos (next L r))∧r.length≤f∧o.length+r.length=T.length∧Hd (go es f L o r=order es T)∧Hd (jC (1000000 * ((o.length:Int)+1)) L)∧Hd (St K L o r (.slice oa o.length oc) (.slice la r.length lc) wr)) (fun s _ _=>T.length - RU s)
    case atStart =>
     refine⟨T.length,_,[],T,none,la,0,lc,rfl,rfl,Nat.le_refl _,by simp,rfl,?_,HST.out⟩;have h1:=jC.adds (m:=0) es (L:=fun _=>0) (fun x=>by simp);have h2:=JH.out;exact h1.wide (by simp;omega)
    case round =>
     obtain⟨f,L,o,r,oa,Sm,oc,qZ,rfl,rfl,hf,hsum,uA,EC,HS⟩:=hrel;cases hn:next L r with
     | none =>
      have hge:pos none<0:=by decide
      have HOR:Hd ((o,r)=order es T):=by rw[← uA.out];exact (Gq hn).symm
      have hF2:K.W.heap[w.heap.size+1]?=some nM:=by rw[Ar.out];exact bQ.out
      obtain⟨y0,yf,_⟩:=HS.out.at jX.out;obtain⟨g0,g1,gf0,gf1⟩:=two (HS.out.fault jX.out.1 hF2);have HFin:=hd (HS.out.fin BA.out jX.out.1 (by rw[Ar.out];exact HB2.out) hF2);unfold set2 at HFin;clear hF2 hn uA EC HS;go_wp2_with fail
      go_region
      generalize (((wr.setCell ⟨w.heap.size,0,none⟩ (.slice Sm r.length qZ)).setCell ⟨w.heap.size+1,0,none⟩ (.int .i64 0)).setCell ⟨w.heap.size+1,1,none⟩ (.int .i64 0)).drew=W9 at *;obtain⟨z0,z1,z2,zb,zo,zl⟩:=HFin.out;go_wp2
      refine bodyPost_ret (v:=.tuple #[.slice oa o.length oc,.slice Sm r.length qZ,.agg #[.int .i64 0,.int .i64 0]]) (by simp[results,Tryz.results9,go_sem,z0,z1,z2]) rfl ⟨zb,_,_,rfl,?_⟩;rw[← HT.out,← HOR.out];exact⟨zo,zl⟩
     | some i =>
      obtain⟨hi,hL0,hri⟩:=ac5 hn;rw[show pos (some i)=(i:Int) from rfl];obtain⟨y0,yf,y1⟩:=HS.out.at jX.out;obtain⟨g,rfl,hcell⟩:=Eu HS.out.left hi;have NB:(i:Int)<(r.length:Int):=by omega
      obtain⟨f',rfl⟩:∃ f',f=f'+1:=⟨f - 1,by omega⟩;have Sn:Hd (go es f' (iw (nm r i) es L) (o++[nm r i]) (r.eraseIdx i)=order es T):=by
       have h1:=uA.out;rw[go,hn] at h1;exact h1
      have HO:=hd (HS.out.order.alloc (.cells #[.string (nm r i)] 9));have HOl:Hd (o.length≤1000000):=by have:=nI.out;unfold Hd;omega
      have adJ:=hd (Nat.le_trans HS.out.big (fJ wr (.cells #[.string (nm r i)] 9)).size);clear hn hL0 hri;go_wp2_with (at_builtin;go_loud (refine RN rfl _ _ rfl K.BO _ o rfl HO.out _ (nm r i) rfl (by simp) HOl.out adJ.out ?_);intro v3 w3 ho3 hg3;have vL:=hd ((HS.out.grow (fJ _ _)).ady BA.out ho3 hg3);obtain⟨yu,yw,hv3⟩:=dA ho3;subst hv3;clear ho3 hg3)
      have bK:Hd (nm r i=nm r i):=rfl;obtain⟨nn,hnn⟩:∃ nn,nn=nm r i:=⟨_,rfl⟩;have bG:Hd (nn=nm r i):=hnn;rw[← hnn] at Sn vL hcell;clear hnn bK y0 yf y1;go_loopw [53] (fun q wr=>∃ j:Nat,q=.int .i64 j∧j≤N∧Hd (St K (iw nn (es.take j) L) (o++[nn]) r (.slice yu (o++[nn]).length yw) (.slice (some ⟨g,0,none⟩) r.length qZ) wr)) (fun q _=>N - (intOf q).toNat)
      case atStart=>exact⟨0,rfl,Nat.zero_le _,vL.out⟩
      case round =>
       obtain⟨j,rfl,hj,ED⟩:=hrel;by_cases hlt:j<N
       ·have hj1:j<es.length:=by rw[← HN.out];exact hlt
        obtain⟨e,he⟩:∃ e,es[j]?=some e:=⟨_,List.getElem?_eq_getElem hj1⟩;have hkb:=ED.out.kp.block;rw[Ar.out,jX.out.1] at hkb;obtain⟨b,off,rfl,⟨hb,_⟩,k0,k1,k2⟩:=(HE2.out.keep (S':=fun _=>True) fun b hb _=>⟨hkb b hb.1 hb.2,trivial⟩) j e he;have hjp:(j:Int)<(N:Int):=by omega
        have HJ:Hd (j+1≤N):=hlt;obtain⟨W7,EE⟩:∃ W7,W7=wr.alloc (.cells #[.string e.1,.string e.2.1,.string e.2.2] 79):=⟨_,rfl⟩;have EF:Hd (St K (iw nn (es.take j) L) (o++[nn]) r (.slice yu (o++[nn]).length yw) (.slice (some ⟨g,0,none⟩) r.length qZ) W7):=by rw[EE];exact ED.out.grow (fJ _ _)
        have Sq:W7.heap[wr.heap.size]?=some (.cells #[.string e.1,.string e.2.1,.string e.2.2] 79):=by rw[EE];exact heap_alloc_new _ _
        have EG:Hd (iw nn (es.take (j+1)) L=if e.2.1=nn then bump (iw nn (es.take j) L) e.2.2 (-1) else iw nn (es.take j) L):=ac4 nn es j e he L;have Su:Hd (W7=_):=EE;clear EE he;go_upto_region 19 with fail
        rw[← Su.out];clear Su;obtain⟨x0,x1,x2⟩:=three Sq;obtain⟨y0,yf,y1⟩:=EF.out.at jX.out;have hgi:=R9 EF.out.left hi;rw[← bG.out] at hgi;clear k0 k1 k2 hkb Sq;go_region
        have hdr:W7.drew.cell?=W7.cell?:=rfl;have BD:=hd EF.out.drew;rw[← hdr] at x0 x1 x2 y0 y1 hgi;generalize W7.drew=W8 at *;clear hdr EF x0 x1 hgi y0 yf;by_cases hfe:e.2.1=nn
        ·have ee:(e.2.1.toList==nn.toList)=true:=by rw[R8];simp[hfe]
         obtain⟨q,hq⟩:∃ q,q=iw nn (es.take j) L e.2.2:=⟨_,rfl⟩;rw[ee];have Bz:-10000000000000≤q∧q≤10000000000000:=by
          have h1:=jC.iw nn (es.take j) EC.out e.2.2;have h2:(es.take j).length≤N:=by simp;omega
          have h3:=nI.out;rw[← hq] at h1;omega
         have JL:=BD.out.map jX.out;have hL:=dE.look Tryz.underlying77 Tryz.underlying9 JL.out e.2.2 (hz _);obtain⟨w9,hup,Sv,yx⟩:=dE.up Tryz.underlying77 Tryz.underlying9 JL.out e.2.2 (-1);rw[← hq] at hL hup;rw[show q+-1=q - 1 from rfl] at hup;have pM:Hd (St K (iw nn (es.take (j+1)) L) (o++[nn]) r (.slice yu (o++[nn]).length yw) (.slice (some ⟨g,0,none⟩) r.length qZ) w9):=by
          rw[EG.out,if_pos hfe];exact BD.out.adx BA.out (by rw[jX.out.2.2];exact Sv) (by rw[jX.out.2.2];exact yx)
         clear JL Sv yx hq EG BD ee;go_wp2
         go_roundw
         case rel=>exact⟨j+1,by go_num,HJ.out,pM⟩
         case measure=>have:=HJ.out;simp[intOf];omega
        ·have ee:(e.2.1.toList==nn.toList)=false:=by rw[R8];simp[hfe]
         rw[ee];have pM:Hd (St K (iw nn (es.take (j+1)) L) (o++[nn]) r (.slice yu (o++[nn]).length yw) (.slice (some ⟨g,0,none⟩) r.length qZ) W8):=by
          rw[EG.out,if_neg hfe];exact BD.out
         clear EG BD ee;go_wp2
         go_roundw
         case rel=>exact⟨j+1,by go_num,HJ.out,pM⟩
         case measure=>have:=HJ.out;simp[intOf];omega
       ·have pM:Hd (St K (iw nn es L) (o++[nn]) r (.slice yu (o++[nn]).length yw) (.slice (some ⟨g,0,none⟩) r.length qZ) wr):=by
         have h1:=ED.out;rw[List.take_of_length_le (by have:=HN.out;omega)] at h1;exact h1
        have hjp:¬ (j:Int)<(N:Int):=by omega
        obtain⟨y0,yf,y1⟩:=pM.out.at jX.out;have hi9:(i:Int)+1≤9223372036854775807:=by have:=nI.out;omega
        have Sw:=adl K.BL (.slice (some ⟨g,0,none⟩) r.length qZ) r i wr pM.out.left hi;clear ED vL HO HS;go_wp2_with fail
        refine Sw.mono ?_;rintro e w9 ⟨v9,rfl,Sy,JM,yx⟩;have yz:=pM.out.adz BA.out JM Sy yx;rw[jX.out.1] at yz;obtain⟨Sz,SA,rfl⟩:=dA JM;have HSa:=hd yz;have EH:=pM.out.box;rw[jX.out.1] at EH;have hne:some w.heap.size≠(Value.slice (some ⟨g,0,none⟩) r.length qZ).ownBlock:=fun e=>by
         have h1:=(pM.out.left.lt _ e.symm).1;have h2:=BA.out;have h3:=h2.lb;have h4:=h2.m;have h5:=h2.c;have h6:=h2.bl;rw[jX.out.1] at h3;omega
        obtain⟨x0,JK⟩:=one ((yx.block _ (bU EH) hne).trans EH);obtain⟨y0,_,y1⟩:=yz.at jX.out;have BB:=yz.map jX.out;have BC:=hd yz.left;have HLl:Hd ((r.eraseIdx i).length≤1000000):=by have:=nI.out;have h1:(r.eraseIdx i).length≤r.length:=List.length_eraseIdx_le _ _;unfold Hd;omega
        have hlen:(r.eraseIdx i).length=r.length - 1:=by rw[List.length_eraseIdx,if_pos hi]
        have adM:(o++[nn]).length+(r.eraseIdx i).length=T.length:=by rw[hlen];simp;omega
        have hf9:(r.eraseIdx i).length≤f':=by omega
        have aie:o.length<T.length:=by omega
        have adO:Hd (jC (1000000 * (((o++[nn]).length:Int)+1)) (iw nn es L)):=by
         have h1:=EC.out.iw nn es;have h2:=JH.out;exact h1.wide (by simp;omega)
        clear yz JM yx hne EH Sw Sy pM EC hsum hf yf hlen;generalize r.eraseIdx i=R at *;go_wp2_with fail
        refine (iT _ R _ w.heap.size (W2.heap.size+1) W2.heap.size _ _ BC y0 y1 BB HLl.out).mono ?_;rintro e w10 ⟨rfl,rfl⟩;generalize w9.setCell ⟨w.heap.size,0,none⟩ (.slice Sz R.length SA)=W10 at *;clear y0 y1 BB BC x0 JK;go_wp2_with fail
        go_roundw
        case rel=>exact⟨f',_,o++[nn],R,yu,Sz,yw,SA,by simp,rfl,hf9,adM,Sn,adO,HSa⟩
        case measure=>simp[RU];omega
end Gr
end Go.Proofs.YtfcpglhpolpdcaaGreatDoor
namespace Go.Proofs.YtfcpglhpolpdcaaGreatDoor.Vw
open Go.RowKit Vf Vm
open Gr (gV lv gtr sO fJ vK mI bU)
theorem SB (m:Md):∀ (ps:List Pk) (W:Wd),(jU m W ps).ts.length=W.ts.length
 | [],_=>rfl
 | p :: ps,W=>by rw[jU,SB m ps];exact (Je m W p).2.1
theorem SC (m:Md)(q:Int):∀ (f:Nat) (W:Wd),(qP m q f W).2.ts.length=W.ts.length
 | 0,_=>rfl
 | f+1,W=>by
  unfold qP;split
  ·rfl
  ·split
   ·rw[SC m q f];exact (Je m W _).2.1
   ·rfl
theorem adP (m:Md)(ps:List Pk)(q:Int):(sN m ps q).2.ts.length=tl m m.units.length:=by
 unfold sN;rw[SC,SB];simp[jB,tl]
abbrev nums (l:List Int):List Value:=l.map (Value.int .i64)
def vM (m:Md)(R:Wd)(n:Nat)(ks:List Int):Prop:=ks.length=n∧∀ (i:Nat) t k,R.ts[i]?=some t→ks[i]?=some k→k=-1∨(0≤k∧k<(R.ts.length:Int)∧((stat aG m t R.x).1=2∨(stat aG m t R.x).1=3))
theorem vM.more {m:Md}{R:Wd}{n:Nat}{ks:List Int}(h:vM m R n ks){t:Tk}{k:Int}(ht:R.ts[n]?=some t)(hk:k=-1∨Qz (R.ts.length) (hlp ((stat aG m t R.x).1:Int),((stat aG m t R.x).2:Int)) k):vM m R (n+1) (ks++[k]):=by
 refine⟨by rw[List.length_append,h.1];rfl,fun i t' k' hi hk'=>?_⟩;by_cases hin:i<n
 ·rw[List.getElem?_append_left (by rw[h.1];exact hin)] at hk'
  exact h.2 i t' k' hi hk'
 ·have hi2:=(List.getElem?_eq_some_iff.1 hk').1
  simp[h.1] at hi2;obtain rfl:i=n:=by omega
  rw[List.getElem?_append_right (by rw[h.1];exact Nat.le_refl _),h.1,Nat.sub_self] at hk';simp at hk';subst hk';rw[ht] at hi;cases hi;refine hk.imp id fun⟨h1,h2,h3⟩=>⟨h2,h3,?_⟩;unfold hlp at h1;by_cases e2:((stat aG m t R.x).1:Int)=2
  ·exact .inl (by omega)
  ·rw[if_neg e2] at h1
   by_cases e3:((stat aG m t R.x).1:Int)=3
   ·exact .inr (by omega)
   ·rw[if_neg e3] at h1
    simp at h1
theorem Tryz.adQ:(Tryz.prog.info? 3).map (fun i=>(i.zero,i.size,i.bytes))=some (some (.int .i64 0),1,8):=by kernel_rfl
theorem adR {w:World}{ops:Array Oper}{rest:List Oper}{o:Oper}{a:Act}{Q:Exit→Act→World→Prop}(hgd:o.guard=none)(s x:Operand)
  (ho:o.op=.call { callee:=.builtin .append,args:=#[s,x],argTypes:=#[28,28] }) (base:Nat) (v:Value) (l:List Int) (hs:a.eval s=v) (hown:w.ownsRow base 3 1 v l.length (nums l)) (g:Nat) (y:Int) (hx:a.eval x=.slice (some ⟨g,0,none⟩) 1 1) (hy:w.cell? ⟨g,0,none⟩=some (.int .i64 y)) (hn:l.length≤1000000) (hbase:base≤w.heap.size)
  (h:∀ v' w',w'.ownsRow base 3 1 v' (l++[y]).length (nums (l++[y]))→w.grownBy w' v.ownBlock→wpList Tryz.prog ops Q rest (a.put o.dst v') w'):wpList Tryz.prog ops Q (o :: rest) a w:=by
 refine wpList_plain hgd fun K hK=>?_;obtain⟨i,hi,hz0,hz1,hz2⟩:=Gr.parts Tryz.adQ;have hnews:∀ j u,[Value.int .i64 y][j]?=some u→w.cell? ((⟨g,0,none⟩:Addr).add j)=some u:=fun j u hu=>by
  match j,hu with
  | 0,hu=>simp at hu;subst hu;simpa[Addr.add] using hy
  | j+1,hu=>simp at hu
 obtain⟨v',w',hr,h2,h3,_⟩:=run_append_own (P:=Tryz.prog) w base 28 o.type 3 i _ 1 8 Tryz.underlying28 hi hz0 hz1 hz2 rfl (by decide) v l.length (nums l) hown ⟨g,0,none⟩ 1 1 [.int .i64 y] rfl hnews (by intro u hu;simp at hu;subst hu;rfl) (by unfold maxLen;omega) (by omega) hbase;unfold Oper.wp;simp[execOp,ho,resolve,invoke,builtin,hs,hx,hr,Result.andThen];exact hK _ _ (h v' w' (by simpa using h2) h3)
def WtA (m:Md)(R:Wd)(E:Int)(w:World)(e:Ending)(w':World):Prop:=Below w.heap.size w w'∧((E≠0∧e=.returned (.tuple #[.slice none 0 0,.int .i64 E]))∨(E=0∧∃ v ks,e=.returned (.tuple #[v,.int .i64 0])∧w'.ownsRow w.heap.size 3 1 v ks.length (nums ks)∧vM m R R.ts.length ks))
theorem adT (m:Md)(ab au:Option Addr)(cb cu B:Nat)(ps:List Pk)(a:Option Addr)(cap:Nat)(w:World)(hmd:Hid (aW B w m ab au))(hps:Hid (qV B w ps a))(hB:B≤w.heap.size)(q:Int)(E:Int)(hE:Hid (E=dU m ps q))(R:Wd)(hR:Hid (R=(sN m ps q).2)) :
  Calls Tryz.prog 6 #[eU m ab au cb cu,.slice a ps.length cap,.int .i64 q] w fun e w'=>WtA m R E w e w':=by
 have HB0:Hid (Below w.heap.size w (w.alloc (gG m ab au cb cu))):=(Below.refl _ w).alloc (Nat.le_refl _) _;have kQ:Hid ((w.alloc (gG m ab au cb cu)).heap[w.heap.size]?=some (gG m ab au cb cu)):=heap_alloc_new w _;have c1:=nG kQ.out;go_enter Tryz.func6,Tryz.ntmps6
 go_wp2_with fail
 generalize w.alloc (gG m ab au cb cu)=W0 at *;have hB0:=HB0.out.mono hB;refine (Rv m ab au cb cu B ps a cap _ (Sb.hide (hmd.out.low hB0.block)) (Sb.hide (hps.out.low hB0.block)) (Nat.le_trans hB HB0.out.size) q E hE R hR).mono ?_;rintro e w2 ⟨hb2,hr⟩;have HB2:=Sb.hide (HB0.out.trans (hb2.mono HB0.out.size));have iW:=Sb.hide ((hb2.block _ (bU kQ.out)).trans kQ.out);clear hb2 c1 hB0;rcases hr with⟨h0,rfl⟩ | ⟨h0,vE,vB,ov,bv,rfl,jW,K,hK,nL⟩
 ·have e0:(E != 0)=true:=by simpa using h0
  have H0:=Sb.hide h0;clear h0;go_wp2
  exact bodyPost_ret (v:=.tuple #[.slice none 0 0,.int .i64 E]) (by simp[results,Tryz.results6,go_sem]) rfl ⟨HB2.out.alloc HB2.out.size _,.inl ⟨H0.out,rfl⟩⟩
 ·obtain⟨ea,ec,rfl⟩:=dA jW.ends
  obtain⟨ba,bc,rfl⟩:=dA jW.jA;have hxl:R.x.length=m.boxes.length:=by
   obtain⟨t0,ht0⟩:∃ t,R.ts[0]?=some t:=⟨_,List.getElem?_eq_getElem nL.few.1⟩;exact (nL.tasks 0 t0 ht0).len
  have dx:=nL.few.2;have JN:=Sb.hide (jW.reads hxl);have HRt:Hid (Rt m):=hK.rt;have HLen:Hid (tl m m.units.length=R.ts.length):=by unfold Hid;rw[hR.out,adP]
  obtain⟨NT,pO⟩:∃ N,N=R.ts.length:=⟨_,rfl⟩;have vN:=Sb.hide pO;have Bn:Hid ((w2.alloc (iY (.slice ea NT ec) (.slice ba m.boxes.length bc) R.steps)).heap[w2.heap.size]?=some (iY (.slice ea NT ec) (.slice ba m.boxes.length bc) R.steps)):=heap_alloc_new w2 _;have HB3:Hid (Below w2.heap.size w2 (w2.alloc (iY (.slice ea NT ec) (.slice ba m.boxes.length bc) R.steps))):=(Below.refl _ w2).alloc (Nat.le_refl _) _;rw[← pO];rw[← pO] at dx;subst h0;clear jW nL hK hxl pO;have pG:=Sb.hide ((HB3.out.block _ (bU iW.out)).trans iW.out);have c3:=nG pG.out;have hl2:=bU iW.out;go_upto_region 4 with fail
  generalize w2.alloc (iY (.slice ea NT ec) (.slice ba m.boxes.length bc) R.steps)=W3 at *;have vG:=Sb.hide (HB2.out.trans (HB3.out.mono HB2.out.size));have SE:=(vG.out.mono hB).block;go_wp2_with fail
  refine (adE m ab au cb cu B W3 (Sb.hide (hmd.out.low SE)) (Nat.le_trans hB vG.out.size) HRt).mono ?_;rintro e w4 ⟨M,rfl,hg4,hw4⟩;rw[HLen.out] at hw4;have jO:=Sb.hide hw4;have gK:=Sb.hide hg4;have sG:=Sb.hide ((hg4.block _ (bU Bn.out) (by simp)).trans Bn.out);have JO:=Sb.hide (JN.out.below HB3.out |>.below (⟨hg4.os,hg4.tape,hg4.output,hg4.size,fun k hk=>hg4.block k hk (by simp)⟩:Below W3.heap.size W3 w4));have g:=(dD sG.out).1;clear hw4 hg4 c3 SE;go_wp2
  go_loopw [11,29] (fun s q wr=>∃ (j:Nat) (ks:List Int) (va:Option Addr) (vn vc:Nat),s=.slice va vn vc∧q=.int .i64 j∧j≤NT∧Hid (w4.grownBy wr none)∧Hid (wr.ownsRow w4.heap.size 3 1 (.slice va vn vc) ks.length (nums ks))∧Hid (vM m R j ks)) (fun _ q _=>NT - (intOf q).toNat)
  case atStart=>exact⟨0,[],none,0,0,rfl,rfl,Nat.zero_le _,vK _ _,World.ownsRow_nil _ _ _ _,⟨rfl,fun i t k _ h=>by simp at h⟩⟩
  case round =>
   obtain⟨j,ks,va,vn,vc,rfl,rfl,hj,HG,HO,HW⟩:=hrel;by_cases hlt:j<NT
   ·obtain⟨t,ht⟩:∃ t,R.ts[j]?=some t:=⟨_,List.getElem?_eq_getElem (by have:=vN.out;omega)⟩
    obtain⟨ea',ec',e1,BF⟩:=(JO.out.below (⟨HG.out.os,HG.out.tape,HG.out.output,HG.out.size,fun k hk=>HG.out.block k hk (by simp)⟩:Below w4.heap.size w4 wr)).ends;cases e1;obtain⟨eb,eo,vo,rfl,x0,x1,x2,x3,xo⟩:=BF j t ht;obtain⟨oa,oc,rfl,_⟩:=xo;obtain⟨s1,hs1⟩:∃ s,s=(stat aG m t R.x).1:=⟨_,rfl⟩;obtain⟨b1,hb1⟩:∃ s,s=(stat aG m t R.x).2:=⟨_,rfl⟩;rw[← hs1] at x0;rw[← hb1] at x1;have adX:Hid (∀ k:Int,(k=-1∨Qz R.ts.length (hlp (s1:Int),(b1:Int)) k)→vM m R (j+1) (ks++[k])):=fun k hk=>HW.out.more ht (by rw[hs1,hb1] at hk;exact hk);have n1:(j:Int)<(NT:Int):=by omega
    have hks:ks.length≤1000000:=by have:=HW.out.1;omega
    have Au:=Sb.hide hks;obtain⟨W5,dH⟩:∃ W5,W5=wr.alloc (.cells #[.int .i64 s1,.int .i64 b1,.int .i64 t.trap,.slice oa t.out.length oc] 40):=⟨_,rfl⟩;have SF:Hid (w4.grownBy W5 none):=by rw[dH];exact gtr HG.out (fJ _ _)
    have HO5:Hid (W5.ownsRow w4.heap.size 3 1 (.slice va vn vc) ks.length (nums ks)):=by rw[dH];exact HO.out.alloc _
    have EI:Hid (W5.heap[wr.heap.size]?=some (.cells #[.int .i64 s1,.int .i64 b1,.int .i64 t.trap,.slice oa t.out.length oc] 40 (0,0))):=by rw[dH];exact heap_alloc_new _ _
    have iK:=Sb.hide dH;have HM5:Hid (gV (Qz R.ts.length) W5 M):=jO.out.keep (SF.out.block _ jO.out.lt (by simp));clear ht BF hs1 hb1 dH hks;go_upto_region 9 with fail
    rw[← iK.out];have y0:W5.cell? ⟨wr.heap.size,0,none⟩=some (.int .i64 s1):=by simp[World.cell?,EI.out]
    have y1:W5.cell? ⟨wr.heap.size,1,none⟩=some (.int .i64 b1):=by simp[World.cell?,EI.out]
    have y2:W5.cell? ⟨wr.heap.size,2,none⟩=some (.int .i64 t.trap):=by simp[World.cell?,EI.out]
    have y3:W5.cell? ⟨wr.heap.size,3,none⟩=some (.slice oa t.out.length oc):=by simp[World.cell?,EI.out]
    clear iK x0 x1 x2 x3;go_wp2_with (first
     | (go_at_call 11;refine (adC (Qz R.ts.length) M s1 b1 t.trap oa t.out.length oc _ HM5).mono ?_;rintro e w6 ⟨k,rfl,nS,hk⟩;have HK:=Sb.hide (adX.out k hk);have nN:=Sb.hide (gtr SF.out nS);have SG:=Sb.hide (Gr.yl HO5.out nS);clear nS hk)
     | (at_builtin;go_loud (refine adR rfl _ _ rfl w4.heap.size _ ks rfl (SG.out.alloc _) _ k rfl (by simp) Au.out (gtr nN.out (fJ _ _)).size ?_);intro v7 w7 JP SH;have HG7:=Sb.hide (Gr.RO (gtr nN.out (fJ _ _)) (SG.out.alloc _) (Nat.le_refl _) SH);have HO7:=Sb.hide JP;obtain⟨va7,vc7,hv7⟩:=dA JP;subst hv7;clear JP SH))
    go_roundw
    case rel=>exact⟨j+1,ks++[k],va7,(ks++[k]).length,vc7,by simp,by go_num,hlt,HG7,HO7,HK⟩
    case measure=>simp[intOf];omega
   ·have n1:¬ (j:Int)<(NT:Int):=by omega
    have HWf:Hid (vM m R R.ts.length ks):=by
     have h1:=HW.out;rw[show j=R.ts.length by have:=vN.out;omega] at h1;exact h1
    have EJ:Hid (Below w.heap.size w wr):=vG.out.trans ⟨(gtr gK.out HG.out).os,(gtr gK.out HG.out).tape,(gtr gK.out HG.out).output,(gtr gK.out HG.out).size,fun k hk=>(gtr gK.out HG.out).block k (by have:=vG.out.size;omega) (by simp)⟩;have HOf:Hid (wr.ownsRow w.heap.size 3 1 (.slice va vn vc) ks.length (nums ks)):=Gr.JE HO.out (Nat.le_trans vG.out.size gK.out.size);go_wp2
    exact bodyPost_ret (v:=.tuple #[.slice va vn vc,.int .i64 0]) (by simp[results,Tryz.results6,go_sem]) rfl ⟨EJ.out,.inr ⟨rfl,_,ks,rfl,HOf.out,HWf.out⟩⟩
end Go.Proofs.YtfcpglhpolpdcaaGreatDoor.Vw
namespace Go.Proofs.YtfcpglhpolpdcaaGreatDoor
noncomputable section
namespace Xe
def oB {α β:Type}(x:Option α)(f:α→Option β):Option β:=@Option.rec α (fun _=>Option β) none f x
def bB {γ:Type}(b:Bool)(t f:γ):γ:=@Bool.rec (fun _=>γ) f t b
def pB {α β γ:Type}(p:α × β)(f:α→β→γ):γ:=@Prod.rec α β (fun _=>γ) f p
def lB {α γ:Type}(l:List α)(n:γ)(c:α→List α→γ):γ:=@List.rec α (fun _=>γ) n (fun a l _=>c a l) l
def nB {γ:Type}(n:Nat)(z:γ)(s:Nat→γ):γ:=Nat.rec (motive:=fun _=>γ) z (fun m _=>s m) n
def iB {γ:Type}(i:Int)(p n:Nat→γ):γ:=@Int.rec (fun _=>γ) p n i
def aB {γ:Type}(a:Addr)(f:Nat→Nat→Option Nat→γ):γ:=Addr.rec (motive:=fun _=>γ) f a
def aL {α:Type}(a:Array α):List α:=Array.rec (motive:=fun _=>List α) (fun l=>l) a
def sL (s:ByteArray):List UInt8:=@ByteArray.rec (fun _=>List UInt8) (fun a=>aL a) s
def nth {α:Type}(l:List α):Nat→Option α:=@List.rec α (fun _=>Nat→Option α) (fun _=>none) (fun a _ ih n=>nB n (some a) ih) l
def vP {γ:Type}(x:Value)(d:γ)(f:Bool→γ):γ:=@Value.rec (fun _=>γ) (fun _=>Unit) (fun _=>Unit) (f) (fun _ _=>d) (fun _ _=>d) (fun _ _ _=>d) (fun _=>d) (fun _=>d) (fun _ _ _=>d) (fun _=>d) (fun _=>d) (fun _ _ _ _ _=>d) (d) (fun _ _ _=>d) (d) (fun _ _=>d) (fun _ _=>d) (fun _ _=>()) () (fun _ _ _ _=>()) x
def jY {γ:Type}(x:Value)(d:γ)(f:IntKind→Int→γ):γ:=@Value.rec (fun _=>γ) (fun _=>Unit) (fun _=>Unit) (fun _=>d) (f) (fun _ _=>d) (fun _ _ _=>d) (fun _=>d) (fun _=>d) (fun _ _ _=>d) (fun _=>d) (fun _=>d) (fun _ _ _ _ _=>d) (d) (fun _ _ _=>d) (d) (fun _ _=>d) (fun _ _=>d) (fun _ _=>()) () (fun _ _ _ _=>()) x
def lY {γ:Type}(x:Value)(d:γ)(f:ByteArray→γ):γ:=@Value.rec (fun _=>γ) (fun _=>Unit) (fun _=>Unit) (fun _=>d) (fun _ _=>d) (fun _ _=>d) (fun _ _ _=>d) (f) (fun _=>d) (fun _ _ _=>d) (fun _=>d) (fun _=>d) (fun _ _ _ _ _=>d) (d) (fun _ _ _=>d) (d) (fun _ _=>d) (fun _ _=>d) (fun _ _=>()) () (fun _ _ _ _=>()) x
def SI {γ:Type}(x:Value)(d:γ)(f:Option Addr→γ):γ:=@Value.rec (fun _=>γ) (fun _=>Unit) (fun _=>Unit) (fun _=>d) (fun _ _=>d) (fun _ _=>d) (fun _ _ _=>d) (fun _=>d) (f) (fun _ _ _=>d) (fun _=>d) (fun _=>d) (fun _ _ _ _ _=>d) (d) (fun _ _ _=>d) (d) (fun _ _=>d) (fun _ _=>d) (fun _ _=>()) () (fun _ _ _ _=>()) x
def sS {γ:Type}(x:Value)(d:γ)(f:Option Addr→Nat→Nat→γ):γ:=@Value.rec (fun _=>γ) (fun _=>Unit) (fun _=>Unit) (fun _=>d) (fun _ _=>d) (fun _ _=>d) (fun _ _ _=>d) (fun _=>d) (fun _=>d) (f) (fun _=>d) (fun _=>d) (fun _ _ _ _ _=>d) (d) (fun _ _ _=>d) (d) (fun _ _=>d) (fun _ _=>d) (fun _ _=>()) () (fun _ _ _ _=>()) x
def BG {γ:Type}(x:Value)(d:γ)(f:Option Nat→γ):γ:=@Value.rec (fun _=>γ) (fun _=>Unit) (fun _=>Unit) (fun _=>d) (fun _ _=>d) (fun _ _=>d) (fun _ _ _=>d) (fun _=>d) (fun _=>d) (fun _ _ _=>d) (f) (fun _=>d) (fun _ _ _ _ _=>d) (d) (fun _ _ _=>d) (d) (fun _ _=>d) (fun _ _=>d) (fun _ _=>()) () (fun _ _ _ _=>()) x
def JQ {γ:Type}(x:Value)(d:γ)(f:Fn→Array Value→Array Value→γ):γ:=@Value.rec (fun _=>γ) (fun _=>Unit) (fun _=>Unit) (fun _=>d) (fun _ _=>d) (fun _ _=>d) (fun _ _ _=>d) (fun _=>d) (fun _=>d) (fun _ _ _=>d) (fun _=>d) (fun _=>d) (fun a b c _ _=>f a b c) (d) (fun _ _ _=>d) (d) (fun _ _=>d) (fun _ _=>d) (fun _ _=>()) () (fun _ _ _ _=>()) x
def vQ {γ:Type}(x:Value)(d:γ)(f:Array Value→γ):γ:=@Value.rec (fun _=>γ) (fun _=>Unit) (fun _=>Unit) (fun _=>d) (fun _ _=>d) (fun _ _=>d) (fun _ _ _=>d) (fun _=>d) (fun _=>d) (fun _ _ _=>d) (fun _=>d) (fun _=>d) (fun _ _ _ _ _=>d) (d) (fun _ _ _=>d) (d) (fun a _=>f a) (fun _ _=>d) (fun _ _=>()) () (fun _ _ _ _=>()) x
def yA {γ:Type}(x:Value)(d:γ)(f:Array Value→γ):γ:=@Value.rec (fun _=>γ) (fun _=>Unit) (fun _=>Unit) (fun _=>d) (fun _ _=>d) (fun _ _=>d) (fun _ _ _=>d) (fun _=>d) (fun _=>d) (fun _ _ _=>d) (fun _=>d) (fun _=>d) (fun _ _ _ _ _=>d) (d) (fun _ _ _=>d) (d) (fun _ _=>d) (fun a _=>f a) (fun _ _=>()) () (fun _ _ _ _=>()) x
def aO {α:Type}(b:Bool)(x:Option α):Option α:=bB b x none
def pQ (v:Value):Bool:=yA v true fun _=>false
def lZ (x:Value):List Value:=vQ x [x] aL
abbrev En:=Nat→Option Value
abbrev Hp:=Nat→Option Obj
structure S where
 c:Nat
 h:Hp
 ds:List (FuncId × List Value)
def sB {γ:Type}(s:S)(f:Nat→Hp→List (FuncId × List Value)→γ):γ:=@S.rec (fun _=>γ) f s
abbrev Cl:=FuncId→List Value→S→Option (Value × S)
abbrev F:=Cl→En→S→Nat→Option (Value × S)
def dead:Obj:=.coro none
def nO {α:Type}(x:Option α):Option α:=@Option.rec α (fun _=>Option α) none (fun a=>some a) x
def setH (h:Hp)(b:Nat)(o:Obj):Hp:=fun x=>bB (Nat.beq x b) (some o) (nO (h x))
def dU (e:En)(d:Nat)(v:Value):En:=fun t=>bB (Nat.beq t d) (some v) (nO (e t))
def fN {α:Type}(n:Nat)(k:Nat→Option α):Option α:=nB n (k 0) (fun m=>k (Nat.succ m))
def pR (q:IntKind)(i:Int):Option Value:=iB i (fun n=>fN n fun n=>some (.int q (.ofNat n))) (fun n=>fN n fun n=>some (.int q (.negSucc n)))
def pU (b:Bool):Option Value:=bB b (some (.bool true)) (some (.bool false))
def EK (a:Addr):Option Value:=aB a fun b o sp=>fN o fun o=>some (.pointer (some ⟨b,o,sp⟩))
def EL (a:Addr)(n z:Nat):Option Value:=aB a fun b o sp=>fN o fun o=>fN n fun n=>some (.slice (some ⟨b,o,sp⟩) n z)
def iy (x:Option Value):Value:=@Option.rec Value (fun _=>Value) undef (fun v=>v) x
def und (P:Program)(t:TypeId):Option TypeDesc:=P.underlying t
def dJ (P:Program)(t:TypeId):Option Nat:=match P.info? t with | some i=>some i.size | none=>none
def pV (P:Program)(t:TypeId):Option Value:=match P.info? t with | some i=>i.zero | none=>none
def oJ (P:Program)(t:TypeId):Bool:=match und P t with
 | some (.struct _)=>true
 | some (.array _ _)=>true
 | _=>false
def BH {γ:Type}(o:Obj)(d:γ)(f:Array Value→TypeId→Nat × Nat→γ):γ:=@Obj.rec (fun _=>γ) f (fun _ _=>d) (fun _ _=>d) (fun _ _=>d) (fun _ _=>d) (fun _ _ _ _ _ _=>d) (fun _ _=>d) (fun _ _ _ _=>d) (fun _=>d) (fun _=>d) (fun _=>d) (fun _ _=>d) o
def SL {γ:Type}(o:Obj)(d:γ)(f:Array MapEntry→Nat→γ):γ:=@Obj.rec (fun _=>γ) (fun _ _ _=>d) (fun _ _=>d) (fun _ _=>d) (fun _ _=>d) f (fun _ _ _ _ _ _=>d) (fun _ _=>d) (fun _ _ _ _=>d) (fun _=>d) (fun _=>d) (fun _=>d) (fun _ _=>d) o
def rowOf (o:Option Obj):Option (List Value):=oB o fun o=>BH o none fun c _ _=>some (aL c)
def mapOf (o:Option Obj):Option (List MapEntry × Nat):=oB o fun o=>SL o none fun es k=>some (aL es,k)
def takeN {α:Type}(n:Nat):List α→Option (List α):=Nat.rec (motive:=fun _=>List α→Option (List α)) (fun _=>some []) (fun _ ih l=>lB l none fun a l=>oB (ih l) fun r=>some (a :: r)) n
def yB {α:Type}(n:Nat):List α→List α:=Nat.rec (motive:=fun _=>List α→List α) (fun l=>l) (fun _ ih l=>lB l [] fun _ l=>ih l) n
def yC {γ:Type}(sp:Option Nat)(x:Option γ):Option γ:=@Option.rec Nat (fun _=>Option γ) x (fun _=>none) sp
def oK (h:Hp)(a:Addr)(n:Nat):Option (List Value):=aB a fun b o sp=>yC sp (oB (rowOf (h b)) fun c=>takeN n (yB o c))
def over (c:List Value)(vs:List Value):Option (List Value):=@List.rec Value (fun _=>List Value→Option (List Value)) (fun c=>some c) (fun v _ ih c=>lB c none fun _ c=>oB (ih c) fun r=>some (v :: r)) vs c
def q8 (n:Nat)(c vs:List Value):Option (List Value):=Nat.rec (motive:=fun _=>List Value→Option (List Value)) (fun c=>over c vs) (fun _ ih c=>lB c none fun x c=>oB (ih c) fun r=>some (x :: r)) n c
def BI (s:S)(a:Addr)(vs:List Value):Option S:=aB a fun b o sp=>yC sp (sB s fun k h ds=>aO (Nat.ble 3 b) <| oB (h b) fun ob=>BH ob none fun c e f=>oB (q8 o (aL c) vs) fun c'=>some ⟨k,setH h b (.cells c'.toArray e f),ds⟩)
def ev (e:En)(x:Operand):Value:=@Operand.rec (fun _=>Value) (fun t=>iy (e t)) (fun v=>v) (fun g=>.pointer (some ⟨g,0,none⟩)) (fun f=>.func (.func f) #[] #[]) x
def evs (e:En)(l:List Operand):List Value:=@List.rec Operand (fun _=>List Value) [] (fun x _ ih=>ev e x :: ih) l
def BJ (a:Addr)(n:Nat):Addr:=nB n a fun m=>aB a fun b o _=>⟨b,Nat.add o (Nat.succ m),none⟩
def pW (l:List UInt8):List UInt8→Bool:=@List.rec UInt8 (fun _=>List UInt8→Bool) (fun m=>lB m true fun _ _=>false) (fun a _ ih m=>lB m false fun b m=>bB (Nat.beq a.toNat b.toNat) (ih m) false) l
def oL:IntKind→Nat
 | .i8=>0 | .i16=>1 | .i32=>2 | .i64=>3 | .u8=>4 | .u16=>5 | .u32=>6 | .u64=>7
def vS (a b:Int):Bool:=iB a (fun a=>iB b (fun b=>Nat.beq a b) (fun _=>false)) (fun a=>iB b (fun _=>false) (fun b=>Nat.beq a b))
def leI (a b:Int):Bool:=iB a (fun a=>iB b (fun b=>Nat.ble a b) (fun _=>false)) (fun a=>iB b (fun _=>true) (fun b=>Nat.ble b a))
def top:IntKind→Nat
 | .i8=>128 | .i16=>32768 | .i32=>2147483648 | .i64=>9223372036854775808 | .u8=>256 | .u16=>65536 | .u32=>4294967296 | .u64=>18446744073709551616
def BK (k:IntKind)(i:Int):Int:=iB i (fun n=>bB (Nat.ble (top k) n) (k.wrap (.ofNat n)) (.ofNat n)) (fun n=>k.wrap (.negSucc n))
def SN (a b:Int):Int:=iB a (fun x=>iB b (fun y=>.ofNat (Nat.add x y)) (fun _=>Int.add a b)) (fun _=>Int.add a b)
def not' (b:Bool):Bool:=bB b false true
def BM (op:BinOp)(k:IntKind)(a b:Int):Option Value:=match op with
 | .add=>pR k (BK k (SN a b))
 | .sub=>pR k (BK k (Int.sub a b))
 | .mul=>pR k (BK k (Int.mul a b))
 | .eql=>pU (vS a b)
 | .neq=>pU (not' (vS a b))
 | .lss=>pU (not' (leI b a))
 | .leq=>pU (leI a b)
 | .gtr=>pU (not' (leI a b))
 | .geq=>pU (leI b a)
 | _=>none
def BN (op:BinOp)(a b:ByteArray):Option Value:=match op with
 | .eql=>pU (pW (sL a) (sL b))
 | .neq=>pU (not' (pW (sL a) (sL b)))
 | _=>none
def bin (op:BinOp)(x y:Value):Option Value :=
 jY x (lY x none fun a=>lY y none fun b=>BN op a b)
  fun k a=>jY y none fun k' b=>bB (Nat.beq (oL k) (oL k')) (BM op k a b) none
def yD (place:Nat→Option (Nat × Nat))(l:List (Nat × Value)):List Value→Option (List Value) :=
 @List.rec (Nat × Value) (fun _=>List Value→Option (List Value)) (fun c=>some c) (fun p _ ih c=>pB p fun i v=>oB (place i) fun q=>pB q fun off z=>aO (pQ v) (aO (Nat.beq z (lZ v).length) (oB (q8 off c (lZ v)) fun c=>ih c))) l
def places (P:Program):List Field→List (Nat × Nat)
 | []=>[]
 | f :: l=>(f.offset,(dJ P f.type).getD 0) :: places P l
def jD (z:List Value)(n:Nat):List Value:=Nat.rec (motive:=fun _=>List Value) [] (fun _ ih=>z++ih) n
def agg (l:Option (List Value)):Option Value:=oB l fun l=>some (.agg l.toArray)
def EM (ag:Bool)(n:Nat)(cs:List Value)(off:Nat):Option Value:=bB ag (agg (takeN n (yB off cs))) (nth cs off)
def oM (x:Option Value)(d m:Nat):Option Nat:=@Option.rec Value (fun _=>Option Nat) (some d) (fun v=>jY v none fun _ i=>iB i (fun n=>bB (Nat.ble n m) (some n) none) (fun _=>none)) x
def lost:Value:=.slice (some ⟨0,0,some 0⟩) 0 0
def JR (s:ByteArray)(lo hi:Option Value):Option Value :=
 oB (oM hi (sL s).length (sL s).length) fun h=>oB (oM lo 0 h) fun l=>oB (takeN (Nat.sub h l) (yB l (sL s))) fun r=>some (.string ⟨r.toArray⟩)
def EN (z:Nat)(a:Addr)(n k:Nat)(lo hi:Option Value):Option Value :=
 oB (oM hi n n) fun h=>oB (oM lo 0 h) fun l=>aO (Nat.beq k z) (yC a.spot (bB (Nat.ble n l) (nB l (EL a (Nat.sub h l) z) fun _=>some lost) (EL (BJ a (Nat.mul l z)) (Nat.sub h l) z)))
def ad7 (z:Option Nat)(x:Value)(lo hi:Option Value):Option Value:=match z with
 | none=>lY x none fun s=>JR s lo hi
 | some z=>sS x none fun a n k=>@Option.rec Addr (fun _=>Option Value) (nB n (oB (oM hi 0 0) fun h=>oB (oM lo 0 h) fun _=>some (.slice none 0 0)) fun _=>none) (fun a=>EN z a n k lo hi) a
def BP (ks:Bool)(k:Value):Bool:=bB ks (lY k false fun _=>true) (jY k false fun _ _=>true)
def vT (P:Program)(t:TypeId):Option Bool:=match und P t with
 | some .string=>some true
 | some (.int _)=>some false
 | _=>none
def SQ (k l:Value):Option Bool:=lY k (jY k none fun ka a=>jY l none fun kb b=>bB (Nat.beq (oL ka) (oL kb)) (some (vS a b)) none) fun a=>lY l none fun b=>some (pW (sL a) (sL b))
def yE (k:Value)(es:List MapEntry):Nat→Option (Option (Nat × Value)):=@List.rec MapEntry (fun _=>Nat→Option (Option (Nat × Value))) (fun _=>some none)
 (fun e _ ih i=>oB (SQ k e.key) fun b=>bB b (some (some (i,e.val))) (ih (Nat.succ i))) es
def flat (x:Value):Bool:=@Value.rec (fun _=>Bool) (fun _=>Unit) (fun _=>Unit) (fun _=>true) (fun _ _=>true) (fun _ _=>false) (fun _ _ _=>false) (fun _=>true) (fun _=>true) (fun _ _ _=>true) (fun _=>true) (fun _=>false) (fun _ _ _ _ _=>false) true (fun _ _ _=>false) false (fun _ _=>false) (fun _ _=>false) (fun _ _=>()) () (fun _ _ _ _=>()) x
def EO (l:List Value):Bool:=@List.rec Value (fun _=>Bool) true (fun v _ ih=>bB (flat v) ih false) l
def ret (v:Option Value)(s:S):Option (Value × S):=oB v fun v=>some (v,s)
def EP (x:Operand):F:=fun _ e s _=>some (ev e x,s)
def ad8 (c a b:Value)(s:S):Option (Value × S):=vP c none fun t=>bB t (some (a,s)) (some (b,s))
def SS (c a b:Operand):F:=fun _ e s _=>ad8 (ev e c) (ev e a) (ev e b) s
def one (l:List Value)(s:S):Option (Value × S):=lB l none fun v _=>some (v,s)
def ptr (x:Value):Option Addr:=SI x none fun a=>a
def SV (x:Operand):F:=fun _ e s _=>oB (ptr (ev e x)) fun a=>oB (oK s.h a 1) fun l=>one l s
def SX (n:Nat)(x:Operand):F:=fun _ e s _=>oB (ptr (ev e x)) fun a=>oB (oK s.h a n) fun l=>some (.agg l.toArray,s)
def SY (x:Operand):F:=fun _ e s _=>oB (ptr (ev e x)) fun a=>some (.pointer (some a),s)
def JS (op:BinOp)(x y:Operand):F:=fun _ e s _=>ret (bin op (ev e x) (ev e y)) s
def S9 (x:Operand):F:=fun _ e s _=>vP (ev e x) none fun b=>ret (pU (not' b)) s
def Ta (k:IntKind)(x:Operand):F:=fun _ e s _=>jY (ev e x) none fun _ n=>ret (pR k (BK k n)) s
def JU (fn:Fn)(first captured:List Operand):F:=fun _ e s _=>aO (EO (evs e first)) (aO (EO (evs e captured)) (some (.func fn (evs e first).toArray (evs e captured).toArray,s)))
def lu (e:En)(x:Option Operand):Option Value:=oB x fun x=>some (ev e x)
def yF (z:Option Nat)(x:Operand)(lo hi:Option Operand):F:=fun _ e s _=>ret (ad7 z (ev e x) (lu e lo) (lu e hi)) s
def ad9 (off:Nat)(x:Operand):F:=fun _ e s _=>oB (ptr (ev e x)) fun a=>ret (EK (BJ a off)) s
def aea (ag:Bool)(n off:Nat)(x:Operand):F:=fun _ e s _=>vQ (ev e x) none fun cs=>ret (EM ag n (aL cs) off) s
def ES (z n:Nat)(a:Addr)(i:Value):Option Value:=jY i none fun _ i=>iB i (fun i=>bB (Nat.ble n i) none (EK (BJ a (Nat.mul i z)))) (fun _=>none)
def q9 (z:Nat)(x i:Operand):F:=fun _ e s _=>sS (ev e x) none fun a n _=>oB a fun a=>ret (ES z n a (ev e i)) s
def aeb (z n:Nat)(x i:Operand):F:=fun _ e s _=>oB (ptr (ev e x)) fun a=>ret (ES z n a (ev e i)) s
def Tc (b:ByteArray)(i:Value):Option Value:=jY i none fun _ i=>iB i (fun i=>oB (nth (sL b) i) fun c=>pR .u8 (.ofNat c.toNat)) (fun _=>none)
def aec (x i:Operand):F:=fun _ e s _=>lY (ev e x) none fun b=>ret (Tc b (ev e i)) s
def Td (ag:Bool)(z n:Nat)(cs:Array Value)(i:Value):Option Value:=jY i none fun _ i=>iB i (fun i=>bB (Nat.ble n i) none (EM ag z (aL cs) (Nat.mul i z))) (fun _=>none)
def aed (ag:Bool)(z n:Nat)(x i:Operand):F:=fun _ e s _=>vQ (ev e x) none fun cs=>ret (Td ag z n cs (ev e i)) s
def ET (h:Hp)(m:Value):Option (List MapEntry × Nat):=BG m none fun r=>@Option.rec Nat (fun _=>Option (List MapEntry × Nat)) (some ([],0)) (fun r=>mapOf (h r)) r
def okV (ok:Bool)(v:Value)(b:Bool):Value:=bB ok (.tuple #[v,.bool b]) v
def aee (z:Value)(ok:Bool)(r:Option (Nat × Value)):Value:=@Option.rec (Nat × Value) (fun _=>Value) (okV ok z false) (fun p=>pB p fun _ v=>okV ok v true) r
def Te (ks:Bool)(z:Value)(ok:Bool)(x i:Operand):F:=fun _ e s _=>aO (BP ks (ev e i)) <| oB (ET s.h (ev e x)) fun es=>pB es fun es _=>oB (yE (ev e i) es 0) fun r=>some (aee z ok r,s)
def Tf (x:Operand)(i:Nat):F:=fun _ e s _=>yA (ev e x) none fun vs=>ret (nth (aL vs) i) s
def yG (e:En)(l:List (Nat × Operand)):List (Nat × Value):=@List.rec (Nat × Operand) (fun _=>List (Nat × Value)) [] (fun p _ ih=>pB p (fun i x=>(i,ev e x)) :: ih) l
def aef (pl:List (Nat × Nat))(z:List Value)(parts:List (Nat × Operand)):F:=fun _ e s _=>oB (yD (nth pl) (yG e parts) z) fun l=>some (.agg l.toArray,s)
def aeg (x:Operand):F:=fun _ e s _=>lY (ev e x) none fun b=>ret (pR .i64 (.ofNat (sL b).length)) s
def aeh (x:Operand):F:=fun _ e s _=>sS (ev e x) none fun _ n _=>ret (pR .i64 (.ofNat n)) s
def aei (x:Operand):F:=fun _ e s _=>oB (ET s.h (ev e x)) fun p=>pB p fun es _=>ret (pR .i64 (.ofNat es.length)) s
def newAt (s:S)(nm:Nat)(o:Obj)(f:Nat→Value):Option (Value × S):=fN nm fun nm=>sB s fun c h ds=>some (f nm,⟨c,setH h nm o,ds⟩)
def JV (o:Obj):F:=fun _ _ s nm=>newAt s nm o fun nm=>.pointer (some ⟨nm,0,none⟩)
def EU (t:TypeId)(x:Operand):F:=fun _ e s nm=>aO (pQ (ev e x)) <| newAt s nm (.cells (lZ (ev e x)).toArray t) fun nm=>.pointer (some ⟨nm,0,none⟩)
def fRow (el z n:Nat)(zs:List Value)(parts:List (Nat × Operand)):F:=fun _ e s nm =>
 oB (yD (fun i=>some (Nat.mul i z,z)) (yG e parts) zs) fun l=>newAt s nm (.cells l.toArray el) fun nm=>.slice (some ⟨nm,0,none⟩) n z
def JW:F:=fun _ _ s nm=>newAt s nm (.map #[] 0) fun nm=>.map (some nm)
def EW (x:Value):Option Nat:=jY x none fun _ i=>iB i some fun _=>none
def JX (el z by':Nat)(zs:List Value)(x c:Operand):F:=fun _ e s nm=>oB (EW (ev e x)) fun n=>oB (EW (ev e c)) fun k=>aO (Nat.beq n k) (aO (Nat.ble n 1000000) (aO (Nat.ble by' 1000000)
 (newAt s nm (.cells (jD zs n).toArray el) fun nm=>.slice (some ⟨nm,0,none⟩) n z)))
def unit (s:Option S):Option (Value × S):=oB s fun s=>some (undef,s)
def l6 (n:Nat)(a x:Operand):F:=fun _ e s _=>oB (ptr (ev e a)) fun a=>aO (pQ (ev e x)) (aO (Nat.beq n (lZ (ev e x)).length) (unit (BI s a (lZ (ev e x)))))
def aej (s:S)(r:Nat)(es:List MapEntry)(cl:Nat)(k v:Value)(f:Option (Nat × Value)):Option S:=@Option.rec (Nat × Value) (fun _=>Option S)
 (some ⟨s.c,setH s.h r (.map (es++[(⟨k,v,cl⟩:MapEntry)]).toArray (cl+1)),s.ds⟩)
 (fun p=>oB (nth es p.1) fun en=>some ⟨s.c,setH s.h r (.map (es.set p.1 (⟨k,v,en.born⟩:MapEntry)).toArray cl),s.ds⟩) f
def EX (x:Value):Option Nat:=BG x none fun r=>r
def EY (ks:Bool)(m k x:Operand):F:=fun _ e s _=>aO (pQ (ev e x)) <| aO (BP ks (ev e k)) <| oB (EX (ev e m)) fun r=>aO (Nat.ble 3 r) <| oB (mapOf (s.h r)) fun p=>pB p fun es cl=>oB (yE (ev e k) es 0) fun f=>unit (aej s r es cl (ev e k) (ev e x) f)
def JY (el z:Nat)(s:S)(a:Option Addr)(n k m:Nat)(b:Addr)(new:List Value):Option (Value × S):=@Option.rec Addr (fun _=>Option (Value × S))
 (nB n (sB s fun c h ds=>fN c fun c=>some (.slice (some ⟨c,0,none⟩) m z,⟨Nat.succ c,setH h c (.cells new.toArray el),ds⟩)) fun _=>none)
 (fun a=>aB a fun ab ao sp=>yC sp (aO (Nat.beq k z) (aO (Nat.ble 3 ab) (nB ao (bB (Nat.beq ab b.block) none (oB (oK s.h a (Nat.mul n z)) fun old=>sB s fun c h ds=>fN c fun c=>fN (Nat.add n m) fun nm=>some (.slice (some ⟨c,0,none⟩) nm z,⟨Nat.succ c,setH (setH h ab dead) c (.cells (old++new).toArray el),ds⟩))) fun _=>none)))) a
def JZ (el z:Nat)(s:S)(x y:Value):Option (Value × S):=sS x none fun a n k=>sS y none fun b m _=>nB m (some (.slice a n k,s)) fun m=>aO (Nat.ble (Nat.add n (Nat.succ m)) 1000000) (oB b fun b=>oB (oK s.h b (Nat.mul (Nat.succ m) z)) fun new=>JY el z s a n k (Nat.succ m) b new)
def aek (el z:Nat)(x y:Operand):F:=fun _ e s _=>JZ el z s (ev e x) (ev e y)
def ael (s:S)(r:Nat)(es:List MapEntry)(cl:Nat)(f:Option (Nat × Value)):S:=@Option.rec (Nat × Value) (fun _=>S) s (fun p=>⟨s.c,setH s.h r (.map (es.eraseIdx p.1).toArray cl),s.ds⟩) f
def Tg (ks:Bool)(m k:Operand):F:=fun _ e s _=>aO (BP ks (ev e k)) <| oB (EX (ev e m)) fun r=>aO (Nat.ble 3 r) <| oB (mapOf (s.h r)) fun p=>pB p fun es cl=>oB (yE (ev e k) es 0) fun f=>some (.tuple #[],ael s r es cl f)
def callee (f:Value)(args:List Value):Option (FuncId × List Value):=JQ f none fun fn first cap=>match fn with
 | .func g=>some (g,aL first++(args++aL cap))
 | _=>none
def Ti (f:Operand)(args:List Operand):F:=fun call e s _=>oB (callee (ev e f) (evs e args)) fun p=>pB p fun g as'=>call g as' s
def Tj (f:Operand)(args:List Operand):F:=fun _ e s _=>oB (callee (ev e f) (evs e args)) fun p=>sB s fun c h ds=>some (undef,⟨c,h,p :: ds⟩)
def ok0 (x:Value):Bool:=Value.rec (motive_1:=fun _=>Bool) (motive_2:=fun _=>Unit) (motive_3:=fun _=>Unit) (fun _=>true) (fun _ _=>true) (fun _ _=>false) (fun _ _ _=>false) (fun _=>true) (fun a=>a.isNone) (fun a n c=>a.isNone && (Nat.beq n 0 && Nat.beq c 0)) (fun r=>r.isNone) (fun _=>false) (fun _ _ _ _ _=>false) true (fun _ _ _=>false) false (fun _ _=>false) (fun _ _=>false) (fun _ _=>()) () (fun _ _ _ _=>()) x
def rf (x:Value):Bool:=ok0 x || vQ x false fun cs=>(aL cs).all ok0
def sU (P:Program)(c:Call)(b:Builtin):Option F:=match b with
 | .len=>match c.args.toList,c.argTypes.toList with
  | [x],t :: _=>match und P t with
   | some .string=>some (aeg x)
   | some (.slice _)=>some (aeh x)
   | some (.map _ _)=>some (aei x)
   | _=>none
  | _,_=>none
 | .append=>match c.args.toList,c.argTypes.toList with
  | [x,y],[t,t']=>match und P t with
   | some (.slice el)=>oB (P.info? el) fun i=>oB i.zero fun zs=>aO (Nat.beq t t') (aO (Nat.beq zs.cells.size i.size) (aO (Nat.ble 1 i.size) (aO (Nat.ble i.bytes 1000000) (some (aek el i.size x y)))))
   | _=>none
  | _,_=>none
 | .delete=>match c.args.toList,c.argTypes.toList with
  | [x,k],t :: _=>match und P t with
   | some (.map kt _)=>oB (vT P kt) fun ks=>some (Tg ks x k)
   | _=>none
  | _,_=>none
 | _=>none
def Tm (P:Program)(c:Call):Option F:=match c.callee with
 | .value f=>some (Ti f c.args.toList)
 | .builtin b=>sU P c b
 | _=>none
def J2 (P:Program)(t:TypeId)(x:Operand)(f:Nat):Option F:=match und P t with
 | some (.struct fs)=>oB (nth fs.toList f) fun fd=>match dJ P fd.type with
  | some (_+1)=>some (ad9 fd.offset x)
  | _=>none
 | _=>none
def J3 (P:Program)(t:TypeId)(x:Operand)(f:Nat):Option F:=match und P t with
 | some (.struct fs)=>oB (nth fs.toList f) fun fd=>oB (und P fd.type) fun _=>oB (dJ P fd.type) fun n=>some (aea (oJ P fd.type) n fd.offset x)
 | _=>none
def BQ (P:Program)(t:TypeId)(x i:Operand):Option F:=match und P t with
 | some (.slice el)=>oB (dJ P el) fun z=>some (q9 z x i)
 | some (.array n el)=>oB (dJ P el) fun z=>some (aeb z n x i)
 | _=>none
def J4 (P:Program)(t:TypeId)(x i:Operand):Option F:=match und P t with
 | some .string=>some (aec x i)
 | some (.array n el)=>oB (und P el) fun _=>oB (dJ P el) fun z=>some (aed (oJ P el) z n x i)
 | _=>none
def J5 (P:Program)(t:TypeId)(x i:Operand)(ok:Bool):Option F:=match und P t with
 | some (.map k el)=>oB (vT P k) fun ks=>oB (pV P el) fun z=>aO (rf z) (some (Te ks z ok x i))
 | _=>none
def J6 (P:Program)(t:TypeId)(x:Operand)(lo hi:Option Operand):Option F:=match und P t with
 | some .string=>some (yF none x lo hi)
 | some (.slice el)=>oB (dJ P el) fun z=>some (yF (some z) x lo hi)
 | _=>none
def J7 (P:Program)(t:TypeId)(parts:List (Nat × Operand)):Option F:=match und P t with
 | some (.struct fs)=>oB (pV P t) fun z=>aO (rf z) (aO (fs.toList.all fun f=>(dJ P f.type).isSome) (some (aef (places P fs.toList) z.cells.toList parts)))
 | _=>none
def J8 (P:Program)(t:TypeId)(n:Nat)(parts:List (Nat × Operand)):Option F:=match und P t with
 | some (.slice el)=>oB (dJ P el) fun z=>oB (pV P el) fun zs=>aO (rf zs) (aO (Nat.beq zs.cells.size z) (aO (Nat.ble (Nat.mul n z) 16777216) (aO (Nat.ble 1 z) (some (fRow el z n (jD zs.cells.toList n) parts)))))
 | _=>none
def J9 (P:Program)(t:TypeId)(x c:Operand):Option F:=match und P t with
 | some (.slice el)=>oB (P.info? el) fun i=>oB i.zero fun zs=>aO (rf zs) (aO (Nat.beq zs.cells.size i.size) (aO (Nat.ble 1 i.size) (some (JX el i.size i.bytes zs.cells.toList x c))))
 | _=>none
def comp (P:Program)(o:Op):Option F:=match o with
 | .move x=>some (EP x)
 | .assign x=>some (EP x)
 | .pick c a b=>some (SS c a b)
 | .load t x=>oB (und P t) fun _=>match oJ P t with
  | true=>oB (dJ P t) fun n=>some (SX n x)
  | false=>some (SV x)
 | .nilCheck x=>some (SY x)
 | .binOp op _ x y _=>some (JS op x y)
 | .unOp .not _ x=>some (S9 x)
 | .convert src dst x=>oB (und P src) fun _=>match und P dst with | some (.int k)=>some (Ta k x) | _=>none
 | .makeFunc fn first captured=>some (JU fn first.toList captured.toList)
 | .slice t x lo hi none=>J6 P t x lo hi
 | .fieldAddr t x f=>J2 P t x f
 | .field t x f=>J3 P t x f
 | .indexAddr t x i=>BQ P t x i
 | .index t x i=>J4 P t x i
 | .lookup t x i ok=>J5 P t x i ok
 | .extract t i=>some (Tf t i)
 | .build t parts=>J7 P t parts.toList
 | .call c=>Tm P c
 | .alloc t=>oB (pV P t) fun z=>aO (rf z) (some (JV (.cells z.cells t)))
 | .box t x=>some (EU t x)
 | .buildSlice t n parts=>J8 P t n parts.toList
 | .makeMap _ none=>some JW
 | .makeSlice t l c=>J9 P t l c
 | .store t a x=>oB (dJ P t) fun n=>some (l6 n a x)
 | .mapUpdate t m k x=>match und P t with | some (.map kt _)=>oB (vT P kt) fun ks=>some (EY ks m k x) | _=>none
 | .insert t m k x=>match und P t with | some (.map kt _)=>oB (vT P kt) fun ks=>some (EY ks m k x) | _=>none
 | .defer c=>match c.callee with | .value f=>some (Tj f c.args.toList) | _=>none
 | _=>none
structure St where
 g:Option (Nat × Bool)
 d:Option Nat
 f:F
def tB {γ:Type}(t:St)(k:Option (Nat × Bool)→Option Nat→F→γ):γ:=@St.rec (fun _=>γ) k t
def guardOf (ops:List Oper)(o:Oper):Option (Option (Nat × Bool)):=match o.guard with
 | none=>some none
 | some (j,b)=>oB (nth ops j) fun g=>oB g.dst fun d=>some (some (d,b))
def Ka:Operand→Bool
 | .const v=>rf v
 | .global g=>Nat.ble (Nat.succ g) 3
 | _=>true
def mJ (o:Op):Bool:=(aL o.operands).all Ka
def nP (nt:Nat)(d:Option Nat):Bool:=@Option.rec Nat (fun _=>Bool) true (fun d=>Nat.ble (Nat.succ d) nt) d
def vV (P:Program)(nt:Nat)(ops:List Oper):List Oper→Option (List St)
 | []=>some []
 | o :: l=>aO (mJ o.op) <| aO (nP nt o.dst) (oB (guardOf ops o) fun g=>oB (comp P o.op) fun f=>oB (vV P nt ops l) fun r=>some (⟨g,o.dst,f⟩ :: r))
def put (e:En)(d:Option Tmp)(v:Value):En:=@Option.rec Tmp (fun _=>En) e (fun d=>dU e d v) d
def BR (v:Value)(b:Bool):Bool:=vP v false fun x=>bB x b (not' b)
def want (g:Option (Nat × Bool))(e:En):Bool:=@Option.rec (Nat × Bool) (fun _=>Bool) true (fun p=>pB p fun d b=>BR (iy (e d)) b) g
def l7 {β:Type}(x:Option (Value × S))(f:Value→S→Option β):Option β:=oB x fun p=>pB p f
def EZ (call:Cl)(l:List St):Nat→En→S→Option (En × S):=@List.rec St (fun _=>Nat→En→S→Option (En × S)) (fun _ e s=>some (e,s))
 (fun t _ ih nm e s=>tB t fun g d f=>bB (want g e) (l7 (f call e s nm) fun v s'=>ih (Nat.succ nm) (put e d v) s') (ih (Nat.succ nm) (put e d undef) s)) l
structure R where
 k:Nat
 e:En
 s:S
def rB {γ:Type}(r:R)(f:Nat→En→S→γ):γ:=@R.rec (fun _=>γ) f r
def onL (r:Option (En × S)):Option R:=oB r fun p=>pB p fun e s=>some ⟨0,e,s⟩
def E8 (r:Option R)(f:En→S→Option R):Option R:=oB r fun r=>rB r fun k e s=>nB k (f e s) fun k=>some ⟨Nat.succ k,e,s⟩
def Kb (id:Nat)(r:Option R):Option R:=oB r fun r=>rB r fun k e s=>bB (Nat.beq k (Nat.add id 2)) (some ⟨0,e,s⟩) (some ⟨k,e,s⟩)
def Kc (v:Value)(x y:Option R):Option R:=vP v none fun b=>bB b x y
def cls:Op→Nat
 | .alloc _ | .box .. | .buildSlice .. | .makeMap .. | .makeSlice ..=>1
 | .store .. | .mapUpdate .. | .insert .. | .defer _=>2
 | .call c=>match c.callee with
  | .builtin .len=>0
  | _=>2
 | _=>0
def Ke:Option Addr→Option Addr→Bool
 | none,none=>true
 | some a,some b=>Nat.beq a.block b.block && (Nat.beq a.off b.off && (a.spot.isNone && b.spot.isNone))
 | _,_=>false
def vW:Option Nat→Option Nat→Bool
 | none,none=>true
 | some a,some b=>Nat.beq a b
 | _,_=>false
def all2 (p:Value→Value→Bool):List Value→List Value→Bool
 | [],[]=>true
 | a :: l,b :: m=>bB (p a b) (all2 p l m) false
 | _,_=>false
def BS:Value→Value→Bool
 | .bool a,.bool b=>bB a b (not' b)
 | .int k a,.int l b=>Nat.beq (oL k) (oL l) && vS a b
 | .string a,.string b=>pW (sL a) (sL b)
 | .pointer a,.pointer b=>Ke a b
 | .slice a n c,.slice b m d=>Ke a b && (Nat.beq n m && Nat.beq c d)
 | .map a,.map b=>vW a b
 | .nilFunc,.nilFunc=>true
 | _,_=>false
def rq (x y:Value):Bool:=BS x y || match x,y with
 | .func (.func f) a b,.func (.func g) c d=>Nat.beq f g && (all2 BS (aL a) (aL c) && all2 BS (aL b) (aL d))
 | _,_=>false
def E9 (x y:Value):Bool:=rq x y || match x,y with
 | .agg a,.agg b=>all2 rq (aL a) (aL b)
 | _,_=>false
def Fa (x y:Value):Bool:=E9 x y || match x,y with
 | .tuple a,.tuple b=>all2 E9 (aL a) (aL b)
 | _,_=>false
def tb (m k:Nat):Bool:=Nat.beq (Nat.land (Nat.shiftRight m k) 1) 1
def iA (acc:List Nat):List Edge→Nat
 | []=>0
 | e :: l=>bB (Region.binds .any e) (Nat.lor (Nat.lor (Nat.shiftLeft 1 e.on) ((nth acc e.on).getD 0)) (iA acc l)) (iA acc l)
def bH (acc:List Nat):List Oper→List Nat
 | []=>acc
 | o :: l=>bH (acc++[iA acc (aL o.after)]) l
def aH (ms:List Nat)(i:Nat):Nat:=(nth ms i).getD 0
def countB (p:Nat→Bool):List Nat→Nat
 | []=>0
 | a :: l=>bB (p a) (Nat.succ (countB p l)) (countB p l)
def mK:List Oper→Nat→List Nat
 | [],_=>[]
 | o :: l,i=>bB (Nat.beq (cls o.op) 2) (i :: mK l (Nat.succ i)) (mK l (Nat.succ i))
def writer (t:Nat):List Oper→Nat→Option Nat
 | [],_=>none
 | o :: l,i=>bB (vW o.dst (some t)) (some i) (writer t l (Nat.succ i))
structure Dp where
 i:Nat
 st:St
 m:Nat
 c:Nat
 lo:Nat
 hi:Nat
def dB {γ:Type}(d:Dp)(f:Nat→St→Nat→Nat→Nat→Nat→γ):γ:=@Dp.rec (fun _=>γ) f d
def sV (ms es:List Nat):List St→List Oper→Nat→List Dp
 | t :: l,o :: r,i=>⟨i,t,aH ms i,cls o.op,countB (fun e=>tb (aH ms i) e) es,countB (fun e=>not' (tb (aH ms e) i)) es⟩ :: sV ms es l r (Nat.succ i)
 | _,_,_=>[]
def Fb (ops:Array Oper)(ms:List Nat)(i j:Nat)(x y:Oper):Bool:=match y.dst with
 | none=>true
 | some d=>not' (vW x.dst (some d)) && (not' ((x.looksAt ops).any fun t=>Nat.beq t d) || (tb (aH ms i) j || tb (aH ms j) i))
def Tn (ops:Array Oper)(ms:List Nat)(i j:Nat)(x y:Oper):Bool :=
 Nat.beq i j || (Fb ops ms i j x y && (not' (tb (aH ms i) j) || Nat.beq (Nat.land (aH ms j) (aH ms i)) (aH ms j)))
def ru (ms:List Nat)(p:Nat × Oper):Bool:=Nat.beq (aH ms p.1) (iA ms (aL p.2.after)) && Nat.ble (Nat.succ (aH ms p.1)) (Nat.shiftLeft 1 p.1)
def Tp (p:Nat→Nat→Oper→Oper→Bool)(l:List (Nat × Oper)):Bool:=l.all fun a=>l.all fun b=>p a.1 b.1 a.2 b.2
def number {α:Type}:List α→Nat→List (Nat × α)
 | [],_=>[]
 | a :: l,i=>(i,a) :: number l (Nat.succ i)
def yH (ms:List Nat):List Nat→Bool
 | []=>true
 | e :: l=>l.all (fun f=>tb (aH ms f) e) && yH ms l
def BU (ops:Array Oper):Bool:=(number (aL ops) 0).all (ru (bH [] (aL ops))) && (Tp (Tn ops (bH [] (aL ops))) (number (aL ops) 0) && yH (bH [] (aL ops)) (mK (aL ops) 0))
def dY (wr:Nat→Option Nat)(m:Nat)(vs e0:En):En:=fun t=>@Option.rec Nat (fun _=>Option Value) (nO (e0 t)) (fun j=>bB (tb m j) (nO (vs j)) (nO (e0 t))) (wr t)
def kH (call:Cl)(t:St)(e:En)(s:S)(nm:Nat):Option (Value × S):=tB t fun g _ f=>bB (want g e) (f call e s nm) (some (undef,s))
def seen (n m:Nat)(vs:En):Bool:=(List.range n).all fun j=>not' (tb m j) || (vs j).isSome
def oN (n:Nat)(wr:Nat→Option Nat)(call:Cl)(e0:En)(ak k:Nat)(s:S):List Dp→En→Option En
 | [],vs=>some vs
 | d :: l,vs=>dB d fun i t m c lo _=>bB (Nat.beq c 2) (oN n wr call e0 ak k s l vs) (bB (Nat.beq lo k)
   (aO (seen n m vs) (aO ((vs i).isNone) (l7 (kH call t (dY wr m vs e0) s (Nat.add ak i)) fun v _=>oN n wr call e0 ak k s l (dU vs i v))))
   (oN n wr call e0 ak k s l vs))
def Kg (wr:Nat→Option Nat)(call:Cl)(e0 vs:En)(ak:Nat)(s:S)(i:Nat)(t:St)(m:Nat):Bool:=@Option.rec (Value × S) (fun _=>Bool) false (fun p=>pB p fun v _=>Fa v (iy (vs i))) (kH call t (dY wr m vs e0) s (Nat.add ak i))
def vX (wr:Nat→Option Nat)(call:Cl)(e0 vs:En)(ak k:Nat)(s:S):List Dp→Bool
 | []=>true
 | d :: l=>dB d fun i t m c lo hi=>bB (bB (Nat.beq c 0 && (Nat.ble (Nat.succ lo) k && Nat.ble k hi)) (Kg wr call e0 vs ak s i t m) (bB (Nat.beq c 1 && Nat.ble k hi) (s.h (Nat.add ak i)).isNone true)) (vX wr call e0 vs ak k s l) false
def ry (wr:Nat→Option Nat)(call:Cl)(e0 vs:En)(ak k:Nat):List Dp→S→Option S
 | [],s=>some s
 | d :: l,s=>dB d fun i t m c _ hi=>bB (Nat.beq c 1 && Nat.beq hi k) (l7 (kH call t (dY wr m vs e0) s (Nat.add ak i)) fun _ s'=>ry wr call e0 vs ak k l s') (ry wr call e0 vs ak k l s)
def vY (ds:List Dp)(i:Nat):Option Dp:=nth ds i
def stages (n:Nat)(wr:Nat→Option Nat)(call:Cl)(e0:En)(ak:Nat)(ds:List Dp):List Nat→Nat→En→S→Option (En × S)
 | [],k,vs,s=>oB (oN n wr call e0 ak k s ds vs) fun vs=>aO (vX wr call e0 vs ak k s ds) (oB (ry wr call e0 vs ak k ds s) fun s=>some (vs,s))
 | e :: es,k,vs,s=>oB (oN n wr call e0 ak k s ds vs) fun vs=>aO (vX wr call e0 vs ak k s ds) (oB (ry wr call e0 vs ak k ds s) fun s=>oB (vY ds e) fun d=>dB d fun _ t m _ _ _ =>
   aO (seen n m vs) (aO ((vs e).isNone) (l7 (kH call t (dY wr m vs e0) s (Nat.add ak e)) fun v s'=>stages n wr call e0 ak ds es (Nat.succ k) (dU vs e v) s')))
def vZ (wr:Nat→Option Nat)(vs e0:En):En:=fun t=>@Option.rec Nat (fun _=>Option Value) (nO (e0 t)) (fun j=>nO (vs j)) (wr t)
def yI (P:Program)(nt:Nat)(call:Cl)(ops:Array Oper)(e:En)(s:S):Option R :=
 aO (BU ops) (sB s fun c h ds=>fN c fun c=>oB (vV P nt (aL ops) (aL ops)) fun l =>
  oB (stages (aL ops).length (fun t=>writer t (aL ops) 0) call e c (sV (bH [] (aL ops)) (mK (aL ops) 0) l (aL ops) 0) (mK (aL ops) 0) 0 (fun _=>none) ⟨Nat.add c (aL ops).length,h,ds⟩) fun p=>pB p fun vs s =>
   aO (seen (aL ops).length (Nat.sub (Nat.shiftLeft 1 (aL ops).length) 1) vs) (some ⟨0,vZ (fun t=>writer t (aL ops) 0) vs e,s⟩))
def Kh (P:Program)(nt:Nat)(call:Cl)(ops:List Oper)(e:En)(s:S):Option R :=
 sB s fun c h ds=>fN c fun c=>oB (vV P nt ops ops) fun l=>onL (EZ call l c e ⟨Nat.add c ops.length,h,ds⟩)
def Tq (P:Program)(nt:Nat)(call:Cl)(ih:Code→En→S→Option R)(c:Code):En→S→Option R:=@Code.rec (fun _=>En→S→Option R)
 (fun e s=>some ⟨0,e,s⟩)
 (fun _ ops draw e s=>bB draw (yI P nt call ops e s) (Kh P nt call (aL ops) e s))
 (fun x y _ _ e s=>E8 (ih x e s) (ih y))
 (fun c x y _ _ e s=>Kc (ev e c) (ih x e s) (ih y e s))
 (fun id c _ e s=>Kb id (ih c e s))
 (fun c _ e s=>E8 (ih c e s) (ih (.loop c)))
 (fun _ _ _ _ _ _ _ _=>none)
 (fun id e s=>some ⟨Nat.add id 2,e,s⟩)
 (fun c _ e s=>ih c e s)
 (fun _ e s=>some ⟨0,e,s⟩)
 (fun _ _ _=>none)
 (fun e s=>some ⟨1,e,s⟩)
 (fun _ _ _=>none) c
def code (P:Program)(nt:Nat)(call:Cl)(n:Nat):Code→En→S→Option R:=Nat.rec (motive:=fun _=>Code→En→S→Option R) (fun _ _ _=>none) (fun _ ih=>Tq P nt call ih) n
def defers (call:Cl)(l:List (FuncId × List Value)):S→Option S:=@List.rec (FuncId × List Value) (fun _=>S→Option S) (fun s=>some s) (fun d _ ih s=>pB d fun f args=>l7 (call f args s) fun _ s=>ih s) l
def Ki (P:Program)(e:En)(s:S):ResultVar→Option Value
 | .tmp t=>some (iy (e t))
 | .cell a t=>oB (comp P (.load t (.tmp a))) fun f=>oB (f (fun _ _ _=>none) e s 0) fun p=>pB p fun v _=>some v
def wh (P:Program)(e:En)(s:S):List ResultVar→Option (List Value)
 | []=>some []
 | r :: l=>oB (Ki P e s r) fun v=>aO (pQ v) (oB (wh P e s l) fun vs=>some (v :: vs))
def enter (l:List Value):Nat→En→En:=@List.rec Value (fun _=>Nat→En→En) (fun _ e=>e) (fun v _ ih i e=>ih (Nat.succ i) (dU e i v)) l
def out (l:List Value):Value:=match l with
 | [v]=>v
 | l=>.tuple l.toArray
def fin (P:Program)(fn:Func)(ds:List (FuncId × List Value))(e:En)(s:S):Option (Value × S):=sB s fun c h _=>oB (wh P e ⟨c,h,ds⟩ (aL fn.results)) fun l=>some (out l,⟨c,h,ds⟩)
def leave (P:Program)(oO:Cl)(rz:Bool)(fn:Func)(ds:List (FuncId × List Value))(r:Option R):Option (Value × S):=oB r fun r=>rB r fun k e s =>
 aO (Nat.ble k 1) (sB s fun _ _ d=>bB rz (lB d (fin P fn ds e s) fun _ _=>none) (oB (defers oO d s) fun s=>fin P fn ds e s))
def Fe (P:Program)(f:FuncId):Option (Func × Code):=oB P.funcs[f]? fun fn=>oB fn.body fun c=>some (fn,c)
def fuel:Nat:=100000
def BV (P:Program)(call oO:Cl)(rz:Bool)(args:List Value)(s:S)(p:Func × Code):Option (Value × S):=pB p fun fn c=>sB s fun k h ds=>aO (Nat.ble args.length fn.ntmps) (leave P oO rz fn ds (code P fn.ntmps call fuel c (enter args 0 (fun _=>none)) ⟨k,h,[]⟩))
abbrev Sp:=Cl→FuncId→List Value→S→Option (Option (Value × S))
def func (P:Program)(iO:Sp)(n:Nat):Bool→Cl:=Nat.rec (motive:=fun _=>Bool→Cl) (fun _ _ _ _=>none)
 (fun _ ih rz f args s=>@Option.rec (Option (Value × S)) (fun _=>Option (Value × S)) (oB (Fe P f) fun p=>BV P (ih false) (ih true) rz args s p) (fun r=>r) (bB rz none (iO (ih false) f args s))) n
def Tt (args:List Value)(s:S):Option (Value × S):=match args with | [.string b]=>aO (Nat.ble (sL b).length 1000000) (some (.string b,s)) | _=>none
def Tu (call:Cl)(args:List Value)(s:S):Option (Value × S):=match args with
 | [.func (.func g) f cap]=>lB (aL f) (l7 (call g (aL cap) s) fun v s=>yA v none fun a=>lB (aL a) (some (.agg #[.int .i64 0,.int .i64 0],s)) fun _ _=>none) fun _ _=>none
 | _=>none
def sW (c:Nat):List UInt8→Nat→Int
 | [],_=>.negSucc 0
 | b :: l,i=>match Nat.beq b.toNat c with | true=>.ofNat i | false=>sW c l (Nat.succ i)
def Tv (args:List Value)(s:S):Option (Value × S):=match args with
 | [.string b,.int .u8 (.ofNat c)]=>aO (Nat.ble c 255) (some (.int .i64 (sW c (sL b) 0),s))
 | _=>none
def iO (clone aen index:Nat)(call:Cl)(f:FuncId)(args:List Value)(s:S):Option (Option (Value × S)) :=
 bB (Nat.beq f clone) (some (Tt args s)) (bB (Nat.beq f aen) (some (Tu call args s)) (bB (Nat.beq f index) (some (Tv args s)) none))
end Xe
end
end Go.Proofs.YtfcpglhpolpdcaaGreatDoor
