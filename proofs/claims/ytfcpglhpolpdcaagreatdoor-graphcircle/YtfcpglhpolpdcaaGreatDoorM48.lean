/- Order's memory as it goes on. -/
import Derived.Test.YtfcpglhpolpdcaaGreatDoorM47
import Derived.Deep.QuietTactic
import Derived.BigQuiet
import Derived.Deep.Cut
import Derived.Test.YtfcpglhpolpdcaaGreatDoorM46
set_option maxRecDepth 100000
set_option maxHeartbeats 4000000
namespace Go.Proofs.YtfcpglhpolpdcaaGreatDoor
open Go.RowKit
namespace Gr
structure Kx where
 W:World
 LB:Nat
 M:Nat
 C:Nat
 BL:Nat
 BO:Nat
structure Kx.Ok (K:Kx):Prop where
 lb:K.LB<K.W.heap.size
 m:K.W.heap.size≤K.M
 c:K.M<K.C
 bl:K.C<K.BL
 bo:K.BL≤K.BO
abbrev sV (v:Value):Obj:=.cells #[v] 49 (0,0)
abbrev yD (M:Nat):Obj:=.cells #[.map (some M)] 77 (0,0)
structure Kp (K:Kx) (w:World):Prop where
 os:w.os=K.W.os
 tape:w.tape=K.W.tape
 output:w.output=K.W.output
 size:K.W.heap.size≤w.heap.size
 block:∀ k,k<K.W.heap.size→k≠K.LB→w.heap[k]?=K.W.heap[k]?
theorem Kp.grow {K:Kx}{a b:World}{r:Option Nat}(h:Kp K a)(hg:a.grownBy b r)(hr:∀ k,r=some k→k=K.LB∨K.W.heap.size≤k):Kp K b :=
 ⟨hg.os.trans h.os,hg.tape.trans h.tape,hg.output.trans h.output,Nat.le_trans h.size hg.size,fun k hk hn=>(hg.block k (Nat.lt_of_lt_of_le hk h.size) (fun e=>by rcases hr k e.symm with e | e<;>omega)).trans (h.block k hk hn)⟩
structure St (K:Kx) (L:Lk) (o r:List ByteArray) (vo vl:Value) (w:World):Prop where
 kp:Kp K w
 mp:dz w K.M L
 box:w.heap[K.LB]?=some (sV vl)
 cb:w.heap[K.C]?=some (yD K.M)
 left:w.ownsRow K.BL 9 1 vl r.length (strs r)
 order:w.ownsRow K.BO 9 1 vo o.length (strs o)
 low:∀ k,vl.ownBlock=some k→k<K.BO
 big:K.BO≤w.heap.size
variable {K:Kx} {L:Lk} {o r:List ByteArray} {vo vl:Value} {w:World}
theorem St.grow {w':World}(h:St K L o r vo vl w)(hg:w.grownBy w' none):St K L o r vo vl w' :=
 ⟨h.kp.grow hg (by intro k e;cases e),h.mp.grow hg (by simp),(hg.block _ (gK h.box) (by simp)).trans h.box,(hg.block _ (gK h.cb) (by simp)).trans h.cb,KY h.left hg,KY h.order hg,h.low,Nat.le_trans h.big hg.size⟩
theorem own_ne {B e size n g:Nat}{v:Value}{xs:List Value}(h:w.ownsRow B e size v n xs)(hg:g<B):v.ownBlock=none∨v.ownBlock≠some g:=by
 cases hv:v.ownBlock with
 | none=>exact .inl rfl
 | some k=>exact .inr (by have:=(h.lt k hv).1;simp;omega)
theorem St.afu {w':World}{L':Lk}(h:St K L o r vo vl w)(hk:K.Ok)(hm:dz w' K.M L')(hg:w.grownBy w' (some K.M)):St K L' o r vo vl w':=by
 obtain⟨k1,k2,k3,k4,k5⟩:=hk;exact⟨h.kp.grow hg (by intro k e;cases e;exact .inr k2),hm,(hg.block _ (gK h.box) (by simp;omega)).trans h.box,(hg.block _ (gK h.cb) (by simp;omega)).trans h.cb,h.left.kept hg (own_ne h.left (by omega)),h.order.kept hg (own_ne h.order (by omega)),h.low,Nat.le_trans h.big hg.size⟩
theorem St.afv {w':World}{o':List ByteArray}{Uj:Value}(h:St K L o r vo vl w)(hk:K.Ok)(ho:w'.ownsRow K.BO 9 1 Uj o'.length (strs o'))(hg:w.grownBy w' vo.ownBlock):St K L o' r Uj vl w':=by
 obtain⟨k1,k2,k3,k4,k5⟩:=hk;have hne:∀ k,k<K.BO→some k≠vo.ownBlock:=fun k hk e=>by have:=(h.order.lt k e.symm).1;omega
 refine⟨h.kp.grow hg (fun k e=>.inr (by have:=(h.order.lt k e).1;omega)),h.mp.grow hg (hne _ (by omega)),(hg.block _ (gK h.box) (hne _ (by omega))).trans h.box,(hg.block _ (gK h.cb) (hne _ (by omega))).trans h.cb,h.left.kept hg ?_,ho,h.low,Nat.le_trans h.big hg.size⟩;cases hv:vl.ownBlock with
 | none=>exact .inl rfl
 | some k=>exact .inr (hne k (h.low k hv))
theorem KZ {b:Nat}{u:Value}{t:TypeId}(h:w.heap[b]?=some (.cells #[u] t (0,0)))(v:Value):(w.setCell ⟨b,0,none⟩ v).heap[b]?=some (.cells #[v] t (0,0)):=by
 simp only[World.setCell,Array.getElem?_modify,if_true,h,Option.map_some];rfl
theorem St.afw {w':World}{r':List ByteArray}{yE:Value}(h:St K L o r vo vl w)(hk:K.Ok)(hl:w'.ownsRow K.BL 9 1 yE r'.length (strs r'))(hv:yE.ownBlock=vl.ownBlock)(hg:w.grownBy w' vl.ownBlock):St K L o r' vo yE (w'.setCell ⟨K.LB,0,none⟩ yE):=by
 obtain⟨k1,k2,k3,k4,k5⟩:=hk;have hne:∀ k,k<K.BL→some k≠vl.ownBlock:=fun k hk e=>by have:=(h.left.lt k e.symm).1;omega
 have hs:=rf w' K.LB 0 yE;have kp1:=h.kp.grow hg (fun k e=>.inr (by have:=(h.left.lt k e).1;omega));refine⟨kp1.grow hs (by intro k e;cases e;exact .inl rfl),(h.mp.grow hg (hne _ (by omega))).grow hs (by simp;omega),KZ ((hg.block _ (gK h.box) (hne _ (by omega))).trans h.box) yE,?_,hl.kept hs (own_ne hl (by omega)),(h.order.kept hg ?_).kept hs (own_ne h.order (by omega)),by rw[hv];exact h.low,Nat.le_trans h.big (Nat.le_trans hg.size hs.size)⟩
 ·have hc:=(hg.block _ (gK h.cb) (hne _ (by omega))).trans h.cb
  exact (hs.block _ (gK hc) (by simp;omega)).trans hc
 ·cases hv2:vo.ownBlock with
  | none=>exact .inl rfl
  | some k=>exact .inr (fun e=>by have:=h.low k e.symm;have:=(h.order.lt k hv2).1;omega)
theorem St.drew (h:St K L o r vo vl w):St K L o r vo vl w.drew :=
 ⟨⟨h.kp.os,h.kp.tape,h.kp.output,h.kp.size,h.kp.block⟩,h.mp.keep rfl,h.box,h.cb,h.left,h.order,h.low,h.big⟩
theorem St.at {A C M:Nat}(h:St K L o r vo vl w)(hk:K.LB=A∧K.C=C∧K.M=M):w.cell? ⟨A,0,none⟩=some vl∧w.frozen? ⟨A,0,none⟩=false∧w.cell? ⟨C,0,none⟩=some (.map (some M)):=by
 obtain⟨rfl,rfl,rfl⟩:=hk;have h1:=h.box;have h2:=h.cb;refine⟨?_,?_,?_⟩<;>simp[World.cell?,World.frozen?,h1,h2]
theorem St.map {A C M:Nat}(h:St K L o r vo vl w)(hk:K.LB=A∧K.C=C∧K.M=M):Hd (dz w M L):=by rw[← hk.2.2];exact h.mp
def Uk:Value→Nat
 | .slice _ n _=>n
 | _=>0
abbrev kx (W2:World) (LB BL BO:Nat):Kx:=⟨W2,LB,W2.heap.size,W2.heap.size+1,BL,BO⟩
theorem St.begin {W2 wr w5:World}{LB:Nat}{u v:Value}{L:Lk}{ts:List ByteArray}(hM:dz wr W2.heap.size L)(hA:W2.heap[LB]?=some (sV u))(hC:wr.heap[W2.heap.size+1]?=some (yD W2.heap.size))(hg:W2.grownBy wr none)(hg5:wr.grownBy w5 none)(ho:w5.ownsRow wr.heap.size 9 1 v ts.length (strs ts)) :
  (kx W2 LB wr.heap.size w5.heap.size).Ok∧St (kx W2 LB wr.heap.size w5.heap.size) L [] ts (.slice none 0 0) v (w5.setCell ⟨LB,0,none⟩ v):=by
 have hl:=gK hA;have hc:=gK hC;have hg2:=gtr hg hg5;have hs:=rf w5 LB 0 v;refine⟨⟨hl,Nat.le_refl _,Nat.lt_succ_self _,hc,hg5.size⟩,⟨?_,(hM.grow hg5 (by simp)).grow hs (by simp;omega),KZ ((hg2.block _ hl (by simp)).trans hA) v,?_,ho.kept hs (own_ne ho (by omega)),World.ownsRow_nil _ _ _ _,fun k hk=>(ho.lt k hk).2,hs.size⟩⟩
 ·exact Kp.grow (K:=kx W2 LB wr.heap.size w5.heap.size) ⟨hg2.os,hg2.tape,hg2.output,hg2.size,fun k hk _=>hg2.block k hk (by simp)⟩ hs (by intro k e;cases e;exact .inl rfl)
 ·exact (hs.block _ (Nat.lt_of_lt_of_le hc hg5.size) (by simp;omega)).trans ((hg5.block _ hc (by simp)).trans hC)
end Gr
namespace Gr
abbrev nG:Obj:=.cells #[.int .i64 0,.int .i64 0] 46 (0,0)
def entry (w:World):World:=(w.alloc (sV (.slice none 0 0))).alloc nG
structure Kq (S:Nat→Prop) (w w':World):Prop where
 os:w'.os=w.os
 tape:w'.tape=w.tape
 output:w'.output=w.output
 size:w.heap.size≤w'.heap.size
 block:∀ k,k<w.heap.size→S k→w'.heap[k]?=w.heap[k]?
theorem Kq.trans {S S':Nat→Prop}{a b c:World}(h:Kq S a b)(h2:Kq S' b c)(hs:∀ k,S k→S' k):Kq S a c:=⟨h2.os.trans h.os,h2.tape.trans h.tape,h2.output.trans h.output,Nat.le_trans h.size h2.size,fun k hk hS=>(h2.block k (Nat.lt_of_lt_of_le hk h.size) (hs k hS)).trans (h.block k hk hS)⟩
theorem Kq.alloc {S:Nat→Prop}{a b:World}(h:Kq S a b)(o:Obj):Kq S a (b.alloc o):=h.trans (S':=fun _=>True) ⟨rfl,rfl,rfl,(mF b o).size,fun k hk _=>(mF b o).block k hk (by simp)⟩ fun _ _=>trivial
theorem Kq.set {S:Nat→Prop}{a b:World}(h:Kq S a b){g:Nat}(hg:a.heap.size≤g)(i:Nat)(v:Value):Kq S a (b.setCell ⟨g,i,none⟩ v):=⟨h.os,h.tape,h.output,Nat.le_trans h.size (rf b g i v).size,fun k hk hS=>((rf b g i v).block k (Nat.lt_of_lt_of_le hk h.size) (by simp;omega)).trans (h.block k hk hS)⟩
theorem Kq.drew {S:Nat→Prop}{a b:World}(h:Kq S a b):Kq S a b.drew:=⟨h.os,h.tape,h.output,h.size,h.block⟩
theorem Kq.below {B:Nat}{a b:World}(h:Kq (·<B) a b)(hB:B≤a.heap.size):Below B a b:=⟨h.os,h.tape,h.output,h.size,fun k hk=>h.block k (by omega) hk⟩
def Ul (S:Nat→Prop)(ks:List (Int × ByteArray))(a:Option Addr)(r:Except (Int × Int) (List Ed))(w0 W:World)(e:Ending)(w1:World):Prop :=
 Kq (fun k=>w0.heap.size≤k∨S k) W w1∧match r with
 | .error x=>x.1≠0∧e=.returned (.tuple #[.slice none 0 0,.agg #[.int .i64 x.1,.int .i64 x.2]])
 | .ok es=>pO w1 ks a∧es.length≤1000000∧∃ ea ec,e=.returned (.tuple #[.slice ea es.length ec,.agg #[.int .i64 0,.int .i64 0]])∧Cb (·<w1.heap.size) w1 es ea
def Um (S:Nat→Prop)(ks:List (Int × ByteArray))(r:Except (Int × Int) (List Ed))(w:World)(e:Ending)(w':World):Prop:=Kq S w w'∧match r with
 | .error x=>e=.returned (.tuple #[.slice none 0 0,.slice none 0 0,.agg #[.int .i64 x.1,.int .i64 x.2]])
 | .ok es=>∃ vo vl,e=.returned (.tuple #[vo,vl,.agg #[.int .i64 0,.int .i64 0]])∧w'.ownsRow w.heap.size 9 1 vo (order es (tasks ks)).1.length (strs (order es (tasks ks)).1)∧w'.ownsRow w.heap.size 9 1 vl (order es (tasks ks)).2.length (strs (order es (tasks ks)).2)
def set2 (w:World)(b:Nat)(x y:Value):World:=(w.setCell ⟨b,0,none⟩ x).setCell ⟨b,1,none⟩ y
theorem Ce {w:World}{b k:Nat}(h:k≠b)(x y:Value):(set2 w b x y).heap[k]?=w.heap[k]?:=(Below.heap_setCell _ ⟨b,1,none⟩ y k h).trans (Below.heap_setCell w ⟨b,0,none⟩ x k h)
theorem K3 {w:World}{b:Nat}{u v:Value}{t:TypeId}(h:w.heap[b]?=some (.cells #[u,v] t (0,0)))(x y:Value):(set2 w b x y).heap[b]?=some (.cells #[x,y] t (0,0)):=by
 simp only[set2,World.setCell,Array.getElem?_modify,if_true,h,Option.map_some];rfl
theorem Uo (w:World)(b:Nat)(x y:Value):(set2 w b x y).heap.size=w.heap.size:=by simp[set2,World.setCell]
theorem Kq.set2 {S:Nat→Prop}{b:Nat}{a w:World}(h:Kq S a w)(hb:a.heap.size≤b)(x y:Value):Kq S a (set2 w b x y):=(h.set hb 0 x).set hb 1 y
theorem two {w:World}{b:Nat}{x y:Value}{t:TypeId}(h:w.heap[b]?=some (.cells #[x,y] t (0,0))):w.cell? ⟨b,0,none⟩=some x∧w.cell? ⟨b,1,none⟩=some y∧w.frozen? ⟨b,0,none⟩=false∧w.frozen? ⟨b,1,none⟩=false:=by simp[World.cell?,World.frozen?,h]
theorem one {w:World}{b:Nat}{x:Value}{t:TypeId}(h:w.heap[b]?=some (.cells #[x] t (0,0))):w.cell? ⟨b,0,none⟩=some x∧w.frozen? ⟨b,0,none⟩=false:=by simp[World.cell?,World.frozen?,h]
theorem ends {W:World}{O F:Nat}{u p q:Value}{tO tF:TypeId}(hO:W.heap[O]?=some (.cells #[u] tO (0,0)))(hF:W.heap[F]?=some (.cells #[p,q] tF (0,0)))(hne:O≠F)(v x y:Value) :
  (set2 (W.setCell ⟨O,0,none⟩ v) F x y).drew.cell? ⟨O,0,none⟩=some v∧(set2 (W.setCell ⟨O,0,none⟩ v) F x y).drew.cell? ⟨F,0,none⟩=some x∧(set2 (W.setCell ⟨O,0,none⟩ v) F x y).drew.cell? ⟨F,1,none⟩=some y:=by
 have h3:(set2 (W.setCell ⟨O,0,none⟩ v) F x y).drew.heap[O]?=some (.cells #[v] tO (0,0)):=(Ce hne x y).trans (KZ hO v);have h4:(set2 (W.setCell ⟨O,0,none⟩ v) F x y).drew.heap[F]?=some (.cells #[x,y] tF (0,0)):=K3 ((Below.heap_setCell W ⟨O,0,none⟩ v F (Ne.symm hne)).trans hF) x y;generalize (set2 (W.setCell ⟨O,0,none⟩ v) F x y).drew=W' at *;refine⟨?_,?_,?_⟩<;>simp[World.cell?,h3,h4]
theorem Uq (a b:ByteArray):(a.toList==b.toList)=decide (a=b):=by
 rw[Lib.toList_data,Lib.toList_data,Bool.eq_iff_iff];simp only[beq_iff_eq,decide_eq_true_eq];refine⟨fun e=>?_,fun e=>by rw[e]⟩;cases a;cases b;simp only[ByteArray.mk.injEq] at *;exact Array.toList_inj.1 e
theorem three {w:World}{b:Nat}{x y z:Value}{t:TypeId}(h:w.heap[b]?=some (.cells #[x,y,z] t (0,0))):w.cell? ⟨b,0,none⟩=some x∧w.cell? ⟨b,1,none⟩=some y∧w.cell? ⟨b,2,none⟩=some z:=by simp[World.cell?,h]
theorem Ur {w:World}{B e n:Nat}{g:Nat}{c:Nat}{l:List ByteArray}(h:w.ownsRow B e 1 (.slice (some ⟨g,0,none⟩) n c) n (strs l)){i:Nat}(hi:i<n):w.cell? ⟨g,i,none⟩=some (.string (nm l i)):=by
 obtain⟨g',e1,h1⟩:=Fg h hi;cases e1;exact h1
theorem Us {w:World}{B B' e size n:Nat}{v:Value}{xs:List Value}(h:w.ownsRow B e size v n xs)(hB:B'≤B):w.ownsRow B' e size v n xs:=by
 refine⟨h.1,?_⟩;rcases h.2 with h2 | ⟨g,cap,cur,rfl,hb,hr⟩
 ·exact .inl h2
 ·exact .inr ⟨g,cap,cur,rfl,by omega,hr⟩
theorem Ut {w:World}{B e size n:Nat}{v:Value}{xs:List Value}(h:w.ownsRow B e size v n xs):w.drew.ownsRow B e size v n xs:=⟨h.1,h.2⟩
theorem Uu {w:World}{B e size n b:Nat}{v:Value}{xs:List Value}(h:w.ownsRow B e size v n xs)(hb:b<B)(x y:Value):(set2 w b x y).ownsRow B e size v n xs:=by
 have h2:=h.kept (rf _ b 0 x) (own_ne h hb);exact h2.kept (rf _ b 1 y) (own_ne h2 hb)
structure Fin (S:Nat→Prop) (w:World) (o r:List ByteArray) (vo vl:Value) (W:World):Prop where
 z0:W.cell? ⟨w.heap.size,0,none⟩=some vl
 z1:W.cell? ⟨w.heap.size+1,0,none⟩=some (.int .i64 0)
 z2:W.cell? ⟨w.heap.size+1,1,none⟩=some (.int .i64 0)
 below:Kq S w W
 order:W.ownsRow w.heap.size 9 1 vo o.length (strs o)
 left:W.ownsRow w.heap.size 9 1 vl r.length (strs r)
theorem St.fault {K:Kx}{L:Lk}{o r:List ByteArray}{vo vl:Value}{w W:World}(h:St K L o r vo vl W)(K4:K.LB=w.heap.size)(hF:K.W.heap[w.heap.size+1]?=some nG):W.heap[w.heap.size+1]?=some nG:=(h.kp.block _ (gK hF) (by omega)).trans hF
theorem St.fin {K:Kx}{L:Lk}{o r:List ByteArray}{vo vl:Value}{w W:World}{S:Nat→Prop}(h:St K L o r vo vl W)(hko:K.Ok)(K4:K.LB=w.heap.size)(hb2:Kq S w K.W)(hF:K.W.heap[w.heap.size+1]?=some nG):Fin S w o r vo vl (set2 (W.setCell ⟨w.heap.size,0,none⟩ vl) (w.heap.size+1) (.int .i64 0) (.int .i64 0)).drew:=by
 obtain⟨k1,k2,k3,k4,k5⟩:=hko;have hl:=gK hF;have hf:=h.fault K4 hF;have hx:=h.box;rw[K4] at hx;obtain⟨z0,z1,z2⟩:=ends hx hf (by omega) vl (.int .i64 0) (.int .i64 0);have hbW:Kq S w W:=⟨h.kp.os.trans hb2.os,h.kp.tape.trans hb2.tape,h.kp.output.trans hb2.output,Nat.le_trans hb2.size h.kp.size,fun k hk hS=>(h.kp.block k (by omega) (by omega)).trans (hb2.block k hk hS)⟩;refine⟨z0,z1,z2,((hbW.set (Nat.le_refl _) 0 vl).set2 (by omega) _ _).drew,?_,?_⟩
 ·exact Us (Ut (Uu (h.order.kept (rf W w.heap.size 0 vl) (own_ne h.order (by omega))) (by omega) _ _)) (by omega)
 ·exact Us (Ut (Uu (h.left.kept (rf W w.heap.size 0 vl) (own_ne h.left (by omega))) (by omega) _ _)) (by omega)
theorem afy (S:Nat→Prop)(ks:List (Int × ByteArray))(a:Option Addr)(c:Nat)(r:Except (Int × Int) (List Ed))(w:World)(hl:ks.length≤1000000)
  (hE:Calls Tryz.prog 23 #[.slice a ks.length c] (entry w) fun e w1=>Ul S ks a r w (entry w) e w1) :
  Calls Tryz.prog 9 #[.slice a ks.length c] w fun e w'=>Um S ks r w e w':=by
 obtain⟨W0,hW0⟩:∃ W0,W0=entry w:=⟨_,rfl⟩;have HW0:Hd (W0=_):=hW0;have HB0:Hd (Kq S w W0):=by rw[hW0];exact (Kq.alloc ⟨rfl,rfl,rfl,Nat.le_refl _,fun _ _ _=>rfl⟩ _).alloc _
 have ry:Hd (W0.heap.size=w.heap.size+2):=by rw[hW0];unfold entry;simp[Hd]
 have K5:Hd (W0.heap[w.heap.size]?=some (sV (.slice none 0 0))):=by rw[hW0];exact (Below.heap_alloc _ _ _ (by simp)).trans (heap_alloc_new _ _)
 have aM:Hd (W0.heap[w.heap.size+1]?=some nG):=by
  rw[hW0];have:=heap_alloc_new (w.alloc (sV (.slice none 0 0))) nG;rw[World.size_alloc] at this;exact this
 unfold entry at HW0;rw[← hW0] at hE;clear hW0;go_enter Tryz.func9,Tryz.ntmps9
 go_wp2_with fail
 rw[← HW0.out];refine hE.mono ?_;rintro e w1 ⟨hb1,hr1⟩;have hk1:=fun k h1 h2=>hb1.block k h2 (.inl h1);have HA1:Hd (w1.heap[w.heap.size]?=some (sV (.slice none 0 0))):=(hk1 _ (by omega) (gK K5.out)).trans K5.out;have hF1:w1.heap[w.heap.size+1]?=some nG:=(hk1 _ (by omega) (gK aM.out)).trans aM.out;have HB1:Hd (Kq S w w1):=HB0.out.trans hb1 fun _=>.inr;obtain⟨f0,f1,Cf,Cg⟩:=two hF1;clear hk1 hb1 HB0 K5 aM ry HW0 hE;cases r with
 | error x =>
  obtain⟨hx,rfl⟩:=hr1;obtain⟨x1,x2⟩:=x;dsimp only at hx ⊢;have e0:(x1 != 0)=true:=by simpa using hx
  obtain⟨W2,hW2⟩:∃ W2,W2=set2 w1 (w.heap.size+1) (.int .i64 x1) (.int .i64 x2):=⟨_,rfl⟩;have HB2:Hd (Kq S w W2):=by rw[hW2];exact HB1.out.set2 (by omega) _ _
  have HA2:Hd (W2.heap[w.heap.size]?=some (sV (.slice none 0 0))):=by rw[hW2];exact (Ce (by omega) _ _).trans HA1.out
  have bQ:Hd (W2.heap[w.heap.size+1]?=some (.cells #[.int .i64 x1,.int .i64 x2] 46 (0,0))):=by rw[hW2];exact K3 hF1 _ _
  have HW2:Hd (W2=_):=hW2;clear hW2 hF1 HA1 HB1 hx;go_upto_region 2 with fail
  unfold set2 at HW2;rw[← HW2.out];clear f0 f1 Cf Cg HW2;obtain⟨f0,f1,Cf,Cg⟩:=two bQ.out;obtain⟨o0,dU⟩:=one HA2.out;have HZ:=hd (ends HA2.out bQ.out (by omega) (.slice none 0 0) (.int .i64 x1) (.int .i64 x2));have HB3:Hd (Kq S w (set2 (W2.setCell ⟨w.heap.size,0,none⟩ (.slice none 0 0)) (w.heap.size+1) (.int .i64 x1) (.int .i64 x2)).drew):=((HB2.out.set (Nat.le_refl _) 0 (.slice none 0 0)).set2 (by omega) _ _).drew;unfold set2 at HZ HB3;clear HB2 HA2 bQ;go_wp2
  go_region
  generalize (((W2.setCell ⟨w.heap.size,0,none⟩ (.slice none 0 0)).setCell ⟨w.heap.size+1,0,none⟩ (.int .i64 x1)).setCell ⟨w.heap.size+1,1,none⟩ (.int .i64 x2)).drew=W9 at *;obtain⟨z0,z1,z2⟩:=HZ.out;go_wp2
  exact bodyPost_ret (v:=.tuple #[.slice none 0 0,.slice none 0 0,.agg #[.int .i64 x1,.int .i64 x2]]) (by simp[results,Tryz.results9,go_sem,z0,z1,z2]) rfl ⟨HB3.out,rfl⟩
 | ok es =>
  obtain⟨hD1,hes,ea,ec,rfl,hE1⟩:=hr1;have e0:((0:Int) != 0)=false:=rfl;obtain⟨W2,hW2⟩:∃ W2,W2=set2 w1 (w.heap.size+1) (.int .i64 0) (.int .i64 0):=⟨_,rfl⟩;have HB2:Hd (Kq S w W2):=by rw[hW2];exact HB1.out.set2 (by omega) _ _
  have HA2:Hd (W2.heap[w.heap.size]?=some (sV (.slice none 0 0))):=by rw[hW2];exact (Ce (by omega) _ _).trans HA1.out
  have bQ:Hd (W2.heap[w.heap.size+1]?=some nG):=by rw[hW2];exact K3 hF1 _ _
  have hnf:∀ (o:Nat) (d:ByteArray),w1.cell? ⟨w.heap.size+1,o,none⟩≠some (.string d):=by
   intro o d h;rcases o with _ | _ | o<;>simp[World.cell?,hF1] at h
  have hna:∀ (o:Nat) (d:ByteArray),w1.cell? ⟨w.heap.size,o,none⟩≠some (.string d):=by
   intro o d h;rcases o with _ | o<;>simp[World.cell?,HA1.out] at h
  have HD2:Hd (pO W2 ks a):=by
   rw[hW2];refine hD1.same (Nat.le_of_eq (Uo _ _ _ _).symm) fun b _=>?_;by_cases e:b=w.heap.size+1
   ·subst e;exact .inr hnf
   ·exact .inl (Ce e _ _)
  have HE2:Hd (Cb (fun b=>b<W2.heap.size∧b≠w.heap.size) W2 es ea):=by
   rw[hW2];refine hE1.keep fun b hb ⟨o,d,hd⟩=>⟨Ce (fun e=>?_) _ _,by rw[Uo];exact hb,fun e=>?_⟩
   ·subst e;exact hnf _ _ hd
   ·subst e;exact hna _ _ hd
  have HW2:Hd (W2=_):=hW2;have K6:=hd hes;clear hW2 hF1 HA1 HB1 hD1 hE1 hnf hna hes;go_upto_region 2 with fail
  unfold set2 at HW2;rw[← HW2.out];clear f0 f1 Cf Cg HW2;obtain⟨f0,f1,Cf,Cg⟩:=two bQ.out;have hmm:∀ w:World,(Instr.makeMap 77 Option.none).run Tryz.prog w=.ok (.map (some w.heap.size)) (w.alloc (.map #[] 0)):=fun _=>rfl;have hz:∀ w,(zeroValue 3).run Tryz.prog w=.ok (.int .i64 0) w:=fun w=>by kernel_rfl
  obtain⟨W4,gp⟩:∃ W4,W4=(W2.alloc (.map #[] 0)).alloc (yD W2.heap.size):=⟨_,rfl⟩;have jR:Hd (W2.grownBy W4 none):=by rw[gp];exact gtr (mF _ _) (mF _ _)
  have Uv:Hd (dz W4 W2.heap.size fun _=>0):=by rw[gp];exact (dz.new W2).grow (mF _ _) (by simp)
  have Ch:Hd (W4.heap[W2.heap.size+1]?=some (yD W2.heap.size)):=by
   rw[gp];have:=heap_alloc_new (W2.alloc (.map #[] 0)) (yD W2.heap.size);rw[World.size_alloc] at this;exact this
  have ll:Hd (W4=_):=gp;obtain⟨N,hN⟩:∃ N,N=es.length:=⟨_,rfl⟩;have HN:Hd (N=es.length):=hN;have hN9:N≤1000000:=by rw[hN];exact K6.out
  rw[← hN];clear gp hN;go_upto_region 5 with fail
  rw[← ll.out];clear f0 f1 Cf Cg ll;go_wp2
  go_loopw [25] (fun q wr=>∃ j:Nat,q=.int .i64 j∧j≤N∧Hd (dz wr W2.heap.size (adds (es.take j) fun _=>0))∧Hd (W4.grownBy wr (some W2.heap.size))) (fun q _=>N - (intOf q).toNat)
  case atStart=>exact⟨0,rfl,Nat.zero_le _,Uv.out,KW _ _⟩
  case round =>
   obtain⟨j,rfl,hj,HM,HG⟩:=hrel;have yF:Hd (W2.grownBy wr none):=Ud jR.out HG.out (Nat.le_refl _);have Uw:Hd (wr.heap[W2.heap.size+1]?=some (yD W2.heap.size)):=(HG.out.block _ (gK Ch.out) (by simp)).trans Ch.out;by_cases hlt:j<N
   ·have hj1:j<es.length:=by rw[← HN.out];exact hlt
    obtain⟨e,he⟩:∃ e,es[j]?=some e:=⟨_,List.getElem?_eq_getElem hj1⟩;obtain⟨b,off,rfl,⟨hb,_⟩,k0,k1,k2⟩:=(HE2.out.keep (S':=fun _=>True) fun b hb _=>⟨yF.out.block b hb.1 (by simp),trivial⟩) j e he;have hjp:(j:Int)<(N:Int):=by omega
    have HJ:Hd (j+1≤N):=hlt;obtain⟨W5,fA⟩:∃ W5,W5=wr.alloc (.cells #[.string e.1,.string e.2.1,.string e.2.2] 79):=⟨_,rfl⟩;have K7:W4.grownBy W5 (some W2.heap.size):=by rw[fA];exact gtr HG.out (afh (mF _ _))
    have K8:dz W5 W2.heap.size (adds (es.take j) fun _=>0):=by rw[fA];exact HM.out.grow (mF _ _) (by simp)
    obtain⟨c0,_⟩:=one ((K7.block _ (gK Ch.out) (by simp)).trans Ch.out);obtain⟨q,hq⟩:∃ q,q=adds (es.take j) (fun _=>0) e.2.2:=⟨_,rfl⟩;have Ca:-1000000≤q∧q≤1000000:=by
     have h1:=jr.adds (m:=0) (es.take j) (L:=fun _=>0) (fun x=>by simp) e.2.2;have h2:(es.take j).length≤N:=by simp;omega
     rw[← hq] at h1;omega
    have hL:=dz.look Tryz.underlying77 Tryz.underlying9 K8 e.2.2 (hz _);obtain⟨w6,hup,Ux,Ct⟩:=dz.up Tryz.underlying77 Tryz.underlying9 K8 e.2.2 1;rw[← hq] at hL hup;have Ie:Hd (dz w6 W2.heap.size (adds (es.take (j+1)) fun _=>0)):=by rw[afa es j e he];exact Ux
    have HG6:Hd (W4.grownBy w6 (some W2.heap.size)):=gtr K7 Ct;subst fA;clear K8 Ux Ct K7 hq he;go_wp2
    go_roundw
    case rel=>exact⟨j+1,by go_num,HJ.out,Ie,HG6⟩
    case measure=>have:=HJ.out;simp[intOf];omega
   ·have Uy:Hd (dz wr W2.heap.size (adds es fun _=>0)):=by
     have h1:=HM.out;rw[List.take_of_length_le (by have:=HN.out;omega)] at h1;exact h1
    have hjp:¬ (j:Int)<(N:Int):=by omega
    have Uz:=hd (HD2.out.grow yF.out);have um:∀ (fn:Fn) (first cap:Array Value) (w:World),(Instr.makeFunc fn first cap).run Tryz.prog w=.ok (.func fn first cap) w:=fun _ _ _ _=>rfl;clear HM HG Uv jR Ch hlt;go_wp2_with fail
    refine (Av ks a c wr Uz hl).mono ?_;rintro e w5 ⟨v,rfl,hg5,Fj⟩;obtain⟨T,hT⟩:∃ T,T=tasks ks:=⟨_,rfl⟩;rw[← hT] at Fj;have Ap:T.length≤1000000:=by rw[hT];have:=Ub ks;omega
    obtain⟨hko,hst⟩:=St.begin Uy.out HA2.out Uw.out yF.out hg5 Fj;obtain⟨la,lc,rfl⟩:=dR Fj;obtain⟨x0,K9⟩:=one (((hg5.block _ (Nat.lt_of_lt_of_le (gK HA2.out) yF.out.size) (by simp)).trans (yF.out.block _ (gK HA2.out) (by simp))).trans HA2.out);have HT:=hd hT;have qG:=hd Ap;clear hg5 Fj Uz HD2 Uw Uy yF HA2 hT Ap;obtain⟨K,hK⟩:∃ K,K=kx W2 w.heap.size wr.heap.size w5.heap.size:=⟨_,rfl⟩;have jP:Hd (K.LB=w.heap.size∧K.C=W2.heap.size+1∧K.M=W2.heap.size):=by rw[hK];exact⟨rfl,rfl,rfl⟩
    have Ac:Hd (K.W=W2):=by rw[hK];rfl
    rw[← hK] at hko hst;have Ci:=hd hko;have HST:=hd hst;have hcs:=hst.at jP.out;obtain⟨y0,_,y1⟩:=hcs;have Cj:=hst.map jP.out;have Ck:=hd hst.left;clear hK hko hst;go_wp2_with fail
    refine (iN _ T _ w.heap.size (W2.heap.size+1) W2.heap.size _ _ Ck y0 y1 Cj qG.out).mono ?_;rintro e w6 ⟨rfl,rfl⟩;generalize w5.setCell ⟨w.heap.size,0,none⟩ (.slice la T.length lc)=W6 at *;clear y0 y1 Cj Ck x0 K9;go_wp2_with fail
    go_loopw [2,10] (fun s q wr=>∃ (f:Nat) (L:Lk) (o r:List ByteArray) (oa la:Option Addr) (oc lc:Nat),s=.slice oa o.length oc∧q=.int .i64 (pos (next L r))∧r.length≤f∧o.length+r.length=T.length∧Hd (go es f L o r=order es T)∧Hd (jr (1000000 * ((o.length:Int)+1)) L)∧Hd (St K L o r (.slice oa o.length oc) (.slice la r.length lc) wr)) (fun s _ _=>T.length - Uk s)
    case atStart =>
     refine⟨T.length,_,[],T,none,la,0,lc,rfl,rfl,Nat.le_refl _,by simp,rfl,?_,HST.out⟩;have h1:=jr.adds (m:=0) es (L:=fun _=>0) (fun x=>by simp);have h2:=K6.out;exact h1.wide (by simp;omega)
    case round =>
     obtain⟨f,L,o,r,oa,UA,oc,rq,rfl,rfl,hf,hsum,uk,Fp,HS⟩:=hrel;cases hn:next L r with
     | none =>
      have hge:pos none<0:=by decide
      have HOR:Hd ((o,r)=order es T):=by rw[← uk.out];exact (FV hn).symm
      have hF2:K.W.heap[w.heap.size+1]?=some nG:=by rw[Ac.out];exact bQ.out
      obtain⟨y0,yf,_⟩:=HS.out.at jP.out;obtain⟨g0,g1,gf0,gf1⟩:=two (HS.out.fault jP.out.1 hF2);have HFin:=hd (HS.out.fin Ci.out jP.out.1 (by rw[Ac.out];exact HB2.out) hF2);unfold set2 at HFin;clear hF2 hn uk Fp HS;go_wp2_with fail
      go_region
      generalize (((wr.setCell ⟨w.heap.size,0,none⟩ (.slice UA r.length rq)).setCell ⟨w.heap.size+1,0,none⟩ (.int .i64 0)).setCell ⟨w.heap.size+1,1,none⟩ (.int .i64 0)).drew=W9 at *;obtain⟨z0,z1,z2,zb,zo,zl⟩:=HFin.out;go_wp2
      refine bodyPost_ret (v:=.tuple #[.slice oa o.length oc,.slice UA r.length rq,.agg #[.int .i64 0,.int .i64 0]]) (by simp[results,Tryz.results9,go_sem,z0,z1,z2]) rfl ⟨zb,_,_,rfl,?_⟩;rw[← HT.out,← HOR.out];exact⟨zo,zl⟩
     | some i =>
      obtain⟨hi,hL0,hri⟩:=afc hn;rw[show pos (some i)=(i:Int) from rfl];obtain⟨y0,yf,y1⟩:=HS.out.at jP.out;obtain⟨g,rfl,hcell⟩:=Fg HS.out.left hi;have Nf:(i:Int)<(r.length:Int):=by omega
      obtain⟨f',rfl⟩:∃ f',f=f'+1:=⟨f - 1,by omega⟩;have UC:Hd (go es f' (il (nm r i) es L) (o++[nm r i]) (r.eraseIdx i)=order es T):=by
       have h1:=uk.out;rw[go,hn] at h1;exact h1
      have HO:=hd (HS.out.order.alloc (.cells #[.string (nm r i)] 9));have HOl:Hd (o.length≤1000000):=by have:=qG.out;unfold Hd;omega
      have afE:=hd (Nat.le_trans HS.out.big (mF wr (.cells #[.string (nm r i)] 9)).size);clear hn hL0 hri;go_wp2_with (at_builtin;go_loud (refine Ui rfl _ _ rfl K.BO _ o rfl HO.out _ (nm r i) rfl (by simp) HOl.out afE.out ?_);intro v3 w3 ho3 hg3;have La:=hd ((HS.out.grow (mF _ _)).afv Ci.out ho3 hg3);obtain⟨yG,yH,hv3⟩:=dR ho3;subst hv3;clear ho3 hg3)
      have bI:Hd (nm r i=nm r i):=rfl;obtain⟨nn,hnn⟩:∃ nn,nn=nm r i:=⟨_,rfl⟩;have bE:Hd (nn=nm r i):=hnn;rw[← hnn] at UC La hcell;clear hnn bI y0 yf y1;go_loopw [53] (fun q wr=>∃ j:Nat,q=.int .i64 j∧j≤N∧Hd (St K (il nn (es.take j) L) (o++[nn]) r (.slice yG (o++[nn]).length yH) (.slice (some ⟨g,0,none⟩) r.length rq) wr)) (fun q _=>N - (intOf q).toNat)
      case atStart=>exact⟨0,rfl,Nat.zero_le _,La.out⟩
      case round =>
       obtain⟨j,rfl,hj,Fq⟩:=hrel;by_cases hlt:j<N
       ·have hj1:j<es.length:=by rw[← HN.out];exact hlt
        obtain⟨e,he⟩:∃ e,es[j]?=some e:=⟨_,List.getElem?_eq_getElem hj1⟩;have hkb:=Fq.out.kp.block;rw[Ac.out,jP.out.1] at hkb;obtain⟨b,off,rfl,⟨hb,_⟩,k0,k1,k2⟩:=(HE2.out.keep (S':=fun _=>True) fun b hb _=>⟨hkb b hb.1 hb.2,trivial⟩) j e he;have hjp:(j:Int)<(N:Int):=by omega
        have HJ:Hd (j+1≤N):=hlt;obtain⟨W7,Fs⟩:∃ W7,W7=wr.alloc (.cells #[.string e.1,.string e.2.1,.string e.2.2] 79):=⟨_,rfl⟩;have Fu:Hd (St K (il nn (es.take j) L) (o++[nn]) r (.slice yG (o++[nn]).length yH) (.slice (some ⟨g,0,none⟩) r.length rq) W7):=by rw[Fs];exact Fq.out.grow (mF _ _)
        have UD:W7.heap[wr.heap.size]?=some (.cells #[.string e.1,.string e.2.1,.string e.2.2] 79):=by rw[Fs];exact heap_alloc_new _ _
        have Fv:Hd (il nn (es.take (j+1)) L=if e.2.1=nn then bump (il nn (es.take j) L) e.2.2 (-1) else il nn (es.take j) L):=afb nn es j e he L;have UE:Hd (W7=_):=Fs;clear Fs he;go_upto_region 19 with fail
        rw[← UE.out];clear UE;obtain⟨x0,x1,x2⟩:=three UD;obtain⟨y0,yf,y1⟩:=Fu.out.at jP.out;have hgi:=Ur Fu.out.left hi;rw[← bE.out] at hgi;clear k0 k1 k2 hkb UD;go_region
        have hdr:W7.drew.cell?=W7.cell?:=rfl;have Cm:=hd Fu.out.drew;rw[← hdr] at x0 x1 x2 y0 y1 hgi;generalize W7.drew=W8 at *;clear hdr Fu x0 x1 hgi y0 yf;by_cases hfe:e.2.1=nn
        ·have ee:(e.2.1.toList==nn.toList)=true:=by rw[Uq];simp[hfe]
         obtain⟨q,hq⟩:∃ q,q=il nn (es.take j) L e.2.2:=⟨_,rfl⟩;rw[ee];have Ca:-10000000000000≤q∧q≤10000000000000:=by
          have h1:=jr.il nn (es.take j) Fp.out e.2.2;have h2:(es.take j).length≤N:=by simp;omega
          have h3:=qG.out;rw[← hq] at h1;omega
         have Lc:=Cm.out.map jP.out;have hL:=dz.look Tryz.underlying77 Tryz.underlying9 Lc.out e.2.2 (hz _);obtain⟨w9,hup,UF,yI⟩:=dz.up Tryz.underlying77 Tryz.underlying9 Lc.out e.2.2 (-1);rw[← hq] at hL hup;rw[show q+-1=q - 1 from rfl] at hup;have pQ:Hd (St K (il nn (es.take (j+1)) L) (o++[nn]) r (.slice yG (o++[nn]).length yH) (.slice (some ⟨g,0,none⟩) r.length rq) w9):=by
          rw[Fv.out,if_pos hfe];exact Cm.out.afu Ci.out (by rw[jP.out.2.2];exact UF) (by rw[jP.out.2.2];exact yI)
         clear Lc UF yI hq Fv Cm ee;go_wp2
         go_roundw
         case rel=>exact⟨j+1,by go_num,HJ.out,pQ⟩
         case measure=>have:=HJ.out;simp[intOf];omega
        ·have ee:(e.2.1.toList==nn.toList)=false:=by rw[Uq];simp[hfe]
         rw[ee];have pQ:Hd (St K (il nn (es.take (j+1)) L) (o++[nn]) r (.slice yG (o++[nn]).length yH) (.slice (some ⟨g,0,none⟩) r.length rq) W8):=by
          rw[Fv.out,if_neg hfe];exact Cm.out
         clear Fv Cm ee;go_wp2
         go_roundw
         case rel=>exact⟨j+1,by go_num,HJ.out,pQ⟩
         case measure=>have:=HJ.out;simp[intOf];omega
       ·have pQ:Hd (St K (il nn es L) (o++[nn]) r (.slice yG (o++[nn]).length yH) (.slice (some ⟨g,0,none⟩) r.length rq) wr):=by
         have h1:=Fq.out;rw[List.take_of_length_le (by have:=HN.out;omega)] at h1;exact h1
        have hjp:¬ (j:Int)<(N:Int):=by omega
        obtain⟨y0,yf,y1⟩:=pQ.out.at jP.out;have hi9:(i:Int)+1≤9223372036854775807:=by have:=qG.out;omega
        have UG:=afk K.BL (.slice (some ⟨g,0,none⟩) r.length rq) r i wr pQ.out.left hi;clear Fq La HO HS;go_wp2_with fail
        refine UG.mono ?_;rintro e w9 ⟨v9,rfl,UH,Ld,yI⟩;have yJ:=pQ.out.afw Ci.out Ld UH yI;rw[jP.out.1] at yJ;obtain⟨UI,UJ,rfl⟩:=dR Ld;have HSa:=hd yJ;have Fw:=pQ.out.box;rw[jP.out.1] at Fw;have hne:some w.heap.size≠(Value.slice (some ⟨g,0,none⟩) r.length rq).ownBlock:=fun e=>by
         have h1:=(pQ.out.left.lt _ e.symm).1;have h2:=Ci.out;have h3:=h2.lb;have h4:=h2.m;have h5:=h2.c;have h6:=h2.bl;rw[jP.out.1] at h3;omega
        obtain⟨x0,K9⟩:=one ((yI.block _ (gK Fw) hne).trans Fw);obtain⟨y0,_,y1⟩:=yJ.at jP.out;have Cj:=yJ.map jP.out;have Ck:=hd yJ.left;have HLl:Hd ((r.eraseIdx i).length≤1000000):=by have:=qG.out;have h1:(r.eraseIdx i).length≤r.length:=List.length_eraseIdx_le _ _;unfold Hd;omega
        have hlen:(r.eraseIdx i).length=r.length - 1:=by rw[List.length_eraseIdx,if_pos hi]
        have afH:(o++[nn]).length+(r.eraseIdx i).length=T.length:=by rw[hlen];simp;omega
        have hf9:(r.eraseIdx i).length≤f':=by omega
        have ahI:o.length<T.length:=by omega
        have afJ:Hd (jr (1000000 * (((o++[nn]).length:Int)+1)) (il nn es L)):=by
         have h1:=Fp.out.il nn es;have h2:=K6.out;exact h1.wide (by simp;omega)
        clear yJ Ld yI hne Fw UG UH pQ Fp hsum hf yf hlen;generalize r.eraseIdx i=R at *;go_wp2_with fail
        refine (iN _ R _ w.heap.size (W2.heap.size+1) W2.heap.size _ _ Ck y0 y1 Cj HLl.out).mono ?_;rintro e w10 ⟨rfl,rfl⟩;generalize w9.setCell ⟨w.heap.size,0,none⟩ (.slice UI R.length UJ)=W10 at *;clear y0 y1 Cj Ck x0 K9;go_wp2_with fail
        go_roundw
        case rel=>exact⟨f',_,o++[nn],R,yG,UI,yH,UJ,by simp,rfl,hf9,afH,UC,afJ,HSa⟩
        case measure=>simp[Uk];omega
end Gr
namespace Xe
noncomputable section
def sW:Value→Bool
 | .int .i64 _=>true
 | _=>false
def oD:Value→Bool
 | .string _=>true
 | _=>false
def yK:Value→Bool
 | .slice _ _ _=>true
 | _=>false
def Fx:List (Int × List UInt8)→List Value→Bool
 | [],[]=>true
 | d :: ks,k :: s :: v2 :: v3 :: v4 :: v5 :: v6 :: v7 :: v8 :: r=>qR k (iv d.1) && (qR s (sv d.2) && (sW v2 && (oD v3 && (sW v4 && (oD v5 && (sW v6 && (yK v7 && (yK v8 && Fx ks r))))))))
 | _,_=>false
def Cn (s:S)(v:Value)(ks:List (Int × List UInt8)):Bool:=match v with
 | .slice (some a) n' _=>Nat.beq ks.length n' && (match oo s.h a (Nat.mul ks.length 9) with | some r=>Fx ks r | none=>false)
 | _=>false
def UK:ByteArray:=⟨#[98,111,120,32,98,32,110,117,109,32,49,32,59,32,116,97,115,107,32,99,32,123,32,111,117,116,32,114,101,99,118,32,40,32,98,32,41,32,59,32,125,32,116,97,115,107,32,97,32,123,32,115,101,110,100,32,98,32,55,32,59,32,125]⟩
def Le:List Value:=[sv [98],sv [97],sv [99]]
def yL:List (Int × List UInt8):=[(1,[98]),(4,[99]),(4,[97])]
def afK:Bool:=told (Fe 8 [.string UK] s0) fun l s=>told (Fe 23 [l] s) fun o s2=>isRow s2 o 1 3 Le && Cn s2 l yL
end
set_option maxRecDepth 1000000 in
theorem afL:afK=true:=by kernel_rfl
theorem Lf {v:Value}(h:sW v=true):∃ n,v=.int .i64 n:=by
 unfold sW at h;split at h
 ·exact⟨_,rfl⟩
 ·cases h
theorem UL {v:Value}(h:oD v=true):∃ s,v=.string s:=by
 unfold oD at h;split at h
 ·exact⟨_,rfl⟩
 ·cases h
theorem UM {v:Value}(h:yK v=true):∃ a n c,v=.slice a n c:=by
 unfold yK at h;split at h
 ·exact⟨_,_,_,rfl⟩
 ·cases h
theorem Lg {φ:Ph}{s:ByteArray}{u:Value}(h:V1 φ (.string s) u):u=.string s:=by
 rcases h with h | ⟨_,_,_,_,_,h,_⟩
 ·exact h
 ·cases h
theorem UN {φ:Ph}{a:Option Addr}{n c:Nat}{u:Value}(h:V1 φ (.slice a n c) u):∃ a' n' c',u=.slice a' n' c':=by
 rcases h with h | ⟨_,_,_,_,_,h,_⟩
 ·cases a with
  | none=>exact⟨_,_,_,h.2⟩
  | some a=>obtain⟨a',c',h,_⟩:=h;exact⟨_,_,_,h⟩
 ·cases h
def yM (ks:List (Int × List UInt8)):List (Int × ByteArray):=ks.map fun d=>(d.1,⟨⟨d.2⟩⟩)
theorem UO:∀ {ks:List (Int × List UInt8)} {l:List Value},Fx ks l=true→∀ (j:Nat) d,ks[j]?=some d→∃ (k2 k4 k6:Int) (s3 s5:ByteArray) (a7 a8:Option Addr) (n7 c7 n8 c8:Nat),
  l[j * 9]?=some (iv d.1)∧l[j * 9+1]?=some (sv d.2)∧l[j * 9+2]?=some (.int .i64 k2)∧l[j * 9+3]?=some (.string s3)∧l[j * 9+4]?=some (.int .i64 k4)∧l[j * 9+5]?=some (.string s5)∧l[j * 9+6]?=some (.int .i64 k6)∧l[j * 9+7]?=some (.slice a7 n7 c7)∧l[j * 9+8]?=some (.slice a8 n8 c8)
 | [],_,_,j,d,hd=>by simp at hd
 | e :: ks,l,h,j,d,hd=>by
  rcases l with _ | ⟨k,_ | ⟨s,_ | ⟨v2,_ | ⟨v3,_ | ⟨v4,_ | ⟨v5,_ | ⟨v6,_ | ⟨v7,_ | ⟨v8,r⟩⟩⟩⟩⟩⟩⟩⟩⟩;all_goals try (cases h;done)
  have h':(qR k (iv e.1) && (qR s (sv e.2) && (sW v2 && (oD v3 && (sW v4 && (oD v5 && (sW v6 && (yK v7 && (yK v8 && Fx ks r)))))))))=true:=h;simp only[Bool.and_eq_true] at h';obtain⟨g0,g1,g2,g3,g4,g5,g6,g7,g8,h1⟩:=h';cases j with
  | zero =>
   simp at hd;subst hd;obtain⟨k2,rfl⟩:=Lf g2;obtain⟨s3,rfl⟩:=UL g3;obtain⟨k4,rfl⟩:=Lf g4;obtain⟨s5,rfl⟩:=UL g5;obtain⟨k6,rfl⟩:=Lf g6;obtain⟨a7,n7,c7,rfl⟩:=UM g7;obtain⟨a8,n8,c8,rfl⟩:=UM g8;exact⟨k2,k4,k6,s3,s5,a7,a8,n7,c7,n8,c8,by rw[← BK g0];rfl,by rw[← BK g1];rfl,rfl,rfl,rfl,rfl,rfl,rfl,rfl⟩
  | succ j =>
   obtain⟨k2,k4,k6,s3,s5,a7,a8,n7,c7,n8,c8,z⟩:=UO h1 j d (by simpa using hd);have sh:∀ q,(k :: s :: v2 :: v3 :: v4 :: v5 :: v6 :: v7 :: v8 :: r)[(j+1) * 9+q]?=r[j * 9+q]?:=fun q=>by
    rw[show (j+1) * 9+q=j * 9+q+9 by omega];rfl
   refine⟨k2,k4,k6,s3,s5,a7,a8,n7,c7,n8,c8,?_⟩;rw[show (j+1) * 9=(j+1) * 9+0 from rfl,sh,Nat.add_assoc,Nat.add_assoc,Nat.add_assoc,Nat.add_assoc,Nat.add_assoc,Nat.add_assoc,Nat.add_assoc,Nat.add_assoc,sh,sh,sh,sh,sh,sh,sh,sh];simpa using z
theorem afM {cl:Cl}(hcl:iK Tryz.prog cl){f:FuncId}{args:List Value}{v:Value}{s s':S}(hr:cl f args s=some (v,s')){φ:Ph}{w:World}(hS:dG φ s w){B:Nat}(hB:∀ x g,3≤x→φ x=some g→B≤g.b)(hw:B≤w.heap.size)(args':Array Value)(ha:L (V φ) args args'.toList) :
  Calls Tryz.prog f args' w fun e w'=>∃ φ' v',e=.returned v'∧V φ' v v'∧dG φ' s' w'∧Below B w w'∧Sub φ φ'∧∀ k,k<w.heap.size→(∀ x g,3≤x→φ x=some g→g.b≠k)→w'.heap[k]?=w.heap[k]?:=by
 obtain⟨_,_,hcall⟩:=hcl _ _ _ _ _ hr;refine (hcall φ w args' ha hS).mono ?_;rintro e w' ⟨φ',v',rfl,hV,hP⟩;have keep:∀ k,k<w.heap.size→(∀ x g,3≤x→φ x=some g→g.b≠k)→w'.heap[k]?=w.heap[k]?:=fun k hk hn=>hP.ext.kept k hk fun x g h3 _ h=>hn x g h3 h;exact⟨φ',v',rfl,hV,hP.stt,⟨hP.ext.out.1,hP.ext.out.2.1,hP.ext.out.2.2,hP.ext.size,fun k hk=>keep k (by omega) fun x g h3 h=>by have:=hB x g h3 h;omega⟩,hP.ext.sub,keep⟩
theorem afN {φ φ':Ph}{s:S}{w:World}{v v':Value}{ks:List (Int × List UInt8)}(h:Cn s v ks=true)(hV:V φ v v')(hs:Sub φ φ')(hS:dG φ' s w)(hk:∀ d ∈ ks,d.2.length≤281474976710656) :
  ∃ a c,v'=.slice a ks.length c∧Gr.pO w (yM ks) a:=by
 unfold Cn at h;split at h
 ·rename_i a n' z'
  rw[Bool.and_eq_true] at h;obtain⟨h1,h2⟩:=h;obtain rfl:=Nat.eq_of_beq_eq_true h1;split at h2
  ·rename_i r hr
   obtain⟨a',c,rfl,hSR⟩:=pF hV;have hsp:=(Ew.1 hr).1;rcases hSR with⟨h0,_⟩ | ⟨_,_,g,hg,rfl,_⟩
   ·exact absurd hsp h0
   obtain⟨l',hL,_,hc⟩:=Bv hr hS.rel (a':=⟨g.b,a.off,none⟩) ⟨hsp,g,hs _ _ hg,rfl⟩;have hc':∀ (j:Nat) u,l'[j]?=some u→w.cell? ⟨g.b,a.off+j,none⟩=some u:=fun j u hu=>by
    have:=hc j u hu;rcases j with _ | j<;>simpa[Addr.add] using this
   refine⟨_,c,rfl,fun j d hd=>?_⟩;obtain⟨e,he,rfl⟩:∃ e,ks[j]?=some e∧(e.1,(⟨⟨e.2⟩⟩:ByteArray))=d:=by
    unfold yM at hd;rw[List.getElem?_map] at hd;exact Option.map_eq_some_iff.1 hd
   obtain⟨k2,k4,k6,s3,s5,a7,a8,n7,c7,n8,c8,z0,z1,z2,z3,z4,z5,z6,z7,z8⟩:=UO h2 j e he;have at':∀ {q:Nat} {x:Value},r[q]?=some x→∃ y,V1 φ' x y∧w.cell? ⟨g.b,a.off+q,none⟩=some y:=fun {q x} hq=>by
    obtain⟨y,hy,hv⟩:=hL.at hq;exact⟨y,hv,hc' _ _ hy⟩
   obtain⟨y0,v0,c0⟩:=at' z0;obtain⟨y1,v1,c1⟩:=at' z1;obtain⟨y2,v2,c2⟩:=at' z2;obtain⟨y3,v3,c3⟩:=at' z3;obtain⟨y4,v4,c4⟩:=at' z4;obtain⟨y5,v5,c5⟩:=at' z5;obtain⟨y6,v6,c6⟩:=at' z6;obtain⟨y7,v7,c7'⟩:=at' z7;obtain⟨y8,v8,c8'⟩:=at' z8;obtain rfl:=wJ v0;obtain rfl:=Lg v1;obtain rfl:=wJ v2;obtain rfl:=Lg v3;obtain rfl:=wJ v4;obtain rfl:=Lg v5;obtain rfl:=wJ v6;obtain⟨a7',n7',m7',rfl⟩:=UN v7;obtain⟨a8',n8',m8',rfl⟩:=UN v8;exact⟨hk e (List.mem_of_getElem? he),g.b,a.off,k2,k4,k6,s3,s5,a7',a8',n7',m7',n8',m8',rfl,hS.rel.bnd _ _ (hs _ _ hg),c0,c1,c2,c3,c4,c5,c6,c7',c8'⟩
  ·cases h2
 ·cases h
open Gr in
theorem afT:order [(⟨#[98]⟩,⟨#[97]⟩,⟨#[99]⟩)] (tasks (yM yL))=([⟨#[97]⟩,⟨#[99]⟩],[]):=by decide +kernel
open Gr in
theorem afU (w:World)(hT:Hd (pM w)):Calls Tryz.prog 5 #[] w fun e w'=>e=.returned (.bool true)∧Below w.heap.size w w':=by
 obtain⟨lv,s1,hr1,h1⟩:=T9 afL;obtain⟨ov,s2,hr2,h2⟩:=T9 h1;rw[Bool.and_eq_true] at h2;have HR2:Hd (Fe 23 [lv] s1=_):=hr2;have UQ:Hd (isRow s2 ov 1 3 Le=true):=h2.1;have Lh:Hd (Cn s2 lv yL=true):=h2.2;have hc1:=ae9 TZ hr1 w hT.out #[.string UK] ⟨.dU rfl,trivial⟩;clear h1 h2 hr2 hr1;go_enter Tryz.func5,Tryz.ntmps5
 go_wp2_with fail
 refine hc1.mono ?_;rintro e w1 ⟨φ1,v1,rfl,hV1,hS1,hB1,hn1⟩;obtain⟨l',rfl,Fy⟩:=Ua hV1;obtain⟨la,lc,rfl⟩:∃ a c,l'=.slice a 3 c:=by
  have h:=Lh.out;unfold Cn at h;split at h
  ·rename_i a n' z'
   rw[Bool.and_eq_true] at h;obtain rfl:=Nat.eq_of_beq_eq_true h.1;obtain⟨a',c,rfl,_⟩:=pF Fy;exact⟨_,_,rfl⟩
  ·cases h
 obtain⟨W,hW⟩:∃ W,W=w1.alloc nG:=⟨_,rfl⟩;have iA:Hd (dG φ1 s1 (entry W)):=by rw[hW];exact ((hS1.alloc _).alloc _).alloc _
 have HB1:Hd (Below w.heap.size w W):=by rw[hW];exact hB1.alloc hB1.size _
 have aG:Hd (W.heap[w1.heap.size]?=some nG):=by rw[hW];exact heap_alloc_new _ _
 have HN:Hd (∀ x g,3≤x→φ1 x=some g→g.b<w1.heap.size):=fun x g _ hg=>hS1.rel.bnd x g hg;have HWs:Hd (w1.heap.size<W.heap.size):=by rw[hW];simp[Hd]
 have UR:w.heap.size≤(entry W).heap.size:=by have:=HB1.out.size;unfold entry;simp;omega
 have hE:Calls Tryz.prog 23 #[.slice la 3 lc] (entry W) fun e w'=>Ul (fun k=>k<w.heap.size∨k=w1.heap.size) (yM yL) la (.ok [(⟨#[98]⟩,⟨#[97]⟩,⟨#[99]⟩)]) W (entry W) e w':=by
  refine (afM TZ HR2.out iA.out hn1 UR #[.slice la 3 lc] ⟨Fy,trivial⟩).mono ?_;rintro e w2 ⟨φ2,v2,rfl,hV2,hS2,hB2,hsub,hk2⟩;obtain⟨o',rfl,hVo⟩:=Ua hV2;obtain⟨b,off,c,rfl,hcell⟩:=ae8 UQ.out (by intro u hu;simp[Le] at hu;rcases hu with rfl | rfl | rfl<;>exact .inr ⟨_,rfl⟩) hVo hS2;obtain⟨a',c',he,hd⟩:=afN Lh.out Fy hsub hS2 (by decide);cases he;refine⟨⟨hB2.os,hB2.tape,hB2.output,hB2.size,fun k h1 hS=>?_⟩,hd,by simp,_,_,rfl,fun j e he=>?_⟩
  ·by_cases hk:k<w.heap.size
   ·exact hB2.block k hk
   ·have hS':W.heap.size≤k∨k<w.heap.size∨k=w1.heap.size:=hS
    exact hk2 k h1 fun x g h3 hg e=>by have:=HN.out x g h3 hg;have:=HWs.out;omega
  match j,he with
  | 0,he =>
   simp at he;subst he;have x0:w2.cell? ⟨b,off+0,none⟩=some (.string ⟨#[98]⟩):=hcell 0 _ rfl;exact⟨b,off,rfl,World.block_lt_of_cell? w2 _ x0,x0,hcell 1 _ rfl,hcell 2 _ rfl⟩
  | j+1,he=>simp at he
 have hlen:(yM yL).length=3:=rfl;rw[← hlen] at hE;have hO:=afy (fun k=>k<w.heap.size∨k=w1.heap.size) (yM yL) la lc (.ok [(⟨#[98]⟩,⟨#[97]⟩,⟨#[99]⟩)]) W (by decide) hE;rw[hlen] at hO;unfold Um at hO;dsimp only at hO;rw[afT] at hO;clear hV1 Fy hS1 hB1 hc1 hn1 hE UR HR2 UQ Lh iA HN hlen;have HW:Hd (W=_):=hW;clear hW;go_wp2_with fail
 rw[← HW.out];refine hO.mono ?_;rintro e w2 ⟨hb2,vo,vl,rfl,ho,hv⟩;obtain⟨oa,oc,rfl⟩:=dR ho;obtain⟨ea,ec,rfl⟩:=dR hv;obtain⟨g,rfl,c0⟩:=Fg ho (i:=0) (by decide);have c1:=Ur ho (i:=1) (by decide);have hf:w2.heap[w1.heap.size]?=some nG:=(hb2.block _ (gK aG.out) (.inr rfl)).trans aG.out;obtain⟨g',cap,cur,e1,-,hh,-⟩:=KX ho (by decide);cases e1;have hgl:=gK hh;have hfl:=gK hf;obtain⟨f0,-⟩:=two hf;have HB2:Hd (Below w.heap.size w w2):=HB1.out.trans ⟨hb2.os,hb2.tape,hb2.output,hb2.size,fun k hk=>hb2.block k (by have:=HB1.out.size;omega) (.inl hk)⟩;replace c0:w2.cell? ⟨g,0,none⟩=some (.string ⟨#[97]⟩):=c0;replace c1:w2.cell? ⟨g,1,none⟩=some (.string ⟨#[99]⟩):=c1;clear hb2 ho hv hh hf aG HB1;simp only[List.length_cons,List.length_nil,Nat.zero_add];go_wp2
 go_ret
 exact⟨rfl,HB2.out.alloc HB2.out.size _⟩
end Xe
end Go.Proofs.YtfcpglhpolpdcaaGreatDoor
