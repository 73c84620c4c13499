/- A map of who does what with which box;a map of numbers that were seen. -/
import Derived.Test.YtfcpglhpolpdcaaGreatDoorM37
import Derived.MapKept
import Derived.Test.YtfcpglhpolpdcaaGreatDoorM35
import Derived.Test.YtfcpglhpolpdcaaGreatDoorM36
import Derived.Deep.QuietTactic
import Derived.BigQuiet
import Derived.Deep.Cut
import Derived.Test.YtfcpglhpolpdcaaGreatDoorM32
import Derived.Test.YtfcpglhpolpdcaaGreatDoorM27
set_option maxRecDepth 100000
set_option maxHeartbeats 2000000
namespace Go.Proofs.YtfcpglhpolpdcaaGreatDoor
open Go.RowKit
namespace Gr
abbrev lv (k:Int × Int):Value:=.agg #[.int .i64 k.1,.int .i64 k.2]
theorem Tryz.RP:(Tryz.prog.info? 3).map (fun i=>i.size)=some 1:=by kernel_rfl
theorem adu (d:Nat)(x y:Int)(w:World):(Op.equalIn (d+1) 3 (.int .i64 x) (.int .i64 y)).run Tryz.prog w=.ok (x==y) w:=by
 simp[Op.equalIn,run_underlying Tryz.underlying3]
theorem adv (k k':Int × Int)(w:World):(Op.equal 90 (lv k) (lv k')).run Tryz.prog w=.ok (decide (k=k')) w:=by
 have hu:=run_underlying (P:=Tryz.prog) (w:=w) Tryz.underlying90;obtain⟨j,hj,hj2⟩:=Option.map_eq_some_iff.1 Tryz.RP;have p0:∀ (a b:Value) (w:World),(part 3 #[a,b] 0).run Tryz.prog w=.ok a w:=fun _ _ _=>by simp[part,sizeOf,typeInfo,hj,hj2]
 have p1:∀ (a b:Value) (w:World),(part 3 #[a,b] 1).run Tryz.prog w=.ok b w:=fun _ _ _=>by simp[part,sizeOf,typeInfo,hj,hj2]
 have hst:Tryz.prog.stoodInHeld 90=false:=by kernel_rfl
 have h:∀ d:Nat,(Op.equalIn (d+2) 90 (lv k) (lv k')).run Tryz.prog w=.ok (decide (k=k')) w:=fun d=>by
  rw[Op.equalIn];have hp:(Sem.program Sem.pure).run Tryz.prog w=.ok Tryz.prog w:=rfl;simp[hu,program,hp,hst,p0,p1,adu];obtain⟨a,b⟩:=k;obtain⟨a',b'⟩:=k';by_cases ha:a=a'
  ·by_cases hb:b=b'
   ·simp[ha,hb]
   ·simp[ha,hb]
  ·simp[ha]
 exact h 9998
def Bo (Q:Int × Int→Int→Prop)(e:MapEntry):Prop:=∃ k v,e.key=lv k∧e.val=.int .i64 v∧Q k v
theorem asking (Q:Int × Int→Int→Prop)(k:Int × Int):∀ (es:List MapEntry) (i:Nat),(∀ e ∈ es,Bo Q e)→∃ r,(∀ w,(Instr.findAsking 90 (lv k) es i).run Tryz.prog w=.ok r w)∧(r=none∨∃ j e v,r=some (i+j,.int .i64 v)∧es[j]?=some e∧e.key=lv k∧Q k v)
 | [],i,_=>⟨none,fun _=>rfl,.inl rfl⟩
 | ⟨ky,vl,bn⟩ :: es,i,h=>by
  obtain⟨k',v,e1,e2,hq⟩:=h _ List.mem_cons_self;dsimp only at e1 e2;subst e1 e2;have he:=adv k k';by_cases hk:k=k'
  ·subst hk
   refine⟨some (i,.int .i64 v),fun w=>by unfold Instr.findAsking;simp[he],.inr ⟨0,_,v,rfl,rfl,rfl,hq⟩⟩
  ·obtain⟨r,h1,h2⟩:=asking Q k es (i+1) fun e he=>h e (List.mem_cons_of_mem _ he)
   refine⟨r,fun w=>by unfold Instr.findAsking;simp[he,hk,h1],h2.imp id ?_⟩;rintro⟨j,e,v,rfl,h3,h4⟩;exact⟨j+1,e,v,by rw[show i+1+j=i+(j+1) by omega],h3,h4⟩
theorem finding (Q:Int × Int→Int→Prop)(k:Int × Int)(es:List MapEntry)(h:∀ e ∈ es,Bo Q e):∃ r,(∀ w,(Instr.findKey 90 (lv k) es).run Tryz.prog w=.ok r w)∧(r=none∨∃ j e v,r=some (j,.int .i64 v)∧es[j]?=some e∧e.key=lv k∧Q k v):=by
 have hu:=fun w=>run_underlying (P:=Tryz.prog) (w:=w) Tryz.underlying90;cases es with
 | nil=>exact⟨none,fun w=>by simp[Instr.findKey,hu,Instr.findNow],.inl rfl⟩
 | cons e es =>
  obtain⟨r,h1,h2⟩:=asking Q k (e :: es) 0 h;obtain⟨k',v,e1,e2,hq⟩:=h e List.mem_cons_self;obtain⟨ky,vl,bn⟩:=e;dsimp only at e1 e2;subst e1 e2;have hn:∀ fs,Instr.findNow (.struct fs) (lv k) (⟨lv k',.int .i64 v,bn⟩ :: es) 0=none:=fun fs=>by
   unfold Instr.findNow;rfl
  refine⟨r,fun w=>by simp[Instr.findKey,hu,hn,h1],h2.imp id ?_⟩;rintro⟨j,e,v,rfl,h3⟩;exact⟨j,e,v,by rw[Nat.zero_add],h3⟩
theorem Ey (k:Int × Int)(b:Bool)(w:World):(Instr.checkKey b 10000 90 (lv k)).run Tryz.prog w=.ok () w:=by
 have hu:=run_underlying (P:=Tryz.prog) (w:=w) Tryz.underlying90;obtain⟨j,hj,hj2⟩:=Option.map_eq_some_iff.1 Tryz.RP;have p0:∀ (a b:Value) (w:World),(part 3 #[a,b] 0).run Tryz.prog w=.ok a w:=fun _ _ _=>by simp[part,sizeOf,typeInfo,hj,hj2]
 have p1:∀ (a b:Value) (w:World),(part 3 #[a,b] 1).run Tryz.prog w=.ok b w:=fun _ _ _=>by simp[part,sizeOf,typeInfo,hj,hj2]
 have hk:∀ (x:Int),(Instr.checkKey b 9999 3 (.int .i64 x)).run Tryz.prog w=.ok () w:=fun x=>MapKept.run_checkKey (n:=9998) Tryz.underlying3 (by simp[MapKept.IsKey]) b;rw[show (10000:Nat)=9999+1 from rfl,Instr.checkKey];simp[hu,p0,p1,hk]
def gV (Q:Int × Int→Int→Prop)(w:World)(M:Nat):Prop:=∃ es cl,w.heap[M]?=some (.map es cl)∧∀ e ∈ es.toList,Bo Q e
theorem gV.keep {Q:Int × Int→Int→Prop}{w w':World}{M:Nat}(h:gV Q w M)(hM:w'.heap[M]?=w.heap[M]?):gV Q w' M:=by
 obtain⟨es,cl,h1,h2⟩:=h;exact⟨es,cl,hM.trans h1,h2⟩
theorem gV.lt {Q:Int × Int→Int→Prop}{w:World}{M:Nat}(h:gV Q w M):M<w.heap.size:=by
 obtain⟨es,cl,h1,h2⟩:=h;exact bU h1
theorem gV.more {Q Q':Int × Int→Int→Prop}{w:World}{M:Nat}(h:gV Q w M)(hq:∀ k v,Q k v→Q' k v):gV Q' w M:=by
 obtain⟨es,cl,h1,h2⟩:=h;exact⟨es,cl,h1,fun e he=>by obtain⟨k,v,e1,e2,h3⟩:=h2 e he;exact⟨k,v,e1,e2,hq k v h3⟩⟩
theorem gV.look {Q:Int × Int→Int→Prop}{w:World}{M:Nat}(h:gV Q w M)(k:Int × Int):∃ v b,(∀ w':World,w'.heap[M]?=w.heap[M]?→(Instr.lookup 53 (.map (some M)) (lv k) true).run Tryz.prog w'=.ok (.tuple #[.int .i64 v,.bool b]) w')∧(b=true→Q k v):=by
 obtain⟨es,cl,h1,h2⟩:=h;have hg:∀ w':World,w'.heap[M]?=w.heap[M]?→(getObj M).run Tryz.prog w'=.ok (.map es cl) w':=fun w' e=>MapKept.run_getObj_map (e.trans h1);have hu:=fun w=>run_underlying (P:=Tryz.prog) (w:=w) Tryz.underlying53;have hz:∀ w,(zeroValue 3).run Tryz.prog w=.ok (.int .i64 0) w:=fun w=>by kernel_rfl
 obtain⟨r,h3,h4⟩:=finding Q k es.toList h2;rcases h4 with rfl | ⟨j,e,v,rfl,h5,h6,h7⟩
 ·exact⟨0,false,fun w' e=>by simp[Instr.lookup,hu,hg w' e,Ey,h3,hz],fun h=>by cases h⟩
 ·exact⟨v,true,fun w' e=>by simp[Instr.lookup,hu,hg w' e,Ey,h3],fun _=>h7⟩
theorem adw (k:Int × Int):Instr.sameBits 10000 (lv k) (lv k)=true:=by simp[Instr.sameBits]
theorem gV.put {Q Q':Int × Int→Int→Prop}{w:World}{M:Nat}(h:gV Q w M)(k:Int × Int)(v:Int)(hq:∀ k v,Q k v→Q' k v)(hk:Q' k v) :
  ∃ w',(Instr.mapUpdate 53 (.map (some M)) (lv k) (.int .i64 v)).run Tryz.prog w=.ok () w'∧gV Q' w' M∧w.grownBy w' (some M):=by
 obtain⟨es,cl,h1,h2⟩:=h;have hg:(getObj M).run Tryz.prog w=.ok (.map es cl) w:=MapKept.run_getObj_map h1;have hu:=run_underlying (P:=Tryz.prog) (w:=w) Tryz.underlying53;have h2':∀ e ∈ es.toList,Bo Q' e:=fun e he=>by obtain⟨k,v,e1,e2,h3⟩:=h2 e he;exact⟨k,v,e1,e2,hq k v h3⟩
 have fin:∀ es' cl',(∀ e ∈ es'.toList,Bo Q' e)→gV Q' { w with heap:=w.heap.setIfInBounds M (.map es' cl') } M∧w.grownBy { w with heap:=w.heap.setIfInBounds M (.map es' cl') } (some M):=fun es' cl' hE=>by
  obtain⟨m1,m2⟩:=MapKept.heap_set (o':=.map es' cl') h1;exact⟨⟨es',cl',m1,hE⟩,⟨rfl,rfl,rfl,by simp,fun b _ hne=>m2 b (fun e=>hne (by rw[e]))⟩⟩
 obtain⟨r,h3,h4⟩:=finding Q k es.toList h2;rcases h4 with rfl | ⟨j,e,v0,rfl,h5,h6,h7⟩
 ·have hset:=MapKept.run_setObj_map (P:=Tryz.prog) (.map (es.push { key:=lv k,val:=.int .i64 v,born:=cl }) (cl+1)) h1
  exact⟨_,by simp[Instr.mapUpdate,hu,hg,Ey,h3,hset];rfl,fin _ _ (fun e he=>by
   rw[Array.toList_push] at he;rcases List.mem_append.1 he with he | he
   ·exact h2' e he
   ·simp at he;subst he;exact⟨k,v,rfl,rfl,hk⟩)⟩
 ·have hes:es[j]?=some e:=by simpa using h5
  have hst:(Instr.keyThatStays (lv k) (lv k)).run Tryz.prog w=.ok (lv k) w:=by simp[Instr.keyThatStays,adw]
  have hset:=MapKept.run_setObj_map (P:=Tryz.prog) (.map (es.modify j fun e=>{ e with key:=lv k,val:=.int .i64 v }) cl) h1;refine⟨_,by simp[Instr.mapUpdate,hu,hg,Ey,h3,hes,h6,hst,hset];rfl,fin _ _ (fun x hx=>?_)⟩;rw[Array.toList_modify] at hx;obtain⟨i,hi⟩:=List.getElem?_of_mem hx;rw[List.getElem?_modify] at hi;by_cases hij:j=i
  ·subst hij
   rw[h5] at hi;simp at hi;subst hi;exact⟨k,v,rfl,rfl,hk⟩
  ·simp[hij] at hi
   exact h2' x (List.mem_of_getElem? (i:=i) (by simpa using hi))
end Gr
namespace Gr
structure Kx where
 W:World
 LB:Nat
 M:Nat
 C:Nat
 BL:Nat
 BO:Nat
structure Kx.Ok (K:Kx):Prop where
 lb:K.LB<K.W.heap.size
 m:K.W.heap.size≤K.M
 c:K.M<K.C
 bl:K.C<K.BL
 bo:K.BL≤K.BO
abbrev sP (v:Value):Obj:=.cells #[v] 49 (0,0)
abbrev ym (M:Nat):Obj:=.cells #[.map (some M)] 77 (0,0)
structure Kp (K:Kx) (w:World):Prop where
 os:w.os=K.W.os
 tape:w.tape=K.W.tape
 output:w.output=K.W.output
 size:K.W.heap.size≤w.heap.size
 block:∀ k,k<K.W.heap.size→k≠K.LB→w.heap[k]?=K.W.heap[k]?
theorem Kp.grow {K:Kx}{a b:World}{r:Option Nat}(h:Kp K a)(hg:a.grownBy b r)(hr:∀ k,r=some k→k=K.LB∨K.W.heap.size≤k):Kp K b :=
 ⟨hg.os.trans h.os,hg.tape.trans h.tape,hg.output.trans h.output,Nat.le_trans h.size hg.size,fun k hk hn=>(hg.block k (Nat.lt_of_lt_of_le hk h.size) (fun e=>by rcases hr k e.symm with e | e<;>omega)).trans (h.block k hk hn)⟩
structure St (K:Kx) (L:Lk) (o r:List ByteArray) (vo vl:Value) (w:World):Prop where
 kp:Kp K w
 mp:dE w K.M L
 box:w.heap[K.LB]?=some (sP vl)
 cb:w.heap[K.C]?=some (ym K.M)
 left:w.ownsRow K.BL 9 1 vl r.length (strs r)
 order:w.ownsRow K.BO 9 1 vo o.length (strs o)
 low:∀ k,vl.ownBlock=some k→k<K.BO
 big:K.BO≤w.heap.size
variable {K:Kx} {L:Lk} {o r:List ByteArray} {vo vl:Value} {w:World}
theorem St.grow {w':World}(h:St K L o r vo vl w)(hg:w.grownBy w' none):St K L o r vo vl w' :=
 ⟨h.kp.grow hg (by intro k e;cases e),h.mp.grow hg (by simp),(hg.block _ (bU h.box) (by simp)).trans h.box,(hg.block _ (bU h.cb) (by simp)).trans h.cb,yl h.left hg,yl h.order hg,h.low,Nat.le_trans h.big hg.size⟩
theorem own_ne {B e size n g:Nat}{v:Value}{xs:List Value}(h:w.ownsRow B e size v n xs)(hg:g<B):v.ownBlock=none∨v.ownBlock≠some g:=by
 cases hv:v.ownBlock with
 | none=>exact .inl rfl
 | some k=>exact .inr (by have:=(h.lt k hv).1;simp;omega)
theorem St.adx {w':World}{L':Lk}(h:St K L o r vo vl w)(hk:K.Ok)(hm:dE w' K.M L')(hg:w.grownBy w' (some K.M)):St K L' o r vo vl w':=by
 obtain⟨k1,k2,k3,k4,k5⟩:=hk;exact⟨h.kp.grow hg (by intro k e;cases e;exact .inr k2),hm,(hg.block _ (bU h.box) (by simp;omega)).trans h.box,(hg.block _ (bU h.cb) (by simp;omega)).trans h.cb,h.left.kept hg (own_ne h.left (by omega)),h.order.kept hg (own_ne h.order (by omega)),h.low,Nat.le_trans h.big hg.size⟩
theorem St.ady {w':World}{o':List ByteArray}{RQ:Value}(h:St K L o r vo vl w)(hk:K.Ok)(ho:w'.ownsRow K.BO 9 1 RQ o'.length (strs o'))(hg:w.grownBy w' vo.ownBlock):St K L o' r RQ vl w':=by
 obtain⟨k1,k2,k3,k4,k5⟩:=hk;have hne:∀ k,k<K.BO→some k≠vo.ownBlock:=fun k hk e=>by have:=(h.order.lt k e.symm).1;omega
 refine⟨h.kp.grow hg (fun k e=>.inr (by have:=(h.order.lt k e).1;omega)),h.mp.grow hg (hne _ (by omega)),(hg.block _ (bU h.box) (hne _ (by omega))).trans h.box,(hg.block _ (bU h.cb) (hne _ (by omega))).trans h.cb,h.left.kept hg ?_,ho,h.low,Nat.le_trans h.big hg.size⟩;cases hv:vl.ownBlock with
 | none=>exact .inl rfl
 | some k=>exact .inr (hne k (h.low k hv))
theorem Ez {b:Nat}{u:Value}{t:TypeId}(h:w.heap[b]?=some (.cells #[u] t (0,0)))(v:Value):(w.setCell ⟨b,0,none⟩ v).heap[b]?=some (.cells #[v] t (0,0)):=by
 simp only[World.setCell,Array.getElem?_modify,if_true,h,Option.map_some];rfl
theorem St.adz {w':World}{r':List ByteArray}{yn:Value}(h:St K L o r vo vl w)(hk:K.Ok)(hl:w'.ownsRow K.BL 9 1 yn r'.length (strs r'))(hv:yn.ownBlock=vl.ownBlock)(hg:w.grownBy w' vl.ownBlock):St K L o r' vo yn (w'.setCell ⟨K.LB,0,none⟩ yn):=by
 obtain⟨k1,k2,k3,k4,k5⟩:=hk;have hne:∀ k,k<K.BL→some k≠vl.ownBlock:=fun k hk e=>by have:=(h.left.lt k e.symm).1;omega
 have hs:=mI w' K.LB 0 yn;have kp1:=h.kp.grow hg (fun k e=>.inr (by have:=(h.left.lt k e).1;omega));refine⟨kp1.grow hs (by intro k e;cases e;exact .inl rfl),(h.mp.grow hg (hne _ (by omega))).grow hs (by simp;omega),Ez ((hg.block _ (bU h.box) (hne _ (by omega))).trans h.box) yn,?_,hl.kept hs (own_ne hl (by omega)),(h.order.kept hg ?_).kept hs (own_ne h.order (by omega)),by rw[hv];exact h.low,Nat.le_trans h.big (Nat.le_trans hg.size hs.size)⟩
 ·have hc:=(hg.block _ (bU h.cb) (hne _ (by omega))).trans h.cb
  exact (hs.block _ (bU hc) (by simp;omega)).trans hc
 ·cases hv2:vo.ownBlock with
  | none=>exact .inl rfl
  | some k=>exact .inr (fun e=>by have:=h.low k e.symm;have:=(h.order.lt k hv2).1;omega)
theorem St.drew (h:St K L o r vo vl w):St K L o r vo vl w.drew :=
 ⟨⟨h.kp.os,h.kp.tape,h.kp.output,h.kp.size,h.kp.block⟩,h.mp.keep rfl,h.box,h.cb,h.left,h.order,h.low,h.big⟩
theorem St.at {A C M:Nat}(h:St K L o r vo vl w)(hk:K.LB=A∧K.C=C∧K.M=M):w.cell? ⟨A,0,none⟩=some vl∧w.frozen? ⟨A,0,none⟩=false∧w.cell? ⟨C,0,none⟩=some (.map (some M)):=by
 obtain⟨rfl,rfl,rfl⟩:=hk;have h1:=h.box;have h2:=h.cb;refine⟨?_,?_,?_⟩<;>simp[World.cell?,World.frozen?,h1,h2]
theorem St.map {A C M:Nat}(h:St K L o r vo vl w)(hk:K.LB=A∧K.C=C∧K.M=M):Hd (dE w M L):=by rw[← hk.2.2];exact h.mp
def RU:Value→Nat
 | .slice _ n _=>n
 | _=>0
abbrev kx (W2:World) (LB BL BO:Nat):Kx:=⟨W2,LB,W2.heap.size,W2.heap.size+1,BL,BO⟩
theorem St.begin {W2 wr w5:World}{LB:Nat}{u v:Value}{L:Lk}{ts:List ByteArray}(hM:dE wr W2.heap.size L)(hA:W2.heap[LB]?=some (sP u))(hC:wr.heap[W2.heap.size+1]?=some (ym W2.heap.size))(hg:W2.grownBy wr none)(hg5:wr.grownBy w5 none)(ho:w5.ownsRow wr.heap.size 9 1 v ts.length (strs ts)) :
  (kx W2 LB wr.heap.size w5.heap.size).Ok∧St (kx W2 LB wr.heap.size w5.heap.size) L [] ts (.slice none 0 0) v (w5.setCell ⟨LB,0,none⟩ v):=by
 have hl:=bU hA;have hc:=bU hC;have hg2:=gtr hg hg5;have hs:=mI w5 LB 0 v;refine⟨⟨hl,Nat.le_refl _,Nat.lt_succ_self _,hc,hg5.size⟩,⟨?_,(hM.grow hg5 (by simp)).grow hs (by simp;omega),Ez ((hg2.block _ hl (by simp)).trans hA) v,?_,ho.kept hs (own_ne ho (by omega)),World.ownsRow_nil _ _ _ _,fun k hk=>(ho.lt k hk).2,hs.size⟩⟩
 ·exact Kp.grow (K:=kx W2 LB wr.heap.size w5.heap.size) ⟨hg2.os,hg2.tape,hg2.output,hg2.size,fun k hk _=>hg2.block k hk (by simp)⟩ hs (by intro k e;cases e;exact .inl rfl)
 ·exact (hs.block _ (Nat.lt_of_lt_of_le hc hg5.size) (by simp;omega)).trans ((hg5.block _ hc (by simp)).trans hC)
end Gr
end Go.Proofs.YtfcpglhpolpdcaaGreatDoor
namespace Go.Proofs.YtfcpglhpolpdcaaGreatDoor.Vw
open Go.RowKit Vf Vm
open Gr (gV lv gtr sO fJ vK mI bU)
def hlp (s:Int):Int:=if s=2 then 27 else if s=3 then 26 else 0
theorem adB (s:Int)(w:World):Calls Tryz.prog 31 #[.int .i64 s] w fun e w'=>e=.returned (.int .i64 (hlp s))∧w'=w:=by
 unfold hlp;by_cases h2:s=2
 ·have e2:(s==2)=true:=by simp[h2]
  rw[if_pos h2];clear h2;go_enter Tryz.func31,Tryz.ntmps31
  go_wp2
  go_ret
  exact⟨rfl,rfl⟩
 ·have e2:(s==2)=false:=by simp[h2]
  rw[if_neg h2];clear h2;by_cases h3:s=3
  ·have e3:(s==3)=true:=by simp[h3]
   rw[if_pos h3];clear h3;go_enter Tryz.func31,Tryz.ntmps31
   go_wp2
   go_ret
   exact⟨rfl,rfl⟩
  ·have e3:(s==3)=false:=by simp[h3]
   rw[if_neg h3];clear h3;go_enter Tryz.func31,Tryz.ntmps31
   go_wp2
   go_ret
   exact⟨rfl,rfl⟩
theorem adC (Q:Int × Int→Int→Prop)(M:Nat)(s b t:Int)(oa:Option Addr)(on oc:Nat)(w:World)(hM:Hid (gV Q w M)) :
  Calls Tryz.prog 11 #[.map (some M),.agg #[.int .i64 s,.int .i64 b,.int .i64 t,.slice oa on oc]] w fun e w'=>∃ r:Int,e=.returned (.int .i64 r)∧w.grownBy w' none∧(r=-1∨Q (hlp s,b) r):=by
 obtain⟨W0,hW0⟩:∃ W0,W0=w.alloc (.cells #[.int .i64 s,.int .i64 b,.int .i64 t,.slice oa on oc] 40):=⟨_,rfl⟩;have bz:Hid (w.grownBy W0 none):=by rw[hW0];exact fJ _ _
 have hX:W0.heap[w.heap.size]?=some (.cells #[.int .i64 s,.int .i64 b,.int .i64 t,.slice oa on oc] 40):=by rw[hW0];exact heap_alloc_new _ _
 have x0:W0.cell? ⟨w.heap.size,0,none⟩=some (.int .i64 s):=by simp[World.cell?,hX]
 have x1:W0.cell? ⟨w.heap.size,1,none⟩=some (.int .i64 b):=by simp[World.cell?,hX]
 have kQ:Hid (gV Q W0 M):=hM.out.keep (bz.out.block _ hM.out.lt (by simp));have HW0:=Sb.hide hW0;obtain⟨v,bb,hL0,hq⟩:=kQ.out.look (hlp s,b);have hL:∀ n,(Instr.lookup 53 (.map (some M)) (.agg #[.int .i64 (hlp s),.int .i64 b]) true).run Tryz.prog (W0.drewN n)=.ok (.tuple #[.int .i64 v,.bool bb]) (W0.drewN n):=fun n=>hL0 _ rfl;have HQ:=Sb.hide hq;clear hL0 hq;clear hW0 hX;go_enter Tryz.func11,Tryz.ntmps11
 go_wp2
 rw[← HW0.out];go_quiet ((go_at_call 31;exact Calls.quiet_of_same (adB s _)))
 have RV:Hid (w.grownBy (W0.drewN nq) none):=⟨bz.out.os,bz.out.tape,bz.out.output,bz.out.size,bz.out.block⟩;cases bb with
 | true =>
  go_wp2
  go_ret
  exact⟨v,rfl,RV.out,.inr (HQ.out trivial)⟩
 | false =>
  go_wp2
  go_ret
  exact⟨-1,rfl,RV.out,.inl rfl⟩
abbrev yo (M:Nat):Obj:=.cells #[.map (some M)] 53 (0,0)
abbrev Bp (t:Int):Obj:=.cells #[.int .i64 t] 3 (0,0)
def Qt (ts:List (Int × Int))(t:Nat)(k:Int × Int)(v:Int):Prop:=(k.1=26∨k.1=27∨k ∈ ts)∧0≤v∧v≤(t:Int)
def Qz (t:Nat)(k:Int × Int)(v:Int):Prop:=(k.1=26∨k.1=27)∧0≤v∧v<(t:Int)
structure Br (M C T t:Nat) (ts:List (Int × Int)) (w:World):Prop where
 who:gV (Qt ts t) w M
 box:w.heap[C]?=some (yo M)
 num:w.heap[T]?=some (Bp (t:Int))
theorem adD (M C T t:Nat)(ts:List (Int × Int))(op a:Int)(w:World)(hI:Hid (Br M C T t ts w)) :
  Calls Tryz.prog 30 #[.int .i64 op,.int .i64 a,.pointer (some ⟨T,0,none⟩),.pointer (some ⟨C,0,none⟩)] w fun e w'=>e=.returned (.tuple #[])∧Br M C T t (ts++[(op,a)]) w'∧w.grownBy w' (some M):=by
 obtain⟨hW,hC,hT⟩:=hI.out;obtain⟨w',hup,hW',hg⟩:=hW.put (Q':=Qt (ts++[(op,a)]) t) (op,a) (t:Int) (fun k v h=>⟨h.1.imp id (Or.imp id fun h=>by simp[h]),h.2⟩) ⟨.inr (.inr (by simp)),by omega,Int.le_refl _⟩;have c0:w.cell? ⟨C,0,none⟩=some (.map (some M)):=by simp[World.cell?,hC]
 have c1:w.cell? ⟨T,0,none⟩=some (.int .i64 (t:Int)):=by simp[World.cell?,hT]
 have ne:∀ {k:Nat} {cs:Array Value} {e:TypeId},w.heap[k]?=some (.cells cs e (0,0))→some k≠some M:=fun hk e=>by
  cases e;obtain⟨es,cl,h1,_⟩:=hW;rw[h1] at hk;cases hk
 have HE:=Sb.hide (⟨hW',(hg.block _ (bU hC) (ne hC)).trans hC,(hg.block _ (bU hT) (ne hT)).trans hT⟩:Br M C T t (ts++[(op,a)]) w');have HG:=Sb.hide hg;clear hW hC hT hW' hg ne;go_enter Tryz.func30,Tryz.ntmps30
 go_wp2
 go_end0
 exact⟨rfl,HE.out,HG.out⟩
def tl (m:Md)(k:Nat):Nat:=(di m.units k).length
structure sQ (m:Md) (ab au:Option Addr) (cb cu N k:Nat) (w W:World):Prop where
 le:k≤m.units.length
 grown:w.grownBy W none
 md:W.heap[N]?=some (gG m ab au cb cu)
 who:gV (Qz (tl m k)) W (N+1)
 box:W.heap[N+1+1]?=some (yo (N+1))
 num:W.heap[N+1+1+1]?=some (Bp (tl m k:Int))
theorem sQ.first (m:Md)(ab au:Option Addr)(cb cu:Nat)(w:World):sQ m ab au cb cu w.heap.size 0 w ((((w.alloc (gG m ab au cb cu)).alloc (.map #[] 0)).alloc (yo (w.heap.size+1))).alloc (Bp 0)):=by
 have k0:=heap_alloc_new w (gG m ab au cb cu);have k1:=heap_alloc_new (w.alloc (gG m ab au cb cu)) (.map #[] 0);have k2:=heap_alloc_new ((w.alloc (gG m ab au cb cu)).alloc (.map #[] 0)) (yo (w.heap.size+1));have k3:=heap_alloc_new (((w.alloc (gG m ab au cb cu)).alloc (.map #[] 0)).alloc (yo (w.heap.size+1))) (Bp 0);simp only[World.size_alloc] at k1 k2 k3;refine⟨Nat.zero_le _,gtr (gtr (gtr (fJ _ _) (fJ _ _)) (fJ _ _)) (fJ _ _),?_,⟨#[],0,?_,fun e he=>by simp at he⟩,?_,k3⟩
 ·exact (Below.heap_alloc _ _ _ (by simp only[World.size_alloc];omega)).trans ((Below.heap_alloc _ _ _ (by simp only[World.size_alloc];omega)).trans ((Below.heap_alloc _ _ _ (by simp only[World.size_alloc];omega)).trans k0))
 ·exact (Below.heap_alloc _ _ _ (by simp only[World.size_alloc];omega)).trans ((Below.heap_alloc _ _ _ (by simp only[World.size_alloc];omega)).trans k1)
 ·exact (Below.heap_alloc _ _ _ (by simp only[World.size_alloc];omega)).trans k2
theorem adE (m:Md)(ab au:Option Addr)(cb cu B:Nat)(w:World)(hmd:Hid (aW B w m ab au))(hB:B≤w.heap.size)(hR:Hid (Rt m)) :
  Calls Tryz.prog 10 #[eU m ab au cb cu] w fun e w'=>∃ M,e=.returned (.map (some M))∧w.grownBy w' none∧gV (Qz (tl m m.units.length)) w' M:=by
 have hmm:∀ w:World,(Instr.makeMap 53 Option.none).run Tryz.prog w=.ok (.map (some w.heap.size)) (w.alloc (.map #[] 0)):=fun _=>rfl;have hmu:m.units.length≤30:=hR.out.units;obtain⟨W0,hW0⟩:∃ W0,W0=(((w.alloc (gG m ab au cb cu)).alloc (.map #[] 0)).alloc (yo (w.heap.size+1))).alloc (Bp 0):=⟨_,rfl⟩;have mh:Hid (sQ m ab au cb cu w.heap.size 0 w W0):=by rw[hW0];exact sQ.first m ab au cb cu w
 have HW0:=Sb.hide hW0;have c0:=nG mh.out.md;clear hW0;go_enter Tryz.func10,Tryz.ntmps10
 go_upto_region 3 with fail
 rw[← HW0.out];clear HW0;go_wp2
 clear c0;go_loopw [11] (fun v wr=>∃ k:Nat,v=.int .i64 k∧Hid (sQ m ab au cb cu w.heap.size k w wr)) (fun v _=>m.units.length - (intOf v).toNat)
 case atStart=>exact⟨0,rfl,mh⟩
 case round =>
  obtain⟨k,rfl,HS⟩:=hrel;have hk:=HS.out.le;have hgz:=HS.out.grown.size;have xX:=bU HS.out.num;by_cases hlt:k<m.units.length
  ·obtain⟨u,hu⟩:∃ u,m.units[k]?=some u:=⟨_,List.getElem?_eq_getElem hlt⟩
   have lN:Hid (aW B wr m ab au):=hmd.out.low (fun j hj=>HS.out.grown.block j (by omega) (by simp));obtain⟨b,off,al,cl,ac,cc,ha,hb,gq,u0,u1,u2,u3,u4,u5⟩:=lN.out.units k u hu;have hk1:(k:Int)<(m.units.length:Int):=by omega
   have hbw:b<wr.heap.size:=by omega
   have RX:=Sb.hide (QY hu);obtain⟨W1,hW1⟩:∃ W1,W1=wr.alloc (.cells #[.int .i64 u.kind,.int .i64 u.params,.slice al u.locals.length cl,.int .i64 u.result,.int .i64 u.takes,.slice ac u.code.length cc] 87):=⟨_,rfl⟩;have aA:Hid (wr.grownBy W1 none):=by rw[hW1];exact fJ _ _
   have jo:Hid (W1.heap[wr.heap.size]?=some (.cells #[.int .i64 u.kind,.int .i64 u.params,.slice al u.locals.length cl,.int .i64 u.result,.int .i64 u.takes,.slice ac u.code.length cc] 87)):=by rw[hW1];exact heap_alloc_new _ _
   have hx0:W1.cell? ⟨wr.heap.size,0,none⟩=some (.int .i64 u.kind):=by simp[World.cell?,jo.out]
   have dM:Hid (sQ m ab au cb cu w.heap.size k w W1):=⟨hk,gtr HS.out.grown aA.out,(aA.out.block _ (bU HS.out.md) (by simp)).trans HS.out.md,HS.out.who.keep (aA.out.block _ HS.out.who.lt (by simp)),(aA.out.block _ (bU HS.out.box) (by simp)).trans HS.out.box,(aA.out.block _ (bU HS.out.num) (by simp)).trans HS.out.num⟩;have kP:Hid (aW B W1 m ab au):=lN.out.low (fun j hj=>aA.out.block j (by omega) (by simp));have HW1:=Sb.hide hW1;subst ha;clear hu gq hW1;go_upto_region 6 with fail
   rw[← HW1.out];clear HW1 u0 u1 u2 u3 u4 u5 jo aA HS;by_cases h4:u.kind=4
   ·have e4:(u.kind != 4)=false:=by simp[h4]
    have HT2:Hid (tl m (k+1)=tl m k+1):=by unfold Hid tl;rw[RX.out,if_pos h4,List.length_append];rfl
    obtain⟨y0,y1⟩:=nG dM.out.md;have z0:W1.cell? ⟨w.heap.size+1+1+1,0,none⟩=some (.int .i64 (tl m k:Int)):=by have:=dM.out.num;simp[World.cell?,this]
    have aia:=bU dM.out.num;have htl:tl m k≤30:=by have:=Eh m.units k;unfold tl;omega
    have rQ:∀ (fn:Fn) (first cap:Array Value) (w:World),(Instr.makeFunc fn first cap).run Tryz.prog w=.ok (.func fn first cap) w:=fun _ _ _ _=>rfl;have nI:Hid (DV 30 #[.pointer (some ⟨w.heap.size+1+1+1,0,none⟩),.pointer (some ⟨w.heap.size+1+1,0,none⟩)] W1.heap.size (w.heap.size+1) (Br (w.heap.size+1) (w.heap.size+1+1) (w.heap.size+1+1+1) (tl m k))) :=
     ⟨fun ts w1 w2 h hk=>⟨h.who.keep (hk _ (by omega)),(hk _ (by omega)).trans h.box,(hk _ (by omega)).trans h.num⟩,fun ts op a w h _=>adD _ _ _ _ ts op a w h⟩
    have HI1:Hid (Br (w.heap.size+1) (w.heap.size+1+1) (w.heap.size+1+1+1) (tl m k) [] W1):=⟨dM.out.who.more (fun k v h=>⟨h.1.imp id .inl,h.2.1,by have:=h.2.2;omega⟩),dM.out.box,dM.out.num⟩;clear h4 z0;go_wp2_with fail
    refine (Qi m ab (some ⟨b,off,none⟩) cb cu B k (w.heap.size+1) 30 #[.pointer (some ⟨w.heap.size+1+1+1,0,none⟩),.pointer (some ⟨w.heap.size+1+1,0,none⟩)] _ _ kP (by omega) hR hlt (by omega) (by omega) (fun vs w'=>by first | rfl | kernel_rfl | simp[go_sem]) nI HI1).mono ?_;rintro e w2 ⟨rfl,hg2,ts,hI2,hts⟩;have z0:w2.cell? ⟨w.heap.size+1+1+1,0,none⟩=some (.int .i64 (tl m k:Int)):=by have:=hI2.num;simp[World.cell?,this]
    have zf:w2.frozen? ⟨w.heap.size+1+1+1,0,none⟩=false:=by have:=hI2.num;simp[World.frozen?,this]
    have hgs:=mI w2 (w.heap.size+1+1+1) 0 (.int .i64 ((tl m k:Int)+1));have vL:Hid (sQ m ab (some ⟨b,off,none⟩) cb cu w.heap.size (k+1) w (w2.setCell ⟨w.heap.size+1+1+1,0,none⟩ (.int .i64 ((tl m k:Int)+1)))):=by
     refine⟨hlt,sO (sO dM.out.grown hg2 (by omega)) hgs (by omega),?_,?_,?_,?_⟩
     ·have h1:=(hg2.block _ (bU dM.out.md) (by simp)).trans dM.out.md
      exact (hgs.block _ (bU h1) (by simp;omega)).trans h1
     ·refine (hI2.who.keep (hgs.block _ hI2.who.lt (by simp))).more fun q v h=>⟨?_,h.2.1,by rw[HT2.out];have:=h.2.2;omega⟩
      rcases h.1 with h1 | h1 | h1
      ·exact .inl h1
      ·exact .inr h1
      ·exact ((hts q).1 h1).1
     ·exact (hgs.block _ (bU hI2.box) (by simp)).trans hI2.box
     ·rw[HT2.out]
      have:=Gr.Ez hI2.num (.int .i64 ((tl m k:Int)+1));rw[this];simp
    clear hI2 hg2 hts hgs y0 y1 HI1 nI kP lN;go_wp2
    go_roundw
    case rel=>exact⟨k+1,by go_num,vL⟩
    case measure=>simp[intOf];omega
   ·have e4:(u.kind != 4)=true:=by simpa using h4
    have vL:Hid (sQ m ab (some ⟨b,off,none⟩) cb cu w.heap.size (k+1) w W1):=by
     have e:tl m (k+1)=tl m k:=by unfold tl;rw[RX.out,if_neg h4]
     obtain⟨_,h2,h3,h5,h6,h7⟩:=dM.out;exact⟨hlt,h2,h3,by rw[e];exact h5,h6,by rw[e];exact h7⟩
    clear h4;go_wp2
    go_roundw
    case rel=>exact⟨k+1,by go_num,vL⟩
    case measure=>simp[intOf];omega
  ·have hk1:¬ (k:Int)<(m.units.length:Int):=by omega
   obtain rfl:k=m.units.length:=by omega
   have c0:wr.cell? ⟨w.heap.size+1+1,0,none⟩=some (.map (some (w.heap.size+1))):=by have:=HS.out.box;simp[World.cell?,this]
   go_wp2
   go_ret
   exact⟨_,rfl,HS.out.grown,HS.out.who⟩
end Go.Proofs.YtfcpglhpolpdcaaGreatDoor.Vw
