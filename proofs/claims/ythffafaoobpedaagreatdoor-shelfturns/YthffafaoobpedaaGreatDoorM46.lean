/- What syn.Read answers of the text of turns,reckoned once. -/
import Derived.Test.YthffafaoobpedaaGreatDoorM45
import Derived.Test.YthffafaoobpedaaGreatDoorM43
import Derived.Test.YthffafaoobpedaaGreatDoorM44
namespace Go.Proofs.YthffafaoobpedaaGreatDoor
namespace Xe
def Ag:Af:=⟨25,[98,111,120,32,105,110,32,110,117,109,32,50,48,32,59,10,35,32,116,119,111,32,116,104,97,116,32,116,97,107,101,32,116,117,114,110,115,10,103,101,110,32,112,108,117,115,40,107,32,110,117,109,41,32,116,97,107,101,115,32,110,117,109,32,121,105,101,108,100,115,32,110,117,109,32,123,10,32,32,108,101,116,32,120,32,61,32,121,105,101,108,100,40,48,41,32,59,10,32,32,119,104,105,108,101,32,116,114,117,101,32,123,32,120,32,61,32,121,105,101,108,100,40,120,32,43,32,107,41,32,59,32,125,10,125,10,116,97,115,107,32,109,97,105,110,32,123,10,32,32,108,101,116,32,97,32,61,32,115,116,97,114,116,32,112,108,117,115,40,49,41,32,59,10,32,32,108,101,116,32,98,32,61,32,115,116,97,114,116,32,112,108,117,115,40,45,49,41,32,59,10,32,32,100,111,32,114,101,115,117,109,101,40,97,44,32,48,41,32,59,10,32,32,100,111,32,114,101,115,117,109,101,40,98,44,32,48,41,32,59,10,32,32,119,104,105,108,101,32,116,114,117,101,32,123,32,111,117,116,32,114,101,115,117,109,101,40,97,44,32,114,101,99,118,40,105,110,41,41,32,59,32,111,117,116,32,114,101,115,117,109,101,40,98,44,32,114,101,99,118,40,105,110,41,41,32,59,32,125,10,125,10],100000,.tuple #[.slice (some ⟨156974,0,none⟩) 3 9,.agg #[.int .i64 0,.int .i64 0]],163768,[(156974,[.int .i64 1,.string ⟨#[105,110]⟩,.int .i64 1,.string ⟨#[]⟩,.int .i64 0,.string ⟨#[]⟩,.int .i64 20,.slice none 0 0,.slice none 0 0,.int .i64 3,.string ⟨#[112,108,117,115]⟩,.int .i64 1,.string ⟨#[]⟩,.int .i64 1,.string ⟨#[]⟩,.int .i64 0,.slice (some ⟨129399,0,none⟩) 1 3,.slice (some ⟨136545,0,none⟩) 2 8,.int .i64 4,.string ⟨#[109,97,105,110]⟩,.int .i64 0,.string ⟨#[]⟩,.int .i64 0,.string ⟨#[]⟩,.int .i64 0,.slice none 0 0,.slice (some ⟨156897,0,none⟩) 5 8]),(129399,[.string ⟨#[107]⟩,.int .i64 1,.string ⟨#[]⟩]),(136545,[.int .i64 1,.string ⟨#[120]⟩,.int .i64 21,.int .i64 0,.string ⟨#[]⟩,.slice (some ⟨130875,0,none⟩) 1 4,.slice none 0 0,.slice none 0 0,.int .i64 4,.string ⟨#[]⟩,.int .i64 2,.int .i64 1,.string ⟨#[]⟩,.slice none 0 0,.slice (some ⟨136468,0,none⟩) 1 8,.slice none 0 0]),(130875,[.int .i64 1,.int .i64 0,.string ⟨#[]⟩,.slice none 0 0]),(136468,[.int .i64 2,.string ⟨#[120]⟩,.int .i64 21,.int .i64 0,.string ⟨#[]⟩,.slice (some ⟨134035,0,none⟩) 1 4,.slice none 0 0,.slice none 0 0]),(134035,[.int .i64 6,.int .i64 0,.string ⟨#[]⟩,.slice (some ⟨135032,0,none⟩) 2 4]),(135032,[.int .i64 3,.int .i64 0,.string ⟨#[120]⟩,.slice none 0 0,.int .i64 3,.int .i64 0,.string ⟨#[107]⟩,.slice none 0 0]),(156897,[.int .i64 1,.string ⟨#[97]⟩,.int .i64 22,.int .i64 0,.string ⟨#[112,108,117,115]⟩,.slice (some ⟨138940,0,none⟩) 1 4,.slice none 0 0,.slice none 0 0,.int .i64 1,.string ⟨#[98]⟩,.int .i64 22,.int .i64 0,.string ⟨#[112,108,117,115]⟩,.slice (some ⟨141188,0,none⟩) 1 4,.slice none 0 0,.slice none 0 0,.int .i64 9,.string ⟨#[]⟩,.int .i64 23,.int .i64 0,.string ⟨#[]⟩,.slice (some ⟨144479,0,none⟩) 2 4,.slice none 0 0,.slice none 0 0,.int .i64 9,.string ⟨#[]⟩,.int .i64 23,.int .i64 0,.string ⟨#[]⟩,.slice (some ⟨147776,0,none⟩) 2 4,.slice none 0 0,.slice none 0 0,.int .i64 4,.string ⟨#[]⟩,.int .i64 2,.int .i64 1,.string ⟨#[]⟩,.slice none 0 0,.slice (some ⟨156820,0,none⟩) 2 8,.slice none 0 0]),(138940,[.int .i64 1,.int .i64 1,.string ⟨#[]⟩,.slice none 0 0]),(141188,[.int .i64 4,.int .i64 0,.string ⟨#[]⟩,.slice (some ⟨140785,0,none⟩) 1 4]),(140785,[.int .i64 1,.int .i64 1,.string ⟨#[]⟩,.slice none 0 0]),(144479,[.int .i64 3,.int .i64 0,.string ⟨#[97]⟩,.slice none 0 0,.int .i64 1,.int .i64 0,.string ⟨#[]⟩,.slice none 0 0]),(147776,[.int .i64 3,.int .i64 0,.string ⟨#[98]⟩,.slice none 0 0,.int .i64 1,.int .i64 0,.string ⟨#[]⟩,.slice none 0 0]),(156820,[.int .i64 8,.string ⟨#[]⟩,.int .i64 23,.int .i64 0,.string ⟨#[]⟩,.slice (some ⟨152568,0,none⟩) 2 4,.slice none 0 0,.slice none 0 0,.int .i64 8,.string ⟨#[]⟩,.int .i64 23,.int .i64 0,.string ⟨#[]⟩,.slice (some ⟨156449,0,none⟩) 2 4,.slice none 0 0,.slice none 0 0]),(152568,[.int .i64 3,.int .i64 0,.string ⟨#[97]⟩,.slice none 0 0,.int .i64 20,.int .i64 0,.string ⟨#[105,110]⟩,.slice none 0 0]),(156449,[.int .i64 3,.int .i64 0,.string ⟨#[98]⟩,.slice none 0 0,.int .i64 20,.int .i64 0,.string ⟨#[105,110]⟩,.slice none 0 0])]⟩
set_option maxRecDepth 1000000 in
theorem acV:Dc (QS Ag.f [.string ⟨⟨Ag.arg⟩⟩] ⟨Ag.c0,h0,[]⟩) Ag=true:=by kernel_rfl
end Xe
namespace Xe
def QW:ByteArray:=⟨#[116,117,114,110,115]⟩
def fw:Vf.Md:=⟨[⟨1,20⟩],[⟨3,1,[1,1],1,1,[⟨1,0,0⟩,⟨31,0,0⟩,⟨4,1,0⟩,⟨2,1,0⟩,⟨22,11,0⟩,⟨3,1,0⟩,⟨3,0,0⟩,⟨8,0,0⟩,⟨31,0,0⟩,⟨4,1,0⟩,⟨21,3,0⟩,⟨25,0,0⟩]⟩,⟨4,0,[10,10],0,0,[⟨1,0,1⟩,⟨29,0,0⟩,⟨4,0,0⟩,⟨1,0,1⟩,⟨6,0,0⟩,⟨29,0,0⟩,⟨4,1,0⟩,⟨3,0,0⟩,⟨1,0,0⟩,⟨30,0,0⟩,⟨5,0,0⟩,⟨3,1,0⟩,⟨1,0,0⟩,⟨30,0,0⟩,⟨5,0,0⟩,⟨2,1,0⟩,⟨22,26,0⟩,⟨3,0,0⟩,⟨27,0,0⟩,⟨30,0,0⟩,⟨28,0,0⟩,⟨3,1,0⟩,⟨27,0,0⟩,⟨30,0,0⟩,⟨28,0,0⟩,⟨21,15,0⟩,⟨25,0,0⟩]⟩]⟩
noncomputable def QX:Cl:=func Tryz.prog (I1 Ag Db) 60 false
theorem acW:gD Tryz.prog QX:=(Py xc (acU acS acV QQ) (fun call hC=>Qf xc IY call hC) 60).1
set_option maxRecDepth 1000000 in
theorem acX:ans (QX 16 [.string QW] s0)=some fw:=by kernel_rfl
end Xe
end Go.Proofs.YthffafaoobpedaaGreatDoor
namespace Go.Proofs.YthffafaoobpedaaGreatDoor.Vw
open Go.RowKit Vf Vm
def Ah (k:Nat)(v:Int):Int:=if (k % 2 == 0)=true then wrap (v+1) else wrap (v - 1)
def tn (l:List Int)(n:Nat):List Int:=(List.range n).map fun i=>Ah i ((l[i]?).getD 0)
theorem QY {l:List Int}{n:Nat}{v:Int}(h:l[n]?=some v):tn l (n+1)=tn l n ++ [Ah n v]:=by
 unfold tn
 rw [List.range_succ,List.map_append,List.map_singleton,h]
 rfl
theorem QZ (l:List Int)(n:Nat):(tn l n).length=n:=by simp [tn]
abbrev nU (ws:List Int) (pc p1:Nat) (a:Int) (p2:Nat) (b:Int) (o:List Int) (X:List aU):Cf:=⟨[⟨ws,[⟨1,pc,0⟩],2,none⟩,⟨[1,a],[⟨0,p1,0⟩],1,some 0⟩,⟨[-1,b],[⟨0,p2,0⟩],1,some 0⟩],0,o,X⟩
open Xe in
theorem acY (l:List Int)(k p:Nat)(a b v:Int)(o:List Int)(hv:l[k]?=some v)(hlt:k < l.length):Goes fw 11 (nU [1,2,1] 18 2 a p b o [⟨l,k,[]⟩]) (nU [1,2,2] 22 9 v p b (o ++ [wrap (v+1)]) [⟨l,k+1,[]⟩]):=by
 have h1:Goes fw 1 ⟨[⟨[1,2,1],[⟨1,18,0⟩],2,none⟩,⟨[1,a],[⟨0,2,0⟩],1,some 0⟩,⟨[(-1),b],[⟨0,p,0⟩],1,some 0⟩],0,o,[⟨l,k,[]⟩]⟩ ⟨[⟨[1,2,1,v],[⟨1,19,0⟩],2,none⟩,⟨[1,a],[⟨0,2,0⟩],1,some 0⟩,⟨[(-1),b],[⟨0,p,0⟩],1,some 0⟩],0,o,[⟨l,k+1,[]⟩]⟩:=.recv (fun v=>⟨[⟨[1,2,1,v],[⟨1,19,0⟩],2,none⟩,⟨[1,a],[⟨0,2,0⟩],1,some 0⟩,⟨[(-1),b],[⟨0,p,0⟩],1,some 0⟩],0,o,[⟨l,k+1,[]⟩]⟩) hv (fun _=>C8 rfl rfl rfl hlt) (q:=0) (fun _=>by kernel_rfl)
 have h2:Goes fw 10 ⟨[⟨[1,2,1,v],[⟨1,19,0⟩],2,none⟩,⟨[1,a],[⟨0,2,0⟩],1,some 0⟩,⟨[(-1),b],[⟨0,p,0⟩],1,some 0⟩],0,o,[⟨l,k+1,[]⟩]⟩ ⟨[⟨[1,2,2],[⟨1,22,0⟩],2,none⟩,⟨[1,v],[⟨0,9,0⟩],1,some 0⟩,⟨[(-1),b],[⟨0,p,0⟩],1,some 0⟩],0,o ++ [wrap (v+1)],[⟨l,k+1,[]⟩]⟩:=.run' 10 [⟨1,0,wrap (v+1)⟩] fun _ _=>by kernel_rfl
 have h3:=h1.trans h2
 exact h3
open Xe in
theorem acZ (l:List Int)(k p:Nat)(a b v:Int)(o:List Int)(hv:l[k]?=some v)(hlt:k < l.length):Goes fw 12 (nU [1,2,1] 18 9 a p b o [⟨l,k,[]⟩]) (nU [1,2,2] 22 9 v p b (o ++ [wrap (v+1)]) [⟨l,k+1,[]⟩]):=by
 have h1:Goes fw 1 ⟨[⟨[1,2,1],[⟨1,18,0⟩],2,none⟩,⟨[1,a],[⟨0,9,0⟩],1,some 0⟩,⟨[(-1),b],[⟨0,p,0⟩],1,some 0⟩],0,o,[⟨l,k,[]⟩]⟩ ⟨[⟨[1,2,1,v],[⟨1,19,0⟩],2,none⟩,⟨[1,a],[⟨0,9,0⟩],1,some 0⟩,⟨[(-1),b],[⟨0,p,0⟩],1,some 0⟩],0,o,[⟨l,k+1,[]⟩]⟩:=.recv (fun v=>⟨[⟨[1,2,1,v],[⟨1,19,0⟩],2,none⟩,⟨[1,a],[⟨0,9,0⟩],1,some 0⟩,⟨[(-1),b],[⟨0,p,0⟩],1,some 0⟩],0,o,[⟨l,k+1,[]⟩]⟩) hv (fun _=>C8 rfl rfl rfl hlt) (q:=0) (fun _=>by kernel_rfl)
 have h2:Goes fw 11 ⟨[⟨[1,2,1,v],[⟨1,19,0⟩],2,none⟩,⟨[1,a],[⟨0,9,0⟩],1,some 0⟩,⟨[(-1),b],[⟨0,p,0⟩],1,some 0⟩],0,o,[⟨l,k+1,[]⟩]⟩ ⟨[⟨[1,2,2],[⟨1,22,0⟩],2,none⟩,⟨[1,v],[⟨0,9,0⟩],1,some 0⟩,⟨[(-1),b],[⟨0,p,0⟩],1,some 0⟩],0,o ++ [wrap (v+1)],[⟨l,k+1,[]⟩]⟩:=.run' 11 [⟨1,0,wrap (v+1)⟩] fun _ _=>by kernel_rfl
 have h3:=h1.trans h2
 exact h3
open Xe in
theorem ac0 (l:List Int)(k p:Nat)(a b v:Int)(o:List Int)(hv:l[k]?=some v)(hlt:k < l.length):Goes fw 14 (nU [1,2,2] 22 p a 2 b o [⟨l,k,[]⟩]) (nU [1,2,1] 18 p a 9 v (o ++ [wrap (v - 1)]) [⟨l,k+1,[]⟩]):=by
 have h1:Goes fw 1 ⟨[⟨[1,2,2],[⟨1,22,0⟩],2,none⟩,⟨[1,a],[⟨0,p,0⟩],1,some 0⟩,⟨[(-1),b],[⟨0,2,0⟩],1,some 0⟩],0,o,[⟨l,k,[]⟩]⟩ ⟨[⟨[1,2,2,v],[⟨1,23,0⟩],2,none⟩,⟨[1,a],[⟨0,p,0⟩],1,some 0⟩,⟨[(-1),b],[⟨0,2,0⟩],1,some 0⟩],0,o,[⟨l,k+1,[]⟩]⟩:=.recv (fun v=>⟨[⟨[1,2,2,v],[⟨1,23,0⟩],2,none⟩,⟨[1,a],[⟨0,p,0⟩],1,some 0⟩,⟨[(-1),b],[⟨0,2,0⟩],1,some 0⟩],0,o,[⟨l,k+1,[]⟩]⟩) hv (fun _=>C8 rfl rfl rfl hlt) (q:=0) (fun _=>by kernel_rfl)
 have h2:Goes fw 13 ⟨[⟨[1,2,2,v],[⟨1,23,0⟩],2,none⟩,⟨[1,a],[⟨0,p,0⟩],1,some 0⟩,⟨[(-1),b],[⟨0,2,0⟩],1,some 0⟩],0,o,[⟨l,k+1,[]⟩]⟩ ⟨[⟨[1,2,1],[⟨1,18,0⟩],2,none⟩,⟨[1,a],[⟨0,p,0⟩],1,some 0⟩,⟨[(-1),v],[⟨0,9,0⟩],1,some 0⟩],0,o ++ [wrap (v+(-1))],[⟨l,k+1,[]⟩]⟩:=.run' 13 [⟨1,0,wrap (v+(-1))⟩] fun _ _=>by kernel_rfl
 have h3:=h1.trans h2
 exact h3
open Xe in
theorem ac1 (l:List Int)(k p:Nat)(a b v:Int)(o:List Int)(hv:l[k]?=some v)(hlt:k < l.length):Goes fw 15 (nU [1,2,2] 22 p a 9 b o [⟨l,k,[]⟩]) (nU [1,2,1] 18 p a 9 v (o ++ [wrap (v - 1)]) [⟨l,k+1,[]⟩]):=by
 have h1:Goes fw 1 ⟨[⟨[1,2,2],[⟨1,22,0⟩],2,none⟩,⟨[1,a],[⟨0,p,0⟩],1,some 0⟩,⟨[(-1),b],[⟨0,9,0⟩],1,some 0⟩],0,o,[⟨l,k,[]⟩]⟩ ⟨[⟨[1,2,2,v],[⟨1,23,0⟩],2,none⟩,⟨[1,a],[⟨0,p,0⟩],1,some 0⟩,⟨[(-1),b],[⟨0,9,0⟩],1,some 0⟩],0,o,[⟨l,k+1,[]⟩]⟩:=.recv (fun v=>⟨[⟨[1,2,2,v],[⟨1,23,0⟩],2,none⟩,⟨[1,a],[⟨0,p,0⟩],1,some 0⟩,⟨[(-1),b],[⟨0,9,0⟩],1,some 0⟩],0,o,[⟨l,k+1,[]⟩]⟩) hv (fun _=>C8 rfl rfl rfl hlt) (q:=0) (fun _=>by kernel_rfl)
 have h2:Goes fw 14 ⟨[⟨[1,2,2,v],[⟨1,23,0⟩],2,none⟩,⟨[1,a],[⟨0,p,0⟩],1,some 0⟩,⟨[(-1),b],[⟨0,9,0⟩],1,some 0⟩],0,o,[⟨l,k+1,[]⟩]⟩ ⟨[⟨[1,2,1],[⟨1,18,0⟩],2,none⟩,⟨[1,a],[⟨0,p,0⟩],1,some 0⟩,⟨[(-1),v],[⟨0,9,0⟩],1,some 0⟩],0,o ++ [wrap (v+(-1))],[⟨l,k+1,[]⟩]⟩:=.run' 14 [⟨1,0,wrap (v+(-1))⟩] fun _ _=>by kernel_rfl
 have h3:=h1.trans h2
 exact h3
theorem I4 (l:List Int):∀ (j k p1 p2:Nat) (a b:Int),l.length=k+j→(p1=2∨p1=9)→(p2=2∨p2=9) →
  ∃ e:Cf,Goes Xe.fw (30 * j) (if (k % 2 == 0)=true then nU [1,2,1] 18 p1 a p2 b (tn l k) [⟨l,k,[]⟩] else nU [1,2,2] 22 p1 a p2 b (tn l k) [⟨l,k,[]⟩]) e∧e.out=tn l l.length∧∀ log,(stat aC Xe.fw (e.tk log) e.x).1=3
 | 0,k,p1,p2,a,b,hk,_,_=>by
  have hk:k=l.length:=by omega
  subst hk
  refine ⟨_,Goes.refl _ _,?_,?_⟩
  ·split <;> rfl
  ·intro log
   split <;> exact acr rfl rfl rfl
 | j+1,k,p1,p2,a,b,hk,h1,h2=>by
  have hlt:k < l.length:=by omega
  obtain ⟨v,hv⟩:∃ v,l[k]?=some v:=⟨_,List.getElem?_eq_getElem hlt⟩
  have hs:=QY hv
  unfold Ah at hs
  cases hb:(k % 2 == 0) with
  | true =>
   have hb2:((k+1) % 2 == 0)=false:=by
    have:k % 2=0:=by simpa using hb
    have h7:(k+1) % 2=1:=by omega
    rw [h7];rfl
   rw [hb,if_pos rfl] at hs
   obtain ⟨e,h3,h4,h5⟩:=I4 l j (k+1) 9 p2 v b (by omega) (.inr rfl) h2
   rw [hb2,if_neg (by simp),hs] at h3
   rw [if_pos rfl]
   rcases h1 with rfl | rfl
   ·exact ⟨e,((acY l k p2 a b v (tn l k) hv hlt).trans h3).mono (by omega),h4,h5⟩
   ·exact ⟨e,((acZ l k p2 a b v (tn l k) hv hlt).trans h3).mono (by omega),h4,h5⟩
  | false =>
   have hb2:((k+1) % 2 == 0)=true:=by
    have:k % 2≠0:=by simpa using hb
    have h7:(k+1) % 2=0:=by omega
    rw [h7];rfl
   rw [hb,if_neg (by simp)] at hs
   obtain ⟨e,h3,h4,h5⟩:=I4 l j (k+1) p1 9 a v (by omega) h1 (.inr rfl)
   rw [hb2,if_pos rfl,hs] at h3
   rw [if_neg (by simp)]
   rcases h2 with rfl | rfl
   ·exact ⟨e,((ac0 l k p1 a b v (tn l k) hv hlt).trans h3).mono (by omega),h4,h5⟩
   ·exact ⟨e,((ac1 l k p1 a b v (tn l k) hv hlt).trans h3).mono (by omega),h4,h5⟩
set_option maxRecDepth 1000000 in
theorem ac2 (l:List Int):qg Xe.fw 0 5000 [l]=0:=by kernel_rfl
theorem ac3:CY Xe.QW Xe.fw:=⟨⟨_,Xe.acW,Xe.acX⟩,by decide⟩
theorem ac4 (l:List Int):eQ Xe.fw 0 5000 [l]=go aC Xe.fw 5000 ((cf 1 [0,0] 0 [] [⟨l,0,[]⟩]).tk []) [⟨l,0,[]⟩]:=by kernel_rfl
theorem Q0 (l:List Int)(h:l.length≤60):(eQ Xe.fw 0 5000 [l]).2.1.out=tn l l.length∧(stat aC Xe.fw (eQ Xe.fw 0 5000 [l]).2.1 (eQ Xe.fw 0 5000 [l]).2.2).1=3:=by
 have g1:Goes Xe.fw 5 ⟨[⟨[0,0],[⟨1,0,0⟩],2,none⟩],0,[],[⟨l,0,[]⟩]⟩ ⟨[⟨[1,0,(-1)],[⟨1,5,0⟩],2,none⟩,⟨[1,0],[⟨0,0,0⟩],0,none⟩],0,[],[⟨l,0,[]⟩]⟩:=.run' 5 [⟨6,0,0⟩] fun _ _=>by kernel_rfl
 have g2:Goes Xe.fw 17 ⟨[⟨[1,0,(-1)],[⟨1,5,0⟩],2,none⟩,⟨[1,0],[⟨0,0,0⟩],0,none⟩],0,[],[⟨l,0,[]⟩]⟩ ⟨[⟨[1,2,1],[⟨1,18,0⟩],2,none⟩,⟨[1,0],[⟨0,2,0⟩],1,some 0⟩,⟨[(-1),0],[⟨0,2,0⟩],1,some 0⟩],0,[],[⟨l,0,[]⟩]⟩:=.run' 17 [⟨6,0,0⟩] fun _ _=>by kernel_rfl
 have g3:=g1.trans g2
 have h1:Goes Xe.fw 22 (cf 1 [0,0] 0 [] [⟨l,0,[]⟩]) (nU [1,2,1] 18 2 0 2 0 (tn l 0) [⟨l,0,[]⟩]):=g3
 obtain ⟨e,h2,h3,h4⟩:=I4 l l.length 0 2 2 0 0 (by omega) (.inl rfl) (.inl rfl)
 rw [if_pos (show ((0:Nat) % 2 == 0)=true from rfl)] at h2
 exact (h1.trans h2).says h4 (by omega) (ac4 l) h3
end Go.Proofs.YthffafaoobpedaaGreatDoor.Vw
