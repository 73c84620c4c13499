/- The calls that our machine takes as a whole,and reader.kids$1. -/
import Derived.Test.YtfcpglhpolpdcaaGreatDoorM44
import Derived.Test.YtfcpglhpolpdcaaGreatDoorM45
import Derived.WalkKit
namespace Go.Proofs.YtfcpglhpolpdcaaGreatDoor
open Go.RowKit
namespace Xe
noncomputable def KR:Sp:=fun call f args s=>bB (Nat.beq f 232) (some (KN Tryz.prog call f args s)) (iJ 90 19 193 call f args s)
theorem TY:Tryz.prog.follows .mixedOrders=true:=by kernel_rfl
theorem ae6:Kh Tryz.prog KR:=by
 intro call hC f args s v s' h;unfold KR at h;rw[bT,dV] at h;split at h
 ·exact ae5 E9 TY hC (Option.some.inj h)
 ·exact aeH call hC f args s v s' h
noncomputable def Fe:Cl:=func Tryz.prog KR 60 false
theorem TZ:iK Tryz.prog Fe:=(aei E9 ae6 (fun call hC=>aex E9 TY call hC) 60).1
end Xe
namespace Xe
noncomputable section
def told (r:Option (Value × S))(k:Value→S→Bool):Bool:=match r with
 | some (.tuple ⟨[x,.agg ⟨[.int .i64 (.ofNat 0),.int .i64 (.ofNat 0)]⟩]⟩,s)=>k x s
 | _=>false
def isRow (s:S)(v:Value)(n z:Nat)(l:List Value):Bool:=match v with
 | .slice (some a) n' _=>Nat.beq n n' && (match oo s.h a (Nat.mul n z) with | some r=>all2 qR r l | none=>false)
 | _=>false
end
theorem T9 {r:Option (Value × S)}{k:Value→S→Bool}(h:told r k=true):∃ x s,r=some (.tuple #[x,.agg #[.int .i64 0,.int .i64 0]],s)∧k x s=true:=by
 unfold told at h;split at h
 ·exact⟨_,_,rfl,h⟩
 ·cases h
theorem wJ {φ:Ph}{k:IntKind}{n:Int}{u:Value}(h:V1 φ (.int k n) u):u=.int k n:=by
 rcases h with h | ⟨_,_,_,_,_,h,_⟩
 ·exact h
 ·cases h
theorem Ua {φ:Ph}{x v':Value}(h:V φ (.tuple #[x,.agg #[.int .i64 0,.int .i64 0]]) v'):∃ x',v'=.tuple #[x',.agg #[.int .i64 0,.int .i64 0]]∧V φ x x':=by
 obtain⟨c',rfl,hL⟩:∃ c',v'=.tuple c'∧L (VA φ) [x,.agg #[.int .i64 0,.int .i64 0]] c'.toList:=by
  rcases h with ((h | ⟨_,_,_,_,_,h,_⟩) | ⟨_,_,h,_⟩) | ⟨c,c',h1,h2,h3⟩
  ·exact h.elim
  ·cases h
  ·cases h
  ·cases h1;exact⟨c',h2,h3⟩
 obtain⟨cl⟩:=c';match cl,hL with
 | [a,b],⟨h1,h2,_⟩ =>
  refine⟨a,?_,.inl h1⟩;rcases h2 with h2 | ⟨d,d',e1,e2,h3⟩
  ·rcases h2 with h2 | ⟨_,_,_,_,_,h2,_⟩
   ·exact h2.elim
   ·cases h2
  ·cases e1
   subst e2;obtain⟨dl⟩:=d';match dl,h3 with
   | [p,q],⟨h4,h5,_⟩ =>
    rw[wJ h4,wJ h5]
theorem ae7 {φ:Ph}{v u:Value}(hc:(∃ n,v=iv n)∨∃ b,v=sv b)(h:V1 φ v u):u=v:=by
 rcases hc with⟨n,rfl⟩ | ⟨b,rfl⟩
 ·exact wJ h
 ·rcases h with h | ⟨_,_,_,_,_,h,_⟩
  ·exact h
  ·cases h
theorem ae8 {φ:Ph}{s:S}{w:World}{v v':Value}{n z:Nat}{l:List Value}(h:isRow s v n z l=true)(hl:∀ u ∈ l,(∃ n,u=iv n)∨∃ b,u=sv b)(hV:V φ v v')(hS:dG φ s w) :
  ∃ b off c,v'=.slice (some ⟨b,off,none⟩) n c∧∀ (j:Nat) u,l[j]?=some u→w.cell? ⟨b,off+j,none⟩=some u:=by
 unfold isRow at h;split at h
 ·rename_i a n' z'
  rw[Bool.and_eq_true] at h;obtain⟨h1,h2⟩:=h;obtain rfl:=Nat.eq_of_beq_eq_true h1;split at h2
  ·rename_i r hr
   have e:=yo (fun _ _=>BK) h2;subst e;obtain⟨a',c,rfl,hSR⟩:=pF hV;have hsp:=(Ew.1 hr).1;rcases hSR with⟨h0,_⟩ | ⟨_,_,g,hg,rfl,_⟩
   ·exact absurd hsp h0
   obtain⟨l',hL,_,hc⟩:=Bv hr hS.rel (a':=⟨g.b,a.off,none⟩) ⟨hsp,g,hg,rfl⟩;refine⟨g.b,a.off,c,rfl,fun j u hu=>?_⟩;obtain⟨y,hy,hV1⟩:=hL.at hu;have e:=ae7 (hl u (List.mem_of_getElem? hu)) hV1;subst e;have:=hc j y hy;rcases j with _ | j<;>simpa[Addr.add] using this
  ·cases h2
 ·cases h
theorem ae9 {cl:Cl}(hcl:iK Tryz.prog cl){f:FuncId}{args:List Value}{v:Value}{s:S}(hr:cl f args s0=some (v,s))(w:World)(hT:pM w)(args':Array Value)(ha:L (V sQ) args args'.toList) :
  Calls Tryz.prog f args' w fun e w'=>∃ φ v',e=.returned v'∧V φ v v'∧dG φ s w'∧Below w.heap.size w w'∧∀ x g,3≤x→φ x=some g→w.heap.size≤g.b:=by
 obtain⟨_,_,hcall⟩:=hcl _ _ _ _ _ hr;refine (hcall sQ w args' ha (aeJ hT)).mono ?_;rintro e w' ⟨φ',v',rfl,hV,hP⟩;have KS:∀ x g,3≤x→sQ x=some g→False:=fun x g h3 h=>by
  unfold sQ at h;rw[if_neg (by omega),if_neg (by omega),if_neg (by omega)] at h;cases h
 refine⟨φ',v',rfl,hV,hP.stt,⟨hP.ext.out.1,hP.ext.out.2.1,hP.ext.out.2.2,hP.ext.size,fun k hk=>hP.ext.kept k hk fun x g h3 _ h=>(KS x g h3 h).elim⟩,fun x g h3 hg=>?_⟩;cases h0:sQ x with
 | some g0=>exact (KS x g0 h3 h0).elim
 | none =>
  rcases hP.ext.news x g h0 hg with h1 | ⟨y,g',hy3,_,hy,_⟩
  ·exact h1
  ·exact (KS y g' hy3 hy).elim
theorem dG.alloc {φ:Ph}{s:S}{w:World}(h:dG φ s w)(o:Obj):dG φ s (w.alloc o):=(Post.grown h ((Below.refl _ w).alloc (Nat.le_refl _) o)).stt
end Xe
end Go.Proofs.YtfcpglhpolpdcaaGreatDoor
namespace Go.Proofs.YtfcpglhpolpdcaaGreatDoor
namespace Gr
abbrev Ed:=ByteArray × ByteArray × ByteArray
abbrev Lk:=ByteArray→Int
def bump (L:Lk)(k:ByteArray)(d:Int):Lk:=fun x=>if x=k then L x+d else L x
def adds (es:List Ed)(L:Lk):Lk:=es.foldl (fun L e=>bump L e.2.2 1) L
def il (n:ByteArray)(es:List Ed)(L:Lk):Lk:=es.foldl (fun L e=>if e.2.1=n then bump L e.2.2 (-1) else L) L
def next (L:Lk)(left:List ByteArray):Option Nat:=left.findIdx? fun s=>decide (L s=0)
def nm (l:List ByteArray)(i:Nat):ByteArray:=l[i]?.getD ⟨#[]⟩
def go (es:List Ed):Nat→Lk→List ByteArray→List ByteArray→List ByteArray × List ByteArray
 | 0,_,o,r=>(o,r)
 | f+1,L,o,r=>match next L r with
  | none=>(o,r)
  | some i=>go es f (il (nm r i) es L) (o++[nm r i]) (r.eraseIdx i)
def order (es:List Ed)(ts:List ByteArray):List ByteArray × List ByteArray:=go es ts.length (adds es fun _=>0) [] ts
def tasks (l:List (Int × ByteArray)):List ByteArray:=(l.filter fun d=>decide (d.1=4)).map (·.2)
theorem afa (es:List Ed)(j:Nat)(e:Ed)(h:es[j]?=some e)(L:Lk):adds (es.take (j+1)) L=bump (adds (es.take j) L) e.2.2 1:=by
 unfold adds;rw[List.take_add_one,h,List.foldl_append];rfl
theorem afb (n:ByteArray)(es:List Ed)(j:Nat)(e:Ed)(h:es[j]?=some e)(L:Lk):il n (es.take (j+1)) L=if e.2.1=n then bump (il n (es.take j) L) e.2.2 (-1) else il n (es.take j) L:=by
 unfold il;rw[List.take_add_one,h,List.foldl_append];rfl
def jr (m:Int)(L:Lk):Prop:=∀ x,-m≤L x∧L x≤m
theorem jr.wide {m m':Int}{L:Lk}(h:jr m L)(hm:m≤m'):jr m' L:=fun x=>by have:=h x;omega
theorem jr.bump {m:Int}{L:Lk}(h:jr m L)(k:ByteArray){d:Int}(hd:-1≤d∧d≤1):jr (m+1) (bump L k d):=fun x=>by
 have:=h x;unfold Gr.bump;split<;>omega
theorem jr.adds {m:Int}(es:List Ed):∀ {L:Lk},jr m L→jr (m+es.length) (adds es L):=by
 induction es generalizing m with
 | nil=>intro L h;simpa[Gr.adds] using h
 | cons e es ih =>
  intro L h;have:=ih (h.bump e.2.2 (d:=1) (by omega));refine this.wide ?_;simp;omega
theorem jr.il {m:Int}(n:ByteArray)(es:List Ed):∀ {L:Lk},jr m L→jr (m+es.length) (il n es L):=by
 induction es generalizing m with
 | nil=>intro L h;simpa[Gr.il] using h
 | cons e es ih =>
  intro L h;have h1:jr (m+1) (if e.2.1=n then Gr.bump L e.2.2 (-1) else L):=by
   split
   ·exact h.bump _ (by omega)
   ·exact h.wide (by omega)
  refine (ih h1).wide ?_;simp;omega
theorem afc {L:Lk}{r:List ByteArray}{i:Nat}(h:next L r=some i):i<r.length∧L (nm r i)=0∧r[i]?=some (nm r i):=by
 unfold next at h;rw[List.findIdx?_eq_some_iff_getElem] at h;obtain⟨h1,h2,_⟩:=h;refine⟨h1,?_,by simp[nm,List.getElem?_eq_getElem h1]⟩;simpa[nm,List.getElem?_eq_getElem h1] using h2
theorem FV {es:List Ed}{f:Nat}{L:Lk}{o r:List ByteArray}(h:next L r=none):go es f L o r=(o,r):=by
 cases f with
 | zero=>rfl
 | succ f=>rw[go,h]
theorem afd (L:Lk):next L []=none:=rfl
theorem afe (l:List (Int × ByteArray))(j:Nat)(d:Int × ByteArray)(h:l[j]?=some d):tasks (l.take (j+1))=if d.1=4 then tasks (l.take j)++[d.2] else tasks (l.take j):=by
 unfold tasks;rw[List.take_add_one,h];by_cases hd:d.1=4<;>simp[hd]
theorem Ub (l:List (Int × ByteArray)):(tasks l).length≤l.length:=by
 unfold tasks;rw[List.length_map];exact List.length_filter_le _ _
end Gr
end Go.Proofs.YtfcpglhpolpdcaaGreatDoor
