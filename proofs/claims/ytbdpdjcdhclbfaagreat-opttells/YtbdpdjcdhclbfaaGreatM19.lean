/- A right module without some of its tasks is right. -/
import Derived.Test.YtbdpdjcdhclbfaaGreatM18
import Derived.Test.YtbdpdjcdhclbfaaGreatM4
import Derived.Test.YtbdpdjcdhclbfaaGreatM9
namespace Go.Proofs.YtbdpdjcdhclbfaaGreat
namespace Vf
theorem RH {J8 J9:Int→LL→LL}:∀ (cs:List Ins) (l:LL),(∀ c ∈ cs,∀ l,wZ J8 c l=wZ J9 c l)→wP J8 cs l=wP J9 cs l
 | [],_,_=>rfl
 | c :: cs,l,h=>by
  show wP J8 cs (wZ J8 c l)=wP J9 cs (wZ J9 c l)
  rw[h c List.mem_cons_self];exact RH cs _ (fun c hc=>h c (List.mem_cons_of_mem _ hc))
theorem uR.tq {m n:Md}(h:uR m n)(hR:Rt m):∀ (f:Nat) (a:Int) (l:LL),Vf.unit n a=Vf.unit m a→Vf.tq n f a l=Vf.tq m f a l
 | 0,_,_,_=>rfl
 | f+1,a,l,he=>by
  show wP (Vf.tq n f) (Vf.unit n a).code l=wP (Vf.tq m f) (Vf.unit m a).code l
  rw[he];have hu:=JL hR a;refine RH _ _ (fun c hc l=>?_);unfold wZ;by_cases h1:c.op=26∨c.op=27
  ·rw[if_pos h1,if_pos h1]
  ·rw[if_neg h1,if_neg h1]
   by_cases h2:c.op=23∨c.op=29
   ·rw[if_pos h2,if_pos h2]
    obtain⟨kd,hk4,hi⟩:=Hm (hu.2 c hc) h2;rw[h.tq hR f c.a _ (h.unit hk4 hi)]
   ·rw[if_neg h2,if_neg h2]
theorem uR.tc {m n:Md}(h:uR m n)(hR:Rt m)(q:Lk)(k:Nat):Vf.tc n q k≤Vf.tc m q k:=by
 unfold Vf.tc;refine List.countP_mono_left (fun i _ hi=>?_);simp only[Bool.and_eq_true] at hi ⊢;rw[h.is] at hi;refine⟨hi.1,?_⟩;have hc:=hi.2;obtain⟨u,hu,hk,_⟩:=yh hi.1;have hi':Vf.is n 4 (i:Int)=true:=by rw[h.is];exact hi.1
 obtain⟨v,hv,_,_⟩:=yh hi';have huv:Vf.unit m (i:Int)=u:=by unfold Vf.unit;rw[hu];rfl
 have hvv:Vf.unit n (i:Int)=v:=by unfold Vf.unit;rw[hv];rfl
 rcases h.same _ u v hu hv with h1 | ⟨_,h1⟩
 ·unfold comes at hc ⊢
  rw[h.tq hR 61 (i:Int) [] (by rw[hvv,huv,h1])] at hc;exact hc
 ·exfalso
  unfold comes at hc;rw[ZE n 61 (i:Int) (by rw[hvv,h1])] at hc;simp[cnt,idx] at hc
end Vf
namespace Ot
open Vf Vm
structure Al (m n:Md):Prop where
 boxes:n.boxes=m.boxes
 len:n.units.length=m.units.length
 same:∀ (k:Nat) (u:Un),m.units[k]?=some u→∃ l,n.units[k]?=some { u with code:=l }
theorem Al.unit {m n:Md}(h:Al m n)(a:Int):∃ l,Vf.unit n a={ Vf.unit m a with code:=l }:=by
 unfold Vf.unit;cases hm:m.units[a.toNat]? with
 | none =>
  have:n.units[a.toNat]?=none:=by
   rw[List.getElem?_eq_none_iff] at hm ⊢;rw[h.len];exact hm
  rw[this];exact⟨[],rfl⟩
 | some u =>
  obtain⟨l,hl⟩:=h.same _ _ hm;rw[hl];exact⟨l,rfl⟩
theorem Al.is {m n:Md}(h:Al m n)(kd a:Int):Vf.is n kd a=Vf.is m kd a:=by
 unfold Vf.is;cases hm:m.units[a.toNat]? with
 | none =>
  have:n.units[a.toNat]?=none:=by
   rw[List.getElem?_eq_none_iff] at hm ⊢;rw[h.len];exact hm
  rw[this]
 | some u =>
  obtain⟨l,hl⟩:=h.same _ _ hm;rw[hl];rfl
theorem Al.params {m n:Md}(h:Al m n)(a:Int):Vf.params n a=Vf.params m a:=by
 obtain⟨l,hl⟩:=h.unit a;unfold Vf.params;rw[hl]
theorem Al.result {m n:Md}(h:Al m n)(a:Int):(Vf.unit n a).result=(Vf.unit m a).result:=by
 obtain⟨l,hl⟩:=h.unit a;rw[hl]
theorem Al.takes {m n:Md}(h:Al m n)(a:Int):(Vf.unit n a).takes=(Vf.unit m a).takes:=by
 obtain⟨l,hl⟩:=h.unit a;rw[hl]
theorem Al.resume {m n:Md}(h:Al m n)(st:List Int):Vf.resume n st=Vf.resume m st:=by
 unfold Vf.resume;simp only[h.takes,h.result]
theorem Al.jA {m n:Md}(h:Al m n)(u:Un)(l:List Ins)(c:Ins)(k:Kn):Vf.jA n { u with code:=l } c k=Vf.jA m u c k:=by
 unfold Vf.jA Vf.speak;simp only[h.params,h.result,h.resume,Vf.wH,h.boxes,Vf.xu]
theorem Al.rT {m n:Md}(h:Al m n)(u:Un)(l:List Ins)(c:Ins)(k:Kn):Vf.rT n { u with code:=l } c k=Vf.rT m u c k:=by
 unfold Vf.rT;rw[h.jA]
theorem ZF {m:Md}{u:Un}{c:Ins}(hf:aA m u c=0)(hj:jmp c=true):0≤c.a∧c.a<u.code.length:=by
 obtain⟨_,_,hr⟩:=yj hf;simp only[jmp,Bool.or_eq_true,beq_iff_eq] at hj;unfold ranged at hr;rw[if_neg (by omega),if_neg (by omega),if_pos hj] at hr;simpa using hr
theorem ZG {m:Md}{u:Un}{c:Ins}(hf:aA m u c=0)(h:c.op=2):c.a=0∨c.a=1:=by
 obtain⟨_,_,hr⟩:=yj hf;unfold ranged at hr;rw[if_pos h] at hr;simpa using hr
theorem ZH {m:Md}{u:Un}(hf:Forms m u):yI u.code:=fun c hc hj=>ZF (hf c hc) hj
theorem ZI {l:List Ins}{k:Nat}{c:Ins}(h:l[k]?=some c):c ∈ l:=List.mem_of_getElem? h
def ZJ (u:Un):Un:={ u with code:=over u.code }
end Ot
namespace Ot
open Vf Vm
def pass (m:Md):Md:=⟨m.boxes,m.units.map ZJ⟩
theorem ZK {l:List Ins}{x:Nat}(hx:x<l.length){d:Ins}(hd:d ∈ (change l x).2)(hj:jmp d=true):∃ e ∈ l,jmp e=true∧e.a=d.a:=by
 rcases Js l x with h | ⟨_,h⟩
 ·rw[h] at hd
  simp only[List.mem_singleton] at hd;rw[List.getElem?_eq_getElem hx] at hd;refine⟨d,?_,hj,rfl⟩;rw[hd];exact List.getElem_mem hx
 ·rcases h with⟨a,b,c,hr,e⟩ | ⟨a,b,hr,e⟩ | ⟨a,b,hr,e⟩ | ⟨a,b,hr,e⟩ | ⟨a,b,hr,e⟩ | ⟨a,_,_,_,e⟩
  ·rw[e] at hd
   simp only[List.mem_singleton] at hd;subst hd;unfold comes at hj;split at hj<;>simp[jmp] at hj
  ·rw[e] at hd;cases hd
  ·rw[e] at hd
   simp only[yH,List.mem_singleton] at hd;subst hd;simp[jmp] at hj
  ·rw[e] at hd
   simp only[ym,List.mem_singleton] at hd;subst hd;simp[jmp] at hj
  ·rw[e] at hd
   simp only[vF] at hd;split at hd
   ·simp only[List.mem_singleton] at hd
    subst hd;exact⟨b,ZI hr.h1,by simp[jmp,hr.VN],rfl⟩
   ·cases hd
  ·rw[e] at hd;cases hd
theorem MO {l:List Ins}(hl:yI l){d:Ins}(hd:d ∈ out (all l))(hj:jmp d=true):0≤d.a∧uP (all l) d.a.toNat:=by
 obtain⟨p,hp,hd⟩:=List.mem_flatMap.1 hd;obtain⟨_,h1,h2⟩:=Aq _ _ _ _ hp;rw[h2] at hd;obtain⟨e,he,RI,RJ⟩:=ZK h1 hd hj;obtain⟨a0,a1⟩:=hl e he RI;rw[RJ] at a0 a1;refine⟨a0,VQ (by omega) ?_⟩;unfold lg;rw[List.any_eq_true];refine⟨e,he,?_⟩;rw[RI,RJ];simp;omega
theorem RL {l:List Ins}(hl:yI l):yI (over l):=fun c hc hj=>by
 have hc':c ∈ (out (all l)).map (moved (all l)):=hc;obtain⟨d,hd,rfl⟩:=List.mem_map.1 hc';by_cases hjd:jmp d=true
 ·obtain⟨_,hb⟩:=MO hl hd hjd
  have e:moved (all l) d={ d with a:=(now (all l) d.a.toNat:Nat) }:=by unfold moved;rw[if_pos hjd]
  have:=Jt hb;rw[← DU] at this;rw[e];exact⟨by simp,by show ((now (all l) d.a.toNat:Nat):Int)<_;omega⟩
 ·have e:moved (all l) d=d:=by unfold moved;rw[if_neg hjd]
  rw[e] at hj;exact absurd hj hjd
theorem MP:∀ (f:Nat) (l:List Ins),(shorter f l).length≤l.length∧(0<l.length→0<(shorter f l).length)
 | 0,l=>⟨Nat.le_refl _,fun h=>h⟩
 | f+1,l=>by
  have h1:=Ls l;unfold shorter;split
  ·have:=MP f (over l)
   exact⟨by omega,fun h=>this.2 (GU h)⟩
  ·exact⟨h1,fun h=>GU h⟩
def xU (u:Un):Un:={ u with code:=short u.code }
def BZ (m:Md):Md:=⟨m.boxes,m.units.map xU⟩
def passes (n:Nat)(m:Md):Md:=n.repeat pass m
theorem RN {m:Md}(h:verify m=(0,0,0)){u:Un}(hu:u ∈ m.units):yI u.code∧0<u.code.length∧u.code.length≤4000:=by
 have hl:=MN.1 h;obtain⟨hR,_⟩:=Fp (hl 0 (by omega)) (hl 1 (by omega)) (hl 2 (by omega));obtain⟨k,hk⟩:=List.getElem?_of_mem hu;have hm:=hR.heads k u hk;obtain⟨_,h2,_⟩:=Ao hm.1;unfold sized at h2;simp only[Bool.and_eq_true,decide_eq_true_eq] at h2;exact⟨ZH hm.2,h2.1.2,h2.2⟩
end Ot
end Go.Proofs.YtbdpdjcdhclbfaaGreat
