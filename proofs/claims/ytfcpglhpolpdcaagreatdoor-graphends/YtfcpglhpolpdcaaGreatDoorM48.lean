/- A function that is one drawn region whose last three operations are an element's address,a store there,and a store elsewhere that may come ahead of them. -/
import Derived.Test.YtfcpglhpolpdcaaGreatDoorM47
namespace Go.Proofs.YtfcpglhpolpdcaaGreatDoor
namespace Xe
noncomputable section
def lF (ops:Array Oper):Array Oper:=⟨(aL ops).take (Nat.sub (aL ops).length 3)⟩
def wN (P:Program)(o:Oper):Option (Nat × Operand × Operand):=match o.op,o.dst,o.guard with
 | .store t x y,none,none=>aO (mJ o.op) (oB (dJ P t) fun n=>some (n,x,y))
 | _,_,_=>none
structure Ix where
 z:Nat
 x:Operand
 i:Operand
 d:Nat
def UR {γ:Type}(q:Ix)(f:Nat→Operand→Operand→Nat→γ):γ:=@Ix.rec (fun _=>γ) f q
def idxOf (P:Program)(nt:Nat)(o:Oper):Option Ix:=match o.op,o.dst,o.guard with
 | .indexAddr t x i,some d,none=>match und P t with
  | some (.slice el)=>aO (mJ o.op) (aO (nP nt (some d)) (oB (dJ P el) fun z=>some ⟨z,x,i,d⟩))
  | _=>none
 | _,_,_=>none
def full (n:Nat):Nat:=Nat.sub (Nat.shiftLeft 1 n) 1
def UT (ops:Array Oper)(n:Nat):Bool:=(number (aL ops) 0).all (ru (bH [] (aL ops))) && (Nat.beq (aH (bH [] (aL ops)) n) (full n) && (Nat.beq (aH (bH [] (aL ops)) (Nat.succ n)) (full (Nat.succ n)) && Nat.beq (aH (bH [] (aL ops)) (Nat.succ (Nat.succ n))) (full n)))
def both (x y:Operand)(e:En):Bool:=@Option.rec Addr (fun _=>Bool) false (fun a=>@Option.rec Addr (fun _=>Bool) false (fun b=>not' (Nat.beq a.block b.block)) (ptr (ev e y))) (ptr (ev e x))
def Lp (a b:Nat × Operand × Operand)(call:Cl)(e:En)(s:S):Option S:=pB a fun na qa=>pB qa fun xa ya=>pB b fun nb qb=>pB qb fun xb yb =>
 aO (both xa xb e) (l7 (l6 na xa ya call e s 0) fun _ s2=>l7 (l6 nb xb yb call e s2 0) fun _ s3=>some s3)
def wO (d:Nat)(x:Operand):Bool:=@Operand.rec (fun _=>Bool) (fun t=>not' (Nat.beq t d)) (fun _=>true) (fun _=>true) (fun _=>true) x
def Lr (P:Program)(nt:Nat)(call:Cl)(ops:Array Oper)(e:En)(s:S):Option R :=
 aO (Nat.ble 3 (aL ops).length && UT ops (Nat.sub (aL ops).length 3)) <|
  oB (oB (nth (aL ops) (Nat.sub (aL ops).length 3)) (idxOf P nt)) fun q=>oB (oB (nth (aL ops) (Nat.succ (Nat.sub (aL ops).length 3))) (wN P)) fun a=>oB (oB (nth (aL ops) (Nat.succ (Nat.succ (Nat.sub (aL ops).length 3)))) (wN P)) fun b =>
  UR q fun z x i d=>aO (wO d b.2.1 && wO d b.2.2) <|
  oB (yI P nt call (lF ops) e s) fun r=>rB r fun k e1 s1=>aO (Nat.beq k 0) (l7 (q9 z x i call e1 s1 0) fun v _=>oB (Lp a b call (dU e1 d v) s1) fun s3=>some ⟨0,dU e1 d v,s3⟩)
def Ls (P:Program)(call:Cl)(f:FuncId)(args:List Value)(s:S):Option (Value × S):=oB (Fe P f) fun p=>pB p fun fn c=>match c with
 | .region _ ops true=>lB (aL fn.results) (aO (Nat.ble args.length fn.ntmps) (sB s fun k h ds=>oB (Lr P fn.ntmps call ops (enter args 0 (fun _=>none)) ⟨k,h,[]⟩) fun r=>rB r fun _ _ s2=>sB s2 fun k2 h2 d2=>lB d2 (some (.tuple #[],⟨k2,h2,ds⟩)) fun _ _=>none)) fun _ _=>none
 | _=>none
end
variable {P:Program}
structure UU (P:Program) (nt:Nat) (call:Cl) (ops:Array Oper) (e:En) (s:S) (r:R) (ms es:List Nat) (ds:List Dp) (aC:En) (sF:S) (Sx Jx:Nat→S):Prop where
 ctx:Ctx P nt ops ms es call e s.c ds aC sF Sx Jx
 msE:ms=bH [] (aL ops)
 start:∀ φ a w,eX φ nt e s a w→Inv ops nt ms es call e s.c ds aC Sx φ s.h w (Array.replicate ops.size false) 0 a { w with drawn:=w.drawn+1 } φ s.h
 fin:∀ φ w listed k a' w' φ' h',Inv ops nt ms es call e s.c ds aC Sx φ s.h w listed k a' w' φ' h'→(∀ i,i<ops.size→on listed i=true)→eX φ' nt r.e r.s a' w'∧fC φ s w φ' r.s w'
theorem FW {ops:Array Oper}(h:(number (aL ops) 0).all (ru (bH [] (aL ops)))=true)(i:Nat)(o:Oper)(ho:ops[i]?=some o) :
  aH (bH [] (aL ops)) i=iA (bH [] (aL ops)) (aL o.after)∧aH (bH [] (aL ops)) i<2 ^ i:=by
 rw[List.all_eq_true] at h;have hm:(i,o) ∈ number (aL ops) 0:=by
  have:=FJ (k:=0) (l:=aL ops) (i:=i) (a:=o) (by rw[bL];simpa using ho);rwa [Nat.zero_add] at this
 have:=h _ hm;unfold ru at this;rw[Bool.and_eq_true,dZ,ed] at this;simp only[decide_eq_true_eq] at this;refine⟨this.1,?_⟩;have h4:=this.2;rw[show Nat.shiftLeft 1 i=1 <<< i from rfl,Nat.shiftLeft_eq,Nat.one_mul] at h4;omega
theorem UW:∀ (l acc:List Nat) (ops p:List Oper),bH acc ops=l→∃ t,bH acc (ops++p)=l++t
 | l,acc,[],p,h=>by
  have h':acc=l:=h;subst h';have:∀ (p:List Oper) (acc:List Nat),∃ t,bH acc p=acc++t:=by
   intro p;induction p with
   | nil=>intro acc;exact⟨[],by simp[bH]⟩
   | cons o p ih =>
    intro acc;obtain⟨t,ht⟩:=ih (acc++[iA acc (aL o.after)]);exact⟨iA acc (aL o.after) :: t,by show bH (acc++[iA acc (aL o.after)]) p=_;rw[ht];simp⟩
  exact this p acc
 | l,acc,o :: ops,p,h=>by
  exact UW l (acc++[iA acc (aL o.after)]) ops p h
theorem UX:∀ (ops:List Oper) (acc:List Nat),(bH acc ops).length=acc.length+ops.length
 | [],acc=>by simp[bH]
 | o :: ops,acc=>by
  show (bH (acc++[iA acc (aL o.after)]) ops).length=_
  rw[UX ops];simp;omega
theorem afX (call:Cl){nt:Nat}{ops:Array Oper}{e:En}{s:S}{r:R}(hr:yI P nt call ops e s=some r) :
  r.k=0∧∃ ms es ds aC sF Sx Jx,UU P nt call ops e s r ms es ds aC sF Sx Jx:=by
 unfold yI at hr;rw[aN,jZ,oP] at hr;obtain⟨CL,hr⟩:=hr;obtain⟨l,hl,hr⟩:=aj.1 hr;obtain⟨⟨aC,sF⟩,hst,hr⟩:=aj.1 hr;rw[gW,aN] at hr;obtain⟨CO,hr⟩:=hr;cases hr;obtain⟨hSt,hch⟩:=Uq CL;have FU:=UE CL;have hlen:(aL ops).length=ops.size:=by rw[bL];simp
 rw[hlen] at hst CO;have hw:(fun t=>writer t (aL ops) 0)=kK ops:=by rw[bL];rfl
 rw[hw] at hst ⊢;obtain⟨ms,hms⟩:∃ ms,ms=bH [] (aL ops):=⟨_,rfl⟩;rw[← hms] at hst hSt hch FU;generalize hes:mK (aL ops) 0=es at *;rw[bL] at hl hst;have wJ:∀ e,e ∈ es ↔ ∃ o,ops[e]?=some o∧cls o.op=2:=by
  intro e;rw[← hes,UA,bL];constructor
  ·rintro⟨j,o,h1,h2,h3⟩
   have:e=j:=by omega
   subst this;exact⟨o,by simpa using h2,h3⟩
  ·rintro⟨o,h1,h2⟩
   exact⟨e,o,by omega,by simpa using h1,h2⟩
 obtain⟨hd1,hd2⟩:=K5 (P:=P) (nt:=nt) (ops:=ops) (ms:=ms) (es:=es) ops.toList l 0 (by simp) hl;have hdl:=Lg (ms:=ms) (es:=es) l ops.toList 0;generalize hds:sV ms es l ops.toList 0=ds at *;have hget:∀ (j:Nat) (d:Dp),ds[j]?=some d→d.i=j:=by
  intro j d hj;have hjl:=(List.getElem?_eq_some_iff.1 hj).1;have hjo:j<ops.toList.length:=by omega
  obtain⟨d',h1,h2⟩:=hd2 j _ (List.getElem?_eq_getElem hjo);rw[hj] at h1;cases h1;omega
 have hat:∀ (e:Nat) (d:Dp),vY ds e=some d→d ∈ ds∧d.i=e:=by
  intro e d h;unfold vY at h;rw[kJ] at h;exact⟨List.mem_of_getElem? h,hget e d h⟩
 have Lh:∀ d ∈ ds,∀ d' ∈ ds,d.i=d'.i→d=d':=by
  intro d hd d' hd' he;obtain⟨j,hj⟩:=List.getElem?_of_mem hd;obtain⟨j',hj'⟩:=List.getElem?_of_mem hd';have h1:=hget j d hj;have h2:=hget j' d' hj';have:j=j':=by omega
  subst this;rw[hj] at hj';cases hj';rfl
 have hlo:∀ d ∈ ds,d.lo≤d.hi:=by
  intro d hd;obtain⟨_,o,hok⟩:=hd1 d hd;rw[hok.lo,hok.hi];refine countB_le fun e he h=>?_;obtain⟨oe,hoe,_⟩:=(wJ e).1 he;cases ht:tb (aH ms e) d.i with
  | true=>have h3:=hSt.lt e oe hoe d.i ht;have h4:=hSt.lt d.i o hok.op e h;omega
  | false=>rfl
 have CP:∀ d ∈ ds,(∃ o,qc P nt ops ms es d o)∧∀ j,tb d.m j=true→j<ops.size:=by
  intro d hd;obtain⟨_,o,hok⟩:=hd1 d hd;refine⟨⟨o,hok⟩,fun j hj=>?_⟩;rw[hok.m] at hj;have h3:=hSt.lt d.i o hok.op j hj;have h4:=(Array.getElem?_eq_some_iff.1 hok.op).1;omega
 obtain⟨Sx,Jx,hS0,_,wK⟩:=Uy CP hat hlo es 0 _ _ hst (fun d _ _ h=>absurd h (Nat.not_lt_zero _));have hall:∀ i,i<ops.size→∃ v,aC i=some v:=by
  intro i hi;refine FL CO ?_ i ?_
  ·intro j hj
   rw[j6] at hj;rcases Nat.lt_or_ge j ops.size with h | h
   ·exact h
   ·have e1:Nat.sub (Nat.shiftLeft 1 ops.size) 1=2 ^ ops.size - 1:=by
     show 1 <<< ops.size - 1=_
     rw[Nat.shiftLeft_eq,Nat.one_mul]
    rw[e1,Nat.testBit_two_pow_sub_one] at hj;simpa using hj
  ·rw[j6]
   have e1:Nat.sub (Nat.shiftLeft 1 ops.size) 1=2 ^ ops.size - 1:=by
    show 1 <<< ops.size - 1=_
    rw[Nat.shiftLeft_eq,Nat.one_mul]
   rw[e1,Nat.testBit_two_pow_sub_one];simpa using hi
 have C:Ctx P nt ops ms es call e s.c ds aC sF Sx Jx:=by
  refine⟨hSt,FU,hch,wJ,fun d hd=>(CP d hd).1,?_,Lh,hall,wK⟩;intro i o ho;obtain⟨d,h1,h2⟩:=hd2 i o (by simpa using ho);exact⟨d,List.mem_of_getElem? h1,by omega⟩
 have h0:on (Array.replicate ops.size false)=fun _=>false:=by
  funext j
  unfold on;rw[Array.getD_eq_getD_getElem?,Array.getElem?_replicate];split<;>rfl
 have Li:∀ l:List Nat,countB (fun _=>false) l=0:=by
  intro l;induction l with
  | nil=>rfl
  | cons a l ih=>exact ih
 have afQ:(Sx 0).c=s.c+ops.size:=by rw[hS0];rfl
 refine⟨rfl,ms,es,ds,aC,sF,Sx,Jx,C,hms,?_,?_⟩
 ·intro φ a w hA
  refine⟨by simp,?_,?_,hA.stt.rel.draws rfl,?_,?_,?_,?_,?_,hA.env.size,?_,?_,⟨Sub.refl φ,Nat.le_refl _,fun x g h1 h2=>(by rw[h1] at h2;cases h2),fun _ _ _=>rfl,⟨rfl,rfl,rfl⟩⟩,fun _ h1 h2=>absurd h1 h2,fun _ hx=>.inl hx⟩
  ·intro j hj;rw[h0] at hj;cases hj
  ·rw[h0,Li]
  ·intro x o hx _
   rw[hS0] at hx;exact hx
  ·intro d _ _ hl;rw[h0] at hl;cases hl
  ·omega
  ·intro x hx;exact hA.stt.fr x (by omega)
  ·intro j _ _;exact hA.stt.fr _ (by omega)
  ·intro t
   have hv:=hA.env.val t;have:jH ops e aC (Array.replicate ops.size false) t=e t:=by
    unfold jH;cases writer t ops.toList 0 with
    | none=>rfl
    | some j=>simp[h0]
   rw[this];exact hv
  ·rw[hS0];exact hA.je
 ·intro φ w listed k a' w' φ' h' I hon
  have hk:k=es.length:=by
   rw[← I.cnt];refine Nat.le_antisymm yU ?_;have h1:countB (fun _=>true) es≤countB (on listed) es:=countB_le fun e he _=>by
    obtain⟨o,ho,_⟩:=(wJ e).1 he;exact hon e (Array.getElem?_eq_some_iff.1 ho).1
   have h2:∀ l:List Nat,countB (fun _=>true) l=l.length:=by
    intro l;induction l with
    | nil=>rfl
    | cons a l ih=>show Nat.succ (countB (fun _=>true) l)=l.length+1;rw[ih]
   rw[h2] at h1;exact h1
  have hlast:=wK.last;rw[Nat.zero_add,← hk] at hlast;have hJ:=FT C I fun d hd _ _=>by
   obtain⟨_,o,hok⟩:=hd1 d hd;exact hon d.i (Array.getElem?_eq_some_iff.1 hok.op).1
  obtain⟨jc,jd,_⟩:=wK.join k (Nat.zero_le _) (by omega);rw[hlast] at hJ jc jd;have oW:∀ x,live sF.h x→live h' x:=fun x ⟨o,h1,h2⟩=>⟨o,hJ x o h1 h2,h2⟩;refine⟨⟨⟨I.dJ,fun t=>?_⟩,⟨I.rel.less hJ,fun x hx=>I.fr x (by rw[← jc];exact hx)⟩,?_⟩,⟨I.ext,?_,I.new,fun x hx=>I.dF x (oW x hx)⟩⟩
  ·have hv:=I.env t
   have:vZ (kK ops) aC e t=jH ops e aC listed t:=by
    unfold vZ jH kK;cases hw:writer t ops.toList 0 with
    | none=>exact tu _
    | some j =>
     obtain⟨q,p,hq,hp,_⟩:=yT hw;have hj:j=q:=by omega
     subst hj;have hp':ops[j]?=some p:=by simpa using hp
     show nO (aC j)=if on listed j=true then aC j else e t
     rw[if_pos (hon j (Array.getElem?_eq_some_iff.1 hp').1),tu]
   show V φ' (iy (vZ (kK ops) aC e t)) _
   rw[this];exact hv
  ·show L (DR φ') sF.ds a'.defers
   rw[jd];exact I.je
  ·have:=I.wI
   show s.c≤sF.c
   omega
end Xe
namespace Xe
variable {P:Program}
theorem wP {ops:Array Oper}{L:Array Bool}(hs:L.size=ops.size)(i:Nat) :
  i ∈ Region.ready .any ops L ↔ ∃ o,ops[i]?=some o∧on L i=false∧∀ e ∈ o.after,Region.binds .any e=true→on L e.on=true:=by
 unfold Region.ready;rw[List.mem_filter,List.mem_range,Bool.and_eq_true];constructor
 ·rintro⟨hlt,h1,h2⟩
  have ho:ops[i]?=some ops[i]:=Array.getElem?_eq_getElem hlt;refine⟨ops[i],ho,?_,fun e he hb=>?_⟩
  ·have hl:L[i]?=some (L[i]'(by rw[hs];exact hlt)):=Array.getElem?_eq_getElem _
   unfold on;rw[Array.getD_eq_getD_getElem?,hl] at h1 ⊢;simpa using h1
  ·rw[ho] at h2
   simp only[Option.map_some,Option.getD_some] at h2;rw[Array.all_eq_true'] at h2;have:=h2 e he;rw[hb] at this;simpa[on] using this
 ·rintro⟨o,ho,h1,h2⟩
  have hlt:=(Array.getElem?_eq_some_iff.1 ho).1;refine⟨hlt,?_,?_⟩
  ·have hl:L[i]?=some (L[i]'(by rw[hs];exact hlt)):=Array.getElem?_eq_getElem _
   unfold on at h1;rw[Array.getD_eq_getD_getElem?,hl] at h1 ⊢;simpa using h1
  ·rw[ho]
   simp only[Option.map_some,Option.getD_some];rw[Array.all_eq_true'];intro e he;cases hb:Region.binds .any e with
   | false=>rfl
   | true =>
    have:=h2 e he hb;unfold on at this;rw[this];rfl
def ff (lp:Array Bool):Array Bool:=lp++#[false,false,false]
theorem yX (lp:Array Bool)(i:Nat):on (ff lp) i=on lp i:=by
 unfold on ff;rw[Array.getD_eq_getD_getElem?,Array.getD_eq_getD_getElem?];by_cases h:i<lp.size
 ·rw[Array.getElem?_append_left h]
 ·rw[Array.getElem?_append_right (by omega)]
  have h2:lp[i]?=none:=Array.getElem?_eq_none (by omega);rw[h2];match hq:i - lp.size with
  | 0=>rfl
  | 1=>rfl
  | 2=>rfl
  | q+3=>rfl
theorem afY (lp:Array Bool){i:Nat}(h:i<lp.size):(ff lp).setIfInBounds i true=ff (lp.setIfInBounds i true):=by
 apply Array.ext_getElem?;intro j;unfold ff;rw[Array.getElem?_setIfInBounds];by_cases hj:j<lp.size
 ·rw[Array.getElem?_append_left (xs:=lp) hj,Array.getElem?_append_left (xs:=lp.setIfInBounds i true) (by simpa using hj),Array.getElem?_setIfInBounds]
  by_cases e:i=j
  ·subst e
   rw[if_pos rfl,if_pos rfl,if_pos (by simp;omega),if_pos h]
  ·rw[if_neg e,if_neg e]
 ·have hne:i≠j:=by omega
  rw[if_neg hne,Array.getElem?_append_right (by omega),Array.getElem?_append_right (by simp;omega)];simp
theorem UY {m n k:Nat}(h:m<2 ^ n)(hb:tb m k=true):k<n:=by
 rw[j6] at hb;rcases Nat.lt_or_ge k n with h1 | h1
 ·exact h1
 ·have:=Nat.testBit_lt_two_pow (Nat.lt_of_lt_of_le h (Nat.pow_le_pow_right (by omega) h1))
  rw[this] at hb;cases hb
theorem UZ {s:S}{a:Addr}{vs:List Value}{c:Array Value}{el:TypeId}{f:Nat × Nat}{c':List Value}(h0:a.spot=none)(h1:3≤a.block)(h2:s.h a.block=some (.cells c el f))(h3:q8 a.off c.toList vs=some c') :
  BI s a vs=some ⟨s.c,setH s.h a.block (.cells c'.toArray el f),s.ds⟩:=by
 unfold BI;rw[Cf,yJ,jZ,aN];refine⟨h0,by rw[ed];simpa using h1,aj.2 ⟨_,h2,?_⟩⟩;simp only[BH];rw[bL];exact aj.2 ⟨c',h3,rfl⟩
theorem afZ (h:Hp){x y:Nat}(hne:x≠y)(o1 o2:Obj):setH (setH h x o1) y o2=setH (setH h y o2) x o1:=by
 funext z
 rw[iC,iC,iC,iC];by_cases h1:z=x
 ·subst h1
  rw[if_neg hne,if_pos rfl,if_pos rfl]
 ·by_cases h2:z=y
  ·subst h2
   rw[if_pos rfl,if_neg h1,if_pos rfl]
  ·rw[if_neg h2,if_neg h1,if_neg h1,if_neg h2]
theorem af0 {na nb:Nat}{xa ya xb yb:Operand}{call:Cl}{e:En}{s s2 s3:S}{v1 v2:Value}(hb:both xa xb e=true)(h1:l6 na xa ya call e s 0=some (v1,s2))(h2:l6 nb xb yb call e s2 0=some (v2,s3)) :
  ∃ s2',l6 nb xb yb call e s 0=some (v2,s2')∧l6 na xa ya call e s2' 0=some (v1,s3):=by
 obtain⟨aa,ha,h1⟩:=aj.1 h1;obtain⟨ab,hab,h2⟩:=aj.1 h2;have hne:aa.block≠ab.block:=by
  unfold both at hb;rw[ha,hab] at hb;have:=wG hb;rw[dZ] at this;simpa using this
 rw[aN,aN] at h1 h2;obtain⟨p1,p2,h1⟩:=h1;obtain⟨q1,q2,h2⟩:=h2;obtain⟨t1,w1,h1⟩:=aj.1 h1;cases h1;obtain⟨t2,w2,h2⟩:=aj.1 h2;cases h2;obtain⟨a1,a2,c,el,f,c',a3,a4,rfl⟩:=KL w1;obtain⟨b1,b2,d,em,g,d',b3,b4,rfl⟩:=KL w2;have b3':s.h ab.block=some (.cells d em g):=by
  have h:setH s.h aa.block (.cells c'.toArray el f) ab.block=some (.cells d em g):=b3;rwa [iC,if_neg (Ne.symm hne)] at h
 refine⟨⟨s.c,setH s.h ab.block (.cells d'.toArray em g),s.ds⟩,?_,?_⟩
 ·refine aj.2 ⟨ab,hab,?_⟩
  rw[aN,aN];exact⟨q1,q2,aj.2 ⟨_,UZ b1 b2 b3' b4,rfl⟩⟩
 ·refine aj.2 ⟨aa,ha,?_⟩
  rw[aN,aN];refine⟨p1,p2,aj.2 ⟨_,UZ (s:=⟨s.c,setH s.h ab.block (.cells d'.toArray em g),s.ds⟩) (c:=c) (el:=el) (f:=f) a1 a2 ?_ a4,?_⟩⟩
  ·show setH s.h ab.block (.cells d'.toArray em g) aa.block=_
   rw[iC,if_neg hne];exact a3
  ·show some (undef,(⟨s.c,setH (setH s.h ab.block (.cells d'.toArray em g)) aa.block (.cells c'.toArray el f),s.ds⟩:S))=some (undef,⟨s.c,setH (setH s.h aa.block (.cells c'.toArray el f)) ab.block (.cells d'.toArray em g),s.ds⟩)
   rw[afZ s.h hne]
theorem af1 {o:Oper}{q:Nat × Operand × Operand}(h:wN P o=some q):∃ t,o.op=.store t q.2.1 q.2.2∧o.dst=none∧o.guard=none∧mJ o.op=true∧dJ P t=some q.1:=by
 unfold wN at h;split at h
 ·rename_i t x y h1 h2 h3
  rw[aN] at h;obtain⟨h4,h⟩:=h;obtain⟨n,hn,h⟩:=aj.1 h;cases h;exact⟨t,h1,h2,h3,h4,hn⟩
 ·cases h
theorem yY (hN:jF P){call:Cl}(hC:iP P call){ops:Array Oper}{i:Nat}{o:Oper}(ho:ops[i]?=some o){q:Nat × Operand × Operand}(hq:wN P o=some q){nt:Nat}{e:En}{s s':S}{v:Value}(h:l6 q.1 q.2.1 q.2.2 call e s 0=some (v,s'))
  {φ:Ph} {a:Act} {w:World} (hA:eX φ nt e s a w) {K:Act→World→Prop} {Q:Exit→Act→World→Prop} (hK:∀ φ' a' w',eX φ' nt e s' a' w'→fC φ s w φ' s' w'→K a' w'):wpOp P ops Q i K a w:=by
 obtain⟨t,hop,hd,hg,hok,ht⟩:=af1 hq;unfold wpOp;rw[ho];show (if Region.wanted o (yielded ops a.tmps)=true then _ else _)
 have hw:Region.wanted o (yielded ops a.tmps)=true:=by simp[Region.wanted,hg]
 rw[if_pos hw];have hf:comp P o.op=some (l6 q.1 q.2.1 q.2.2):=by
  rw[hop];show oB (dJ P t) _=_
  rw[ht];rfl
 have hE:pY φ e a o.op:=Kz hok hA.env hA.stt.rel.l8;refine .inl (UD hN hC hf (by rw[hop];rfl) h hE hA.stt hA.je K Q ?_);intro φ' v' w' df hV hP hdf;rw[hd];exact hK φ' _ w' ⟨⟨hA.env.size,fun t=>(hA.env.val t).mono hP.ext.sub⟩,hP.stt,hdf⟩ hP.grew
theorem af2 {nt:Nat}{o:Oper}{q:Ix}(h:idxOf P nt o=some q):comp P o.op=some (q9 q.z q.x q.i)∧o.dst=some q.d∧o.guard=none∧mJ o.op=true∧nP nt (some q.d)=true:=by
 unfold idxOf at h;split at h
 ·rename_i t x i d h1 h2 h3
  split at h
  ·rename_i el hu
   rw[aN,aN] at h;obtain⟨h4,h5,h⟩:=h;obtain⟨z,hz,h⟩:=aj.1 h;cases h;refine⟨?_,h2,h3,h4,h5⟩;rw[h1];show BQ P t x i=_
   unfold BQ;rw[hu];exact aj.2 ⟨z,hz,rfl⟩
  ·cases h
 ·cases h
theorem U0 {call:Cl}{ops:Array Oper}{i:Nat}{o:Oper}(ho:ops[i]?=some o){nt:Nat}{q:Ix}(hq:idxOf P nt o=some q){e:En}{s s':S}{v:Value}(h:q9 q.z q.x q.i call e s 0=some (v,s'))
  {φ:Ph} {a:Act} {w:World} (hA:eX φ nt e s a w) {K:Act→World→Prop} {Q:Exit→Act→World→Prop} (hK:∀ a',eX φ nt (dU e q.d v) s a' w→K a' w):wpOp P ops Q i K a w:=by
 obtain⟨hf,hd,hg,hok,hdo⟩:=af2 hq;unfold wpOp;rw[ho];show (if Region.wanted o (yielded ops a.tmps)=true then _ else _)
 have hw:Region.wanted o (yielded ops a.tmps)=true:=by simp[Region.wanted,hg]
 rw[if_pos hw];have hE:pY φ e a o.op:=Kz hok hA.env hA.stt.rel.l8;have hcls:cls o.op=0:=by
  unfold idxOf at hq;split at hq
  ·rename_i h1 _ _
   rw[h1];rfl
  ·cases hq
 refine .inl ?_;rcases wC hf with⟨_,hR⟩ | ⟨h0,_⟩ | ⟨h0,_⟩
 ·obtain⟨rfl,hR⟩:=hR call e s 0 v s' h
  obtain⟨v',hv,hrun⟩:=hR φ a w hE hA.stt.rel;unfold Oper.wp;rw[hrun o rfl];have hA':eX φ nt (put e (some q.d) v) s' (a.put (some q.d) v') w:=⟨hA.env.put hdo hv,hA.stt,hA.je⟩;show K (a.put o.dst v') w
  rw[hd];exact hK _ hA'
 ·rw[hcls] at h0;cases h0
 ·rw[hcls] at h0;cases h0
theorem U1 {d:Nat}{x:Operand}(h:wO d x=true)(e:En)(v:Value):ev (dU e d v) x=ev e x:=by
 cases x with
 | tmp t =>
  have ht:t≠d:=by
   have h1:not' (Nat.beq t d)=true:=h;have:=wG h1;rw[dZ] at this;simpa using this
  show iy (dU e d v t)=iy (e t)
  unfold dU;rw[bV,dZ,if_neg (by simpa using ht),tu]
 | const c=>rfl
 | global g=>rfl
 | func f=>rfl
theorem af3 {d n:Nat}{x y:Operand}(hx:wO d x=true)(hy:wO d y=true)(call:Cl)(e:En)(v:Value)(s:S):l6 n x y call (dU e d v) s 0=l6 n x y call e s 0:=by
 unfold l6;rw[U1 hx,U1 hy]
theorem U3 (n:Nat):full n=2 ^ n - 1:=by
 show 1 <<< n - 1=_
 rw[Nat.shiftLeft_eq,Nat.one_mul]
theorem af4 {ops:Array Oper}{L:Array Bool}{Q:Exit→Act→World→Prop}(hs:L.size=ops.size)(hall:∀ i,i<ops.size→on L i=true){a:Act}{w:World}(hQ:Q .normal a w):∀ f,wpAny P .any ops Q f L a w:=by
 have hr:∀ i,i ∉ Region.ready .any ops L:=fun i hi=>by
  obtain⟨o,ho,h1,_⟩:=(wP hs i).1 hi;rw[hall i (Array.getElem?_eq_some_iff.1 ho).1] at h1;cases h1
 intro f;cases f with
 | zero=>exact⟨List.eq_nil_iff_forall_not_mem.2 hr,hQ⟩
 | succ f=>exact⟨fun _=>hQ,fun i hi=>absurd hi (hr i)⟩
end Xe
namespace Xe
variable {P:Program}
theorem af5 {γ:Type}(q:Ix)(f:Nat→Operand→Operand→Nat→γ):UR q f=f q.z q.x q.i q.d:=rfl
theorem af6 {α β γ:Type}(p:α × β)(f:α→β→γ):pB p f=f p.1 p.2:=rfl
theorem af7 {z:Nat}{x i:Operand}{call:Cl}{e:En}{s s':S}{v:Value}(h:q9 z x i call e s 0=some (v,s'))(t:S):q9 z x i call e t 0=some (v,t):=by
 unfold q9 at h ⊢;generalize ev e x=y at h ⊢;cases y<;>first | cases h | skip
 rename_i a n c;obtain⟨b,hb,h⟩:=aj.1 h;obtain⟨u,hu,h⟩:=aj.1 h;cases h;exact aj.2 ⟨b,hb,aj.2 ⟨v,hu,rfl⟩⟩
theorem Lu {ops:Array Oper}{n:Nat}(hn:ops.size=n+3):(lF ops).size=n∧(∀ i,i<n→(lF ops)[i]?=ops[i]?)∧aL ops=aL (lF ops)++(aL ops).drop n:=by
 have hl:(aL ops).length=n+3:=by rw[bL];simpa using hn
 have hs:Nat.sub (aL ops).length 3=n:=by rw[hl];rfl
 have hp:lF ops=⟨(aL ops).take n⟩:=by unfold lF;rw[hs]
 rw[hp];refine⟨?_,fun i hi=>?_,?_⟩
 ·show ((aL ops).take n).length=n
  rw[List.length_take,hl];omega
 ·have e1:(⟨(aL ops).take n⟩:Array Oper)[i]?=((aL ops).take n)[i]?:=by simp
  rw[e1,List.getElem?_take_of_lt hi,bL];simp
 ·show aL ops=(aL ops).take n++(aL ops).drop n
  rw[List.take_append_drop]
theorem af8 {ops:Array Oper}{n:Nat}(hn:ops.size=n+3)(i:Nat)(hi:i<n):aH (bH [] (aL (lF ops))) i=aH (bH [] (aL ops)) i:=by
 obtain⟨h1,_,h3⟩:=Lu hn;obtain⟨t,ht⟩:=UW _ [] (aL (lF ops)) ((aL ops).drop n) rfl;rw[← h3] at ht;have hlen:=UX (aL (lF ops)) [];have hl2:(aL (lF ops)).length=n:=by rw[bL];simpa using h1
 rw[hl2] at hlen;unfold aH;rw[kJ,kJ,ht,List.getElem?_append_left (by simp at hlen;omega)]
theorem af9 {ops pre:Array Oper}{n:Nat}(hps:pre.size=n)(hpre:∀ i,i<n→pre[i]?=ops[i]?){i:Nat}{o:Oper}(ho:pre[i]?=some o)(hg:∀ j b,o.guard=some (j,b)→j<n){Q:Exit→Act→World→Prop}{K:Act→World→Prop}{a:Act}{w:World}
  (h:wpOp P pre Q i K a w):wpOp P ops Q i K a w:=by
 have hi:i<n:=by have:=(Array.getElem?_eq_some_iff.1 ho).1;omega
 unfold wpOp at h ⊢;rw[← hpre i hi];rw[ho] at h ⊢;have e:Region.wanted o (yielded ops a.tmps)=Region.wanted o (yielded pre a.tmps):=by
  unfold Region.wanted;cases hgd:o.guard with
  | none=>rfl
  | some p =>
   obtain⟨j,b⟩:=p;have:yielded ops a.tmps j=yielded pre a.tmps j:=by unfold yielded;rw[hpre j (hg j b hgd)]
   simp only[this]
 show (if Region.wanted o (yielded ops a.tmps)=true then _ else _)
 rw[e];exact h
theorem aga {pre:Array Oper}{o:Oper}{g:Option (Nat × Bool)}(h:guardOf pre.toList o=some g)(j:Nat)(b:Bool)(hg:o.guard=some (j,b)):j<pre.size:=by
 unfold guardOf at h;rw[hg] at h;obtain⟨og,ho,_⟩:=aj.1 h;rw[kJ] at ho;have:=(List.getElem?_eq_some_iff.1 ho).1;simpa using this
section
variable {ops:Array Oper} {n:Nat}
theorem U4 (hone:(number (aL ops) 0).all (ru (bH [] (aL ops)))=true){i:Nat}{o:Oper}(ho:ops[i]?=some o){m:Nat}(hm:aH (bH [] (aL ops)) i<2 ^ m){e:Edge}(he:e ∈ o.after)(hb:Region.binds .any e=true):e.on<m:=by
 have h1:=(FW hone i o ho).1;refine UY hm ?_;rw[h1];refine K7 ?_ hb;rw[bL];simpa using he
theorem FX (n:Nat):2 ^ n - 1<2 ^ n:=Nat.sub_lt (Nat.two_pow_pos n) (by omega)
structure U5 (P:Program) (ops:Array Oper) (n nt:Nat) (oi oa ob:Oper) (q:Ix) (qa qb:Nat × Operand × Operand):Prop where
 size:ops.size=n+3
 one:(number (aL ops) 0).all (ru (bH [] (aL ops)))=true
 mi:aH (bH [] (aL ops)) n=2 ^ n - 1
 ma:aH (bH [] (aL ops)) (n+1)=2 ^ (n+1) - 1
 mb:aH (bH [] (aL ops)) (n+2)=2 ^ n - 1
 hi:ops[n]?=some oi
 ha:ops[n+1]?=some oa
 hb:ops[n+2]?=some ob
 ki:idxOf P nt oi=some q
 ka:wN P oa=some qa
 kb:wN P ob=some qb
 nx:wO q.d qb.2.1=true
 ny:wO q.d qb.2.2=true
theorem agb (hN:jF P){call:Cl}(hC:iP P call){nt:Nat}{oi oa ob:Oper}{q:Ix}{qa qb:Nat × Operand × Operand}(T:U5 P ops n nt oi oa ob q qa qb){e1:En}{s1 s3 s1':S}{v:Value}(hi1:q9 q.z q.x q.i call e1 s1 0=some (v,s1'))(h2:Lp qa qb call (dU e1 q.d v) s1=some s3)
  {lp:Array Bool} (hls:lp.size=n) (hall:∀ i,i<n→on lp i=true) {φ:Ph} {a:Act} {w:World} (hA:eX φ nt e1 s1 a w) {Q:Exit→Act→World→Prop} (hQ:∀ φ' a' w',eX φ' nt (dU e1 q.d v) s3 a' w'→fC φ s1 w φ' s3 w'→Q .normal a' w') (f:Nat) :
  wpAny P .any ops Q (f+3) (ff lp) a w:=by
 have hn:=T.size;unfold Lp at h2;simp only[af6] at h2;rw[aN] at h2;obtain⟨hbo,h2⟩:=h2;obtain⟨⟨v1,s2⟩,h1,h2⟩:=aj.1 h2;rw[gW] at h2;obtain⟨⟨v2,s3'⟩,h2,h3⟩:=aj.1 h2;rw[gW] at h3;cases h3;obtain⟨s2',g1,g2⟩:=af0 hbo h1 h2;have hsz:(ff lp).size=ops.size:=by unfold ff;simp[hls,hn]
 have hon:∀ i,on (ff lp) i=decide (i<n):=by
  intro i;rw[yX];by_cases hi:i<n
  ·rw[hall i hi];simp[hi]
  ·unfold on
   rw[Array.getD_eq_getD_getElem?,Array.getElem?_eq_none (by omega)];simp[hi]
 have aio:∀ i,i<n+3→aH (bH [] (aL ops)) i<2 ^ n∨i=n+1∨i<n:=by
  intro i hi;have:i<n∨i=n∨i=n+1∨i=n+2:=by omega
  rcases this with h | rfl | rfl | rfl
  ·exact .inr (.inr h)
  ·exact .inl (by rw[T.mi];exact FX _)
  ·exact .inr (.inl rfl)
  ·exact .inl (by rw[T.mb];exact FX _)
 -- who is ready,where the last three are listed so
 have yZ:∀ (L:Array Bool) (bi ba bb:Bool),L.size=ops.size→(∀ i,on L i=if i=n then bi else if i=n+1 then ba else if i=n+2 then bb else decide (i<n))→∀ x,x ∈ Region.ready .any ops L ↔ (x=n∧bi=false)∨(x=n+1∧ba=false∧bi=true)∨(x=n+2∧bb=false):=by
  intro L bi ba bb hL hLo x;rw[wP hL];constructor
  ·rintro⟨o,ho,h1,h2⟩
   have hx:=(Array.getElem?_eq_some_iff.1 ho).1;rw[hLo] at h1;by_cases e0:x=n
   ·subst e0;rw[if_pos rfl] at h1;exact .inl ⟨rfl,h1⟩
   ·rw[if_neg e0] at h1
    by_cases e1:x=n+1
    ·subst e1
     rw[if_pos rfl] at h1;refine .inr (.inl ⟨rfl,h1,?_⟩);have htb:tb (aH (bH [] (aL ops)) (n+1)) n=true:=by
      rw[T.ma,j6,Nat.testBit_two_pow_sub_one];simp
     rw[(FW T.one (n+1) o ho).1] at htb;obtain⟨e,he,hb,h3⟩:=Cz htb;rw[bL] at he;have hl:=h2 e (by simpa using he) hb;have hen:e.on<n+1:=U4 T.one ho (by rw[T.ma];exact FX _) (by simpa using he) hb;rcases h3 with h3 | h3
     ·rw[h3,hLo,if_pos rfl] at hl;exact hl
     ·exfalso
      have h4:n<e.on:=by
       have hoe:ops[e.on]?=some (ops[e.on]'(by omega)):=Array.getElem?_eq_getElem _;exact UY (FW T.one e.on _ hoe).2 h3
      omega
    ·rw[if_neg e1] at h1
     by_cases e2:x=n+2
     ·subst e2;rw[if_pos rfl] at h1;exact .inr (.inr ⟨rfl,h1⟩)
     ·rw[if_neg e2] at h1
      have:¬ x<n:=by simpa using h1
      omega
  ·have pre:∀ (i m:Nat) (o:Oper),ops[i]?=some o→aH (bH [] (aL ops)) i=2 ^ m - 1→∀ e ∈ o.after,Region.binds .any e=true→e.on<m:=fun i m o ho hm e he hb=>U4 T.one ho (by rw[hm];exact FX _) he hb
   rintro (⟨rfl,h⟩ | ⟨rfl,h,h'⟩ | ⟨rfl,h⟩)
   ·refine⟨oi,T.hi,by rw[hLo,if_pos rfl];exact h,fun e he hb=>?_⟩
    have:=pre _ _ _ T.hi T.mi e he hb;rw[hLo,if_neg (by omega),if_neg (by omega),if_neg (by omega)];simpa using this
   ·refine⟨oa,T.ha,by rw[hLo,if_neg (by omega),if_pos rfl];exact h,fun e he hb=>?_⟩
    have:=pre _ _ _ T.ha T.ma e he hb;rw[hLo];by_cases e0:e.on=n
    ·rw[if_pos e0];exact h'
    ·rw[if_neg e0,if_neg (by omega),if_neg (by omega)]
     simp;omega
   ·refine⟨ob,T.hb,by rw[hLo,if_neg (by omega),if_neg (by omega),if_pos rfl];exact h,fun e he hb=>?_⟩
    have:=pre _ _ _ T.hb T.mb e he hb;rw[hLo,if_neg (by omega),if_neg (by omega),if_neg (by omega)];simpa using this
 have tJ:∀ (L:Array Bool) (bi ba bb:Bool) (x:Nat),L.size=ops.size→x<ops.size→(∀ i,on L i=if i=n then bi else if i=n+1 then ba else if i=n+2 then bb else decide (i<n)) →
   (L.setIfInBounds x true).size=ops.size∧∀ i,on (L.setIfInBounds x true) i=(decide (i=x) || if i=n then bi else if i=n+1 then ba else if i=n+2 then bb else decide (i<n)):=fun L bi ba bb x hL hx hLo=>⟨by simpa using hL,fun i=>by rw[oV (by omega),hLo]⟩
 have Lv:∀ i,on (ff lp) i=if i=n then false else if i=n+1 then false else if i=n+2 then false else decide (i<n):=by
  intro i;rw[hon];by_cases e0:i=n
  ·rw[if_pos e0];simp;omega
  ·rw[if_neg e0]
   by_cases e1:i=n+1
   ·rw[if_pos e1];simp;omega
   ·rw[if_neg e1]
    by_cases e2:i=n+2
    ·rw[if_pos e2];simp;omega
    ·rw[if_neg e2]
 have upd:∀ (bi ba bb:Bool) (x:Nat) (ci ca cb:Bool),(x=n∧ci=true∧ca=ba∧cb=bb)∨(x=n+1∧ci=bi∧ca=true∧cb=bb)∨(x=n+2∧ci=bi∧ca=ba∧cb=true)→∀ i:Nat,(decide (i=x) || if i=n then bi else if i=n+1 then ba else if i=n+2 then bb else decide (i<n))=if i=n then ci else if i=n+1 then ca else if i=n+2 then cb else decide (i<n):=by
  rintro bi ba bb x ci ca cb (⟨hx,rfl,rfl,rfl⟩ | ⟨hx,rfl,rfl,rfl⟩ | ⟨hx,rfl,rfl,rfl⟩) i<;>rw[hx]<;>clear hx <;>
  ·by_cases e0:i=n
   ·subst e0;simp
   ·by_cases e1:i=n+1
    ·subst e1;simp
    ·by_cases e2:i=n+2
     ·subst e2;simp
     ·simp[e0,e1,e2]
 have fin:∀ (L:Array Bool),L.size=ops.size→(∀ i,on L i=if i=n then true else if i=n+1 then true else if i=n+2 then true else decide (i<n))→∀ (φ':Ph) (a':Act) (w':World),eX φ' nt (dU e1 q.d v) s3 a' w'→fC φ s1 w φ' s3 w'→∀ f,wpAny P .any ops Q f L a' w':=by
  intro L hL hLo φ' a' w' hA' hG';refine af4 hL (fun i hi=>?_) (hQ φ' a' w' hA' hG');rw[hLo];by_cases e0:i=n
  ·rw[if_pos e0]
  ·rw[if_neg e0]
   by_cases e1:i=n+1
   ·rw[if_pos e1]
   ·rw[if_neg e1]
    by_cases e2:i=n+2
    ·rw[if_pos e2]
    ·rw[if_neg e2];simp;omega
 -- behind the element's address: the stores,in either order
 have two:∀ (L:Array Bool),L.size=ops.size→(∀ i,on L i=if i=n then true else if i=n+1 then false else if i=n+2 then false else decide (i<n))→∀ a',eX φ nt (dU e1 q.d v) s1 a' w→wpAny P .any ops Q (f+2) L a' w:=by
  intro L hL hLo a' hA';have hr:=yZ L true false false hL hLo;refine⟨fun h=>absurd ((hr (n+1)).2 (.inr (.inl ⟨rfl,rfl,rfl⟩))) (by rw[h];simp),fun x hx=>?_⟩;rcases (hr x).1 hx with⟨_,h⟩ | ⟨rfl,_⟩ | ⟨rfl,_⟩
  ·cases h
  ·refine yY hN hC T.ha T.ka h1 hA' ?_
   intro φ1 a1 w1 hA1 hG1;obtain⟨hL1,wQ⟩:=tJ L true false false (n+1) hL (by omega) hLo;have tK:=fun i=>(wQ i).trans (upd true false false (n+1) true true false (.inr (.inl ⟨rfl,rfl,rfl,rfl⟩)) i);have hr1:=yZ _ true true false hL1 tK;refine⟨fun h=>absurd ((hr1 (n+2)).2 (.inr (.inr ⟨rfl,rfl⟩))) (by rw[h];simp),fun y hy=>?_⟩;rcases (hr1 y).1 hy with⟨_,h⟩ | ⟨_,h,_⟩ | ⟨rfl,_⟩
   ·cases h
   ·cases h
   ·refine yY hN hC T.hb T.kb h2 hA1 ?_
    intro φ2 a2 w2 hA2 hG2;obtain⟨hL2,CQ⟩:=tJ _ true true false (n+2) hL1 (by omega) tK;exact fin _ hL2 (fun i=>(CQ i).trans (upd true true false (n+2) true true true (.inr (.inr ⟨rfl,rfl,rfl,rfl⟩)) i)) φ2 a2 w2 hA2 (hG1.trans hA'.stt hA1.stt hG2) f
  ·refine yY hN hC T.hb T.kb g1 hA' ?_
   intro φ1 a1 w1 hA1 hG1;obtain⟨hL1,wQ⟩:=tJ L true false false (n+2) hL (by omega) hLo;have tK:=fun i=>(wQ i).trans (upd true false false (n+2) true false true (.inr (.inr ⟨rfl,rfl,rfl,rfl⟩)) i);have hr1:=yZ _ true false true hL1 tK;refine⟨fun h=>absurd ((hr1 (n+1)).2 (.inr (.inl ⟨rfl,rfl,rfl⟩))) (by rw[h];simp),fun y hy=>?_⟩;rcases (hr1 y).1 hy with⟨_,h⟩ | ⟨rfl,_⟩ | ⟨_,h⟩
   ·cases h
   ·refine yY hN hC T.ha T.ka g2 hA1 ?_
    intro φ2 a2 w2 hA2 hG2;obtain⟨hL2,CQ⟩:=tJ _ true false true (n+1) hL1 (by omega) tK;exact fin _ hL2 (fun i=>(CQ i).trans (upd true false true (n+1) true true true (.inr (.inl ⟨rfl,rfl,rfl,rfl⟩)) i)) φ2 a2 w2 hA2 (hG1.trans hA'.stt hA1.stt hG2) f
   ·cases h
 have hr0:=yZ (ff lp) false false false hsz Lv;refine⟨fun h=>absurd ((hr0 n).2 (.inl ⟨rfl,rfl⟩)) (by rw[h];simp),fun x hx=>?_⟩;rcases (hr0 x).1 hx with⟨rfl,_⟩ | ⟨_,_,h⟩ | ⟨rfl,_⟩
 ·refine U0 T.hi T.ki hi1 hA ?_
  intro a' hA';obtain⟨hL1,wQ⟩:=tJ (ff lp) false false false x hsz (by omega) Lv;exact two _ hL1 (fun i=>(wQ i).trans (upd false false false x true false false (.inl ⟨rfl,rfl,rfl,rfl⟩) i)) a' hA'
 ·cases h
 ·have g1':l6 qb.1 qb.2.1 qb.2.2 call e1 s1 0=some (v2,s2'):=by rw[← af3 (n:=qb.1) T.nx T.ny call e1 v s1];exact g1
  refine yY hN hC T.hb T.kb g1' hA ?_;intro φ1 a1 w1 hA1 hG1;obtain⟨hL1,wQ⟩:=tJ (ff lp) false false false (n+2) hsz (by omega) Lv;have tK:=fun i=>(wQ i).trans (upd false false false (n+2) false false true (.inr (.inr ⟨rfl,rfl,rfl,rfl⟩)) i);have hr1:=yZ _ false false true hL1 tK;refine⟨fun h=>absurd ((hr1 n).2 (.inl ⟨rfl,rfl⟩)) (by rw[h];simp),fun y hy=>?_⟩;rcases (hr1 y).1 hy with⟨rfl,_⟩ | ⟨_,_,h⟩ | ⟨_,h⟩
  ·have hi2:q9 q.z q.x q.i call e1 s2' 0=some (v,s2'):=af7 hi1 s2'
   refine U0 T.hi T.ki hi2 hA1 ?_;intro a2 hA2;obtain⟨hL2,CQ⟩:=tJ _ false false true y hL1 (by omega) tK;have U6:=fun i=>(CQ i).trans (upd false false true y true false true (.inl ⟨rfl,rfl,rfl,rfl⟩) i);have hr2:=yZ _ true false true hL2 U6;refine⟨fun h=>absurd ((hr2 (y+1)).2 (.inr (.inl ⟨rfl,rfl,rfl⟩))) (by rw[h];simp),fun z hz=>?_⟩;rcases (hr2 z).1 hz with⟨_,h⟩ | ⟨rfl,_⟩ | ⟨_,h⟩
   ·cases h
   ·refine yY hN hC T.ha T.ka g2 hA2 ?_
    intro φ3 a3 w3 hA3 hG3;obtain⟨hL3,agd⟩:=tJ _ true false true (y+1) hL2 (by omega) U6;exact fin _ hL3 (fun i=>(agd i).trans (upd true false true (y+1) true true true (.inr (.inl ⟨rfl,rfl,rfl,rfl⟩)) i)) φ3 a3 w3 hA3 (hG1.trans hA.stt hA1.stt hG3) f
   ·cases h
  ·cases h
  ·cases h
theorem age {nt ak k:Nat}{pre:Array Oper}{ms es:List Nat}{call:Cl}{e0 aC:En}{ds:List Dp}{sF:S}{Sx Jx:Nat→S}{φ0 φ:Ph}{h0 h:Hp}{w0 w:World}{listed:Array Bool}{a:Act}(C:Ctx P nt pre ms es call e0 ak ds aC sF Sx Jx)
  (I:Inv pre nt ms es call e0 ak ds aC Sx φ0 h0 w0 listed k a w φ h) (hne:¬ ∀ i,i<pre.size→on listed i=true):∃ i,i ∈ Region.ready .any pre listed:=by
 refine Classical.byContradiction fun hno=>hne ?_;intro i;induction i using Nat.strongRecOn with
 | _ i ih =>
  intro hlt;cases hon:on listed i with
  | true=>rfl
  | false =>
   exfalso;have ho:pre[i]?=some pre[i]:=Array.getElem?_eq_getElem hlt;refine hno ⟨i,(wP I.sz i).2 ⟨_,ho,hon,fun e he hb=>?_⟩⟩;have ht:=C.edge i _ ho e he hb;have hle:=C.st.lt i _ ho e.on ht;exact ih e.on hle (by omega)
theorem agf (hN:jF P){call:Cl}(hC:iP P call)(hn:ops.size=n+3)(hone:(number (aL ops) 0).all (ru (bH [] (aL ops)))=true)(vC:aH (bH [] (aL ops)) n=2 ^ n - 1)(za:aH (bH [] (aL ops)) (n+1)=2 ^ (n+1) - 1)(hmb:aH (bH [] (aL ops)) (n+2)=2 ^ n - 1)
  {nt:Nat} {e:En} {s:S} {r:R} {ms es:List Nat} {ds:List Dp} {aC:En} {sF:S} {Sx Jx:Nat→S} (R:UU P nt call (lF ops) e s r ms es ds aC sF Sx Jx) {φ0:Ph} {w0:World} (r0:Rel φ0 s.h w0) {Q:Exit→Act→World→Prop}
  (U7:∀ lp a w φ,lp.size=n→(∀ i,i<n→on lp i=true)→eX φ nt r.e r.s a w→fC φ0 s w0 φ r.s w→∀ f,wpAny P .any ops Q (f+3) (ff lp) a w) :
  ∀ (fuel:Nat) (lp:Array Bool) (k:Nat) (a:Act) (w:World) (φ:Ph) (h:Hp),lp.toList.count false≤fuel→Inv (lF ops) nt ms es call e s.c ds aC Sx φ0 s.h w0 lp k a w φ h→wpAny P .any ops Q (fuel+3) (ff lp) a w:=by
 obtain⟨hps,hpre,_⟩:=Lu hn;intro fuel;induction fuel with
 | zero =>
  intro lp k a w φ h hc I;have hls:lp.size=n:=I.sz.trans hps;have hall:∀ i,i<n→on lp i=true:=by
   intro i hi;have hl:lp[i]?=some (lp[i]'(by omega)):=Array.getElem?_eq_getElem _;unfold on;rw[Array.getD_eq_getD_getElem?,hl];cases hb:lp[i]'(by omega) with
   | true=>rfl
   | false =>
    have hm:false ∈ lp.toList:=by
     have:=Array.getElem_mem (xs:=lp) (i:=i) (by omega);rw[hb] at this;simpa using this
    have:=List.count_pos_iff.2 hm;omega
  obtain⟨hA,hG⟩:=R.fin φ0 w0 lp k a w φ h I (fun i hi=>hall i (by rw[hps] at hi;exact hi));exact U7 lp a w φ hls hall hA hG 0
 | succ fuel ih =>
  intro lp k a w φ h hc I;have hls:lp.size=n:=I.sz.trans hps;by_cases hall:∀ i,i<n→on lp i=true
  ·obtain⟨hA,hG⟩:=R.fin φ0 w0 lp k a w φ h I (fun i hi=>hall i (by rw[hps] at hi;exact hi))
   exact U7 lp a w φ hls hall hA hG (fuel+1)
  ·have hsz:(ff lp).size=ops.size:=by unfold ff;simp[hls,hn]
   have hback:∀ i,i ∈ Region.ready .any (lF ops) lp→i ∈ Region.ready .any ops (ff lp):=by
    intro i hi;obtain⟨o,ho,h1,h2⟩:=(wP I.sz i).1 hi;have hlt:i<n:=by have:=(Array.getElem?_eq_some_iff.1 ho).1;omega
    exact (wP hsz i).2 ⟨o,by rw[← hpre i hlt];exact ho,by rw[yX];exact h1,fun e he hb=>by rw[yX];exact h2 e he hb⟩
   obtain⟨i0,hi0⟩:=age R.ctx I (fun hh=>hall fun i hi=>hh i (by omega));refine⟨fun hr=>absurd (hback i0 hi0) (by rw[hr];simp),fun i hi=>?_⟩;obtain⟨o,ho,h1,h2⟩:=(wP hsz i).1 hi;rw[yX] at h1;have hlt:i<n:=by
    refine Classical.byContradiction fun hge=>hall fun j hj=>?_;have hi2:=(Array.getElem?_eq_some_iff.1 ho).1;have htb:tb (aH (bH [] (aL ops)) i) j=true:=by
     have:i=n∨i=n+1∨i=n+2:=by omega
     rcases this with rfl | rfl | rfl
     ·rw[vC,j6,Nat.testBit_two_pow_sub_one];simpa using hj
     ·rw[za,j6,Nat.testBit_two_pow_sub_one];simp;omega
     ·rw[hmb,j6,Nat.testBit_two_pow_sub_one];simpa using hj
    rw[(FW hone i o ho).1] at htb;obtain⟨e,he,hb,h3⟩:=Cz htb;rw[bL] at he;have hl:=h2 e (by simpa using he) hb;rw[yX] at hl;have hel:e.on<n:=by
     refine Classical.byContradiction fun hh=>?_;unfold on at hl;rw[Array.getD_eq_getD_getElem?,Array.getElem?_eq_none (by omega)] at hl;cases hl
    rcases h3 with rfl | h3
    ·exact hl
    ·refine I.down e.on hl j ?_
     rw[R.msE,af8 hn e.on hel];exact h3
   have hop:(lF ops)[i]?=some o:=by rw[hpre i hlt];exact ho
   have hir:i ∈ Region.ready .any (lF ops) lp:=(wP I.sz i).2 ⟨o,hop,h1,fun e he hb=>by have:=h2 e he hb;rwa [yX] at this⟩;obtain⟨d,jf,hdi⟩:=R.ctx.dat i o hop;obtain⟨o',hd⟩:=R.ctx.yS d jf;have Lf:o'=o:=by have:=hd.op;rw[hdi,hop] at this;cases this;rfl
   subst Lf;refine af9 hps hpre hop (fun j b hg=>by have:=aga hd.g j b hg;omega) (Dx hN hC R.ctx I r0 hir ?_);intro k' a' w' φ' h' I';rw[afY lp (by omega)];refine ih _ k' a' w' φ' h' ?_ I';have U8:i<lp.toList.length:=by simpa[hls] using hlt
   have e:lp.toList[i]=false:=by
    have hl:lp[i]?=some (lp[i]'(by omega)):=Array.getElem?_eq_getElem _;unfold on at h1;rw[Array.getD_eq_getD_getElem?,hl] at h1;simpa using h1
   rw[Array.toList_setIfInBounds,List.count_set U8,e];have hmem:false ∈ lp.toList:=by rw[← e];exact List.getElem_mem U8
   have:=List.count_pos_iff.2 hmem;simp only[beq_self_eq_true,if_true];have e2:(true==false)=false:=rfl;rw[e2];simp only[Bool.false_eq_true,if_false];omega
end
theorem agh (hN:jF P)(hm:P.follows .mixedOrders=true){call:Cl}(hC:iP P call){nt:Nat}{ops:Array Oper}{e:En}{s:S}{r:R}(h:Lr P nt call ops e s=some r) :
  r.k=0∧∀ (id:Nat) (φ:Ph) (a:Act) (w:World),eX φ nt e s a w→(Code.region id ops true).wp P (To φ nt s w r) a w:=by
 unfold Lr at h;rw[aN,Bool.and_eq_true,ed] at h;obtain⟨⟨hl,hlast⟩,h⟩:=h;have hl:3≤(aL ops).length:=by simpa using hl
 have hls:(aL ops).length=ops.size:=by rw[bL];simp
 obtain⟨n,hn⟩:∃ n,ops.size=n+3:=⟨ops.size - 3,by omega⟩;have hlen:(aL ops).length=n+3:=by rw[bL];simpa using hn
 have hsub:Nat.sub (aL ops).length 3=n:=by rw[hlen];rfl
 rw[hsub] at hlast h;unfold UT at hlast;rw[Bool.and_eq_true,Bool.and_eq_true,Bool.and_eq_true,dZ,dZ,dZ,U3,U3] at hlast;obtain⟨hone,vC,za,hmb⟩:=hlast;have vC:aH (bH [] (aL ops)) n=2 ^ n - 1:=by simpa using vC
 have za:aH (bH [] (aL ops)) (n+1)=2 ^ (n+1) - 1:=by simpa using za
 have hmb:aH (bH [] (aL ops)) (n+2)=2 ^ n - 1:=by simpa using hmb
 obtain⟨q,hq,h⟩:=aj.1 h;obtain⟨oi,hoi,hq⟩:=aj.1 hq;obtain⟨qa,Lx,h⟩:=aj.1 h;obtain⟨oa,hoa,Lx⟩:=aj.1 Lx;obtain⟨qb,Bz,h⟩:=aj.1 h;obtain⟨ob,fZ,Bz⟩:=aj.1 Bz;rw[af5,aN,Bool.and_eq_true] at h;obtain⟨⟨hnx,hny⟩,h⟩:=h;obtain⟨r1,hr1,h⟩:=aj.1 h;rw[Cy,aN] at h;obtain⟨_,h⟩:=h;obtain⟨⟨v,s1'⟩,hix,h⟩:=aj.1 h;rw[gW] at h;obtain⟨s3,hs3,h⟩:=aj.1 h;cases h;rw[kJ,bL] at hoi hoa fZ;have hoi:ops[n]?=some oi:=by simpa using hoi
 have hoa:ops[n+1]?=some oa:=by simpa using hoa
 have fZ:ops[n+2]?=some ob:=by simpa using fZ
 have T:U5 P ops n nt oi oa ob q qa qb:=⟨hn,hone,vC,za,hmb,hoi,hoa,fZ,hq,Lx,Bz,hnx,hny⟩;obtain⟨_,ms,es,ds,aC,sF,Sx,Jx,R⟩:=afX call hr1;refine⟨rfl,fun id φ a w hA=>wp_region_any hm ?_⟩;have hrep:Array.replicate ops.size false=ff (Array.replicate n false):=by
  rw[hn];apply Array.ext_getElem?;intro j;unfold ff;rw[Array.getElem?_replicate];by_cases hj:j<n
  ·rw[Array.getElem?_append_left (by simpa using hj),Array.getElem?_replicate,if_pos hj,if_pos (by omega)]
  ·rw[Array.getElem?_append_right (by simp;omega)]
   simp only[Array.size_replicate];by_cases h2:j<n+3
   ·rw[if_pos h2]
    have:j - n=0∨j - n=1∨j - n=2:=by omega
    rcases this with h3 | h3 | h3<;>rw[h3]<;>rfl
   ·rw[if_neg h2]
    obtain⟨q,hq⟩:∃ q,j - n=q+3:=⟨j - n - 3,by omega⟩;rw[hq];rfl
 rw[hrep];rw[hn];have hst:=R.start φ a w hA;rw[(Lu hn).1] at hst;refine agf hN hC hn hone vC za hmb R hA.stt.rel ?_ n _ 0 a _ φ s.h (by simp) hst;intro lp a1 w1 φ1 hls hall hA1 hG1 f;exact agb hN hC T hix hs3 hls hall hA1 (fun φ2 a2 w2 hA2 hG2=>⟨rfl,φ2,hA2,hG1.trans hA.stt hA1.stt hG2⟩) f
theorem agi (hN:jF P)(hm:P.follows .mixedOrders=true){call:Cl}(hC:iP P call){f:FuncId}{args:List Value}{s s':S}{v:Value}(h:Ls P call f args s=some (v,s')):KU P f args s v s':=by
 unfold Ls at h;obtain⟨⟨fn,c⟩,hb,h⟩:=aj.1 h;rw[gW] at h;obtain⟨gn,hf,hb⟩:=aj.1 hb;obtain⟨c',hc,hb⟩:=aj.1 hb;cases hb;split at h
 ·rename_i ops
  cases hres:aL fn.results with
  | cons x l=>rw[hres,Fg] at h;cases h
  | nil =>
  rw[hres,Ff,aN,jZ,ed] at h;obtain⟨hle,h⟩:=h;have rC:args.length≤fn.ntmps:=by simpa using hle
  obtain⟨r,hr,h⟩:=aj.1 h;rw[Cy,jZ] at h;cases hd:r.s.ds with
  | cons d l=>rw[hd,Fg] at h;cases h
  | nil =>
  rw[hd,Ff] at h;cases h;obtain⟨hk,hwp⟩:=agh hN hm hC hr;refine⟨rfl,⟨fn,_,hf,hc⟩,fun φ w args' hL hS=>?_⟩;have hA:eX φ fn.ntmps (enter args 0 (fun _=>none)) ⟨s.c,s.h,[]⟩ { tmps:=args'++Array.replicate (fn.ntmps - args'.size) undef,defers:=[] } w:=⟨Uj hL rC,⟨hS.rel,hS.fr⟩,trivial⟩;refine calls_of_wp_defers hf hc (wp_mono (hwp _ φ _ w hA) ?_);rintro ex a1 w1 ⟨rfl,φ1,hA1,hG1⟩;have hP1:Post φ s w φ1 r.s w1:=⟨hA1.stt,hG1.ext,hG1.le,hG1.new,hG1.dF⟩;have hl:wh P r.e ⟨r.s.c,r.s.h,s.ds⟩ (aL fn.results)=some []:=by rw[hres];rfl
  obtain⟨v',hv,hrun⟩:=KW (P:=P) (s:=⟨r.s.c,r.s.h,s.ds⟩) hA1.env hA1.stt.rel hl;have hdf:a1.defers=[]:=by
   have:=hA1.je;rw[hd] at this;cases hh:a1.defers with
   | nil=>rfl
   | cons x y=>rw[hh] at this;exact this.elim
  have key:Leaves P fn a1.tmps (fun e w'=>∃ φ' v',e=.returned v'∧V φ' (.tuple #[]) v'∧Post φ s w φ' ⟨r.s.c,r.s.h,s.ds⟩ w') a1.defers .returning w1:=by
   rw[hdf];exact⟨v',hrun,φ1,v',rfl,hv,hP1.ds s.ds s.ds⟩
  rw[hk];exact key
 ·cases h
end Xe
end Go.Proofs.YtfcpglhpolpdcaaGreatDoor
