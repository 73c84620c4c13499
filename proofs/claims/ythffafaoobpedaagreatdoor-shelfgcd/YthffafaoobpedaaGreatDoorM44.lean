/- Calls within calls,plainly: a thread whose words and units at work are lists. -/
import Derived.Test.YthffafaoobpedaaGreatDoorM43
import Derived.Test.YthffafaoobpedaaGreatDoorM40
namespace Go.Proofs.YthffafaoobpedaaGreatDoor.Vw
open Go.RowKit Vf Vm
abbrev sc (ws:List Int) (fs:List Wk) (o:List Int) (X:List aR):Cf:=⟨[⟨ws,fs,2,none⟩],0,o,X⟩
theorem De {ws:List Int}{fs:List Wk}{o:List Int}{X:List aR}(v:Int)(log:List Ev)(h:ws.length < 400):((sc ws fs o X).tk log).put v=(sc (ws ++ [v]) fs o X).tk log:=by
 have h1:¬ ((sc ws fs o X).tk log).top.ws.length=400:=by
  show ¬ ws.length=400
  omega
 unfold Tk.put
 rw [if_neg h1]
 rfl
theorem xw {m:Md}{u pc base:Nat}{F:List Wk}{ws:List Int}{o:List Int}{X:List aR}{c:Ins}{b:Cf}(hi:(unit m u).code[pc]?=some c)(bz:c.op≠26)(h27:c.op≠27)(hx:b.x=X)
  (h:∀ rv log,((sc ws (⟨u,pc+1,base⟩ :: F) o X).tk log).act m c rv=b.tk log):Goes m 1 (sc ws (⟨u,pc,base⟩ :: F) o X) b:=by
 have hins:∀ log,((sc ws (⟨u,pc,base⟩ :: F) o X).tk log).ins m=c:=fun log=>by
  show ((unit m u).code[pc]?).getD ⟨0,0,0⟩=c
  rw [hi];rfl
 refine Goes.step (e:=[]) (fun log=>?_) (fun log=>?_)
 ·unfold stat
  rw [hins,if_neg (fun q=>q rfl),if_neg (fun q=>bz q.1),if_neg (fun q=>h27 q.1)]
 ·unfold one Tk.step
  rw [hins,List.append_nil]
  have e1:((sc ws (⟨u,pc,base⟩ :: F) o X).tk log).goto (((sc ws (⟨u,pc,base⟩ :: F) o X).tk log).frame.pc+1)=(sc ws (⟨u,pc+1,base⟩ :: F) o X).tk log:=rfl
  rw [e1,h]
  unfold mo
  rw [if_neg bz,if_neg h27,hx]
theorem Af {m:Md}{u pc base:Nat}{F:List Wk}{ws:List Int}{o:List Int}{X:List aR}{a n v:Int}(hi:(unit m u).code[pc]?=some ⟨3,a,n⟩)(hv:ws[base+a.toNat]?=some v)(hl:ws.length < 400) :
  Goes m 1 (sc ws (⟨u,pc,base⟩ :: F) o X) (sc (ws ++ [v]) (⟨u,pc+1,base⟩ :: F) o X) :=
 xw hi (show (3:Int)≠26 by decide) (show (3:Int)≠27 by decide) rfl fun rv log=>by
  show ((sc ws (⟨u,pc+1,base⟩ :: F) o X).tk log).put ((ws[base+a.toNat]?).getD 0)=_
  rw [hv]
  exact De v log hl
theorem acL {m:Md}{u pc base:Nat}{F:List Wk}{ws:List Int}{o:List Int}{X:List aR}{a n:Int}(hi:(unit m u).code[pc]?=some ⟨1,a,n⟩)(hl:ws.length < 400) :
  Goes m 1 (sc ws (⟨u,pc,base⟩ :: F) o X) (sc (ws ++ [n]) (⟨u,pc+1,base⟩ :: F) o X) :=
 xw hi (show (1:Int)≠26 by decide) (show (1:Int)≠27 by decide) rfl fun rv log=>De n log hl
theorem qJ {p:List Int}{v:Int}{fs:List Wk}{o:List Int}{X:List aR}(log:List Ev):((sc (p ++ [v]) fs o X).tk log).last=v∧((sc (p ++ [v]) fs o X).tk log).cut=(sc p fs o X).tk log:=by
 constructor
 ·show ((p ++ [v]).getLast?).getD 0=v
  simp
 ·show (⟨[⟨(p ++ [v]).dropLast,fs,2,none⟩],0,o,0,0,log⟩:Tk)=_
  rw [List.dropLast_concat]
theorem QE {m:Md}{u pc base:Nat}{F:List Wk}{p:List Int}{x y:Int}{o:List Int}{X:List aR}{op a n:Int}(hi:(unit m u).code[pc]?=some ⟨op,a,n⟩)(bz:op≠26)(h27:op≠27)(hr:∀ (t:Tk) rv,t.act m ⟨op,a,n⟩ rv=t.reckon op)(hz:y≠0∨op≠11∧op≠12)(hl:p.length < 400) :
  Goes m 1 (sc (p ++ [x] ++ [y]) (⟨u,pc,base⟩ :: F) o X) (sc (p ++ [Vm.two op x y]) (⟨u,pc+1,base⟩ :: F) o X) :=
 xw hi bz h27 rfl fun rv log=>by
  rw [hr]
  have e:((sc (p ++ [x] ++ [y]) (⟨u,pc+1,base⟩ :: F) o X).tk log).reckon op=((sc (p ++ [x] ++ [y]) (⟨u,pc+1,base⟩ :: F) o X).tk log).cut.cut.put (Vm.two op ((sc (p ++ [x] ++ [y]) (⟨u,pc+1,base⟩ :: F) o X).tk log).cut.last ((sc (p ++ [x] ++ [y]) (⟨u,pc+1,base⟩ :: F) o X).tk log).last):=by
   rcases hz with hz | ⟨h1,h2⟩
   ·exact acK (by rw [(qJ log).1];exact hz)
   ·exact QC h1 h2
  rw [e,(qJ log).1,(qJ log).2,(qJ log).1,(qJ log).2]
  exact De _ log hl
theorem acM {m:Md}{u pc base:Nat}{F:List Wk}{p:List Int}{x:Int}{o:List Int}{X:List aR}{a n:Int}(hi:(unit m u).code[pc]?=some ⟨22,a,n⟩) :
  Goes m 1 (sc (p ++ [x]) (⟨u,pc,base⟩ :: F) o X) (sc p (⟨u,if x=0 then a.toNat else pc+1,base⟩ :: F) o X) :=
 xw hi (show (22:Int)≠26 by decide) (show (22:Int)≠27 by decide) rfl fun rv log=>by
  show (if ((sc (p ++ [x]) (⟨u,pc+1,base⟩ :: F) o X).tk log).last=0 then ((sc (p ++ [x]) (⟨u,pc+1,base⟩ :: F) o X).tk log).cut.goto a.toNat else ((sc (p ++ [x]) (⟨u,pc+1,base⟩ :: F) o X).tk log).cut)=_
  rw [(qJ log).1,(qJ log).2]
  split <;> rfl
theorem acN {m:Md}{u pc base:Nat}{F:List Wk}{p q:List Int}{o:List Int}{X:List aR}{f:Nat}{n:Int}(hi:(unit m u).code[pc]?=some ⟨23,(f:Int),n⟩)(hp:(unit m f).params=(q.length:Int))(hk:(unit m f).locals.length=q.length)(hF:F.length+1 < 40)(hl:p.length+q.length≤400) :
  Goes m 1 (sc (p ++ q) (⟨u,pc,base⟩ :: F) o X) (sc (p ++ q) (⟨f,0,p.length⟩ :: ⟨u,pc+1,base⟩ :: F) o X) :=
 xw hi (show (23:Int)≠26 by decide) (show (23:Int)≠27 by decide) rfl fun rv log=>by
  show ((sc (p ++ q) (⟨u,pc+1,base⟩ :: F) o X).tk log).call m f=_
  have h1:¬ ((sc (p ++ q) (⟨u,pc+1,base⟩ :: F) o X).tk log).top.fs.length=40:=by
   show ¬ F.length+1=40
   omega
  have h2:(unit m f).locals.length - (unit m f).params.toNat=0:=by rw [hp,hk];simp
  have h3:((sc (p ++ q) (⟨u,pc+1,base⟩ :: F) o X).tk log).top.ws.length+((unit m f).locals.length - (unit m f).params.toNat)≤400:=by
   rw [h2]
   show (p ++ q).length+0≤400
   simp;omega
  unfold Tk.call
  rw [if_neg h1,if_pos h3,h2]
  have h4:((sc (p ++ q) (⟨u,pc+1,base⟩ :: F) o X).tk log).top.ws.length - (unit m f).params.toNat=p.length:=by
   rw [hp]
   show (p ++ q).length - (q.length:Int).toNat=p.length
   simp
  rw [h4]
  show (⟨[⟨(p ++ q) ++ [],⟨f,0,p.length⟩ :: ⟨u,pc+1,base⟩ :: F,2,none⟩],0,o,0,0,log⟩:Tk)=_
  rw [List.append_nil]
theorem QF {m:Md}{u pc:Nat}{F:List Wk}{p q:List Int}{v:Int}{o:List Int}{X:List aR}{a n:Int}(hi:(unit m u).code[pc]?=some ⟨24,a,n⟩)(hl:p.length < 400) :
  Goes m 1 (sc (p ++ q ++ [v]) (⟨u,pc,p.length⟩ :: F) o X) (sc (p ++ [v]) F o X) :=
 xw hi (show (24:Int)≠26 by decide) (show (24:Int)≠27 by decide) rfl fun rv log=>by
  show ((sc (p ++ q ++ [v]) (⟨u,pc+1,p.length⟩ :: F) o X).tk log).cut.leave.put ((sc (p ++ q ++ [v]) (⟨u,pc+1,p.length⟩ :: F) o X).tk log).last=_
  rw [(qJ log).1,(qJ log).2]
  have e:((sc (p ++ q) (⟨u,pc+1,p.length⟩ :: F) o X).tk log).leave=(sc p F o X).tk log:=by
   show (⟨[⟨(p ++ q).take p.length,F,2,none⟩],0,o,0,0,log⟩:Tk)=_
   rw [List.take_left]
  rw [e]
  exact De v log hl
theorem IW {l:List Int}{k:Nat}{x:Int}{r:List Int}(h:l.drop k=x :: r):l[k]?=some x∧k < l.length∧l.drop (k+1)=r:=by
 have h1:l[k]?=some x:=by
  have:(l.drop k)[0]?=some x:=by rw [h];rfl
  rw [List.getElem?_drop] at this
  simpa using this
 refine ⟨h1,(List.getElem?_eq_some_iff.1 h1).1,?_⟩
 rw [← List.drop_drop,h]
 rfl
theorem QG {l:List Int}{k:Nat}(h:l.drop k=[])(hk:k≤l.length):k=l.length:=by
 have:=List.drop_eq_nil_iff.1 h
 omega
end Go.Proofs.YthffafaoobpedaaGreatDoor.Vw
namespace Go.Proofs.YthffafaoobpedaaGreatDoor
namespace Xe
noncomputable section
def kF (ops:Array Oper):Array Oper:=⟨(aL ops).take (Nat.sub (aL ops).length 3)⟩
def uW (P:Program)(o:Oper):Option (Nat × Operand × Operand):=match o.op,o.dst,o.guard with
 | .store t x y,none,none=>aK (lM o.op) (oB (dx P t) fun n=>some (n,x,y))
 | _,_,_=>none
structure Ix where
 z:Nat
 x:Operand
 i:Operand
 d:Nat
def QH {γ:Type}(q:Ix)(f:Nat→Operand→Operand→Nat→γ):γ:=@Ix.rec (fun _=>γ) f q
def idxOf (P:Program)(nt:Nat)(o:Oper):Option Ix:=match o.op,o.dst,o.guard with
 | .indexAddr t x i,some d,none=>match und P t with
  | some (.slice el)=>aK (lM o.op) (aK (mP nt (some d)) (oB (dx P el) fun z=>some ⟨z,x,i,d⟩))
  | _=>none
 | _,_,_=>none
def full (n:Nat):Nat:=Nat.sub (Nat.shiftLeft 1 n) 1
def QI (ops:Array Oper)(n:Nat):Bool:=(number (aL ops) 0).all (qA (bF [] (aL ops))) && (Nat.beq (aH (bF [] (aL ops)) n) (full n) && (Nat.beq (aH (bF [] (aL ops)) (Nat.succ n)) (full (Nat.succ n)) && Nat.beq (aH (bF [] (aL ops)) (Nat.succ (Nat.succ n))) (full n)))
def both (x y:Operand)(e:En):Bool:=@Option.rec Addr (fun _=>Bool) false (fun a=>@Option.rec Addr (fun _=>Bool) false (fun b=>not' (Nat.beq a.block b.block)) (ptr (ev e y))) (ptr (ev e x))
def IX (a b:Nat × Operand × Operand)(call:Cl)(e:En)(s:S):Option S:=pB a fun na qa=>pB qa fun xa ya=>pB b fun nb qb=>pB qb fun xb yb =>
 aK (both xa xb e) (kT (kS na xa ya call e s 0) fun _ s2=>kT (kS nb xb yb call e s2 0) fun _ s3=>some s3)
def uX (d:Nat)(x:Operand):Bool:=@Operand.rec (fun _=>Bool) (fun t=>not' (Nat.beq t d)) (fun _=>true) (fun _=>true) (fun _=>true) x
def IY (P:Program)(nt:Nat)(call:Cl)(ops:Array Oper)(e:En)(s:S):Option R :=
 aK (Nat.ble 3 (aL ops).length && QI ops (Nat.sub (aL ops).length 3)) <|
  oB (oB (nth (aL ops) (Nat.sub (aL ops).length 3)) (idxOf P nt)) fun q=>oB (oB (nth (aL ops) (Nat.succ (Nat.sub (aL ops).length 3))) (uW P)) fun a=>oB (oB (nth (aL ops) (Nat.succ (Nat.succ (Nat.sub (aL ops).length 3)))) (uW P)) fun b =>
  QH q fun z x i d=>aK (uX d b.2.1 && uX d b.2.2) <|
  oB (wS P nt call (kF ops) e s) fun r=>rB r fun k e1 s1=>aK (Nat.beq k 0) (kT (qp z x i call e1 s1 0) fun v _=>oB (IX a b call (fJ e1 d v) s1) fun s3=>some ⟨0,fJ e1 d v,s3⟩)
def IZ (P:Program)(call:Cl)(f:FuncId)(args:List Value)(s:S):Option (Value × S):=oB (Ce P f) fun p=>pB p fun fn c=>match c with
 | .region _ ops true=>lB (aL fn.results) (aK (Nat.ble args.length fn.ntmps) (sB s fun k h ds=>oB (IY P fn.ntmps call ops (enter args 0 (fun _=>none)) ⟨k,h,[]⟩) fun r=>rB r fun _ _ s2=>sB s2 fun k2 h2 d2=>lB d2 (some (.tuple #[],⟨k2,h2,ds⟩)) fun _ _=>none)) fun _ _=>none
 | _=>none
end
variable {P:Program}
structure QJ (P:Program) (nt:Nat) (call:Cl) (ops:Array Oper) (e:En) (s:S) (r:R) (ms es:List Nat) (ds:List Dp) (aD:En) (sF:S) (Sx Jx:Nat→S):Prop where
 ctx:Ctx P nt ops ms es call e s.c ds aD sF Sx Jx
 msE:ms=bF [] (aL ops)
 start:∀ φ a w,dZ φ nt e s a w→Inv ops nt ms es call e s.c ds aD Sx φ s.h w (Array.replicate ops.size false) 0 a { w with drawn:=w.drawn+1 } φ s.h
 fin:∀ φ w listed k a' w' φ' h',Inv ops nt ms es call e s.c ds aD Sx φ s.h w listed k a' w' φ' h'→(∀ i,i < ops.size→on listed i=true)→dZ φ' nt r.e r.s a' w'∧eU φ s w φ' r.s w'
theorem Df {ops:Array Oper}(h:(number (aL ops) 0).all (qA (bF [] (aL ops)))=true)(i:Nat)(o:Oper)(ho:ops[i]?=some o) :
  aH (bF [] (aL ops)) i=gX (bF [] (aL ops)) (aL o.after)∧aH (bF [] (aL ops)) i < 2 ^ i:=by
 rw [List.all_eq_true] at h
 have hm:(i,o) ∈ number (aL ops) 0:=by
  have:=CF (k:=0) (l:=aL ops) (i:=i) (a:=o) (by rw [bE];simpa using ho)
  rwa [Nat.zero_add] at this
 have:=h _ hm
 unfold qA at this
 rw [Bool.and_eq_true,dF,dK] at this
 simp only [decide_eq_true_eq] at this
 refine ⟨this.1,?_⟩
 have h4:=this.2
 rw [show Nat.shiftLeft 1 i=1 <<< i from rfl,Nat.shiftLeft_eq,Nat.one_mul] at h4
 omega
theorem QK:∀ (l acc:List Nat) (ops p:List Oper),bF acc ops=l→∃ t,bF acc (ops ++ p)=l ++ t
 | l,acc,[],p,h=>by
  have h':acc=l:=h
  subst h'
  have:∀ (p:List Oper) (acc:List Nat),∃ t,bF acc p=acc ++ t:=by
   intro p
   induction p with
   | nil=>intro acc;exact ⟨[],by simp [bF]⟩
   | cons o p ih =>
    intro acc
    obtain ⟨t,ht⟩:=ih (acc ++ [gX acc (aL o.after)])
    exact ⟨gX acc (aL o.after) :: t,by show bF (acc ++ [gX acc (aL o.after)]) p=_;rw [ht];simp⟩
  exact this p acc
 | l,acc,o :: ops,p,h=>by
  exact QK l (acc ++ [gX acc (aL o.after)]) ops p h
theorem QL:∀ (ops:List Oper) (acc:List Nat),(bF acc ops).length=acc.length+ops.length
 | [],acc=>by simp [bF]
 | o :: ops,acc=>by
  show (bF (acc ++ [gX acc (aL o.after)]) ops).length=_
  rw [QL ops]
  simp
  omega
theorem acP (call:Cl){nt:Nat}{ops:Array Oper}{e:En}{s:S}{r:R}(hr:wS P nt call ops e s=some r) :
  r.k=0∧∃ ms es ds aD sF Sx Jx,QJ P nt call ops e s r ms es ds aD sF Sx Jx:=by
 unfold wS at hr
 rw [aM,jE,nP] at hr
 obtain ⟨Aa,hr⟩:=hr
 obtain ⟨l,hl,hr⟩:=ai.1 hr
 obtain ⟨⟨aD,sF⟩,hst,hr⟩:=ai.1 hr
 rw [gB,aM] at hr
 obtain ⟨Ab,hr⟩:=hr
 cases hr
 obtain ⟨hSt,hch⟩:=PK Aa
 have CV:=P8 Aa
 have hlen:(aL ops).length=ops.size:=by rw [bE];simp
 rw [hlen] at hst Ab
 have hw:(fun t=>writer t (aL ops) 0)=jW ops:=by rw [bE];rfl
 rw [hw] at hst ⊢
 obtain ⟨ms,hms⟩:∃ ms,ms=bF [] (aL ops):=⟨_,rfl⟩
 rw [← hms] at hst hSt hch CV
 generalize hes:lN (aL ops) 0=es at *
 rw [bE] at hl hst
 have uS:∀ e,e ∈ es ↔ ∃ o,ops[e]?=some o∧cls o.op=2:=by
  intro e
  rw [← hes,PX,bE]
  constructor
  ·rintro ⟨j,o,h1,h2,h3⟩
   have:e=j:=by omega
   subst this
   exact ⟨o,by simpa using h2,h3⟩
  ·rintro ⟨o,h1,h2⟩
   exact ⟨e,o,by omega,by simpa using h1,h2⟩
 obtain ⟨hd1,hd2⟩:=Im (P:=P) (nt:=nt) (ops:=ops) (ms:=ms) (es:=es) ops.toList l 0 (by simp) hl
 have hdl:=IB (ms:=ms) (es:=es) l ops.toList 0
 generalize hds:rG ms es l ops.toList 0=ds at *
 have hget:∀ (j:Nat) (d:Dp),ds[j]?=some d→d.i=j:=by
  intro j d hj
  have hjl:=(List.getElem?_eq_some_iff.1 hj).1
  have hjo:j < ops.toList.length:=by omega
  obtain ⟨d',h1,h2⟩:=hd2 j _ (List.getElem?_eq_getElem hjo)
  rw [hj] at h1;cases h1
  omega
 have hat:∀ (e:Nat) (d:Dp),uB ds e=some d→d ∈ ds∧d.i=e:=by
  intro e d h
  unfold uB at h
  rw [jV] at h
  exact ⟨List.mem_of_getElem? h,hget e d h⟩
 have IC:∀ d ∈ ds,∀ d' ∈ ds,d.i=d'.i→d=d':=by
  intro d hd d' hd' he
  obtain ⟨j,hj⟩:=List.getElem?_of_mem hd
  obtain ⟨j',hj'⟩:=List.getElem?_of_mem hd'
  have h1:=hget j d hj
  have h2:=hget j' d' hj'
  have:j=j':=by omega
  subst this
  rw [hj] at hj';cases hj';rfl
 have hlo:∀ d ∈ ds,d.lo≤d.hi:=by
  intro d hd
  obtain ⟨_,o,hok⟩:=hd1 d hd
  rw [hok.lo,hok.hi]
  refine countB_le fun e he h=>?_
  obtain ⟨oe,hoe,_⟩:=(uS e).1 he
  cases ht:tb (aH ms e) d.i with
  | true=>have h3:=hSt.lt e oe hoe d.i ht;have h4:=hSt.lt d.i o hok.op e h;omega
  | false=>rfl
 have Ac:∀ d ∈ ds,(∃ o,oO P nt ops ms es d o)∧∀ j,tb d.m j=true→j < ops.size:=by
  intro d hd
  obtain ⟨_,o,hok⟩:=hd1 d hd
  refine ⟨⟨o,hok⟩,fun j hj=>?_⟩
  rw [hok.m] at hj
  have h3:=hSt.lt d.i o hok.op j hj
  have h4:=(Array.getElem?_eq_some_iff.1 hok.op).1
  omega
 obtain ⟨Sx,Jx,hS0,_,uT⟩:=PV Ac hat hlo es 0 _ _ hst (fun d _ _ h=>absurd h (Nat.not_lt_zero _))
 have hall:∀ i,i < ops.size→∃ v,aD i=some v:=by
  intro i hi
  refine CJ Ab ?_ i ?_
  ·intro j hj
   rw [jF] at hj
   rcases Nat.lt_or_ge j ops.size with h | h
   ·exact h
   ·have e1:Nat.sub (Nat.shiftLeft 1 ops.size) 1=2 ^ ops.size - 1:=by
     show 1 <<< ops.size - 1=_
     rw [Nat.shiftLeft_eq,Nat.one_mul]
    rw [e1,Nat.testBit_two_pow_sub_one] at hj
    simpa using hj
  ·rw [jF]
   have e1:Nat.sub (Nat.shiftLeft 1 ops.size) 1=2 ^ ops.size - 1:=by
    show 1 <<< ops.size - 1=_
    rw [Nat.shiftLeft_eq,Nat.one_mul]
   rw [e1,Nat.testBit_two_pow_sub_one]
   simpa using hi
 have C:Ctx P nt ops ms es call e s.c ds aD sF Sx Jx:=by
  refine ⟨hSt,CV,hch,uS,fun d hd=>(Ac d hd).1,?_,IC,hall,uT⟩
  intro i o ho
  obtain ⟨d,h1,h2⟩:=hd2 i o (by simpa using ho)
  exact ⟨d,List.mem_of_getElem? h1,by omega⟩
 have h0:on (Array.replicate ops.size false)=fun _=>false:=by
  funext j
  unfold on
  rw [Array.getD_eq_getD_getElem?,Array.getElem?_replicate]
  split <;> rfl
 have IE:∀ l:List Nat,countB (fun _=>false) l=0:=by
  intro l
  induction l with
  | nil=>rfl
  | cons a l ih=>exact ih
 have abJ:(Sx 0).c=s.c+ops.size:=by rw [hS0];rfl
 refine ⟨rfl,ms,es,ds,aD,sF,Sx,Jx,C,hms,?_,?_⟩
 ·intro φ a w hA
  refine ⟨by simp,?_,?_,hA.stt.rel.draws rfl,?_,?_,?_,?_,?_,hA.env.size,?_,?_,⟨Sub.refl φ,Nat.le_refl _,fun x g h1 h2=>(by rw [h1] at h2;cases h2),fun _ _ _=>rfl,⟨rfl,rfl,rfl⟩⟩,fun _ h1 h2=>absurd h1 h2,fun _ hx=>.inl hx⟩
  ·intro j hj;rw [h0] at hj;cases hj
  ·rw [h0,IE]
  ·intro x o hx _
   rw [hS0] at hx;exact hx
  ·intro d _ _ hl;rw [h0] at hl;cases hl
  ·omega
  ·intro x hx;exact hA.stt.fr x (by omega)
  ·intro j _ _;exact hA.stt.fr _ (by omega)
  ·intro t
   have hv:=hA.env.val t
   have:jf ops e aD (Array.replicate ops.size false) t=e t:=by
    unfold jf
    cases writer t ops.toList 0 with
    | none=>rfl
    | some j=>simp [h0]
   rw [this];exact hv
  ·rw [hS0];exact hA.iO
 ·intro φ w listed k a' w' φ' h' I hon
  have hk:k=es.length:=by
   rw [← I.cnt]
   refine Nat.le_antisymm xk ?_
   have h1:countB (fun _=>true) es≤countB (on listed) es:=countB_le fun e he _=>by
    obtain ⟨o,ho,_⟩:=(uS e).1 he
    exact hon e (Array.getElem?_eq_some_iff.1 ho).1
   have h2:∀ l:List Nat,countB (fun _=>true) l=l.length:=by
    intro l
    induction l with
    | nil=>rfl
    | cons a l ih=>show Nat.succ (countB (fun _=>true) l)=l.length+1;rw [ih]
   rw [h2] at h1;exact h1
  have hlast:=uT.last
  rw [Nat.zero_add,← hk] at hlast
  have hJ:=CU C I fun d hd _ _=>by
   obtain ⟨_,o,hok⟩:=hd1 d hd
   exact hon d.i (Array.getElem?_eq_some_iff.1 hok.op).1
  obtain ⟨jc,jd,_⟩:=uT.join k (Nat.zero_le _) (by omega)
  rw [hlast] at hJ jc jd
  have nW:∀ x,live sF.h x→live h' x:=fun x ⟨o,h1,h2⟩=>⟨o,hJ x o h1 h2,h2⟩
  refine ⟨⟨⟨I.dx,fun t=>?_⟩,⟨I.rel.less hJ,fun x hx=>I.fr x (by rw [← jc];exact hx)⟩,?_⟩,⟨I.ext,?_,I.new,fun x hx=>I.dm x (nW x hx)⟩⟩
  ·have hv:=I.env t
   have:uC (jW ops) aD e t=jf ops e aD listed t:=by
    unfold uC jf jW
    cases hw:writer t ops.toList 0 with
    | none=>exact rM _
    | some j =>
     obtain ⟨q,p,hq,hp,_⟩:=xh hw
     have hj:j=q:=by omega
     subst hj
     have hp':ops[j]?=some p:=by simpa using hp
     show mM (aD j)=if on listed j=true then aD j else e t
     rw [if_pos (hon j (Array.getElem?_eq_some_iff.1 hp').1),rM]
   show V φ' (gW (uC (jW ops) aD e t)) _
   rw [this];exact hv
  ·show L (DR φ') sF.ds a'.defers
   rw [jd];exact I.iO
  ·have:=I.uR
   show s.c≤sF.c
   omega
end Xe
end Go.Proofs.YthffafaoobpedaaGreatDoor
