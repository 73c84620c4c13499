/- Calls within calls,plainly: a thread whose words and units at work are lists. -/
import Derived.Test.YthffafaoobpedaaGreatDoorM43
import Derived.Test.YthffafaoobpedaaGreatDoorM40
namespace Go.Proofs.YthffafaoobpedaaGreatDoor.Vw
open Go.RowKit Vf Vm
abbrev sc (ws:List Int) (fs:List Wk) (o:List Int) (X:List aR):Cf:=⟨[⟨ws,fs,2,none⟩],0,o,X⟩
theorem DY {ws:List Int}{fs:List Wk}{o:List Int}{X:List aR}(v:Int)(log:List Ev)(h:ws.length < 400):((sc ws fs o X).tk log).put v=(sc (ws ++ [v]) fs o X).tk log:=by
 have h1:¬ ((sc ws fs o X).tk log).top.ws.length=400:=by
  show ¬ ws.length=400
  omega
 unfold Tk.put
 rw [if_neg h1]
 rfl
theorem xY {m:Md}{u pc base:Nat}{F:List Wk}{ws:List Int}{o:List Int}{X:List aR}{c:Ins}{b:Cf}(hi:(unit m u).code[pc]?=some c)(bz:c.op≠26)(h27:c.op≠27)(hx:b.x=X)
  (h:∀ rv log,((sc ws (⟨u,pc+1,base⟩ :: F) o X).tk log).act m c rv=b.tk log):Goes m 1 (sc ws (⟨u,pc,base⟩ :: F) o X) b:=by
 have hins:∀ log,((sc ws (⟨u,pc,base⟩ :: F) o X).tk log).ins m=c:=fun log=>by
  show ((unit m u).code[pc]?).getD ⟨0,0,0⟩=c
  rw [hi];rfl
 refine Goes.step (e:=[]) (fun log=>?_) (fun log=>?_)
 ·unfold stat
  rw [hins,if_neg (fun q=>q rfl),if_neg (fun q=>bz q.1),if_neg (fun q=>h27 q.1)]
 ·unfold one Tk.step
  rw [hins,List.append_nil]
  have e1:((sc ws (⟨u,pc,base⟩ :: F) o X).tk log).goto (((sc ws (⟨u,pc,base⟩ :: F) o X).tk log).frame.pc+1)=(sc ws (⟨u,pc+1,base⟩ :: F) o X).tk log:=rfl
  rw [e1,h]
  unfold mD
  rw [if_neg bz,if_neg h27,hx]
theorem AV {m:Md}{u pc base:Nat}{F:List Wk}{ws:List Int}{o:List Int}{X:List aR}{a n v:Int}(hi:(unit m u).code[pc]?=some ⟨3,a,n⟩)(hv:ws[base+a.toNat]?=some v)(hl:ws.length < 400) :
  Goes m 1 (sc ws (⟨u,pc,base⟩ :: F) o X) (sc (ws ++ [v]) (⟨u,pc+1,base⟩ :: F) o X) :=
 xY hi (show (3:Int)≠26 by decide) (show (3:Int)≠27 by decide) rfl fun rv log=>by
  show ((sc ws (⟨u,pc+1,base⟩ :: F) o X).tk log).put ((ws[base+a.toNat]?).getD 0)=_
  rw [hv]
  exact DY v log hl
theorem aeu {m:Md}{u pc base:Nat}{F:List Wk}{ws:List Int}{o:List Int}{X:List aR}{a n:Int}(hi:(unit m u).code[pc]?=some ⟨1,a,n⟩)(hl:ws.length < 400) :
  Goes m 1 (sc ws (⟨u,pc,base⟩ :: F) o X) (sc (ws ++ [n]) (⟨u,pc+1,base⟩ :: F) o X) :=
 xY hi (show (1:Int)≠26 by decide) (show (1:Int)≠27 by decide) rfl fun rv log=>DY n log hl
theorem qY {p:List Int}{v:Int}{fs:List Wk}{o:List Int}{X:List aR}(log:List Ev):((sc (p ++ [v]) fs o X).tk log).last=v∧((sc (p ++ [v]) fs o X).tk log).cut=(sc p fs o X).tk log:=by
 constructor
 ·show ((p ++ [v]).getLast?).getD 0=v
  simp
 ·show (⟨[⟨(p ++ [v]).dropLast,fs,2,none⟩],0,o,0,0,log⟩:Tk)=_
  rw [List.dropLast_concat]
theorem RZ {m:Md}{u pc base:Nat}{F:List Wk}{p:List Int}{x y:Int}{o:List Int}{X:List aR}{op a n:Int}(hi:(unit m u).code[pc]?=some ⟨op,a,n⟩)(bz:op≠26)(h27:op≠27)(hr:∀ (t:Tk) rv,t.act m ⟨op,a,n⟩ rv=t.reckon op)(hz:y≠0∨op≠11∧op≠12)(hl:p.length < 400) :
  Goes m 1 (sc (p ++ [x] ++ [y]) (⟨u,pc,base⟩ :: F) o X) (sc (p ++ [Vm.two op x y]) (⟨u,pc+1,base⟩ :: F) o X) :=
 xY hi bz h27 rfl fun rv log=>by
  rw [hr]
  have e:((sc (p ++ [x] ++ [y]) (⟨u,pc+1,base⟩ :: F) o X).tk log).reckon op=((sc (p ++ [x] ++ [y]) (⟨u,pc+1,base⟩ :: F) o X).tk log).cut.cut.put (Vm.two op ((sc (p ++ [x] ++ [y]) (⟨u,pc+1,base⟩ :: F) o X).tk log).cut.last ((sc (p ++ [x] ++ [y]) (⟨u,pc+1,base⟩ :: F) o X).tk log).last):=by
   rcases hz with hz | ⟨h1,h2⟩
   ·exact aet (by rw [(qY log).1];exact hz)
   ·exact RX h1 h2
  rw [e,(qY log).1,(qY log).2,(qY log).1,(qY log).2]
  exact DY _ log hl
theorem aev {m:Md}{u pc base:Nat}{F:List Wk}{p:List Int}{x:Int}{o:List Int}{X:List aR}{a n:Int}(hi:(unit m u).code[pc]?=some ⟨22,a,n⟩) :
  Goes m 1 (sc (p ++ [x]) (⟨u,pc,base⟩ :: F) o X) (sc p (⟨u,if x=0 then a.toNat else pc+1,base⟩ :: F) o X) :=
 xY hi (show (22:Int)≠26 by decide) (show (22:Int)≠27 by decide) rfl fun rv log=>by
  show (if ((sc (p ++ [x]) (⟨u,pc+1,base⟩ :: F) o X).tk log).last=0 then ((sc (p ++ [x]) (⟨u,pc+1,base⟩ :: F) o X).tk log).cut.goto a.toNat else ((sc (p ++ [x]) (⟨u,pc+1,base⟩ :: F) o X).tk log).cut)=_
  rw [(qY log).1,(qY log).2]
  split <;> rfl
theorem aew {m:Md}{u pc base:Nat}{F:List Wk}{p q:List Int}{o:List Int}{X:List aR}{f:Nat}{n:Int}(hi:(unit m u).code[pc]?=some ⟨23,(f:Int),n⟩)(hp:(unit m f).params=(q.length:Int))(hk:(unit m f).locals.length=q.length)(hF:F.length+1 < 40)(hl:p.length+q.length≤400) :
  Goes m 1 (sc (p ++ q) (⟨u,pc,base⟩ :: F) o X) (sc (p ++ q) (⟨f,0,p.length⟩ :: ⟨u,pc+1,base⟩ :: F) o X) :=
 xY hi (show (23:Int)≠26 by decide) (show (23:Int)≠27 by decide) rfl fun rv log=>by
  show ((sc (p ++ q) (⟨u,pc+1,base⟩ :: F) o X).tk log).call m f=_
  have h1:¬ ((sc (p ++ q) (⟨u,pc+1,base⟩ :: F) o X).tk log).top.fs.length=40:=by
   show ¬ F.length+1=40
   omega
  have h2:(unit m f).locals.length - (unit m f).params.toNat=0:=by rw [hp,hk];simp
  have h3:((sc (p ++ q) (⟨u,pc+1,base⟩ :: F) o X).tk log).top.ws.length+((unit m f).locals.length - (unit m f).params.toNat)≤400:=by
   rw [h2]
   show (p ++ q).length+0≤400
   simp;omega
  unfold Tk.call
  rw [if_neg h1,if_pos h3,h2]
  have h4:((sc (p ++ q) (⟨u,pc+1,base⟩ :: F) o X).tk log).top.ws.length - (unit m f).params.toNat=p.length:=by
   rw [hp]
   show (p ++ q).length - (q.length:Int).toNat=p.length
   simp
  rw [h4]
  show (⟨[⟨(p ++ q) ++ [],⟨f,0,p.length⟩ :: ⟨u,pc+1,base⟩ :: F,2,none⟩],0,o,0,0,log⟩:Tk)=_
  rw [List.append_nil]
theorem R6 {m:Md}{u pc:Nat}{F:List Wk}{p q:List Int}{v:Int}{o:List Int}{X:List aR}{a n:Int}(hi:(unit m u).code[pc]?=some ⟨24,a,n⟩)(hl:p.length < 400) :
  Goes m 1 (sc (p ++ q ++ [v]) (⟨u,pc,p.length⟩ :: F) o X) (sc (p ++ [v]) F o X) :=
 xY hi (show (24:Int)≠26 by decide) (show (24:Int)≠27 by decide) rfl fun rv log=>by
  show ((sc (p ++ q ++ [v]) (⟨u,pc+1,p.length⟩ :: F) o X).tk log).cut.leave.put ((sc (p ++ q ++ [v]) (⟨u,pc+1,p.length⟩ :: F) o X).tk log).last=_
  rw [(qY log).1,(qY log).2]
  have e:((sc (p ++ q) (⟨u,pc+1,p.length⟩ :: F) o X).tk log).leave=(sc p F o X).tk log:=by
   show (⟨[⟨(p ++ q).take p.length,F,2,none⟩],0,o,0,0,log⟩:Tk)=_
   rw [List.take_left]
  rw [e]
  exact DY v log hl
theorem JG {l:List Int}{k:Nat}{x:Int}{r:List Int}(h:l.drop k=x :: r):l[k]?=some x∧k < l.length∧l.drop (k+1)=r:=by
 have h1:l[k]?=some x:=by
  have:(l.drop k)[0]?=some x:=by rw [h];rfl
  rw [List.getElem?_drop] at this
  simpa using this
 refine ⟨h1,(List.getElem?_eq_some_iff.1 h1).1,?_⟩
 rw [← List.drop_drop,h]
 rfl
theorem R8 {l:List Int}{k:Nat}(h:l.drop k=[])(hk:k≤l.length):k=l.length:=by
 have:=List.drop_eq_nil_iff.1 h
 omega
end Go.Proofs.YthffafaoobpedaaGreatDoor.Vw
namespace Go.Proofs.YthffafaoobpedaaGreatDoor
namespace Xe
noncomputable section
def kI (ops:Array Oper):Array Oper:=⟨(aL ops).take (Nat.sub (aL ops).length 3)⟩
def vI (P:Program)(o:Oper):Option (Nat × Operand × Operand):=match o.op,o.dst,o.guard with
 | .store t x y,none,none=>aK (lU o.op) (oB (dx P t) fun n=>some (n,x,y))
 | _,_,_=>none
structure Ix where
 z:Nat
 x:Operand
 i:Operand
 d:Nat
def R9 {γ:Type}(q:Ix)(f:Nat→Operand→Operand→Nat→γ):γ:=@Ix.rec (fun _=>γ) f q
def idxOf (P:Program)(nt:Nat)(o:Oper):Option Ix:=match o.op,o.dst,o.guard with
 | .indexAddr t x i,some d,none=>match und P t with
  | some (.slice el)=>aK (lU o.op) (aK (mW nt (some d)) (oB (dx P el) fun z=>some ⟨z,x,i,d⟩))
  | _=>none
 | _,_,_=>none
def full (n:Nat):Nat:=Nat.sub (Nat.shiftLeft 1 n) 1
def Sa (ops:Array Oper)(n:Nat):Bool:=(number (aL ops) 0).all (qN (bF [] (aL ops))) && (Nat.beq (aH (bF [] (aL ops)) n) (full n) && (Nat.beq (aH (bF [] (aL ops)) (Nat.succ n)) (full (Nat.succ n)) && Nat.beq (aH (bF [] (aL ops)) (Nat.succ (Nat.succ n))) (full n)))
def both (x y:Operand)(e:En):Bool:=@Option.rec Addr (fun _=>Bool) false (fun a=>@Option.rec Addr (fun _=>Bool) false (fun b=>not' (Nat.beq a.block b.block)) (ptr (ev e y))) (ptr (ev e x))
def JH (a b:Nat × Operand × Operand)(call:Cl)(e:En)(s:S):Option S:=pB a fun na qa=>pB qa fun xa ya=>pB b fun nb qb=>pB qb fun xb yb =>
 aK (both xa xb e) (kW (kV na xa ya call e s 0) fun _ s2=>kW (kV nb xb yb call e s2 0) fun _ s3=>some s3)
def vJ (d:Nat)(x:Operand):Bool:=@Operand.rec (fun _=>Bool) (fun t=>not' (Nat.beq t d)) (fun _=>true) (fun _=>true) (fun _=>true) x
def JI (P:Program)(nt:Nat)(call:Cl)(ops:Array Oper)(e:En)(s:S):Option R :=
 aK (Nat.ble 3 (aL ops).length && Sa ops (Nat.sub (aL ops).length 3)) <|
  oB (oB (nth (aL ops) (Nat.sub (aL ops).length 3)) (idxOf P nt)) fun q=>oB (oB (nth (aL ops) (Nat.succ (Nat.sub (aL ops).length 3))) (vI P)) fun a=>oB (oB (nth (aL ops) (Nat.succ (Nat.succ (Nat.sub (aL ops).length 3)))) (vI P)) fun b =>
  R9 q fun z x i d=>aK (vJ d b.2.1 && vJ d b.2.2) <|
  oB (xE P nt call (kI ops) e s) fun r=>rB r fun k e1 s1=>aK (Nat.beq k 0) (kW (qL z x i call e1 s1 0) fun v _=>oB (JH a b call (fJ e1 d v) s1) fun s3=>some ⟨0,fJ e1 d v,s3⟩)
def JJ (P:Program)(call:Cl)(f:FuncId)(args:List Value)(s:S):Option (Value × S):=oB (CW P f) fun p=>pB p fun fn c=>match c with
 | .region _ ops true=>lB (aL fn.results) (aK (Nat.ble args.length fn.ntmps) (sB s fun k h ds=>oB (JI P fn.ntmps call ops (enter args 0 (fun _=>none)) ⟨k,h,[]⟩) fun r=>rB r fun _ _ s2=>sB s2 fun k2 h2 d2=>lB d2 (some (.tuple #[],⟨k2,h2,ds⟩)) fun _ _=>none)) fun _ _=>none
 | _=>none
end
variable {P:Program}
structure Sc (P:Program) (nt:Nat) (call:Cl) (ops:Array Oper) (e:En) (s:S) (r:R) (ms es:List Nat) (ds:List Dp) (aD:En) (sF:S) (Sx Jx:Nat→S):Prop where
 ctx:Ctx P nt ops ms es call e s.c ds aD sF Sx Jx
 msE:ms=bF [] (aL ops)
 start:∀ φ a w,dZ φ nt e s a w→Inv ops nt ms es call e s.c ds aD Sx φ s.h w (Array.replicate ops.size false) 0 a { w with drawn:=w.drawn+1 } φ s.h
 fin:∀ φ w listed k a' w' φ' h',Inv ops nt ms es call e s.c ds aD Sx φ s.h w listed k a' w' φ' h'→(∀ i,i < ops.size→on listed i=true)→dZ φ' nt r.e r.s a' w'∧eU φ s w φ' r.s w'
theorem DZ {ops:Array Oper}(h:(number (aL ops) 0).all (qN (bF [] (aL ops)))=true)(i:Nat)(o:Oper)(ho:ops[i]?=some o) :
  aH (bF [] (aL ops)) i=gZ (bF [] (aL ops)) (aL o.after)∧aH (bF [] (aL ops)) i < 2 ^ i:=by
 rw [List.all_eq_true] at h
 have hm:(i,o) ∈ number (aL ops) 0:=by
  have:=Dt (k:=0) (l:=aL ops) (i:=i) (a:=o) (by rw [bE];simpa using ho)
  rwa [Nat.zero_add] at this
 have:=h _ hm
 unfold qN at this
 rw [Bool.and_eq_true,dF,dK] at this
 simp only [decide_eq_true_eq] at this
 refine ⟨this.1,?_⟩
 have h4:=this.2
 rw [show Nat.shiftLeft 1 i=1 <<< i from rfl,Nat.shiftLeft_eq,Nat.one_mul] at h4
 omega
theorem Sd:∀ (l acc:List Nat) (ops p:List Oper),bF acc ops=l→∃ t,bF acc (ops ++ p)=l ++ t
 | l,acc,[],p,h=>by
  have h':acc=l:=h
  subst h'
  have:∀ (p:List Oper) (acc:List Nat),∃ t,bF acc p=acc ++ t:=by
   intro p
   induction p with
   | nil=>intro acc;exact ⟨[],by simp [bF]⟩
   | cons o p ih =>
    intro acc
    obtain ⟨t,ht⟩:=ih (acc ++ [gZ acc (aL o.after)])
    exact ⟨gZ acc (aL o.after) :: t,by show bF (acc ++ [gZ acc (aL o.after)]) p=_;rw [ht];simp⟩
  exact this p acc
 | l,acc,o :: ops,p,h=>by
  exact Sd l (acc ++ [gZ acc (aL o.after)]) ops p h
theorem Sg:∀ (ops:List Oper) (acc:List Nat),(bF acc ops).length=acc.length+ops.length
 | [],acc=>by simp [bF]
 | o :: ops,acc=>by
  show (bF (acc ++ [gZ acc (aL o.after)]) ops).length=_
  rw [Sg ops]
  simp
  omega
theorem aey (call:Cl){nt:Nat}{ops:Array Oper}{e:En}{s:S}{r:R}(hr:xE P nt call ops e s=some r) :
  r.k=0∧∃ ms es ds aD sF Sx Jx,Sc P nt call ops e s r ms es ds aD sF Sx Jx:=by
 unfold xE at hr
 rw [aM,jG,om] at hr
 obtain ⟨AL,hr⟩:=hr
 obtain ⟨l,hl,hr⟩:=ai.1 hr
 obtain ⟨⟨aD,sF⟩,hst,hr⟩:=ai.1 hr
 rw [gB,aM] at hr
 obtain ⟨AO,hr⟩:=hr
 cases hr
 obtain ⟨hSt,hch⟩:=QX AL
 have DI:=Re AL
 have hlen:(aL ops).length=ops.size:=by rw [bE];simp
 rw [hlen] at hst AO
 have hw:(fun t=>writer t (aL ops) 0)=jY ops:=by rw [bE];rfl
 rw [hw] at hst ⊢
 obtain ⟨ms,hms⟩:∃ ms,ms=bF [] (aL ops):=⟨_,rfl⟩
 rw [← hms] at hst hSt hch DI
 generalize hes:lW (aL ops) 0=es at *
 rw [bE] at hl hst
 have vE:∀ e,e ∈ es ↔ ∃ o,ops[e]?=some o∧cls o.op=2:=by
  intro e
  rw [← hes,Ra,bE]
  constructor
  ·rintro ⟨j,o,h1,h2,h3⟩
   have:e=j:=by omega
   subst this
   exact ⟨o,by simpa using h2,h3⟩
  ·rintro ⟨o,h1,h2⟩
   exact ⟨e,o,by omega,by simpa using h1,h2⟩
 obtain ⟨hd1,hd2⟩:=Ji (P:=P) (nt:=nt) (ops:=ops) (ms:=ms) (es:=es) ops.toList l 0 (by simp) hl
 have hdl:=Js (ms:=ms) (es:=es) l ops.toList 0
 generalize hds:rY ms es l ops.toList 0=ds at *
 have hget:∀ (j:Nat) (d:Dp),ds[j]?=some d→d.i=j:=by
  intro j d hj
  have hjl:=(List.getElem?_eq_some_iff.1 hj).1
  have hjo:j < ops.toList.length:=by omega
  obtain ⟨d',h1,h2⟩:=hd2 j _ (List.getElem?_eq_getElem hjo)
  rw [hj] at h1;cases h1
  omega
 have hat:∀ (e:Nat) (d:Dp),uR ds e=some d→d ∈ ds∧d.i=e:=by
  intro e d h
  unfold uR at h
  rw [jX] at h
  exact ⟨List.mem_of_getElem? h,hget e d h⟩
 have Jt:∀ d ∈ ds,∀ d' ∈ ds,d.i=d'.i→d=d':=by
  intro d hd d' hd' he
  obtain ⟨j,hj⟩:=List.getElem?_of_mem hd
  obtain ⟨j',hj'⟩:=List.getElem?_of_mem hd'
  have h1:=hget j d hj
  have h2:=hget j' d' hj'
  have:j=j':=by omega
  subst this
  rw [hj] at hj';cases hj';rfl
 have hlo:∀ d ∈ ds,d.lo≤d.hi:=by
  intro d hd
  obtain ⟨_,o,hok⟩:=hd1 d hd
  rw [hok.lo,hok.hi]
  refine countB_le fun e he h=>?_
  obtain ⟨oe,hoe,_⟩:=(vE e).1 he
  cases ht:tb (aH ms e) d.i with
  | true=>have h3:=hSt.lt e oe hoe d.i ht;have h4:=hSt.lt d.i o hok.op e h;omega
  | false=>rfl
 have AP:∀ d ∈ ds,(∃ o,o7 P nt ops ms es d o)∧∀ j,tb d.m j=true→j < ops.size:=by
  intro d hd
  obtain ⟨_,o,hok⟩:=hd1 d hd
  refine ⟨⟨o,hok⟩,fun j hj=>?_⟩
  rw [hok.m] at hj
  have h3:=hSt.lt d.i o hok.op j hj
  have h4:=(Array.getElem?_eq_some_iff.1 hok.op).1
  omega
 obtain ⟨Sx,Jx,hS0,_,vF⟩:=Q8 AP hat hlo es 0 _ _ hst (fun d _ _ h=>absurd h (Nat.not_lt_zero _))
 have hall:∀ i,i < ops.size→∃ v,aD i=some v:=by
  intro i hi
  refine Dv AO ?_ i ?_
  ·intro j hj
   rw [jH] at hj
   rcases Nat.lt_or_ge j ops.size with h | h
   ·exact h
   ·have e1:Nat.sub (Nat.shiftLeft 1 ops.size) 1=2 ^ ops.size - 1:=by
     show 1 <<< ops.size - 1=_
     rw [Nat.shiftLeft_eq,Nat.one_mul]
    rw [e1,Nat.testBit_two_pow_sub_one] at hj
    simpa using hj
  ·rw [jH]
   have e1:Nat.sub (Nat.shiftLeft 1 ops.size) 1=2 ^ ops.size - 1:=by
    show 1 <<< ops.size - 1=_
    rw [Nat.shiftLeft_eq,Nat.one_mul]
   rw [e1,Nat.testBit_two_pow_sub_one]
   simpa using hi
 have C:Ctx P nt ops ms es call e s.c ds aD sF Sx Jx:=by
  refine ⟨hSt,DI,hch,vE,fun d hd=>(AP d hd).1,?_,Jt,hall,vF⟩
  intro i o ho
  obtain ⟨d,h1,h2⟩:=hd2 i o (by simpa using ho)
  exact ⟨d,List.mem_of_getElem? h1,by omega⟩
 have h0:on (Array.replicate ops.size false)=fun _=>false:=by
  funext j
  unfold on
  rw [Array.getD_eq_getD_getElem?,Array.getElem?_replicate]
  split <;> rfl
 have Ju:∀ l:List Nat,countB (fun _=>false) l=0:=by
  intro l
  induction l with
  | nil=>rfl
  | cons a l ih=>exact ih
 have adj:(Sx 0).c=s.c+ops.size:=by rw [hS0];rfl
 refine ⟨rfl,ms,es,ds,aD,sF,Sx,Jx,C,hms,?_,?_⟩
 ·intro φ a w hA
  refine ⟨by simp,?_,?_,hA.stt.rel.draws rfl,?_,?_,?_,?_,?_,hA.env.size,?_,?_,⟨Sub.refl φ,Nat.le_refl _,fun x g h1 h2=>(by rw [h1] at h2;cases h2),fun _ _ _=>rfl,⟨rfl,rfl,rfl⟩⟩,fun _ h1 h2=>absurd h1 h2,fun _ hx=>.inl hx⟩
  ·intro j hj;rw [h0] at hj;cases hj
  ·rw [h0,Ju]
  ·intro x o hx _
   rw [hS0] at hx;exact hx
  ·intro d _ _ hl;rw [h0] at hl;cases hl
  ·omega
  ·intro x hx;exact hA.stt.fr x (by omega)
  ·intro j _ _;exact hA.stt.fr _ (by omega)
  ·intro t
   have hv:=hA.env.val t
   have:ji ops e aD (Array.replicate ops.size false) t=e t:=by
    unfold ji
    cases writer t ops.toList 0 with
    | none=>rfl
    | some j=>simp [h0]
   rw [this];exact hv
  ·rw [hS0];exact hA.iQ
 ·intro φ w listed k a' w' φ' h' I hon
  have hk:k=es.length:=by
   rw [← I.cnt]
   refine Nat.le_antisymm xS ?_
   have h1:countB (fun _=>true) es≤countB (on listed) es:=countB_le fun e he _=>by
    obtain ⟨o,ho,_⟩:=(vE e).1 he
    exact hon e (Array.getElem?_eq_some_iff.1 ho).1
   have h2:∀ l:List Nat,countB (fun _=>true) l=l.length:=by
    intro l
    induction l with
    | nil=>rfl
    | cons a l ih=>show Nat.succ (countB (fun _=>true) l)=l.length+1;rw [ih]
   rw [h2] at h1;exact h1
  have hlast:=vF.last
  rw [Nat.zero_add,← hk] at hlast
  have hJ:=DF C I fun d hd _ _=>by
   obtain ⟨_,o,hok⟩:=hd1 d hd
   exact hon d.i (Array.getElem?_eq_some_iff.1 hok.op).1
  obtain ⟨jc,jd,_⟩:=vF.join k (Nat.zero_le _) (by omega)
  rw [hlast] at hJ jc jd
  have ou:∀ x,live sF.h x→live h' x:=fun x ⟨o,h1,h2⟩=>⟨o,hJ x o h1 h2,h2⟩
  refine ⟨⟨⟨I.dx,fun t=>?_⟩,⟨I.rel.less hJ,fun x hx=>I.fr x (by rw [← jc];exact hx)⟩,?_⟩,⟨I.ext,?_,I.new,fun x hx=>I.dm x (ou x hx)⟩⟩
  ·have hv:=I.env t
   have:uS (jY ops) aD e t=ji ops e aD listed t:=by
    unfold uS ji jY
    cases hw:writer t ops.toList 0 with
    | none=>exact si _
    | some j =>
     obtain ⟨q,p,hq,hp,_⟩:=xR hw
     have hj:j=q:=by omega
     subst hj
     have hp':ops[j]?=some p:=by simpa using hp
     show mU (aD j)=if on listed j=true then aD j else e t
     rw [if_pos (hon j (Array.getElem?_eq_some_iff.1 hp').1),si]
   show V φ' (gY (uS (jY ops) aD e t)) _
   rw [this];exact hv
  ·show L (DR φ') sF.ds a'.defers
   rw [jd];exact I.iQ
  ·have:=I.vD
   show s.c≤sF.c
   omega
end Xe
end Go.Proofs.YthffafaoobpedaaGreatDoor
