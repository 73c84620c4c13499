/- Calls within calls,plainly: a thread whose words and units at work are lists. -/
import Derived.Test.YthffafaoobpedabGreatDoorM43
import Derived.Test.YthffafaoobpedabGreatDoorM40
namespace Go.Proofs.YthffafaoobpedabGreatDoor.Vw
open Go.RowKit Vf Vm
abbrev sc (ws:List Int) (fs:List Wk) (o:List Int) (X:List Lst):Cf:=⟨[⟨ws,fs,2,none⟩],0,o,X⟩
theorem sc_put {ws:List Int}{fs:List Wk}{o:List Int}{X:List Lst}(v:Int)(log:List Ev)(h:ws.length < 400):((sc ws fs o X).tk log).put v=(sc (ws ++ [v]) fs o X).tk log:=by
 have h1:¬ ((sc ws fs o X).tk log).top.ws.length=400:=by
  show ¬ ws.length=400
  omega
 unfold Tk.put
 rw [if_neg h1]
 rfl
theorem sc_op {m:Md}{u pc base:Nat}{F:List Wk}{ws:List Int}{o:List Int}{X:List Lst}{c:Ins}{b:Cf}(hi:(unit m u).code[pc]?=some c)(h26:c.op≠26)(h27:c.op≠27)(hx:b.x=X)
  (h:∀ rv log,((sc ws (⟨u,pc+1,base⟩ :: F) o X).tk log).act m c rv=b.tk log):Goes m 1 (sc ws (⟨u,pc,base⟩ :: F) o X) b:=by
 have hins:∀ log,((sc ws (⟨u,pc,base⟩ :: F) o X).tk log).ins m=c:=fun log=>by
  show ((unit m u).code[pc]?).getD ⟨0,0,0⟩=c
  rw [hi];rfl
 refine Goes.step (e:=[]) (fun log=>?_) (fun log=>?_)
 ·unfold stat
  rw [hins,if_neg (fun q=>q rfl),if_neg (fun q=>h26 q.1),if_neg (fun q=>h27 q.1)]
 ·unfold one Tk.step
  rw [hins,List.append_nil]
  have e1:((sc ws (⟨u,pc,base⟩ :: F) o X).tk log).goto (((sc ws (⟨u,pc,base⟩ :: F) o X).tk log).frame.pc+1)=(sc ws (⟨u,pc+1,base⟩ :: F) o X).tk log:=rfl
  rw [e1,h]
  unfold stX
  rw [if_neg h26,if_neg h27,hx]
theorem sc_get {m:Md}{u pc base:Nat}{F:List Wk}{ws:List Int}{o:List Int}{X:List Lst}{a n v:Int}(hi:(unit m u).code[pc]?=some ⟨3,a,n⟩)(hv:ws[base+a.toNat]?=some v)(hl:ws.length < 400) :
  Goes m 1 (sc ws (⟨u,pc,base⟩ :: F) o X) (sc (ws ++ [v]) (⟨u,pc+1,base⟩ :: F) o X) :=
 sc_op hi (show (3:Int)≠26 by decide) (show (3:Int)≠27 by decide) rfl fun rv log=>by
  show ((sc ws (⟨u,pc+1,base⟩ :: F) o X).tk log).put ((ws[base+a.toNat]?).getD 0)=_
  rw [hv]
  exact sc_put v log hl
theorem sc_push {m:Md}{u pc base:Nat}{F:List Wk}{ws:List Int}{o:List Int}{X:List Lst}{a n:Int}(hi:(unit m u).code[pc]?=some ⟨1,a,n⟩)(hl:ws.length < 400) :
  Goes m 1 (sc ws (⟨u,pc,base⟩ :: F) o X) (sc (ws ++ [n]) (⟨u,pc+1,base⟩ :: F) o X) :=
 sc_op hi (show (1:Int)≠26 by decide) (show (1:Int)≠27 by decide) rfl fun rv log=>sc_put n log hl
theorem sc_last {p:List Int}{v:Int}{fs:List Wk}{o:List Int}{X:List Lst}(log:List Ev):((sc (p ++ [v]) fs o X).tk log).last=v∧((sc (p ++ [v]) fs o X).tk log).cut=(sc p fs o X).tk log:=by
 constructor
 ·show ((p ++ [v]).getLast?).getD 0=v
  simp
 ·show (⟨[⟨(p ++ [v]).dropLast,fs,2,none⟩],0,o,0,0,log⟩:Tk)=_
  rw [List.dropLast_concat]
theorem sc_bin {m:Md}{u pc base:Nat}{F:List Wk}{p:List Int}{x y:Int}{o:List Int}{X:List Lst}{op a n:Int}(hi:(unit m u).code[pc]?=some ⟨op,a,n⟩)(h26:op≠26)(h27:op≠27)(hr:∀ (t:Tk) rv,t.act m ⟨op,a,n⟩ rv=t.reckon op)(hz:y≠0∨op≠11∧op≠12)(hl:p.length < 400) :
  Goes m 1 (sc (p ++ [x] ++ [y]) (⟨u,pc,base⟩ :: F) o X) (sc (p ++ [Vm.two op x y]) (⟨u,pc+1,base⟩ :: F) o X) :=
 sc_op hi h26 h27 rfl fun rv log=>by
  rw [hr]
  have e:((sc (p ++ [x] ++ [y]) (⟨u,pc+1,base⟩ :: F) o X).tk log).reckon op=((sc (p ++ [x] ++ [y]) (⟨u,pc+1,base⟩ :: F) o X).tk log).cut.cut.put (Vm.two op ((sc (p ++ [x] ++ [y]) (⟨u,pc+1,base⟩ :: F) o X).tk log).cut.last ((sc (p ++ [x] ++ [y]) (⟨u,pc+1,base⟩ :: F) o X).tk log).last):=by
   rcases hz with hz | ⟨h1,h2⟩
   ·exact reckon_nz (by rw [(sc_last log).1];exact hz)
   ·exact reckon_safe h1 h2
  rw [e,(sc_last log).1,(sc_last log).2,(sc_last log).1,(sc_last log).2]
  exact sc_put _ log hl
theorem sc_else {m:Md}{u pc base:Nat}{F:List Wk}{p:List Int}{x:Int}{o:List Int}{X:List Lst}{a n:Int}(hi:(unit m u).code[pc]?=some ⟨22,a,n⟩) :
  Goes m 1 (sc (p ++ [x]) (⟨u,pc,base⟩ :: F) o X) (sc p (⟨u,if x=0 then a.toNat else pc+1,base⟩ :: F) o X) :=
 sc_op hi (show (22:Int)≠26 by decide) (show (22:Int)≠27 by decide) rfl fun rv log=>by
  show (if ((sc (p ++ [x]) (⟨u,pc+1,base⟩ :: F) o X).tk log).last=0 then ((sc (p ++ [x]) (⟨u,pc+1,base⟩ :: F) o X).tk log).cut.goto a.toNat else ((sc (p ++ [x]) (⟨u,pc+1,base⟩ :: F) o X).tk log).cut)=_
  rw [(sc_last log).1,(sc_last log).2]
  split <;> rfl
theorem sc_call {m:Md}{u pc base:Nat}{F:List Wk}{p q:List Int}{o:List Int}{X:List Lst}{f:Nat}{n:Int}(hi:(unit m u).code[pc]?=some ⟨23,(f:Int),n⟩)(hp:(unit m f).params=(q.length:Int))(hk:(unit m f).locals.length=q.length)(hF:F.length+1 < 40)(hl:p.length+q.length≤400) :
  Goes m 1 (sc (p ++ q) (⟨u,pc,base⟩ :: F) o X) (sc (p ++ q) (⟨f,0,p.length⟩ :: ⟨u,pc+1,base⟩ :: F) o X) :=
 sc_op hi (show (23:Int)≠26 by decide) (show (23:Int)≠27 by decide) rfl fun rv log=>by
  show ((sc (p ++ q) (⟨u,pc+1,base⟩ :: F) o X).tk log).call m f=_
  have h1:¬ ((sc (p ++ q) (⟨u,pc+1,base⟩ :: F) o X).tk log).top.fs.length=40:=by
   show ¬ F.length+1=40
   omega
  have h2:(unit m f).locals.length - (unit m f).params.toNat=0:=by rw [hp,hk];simp
  have h3:((sc (p ++ q) (⟨u,pc+1,base⟩ :: F) o X).tk log).top.ws.length+((unit m f).locals.length - (unit m f).params.toNat)≤400:=by
   rw [h2]
   show (p ++ q).length+0≤400
   simp;omega
  unfold Tk.call
  rw [if_neg h1,if_pos h3,h2]
  have h4:((sc (p ++ q) (⟨u,pc+1,base⟩ :: F) o X).tk log).top.ws.length - (unit m f).params.toNat=p.length:=by
   rw [hp]
   show (p ++ q).length - (q.length:Int).toNat=p.length
   simp
  rw [h4]
  show (⟨[⟨(p ++ q) ++ [],⟨f,0,p.length⟩ :: ⟨u,pc+1,base⟩ :: F,2,none⟩],0,o,0,0,log⟩:Tk)=_
  rw [List.append_nil]
theorem sc_ret {m:Md}{u pc:Nat}{F:List Wk}{p q:List Int}{v:Int}{o:List Int}{X:List Lst}{a n:Int}(hi:(unit m u).code[pc]?=some ⟨24,a,n⟩)(hl:p.length < 400) :
  Goes m 1 (sc (p ++ q ++ [v]) (⟨u,pc,p.length⟩ :: F) o X) (sc (p ++ [v]) F o X) :=
 sc_op hi (show (24:Int)≠26 by decide) (show (24:Int)≠27 by decide) rfl fun rv log=>by
  show ((sc (p ++ q ++ [v]) (⟨u,pc+1,p.length⟩ :: F) o X).tk log).cut.leave.put ((sc (p ++ q ++ [v]) (⟨u,pc+1,p.length⟩ :: F) o X).tk log).last=_
  rw [(sc_last log).1,(sc_last log).2]
  have e:((sc (p ++ q) (⟨u,pc+1,p.length⟩ :: F) o X).tk log).leave=(sc p F o X).tk log:=by
   show (⟨[⟨(p ++ q).take p.length,F,2,none⟩],0,o,0,0,log⟩:Tk)=_
   rw [List.take_left]
  rw [e]
  exact sc_put v log hl
theorem wrap_in {n:Int}(h:-9223372036854775808≤n)(k:n≤9223372036854775807):wrap n=n:=by
 unfold wrap Go.RowKit.wrap64
 omega
end Go.Proofs.YthffafaoobpedabGreatDoor.Vw
namespace Go.Proofs.YthffafaoobpedabGreatDoor
namespace Xe
noncomputable section
def preOf (ops:Array Oper):Array Oper:=⟨(aL ops).take (Nat.sub (aL ops).length 3)⟩
def storeOf (P:Program)(o:Oper):Option (Nat × Operand × Operand):=match o.op,o.dst,o.guard with
 | .store t x y,none,none=>guardB (okOp o.op) (oB (tsz P t) fun n=>some (n,x,y))
 | _,_,_=>none
structure Ix where
 z:Nat
 x:Operand
 i:Operand
 d:Nat
def ixB {γ:Type}(q:Ix)(f:Nat→Operand→Operand→Nat→γ):γ:=@Ix.rec (fun _=>γ) f q
def idxOf (P:Program)(nt:Nat)(o:Oper):Option Ix:=match o.op,o.dst,o.guard with
 | .indexAddr t x i,some d,none=>match und P t with
  | some (.slice el)=>guardB (okOp o.op) (guardB (dstOk nt (some d)) (oB (tsz P el) fun z=>some ⟨z,x,i,d⟩))
  | _=>none
 | _,_,_=>none
def full (n:Nat):Nat:=Nat.sub (Nat.shiftLeft 1 n) 1
def lastOk (ops:Array Oper)(n:Nat):Bool:=(number (aL ops) 0).all (oneOk (masksFrom [] (aL ops))) && (Nat.beq (mAt (masksFrom [] (aL ops)) n) (full n) && (Nat.beq (mAt (masksFrom [] (aL ops)) (Nat.succ n)) (full (Nat.succ n)) && Nat.beq (mAt (masksFrom [] (aL ops)) (Nat.succ (Nat.succ n))) (full n)))
def both (x y:Operand)(e:En):Bool:=@Option.rec Addr (fun _=>Bool) false (fun a=>@Option.rec Addr (fun _=>Bool) false (fun b=>not' (Nat.beq a.block b.block)) (ptr (ev e y))) (ptr (ev e x))
def two2 (a b:Nat × Operand × Operand)(call:Cl)(e:En)(s:S):Option S:=pB a fun na qa=>pB qa fun xa ya=>pB b fun nb qb=>pB qb fun xb yb =>
 guardB (both xa xb e) (bindS (fStore na xa ya call e s 0) fun _ s2=>bindS (fStore nb xb yb call e s2 0) fun _ s3=>some s3)
def notT (d:Nat)(x:Operand):Bool:=@Operand.rec (fun _=>Bool) (fun t=>not' (Nat.beq t d)) (fun _=>true) (fun _=>true) (fun _=>true) x
def regT (P:Program)(nt:Nat)(call:Cl)(ops:Array Oper)(e:En)(s:S):Option R :=
 guardB (Nat.ble 3 (aL ops).length && lastOk ops (Nat.sub (aL ops).length 3)) <|
  oB (oB (nth (aL ops) (Nat.sub (aL ops).length 3)) (idxOf P nt)) fun q=>oB (oB (nth (aL ops) (Nat.succ (Nat.sub (aL ops).length 3))) (storeOf P)) fun a=>oB (oB (nth (aL ops) (Nat.succ (Nat.succ (Nat.sub (aL ops).length 3)))) (storeOf P)) fun b =>
  ixB q fun z x i d=>guardB (notT d b.2.1 && notT d b.2.2) <|
  oB (regD P nt call (preOf ops) e s) fun r=>rB r fun k e1 s1=>guardB (Nat.beq k 0) (bindS (fIdx z x i call e1 s1 0) fun v _=>oB (two2 a b call (setE e1 d v) s1) fun s3=>some ⟨0,setE e1 d v,s3⟩)
def spTwo (P:Program)(call:Cl)(f:FuncId)(args:List Value)(s:S):Option (Value × S):=oB (bodyOf P f) fun p=>pB p fun fn c=>match c with
 | .region _ ops true=>lB (aL fn.results) (guardB (Nat.ble args.length fn.ntmps) (sB s fun k h ds=>oB (regT P fn.ntmps call ops (enter args 0 (fun _=>none)) ⟨k,h,[]⟩) fun r=>rB r fun _ _ s2=>sB s2 fun k2 h2 d2=>lB d2 (some (.tuple #[],⟨k2,h2,ds⟩)) fun _ _=>none)) fun _ _=>none
 | _=>none
end
variable {P:Program}
structure RegC (P:Program) (nt:Nat) (call:Cl) (ops:Array Oper) (e:En) (s:S) (r:R) (ms es:List Nat) (ds:List Dp) (vsF:En) (sF:S) (Sx Jx:Nat→S):Prop where
 ctx:Ctx P nt ops ms es call e s.c ds vsF sF Sx Jx
 msE:ms=masksFrom [] (aL ops)
 start:∀ φ a w,AR1 φ nt e s a w→Inv ops nt ms es call e s.c ds vsF Sx φ s.h w (Array.replicate ops.size false) 0 a { w with drawn:=w.drawn+1 } φ s.h
 fin:∀ φ w listed k a' w' φ' h',Inv ops nt ms es call e s.c ds vsF Sx φ s.h w listed k a' w' φ' h'→(∀ i,i < ops.size→on listed i=true)→AR1 φ' nt r.e r.s a' w'∧Grew φ s w φ' r.s w'
theorem one_of {ops:Array Oper}(h:(number (aL ops) 0).all (oneOk (masksFrom [] (aL ops)))=true)(i:Nat)(o:Oper)(ho:ops[i]?=some o) :
  mAt (masksFrom [] (aL ops)) i=edgeM (masksFrom [] (aL ops)) (aL o.after)∧mAt (masksFrom [] (aL ops)) i < 2 ^ i:=by
 rw [List.all_eq_true] at h
 have hm:(i,o) ∈ number (aL ops) 0:=by
  have:=number_mem (k:=0) (l:=aL ops) (i:=i) (a:=o) (by rw [aL_eq];simpa using ho)
  rwa [Nat.zero_add] at this
 have:=h _ hm
 unfold oneOk at this
 rw [Bool.and_eq_true,beq_dec,ble_dec] at this
 simp only [decide_eq_true_eq] at this
 refine ⟨this.1,?_⟩
 have h4:=this.2
 rw [show Nat.shiftLeft 1 i=1 <<< i from rfl,Nat.shiftLeft_eq,Nat.one_mul] at h4
 omega
theorem masks_pre:∀ (l acc:List Nat) (ops p:List Oper),masksFrom acc ops=l→∃ t,masksFrom acc (ops ++ p)=l ++ t
 | l,acc,[],p,h=>by
  have h':acc=l:=h
  subst h'
  have:∀ (p:List Oper) (acc:List Nat),∃ t,masksFrom acc p=acc ++ t:=by
   intro p
   induction p with
   | nil=>intro acc;exact ⟨[],by simp [masksFrom]⟩
   | cons o p ih =>
    intro acc
    obtain ⟨t,ht⟩:=ih (acc ++ [edgeM acc (aL o.after)])
    exact ⟨edgeM acc (aL o.after) :: t,by show masksFrom (acc ++ [edgeM acc (aL o.after)]) p=_;rw [ht];simp⟩
  exact this p acc
 | l,acc,o :: ops,p,h=>by
  exact masks_pre l (acc ++ [edgeM acc (aL o.after)]) ops p h
theorem masks_len:∀ (ops:List Oper) (acc:List Nat),(masksFrom acc ops).length=acc.length+ops.length
 | [],acc=>by simp [masksFrom]
 | o :: ops,acc=>by
  show (masksFrom (acc ++ [edgeM acc (aL o.after)]) ops).length=_
  rw [masks_len ops]
  simp
  omega
theorem reg_c (call:Cl){nt:Nat}{ops:Array Oper}{e:En}{s:S}{r:R}(hr:regD P nt call ops e s=some r) :
  r.k=0∧∃ ms es ds vsF sF Sx Jx,RegC P nt call ops e s r ms es ds vsF sF Sx Jx:=by
 unfold regD at hr
 rw [guardB_some,sB_eq,fN_eq] at hr
 obtain ⟨hdraw,hr⟩:=hr
 obtain ⟨l,hl,hr⟩:=oB_some.1 hr
 obtain ⟨⟨vsF,sF⟩,hst,hr⟩:=oB_some.1 hr
 rw [pB_mk,guardB_some] at hr
 obtain ⟨hseen,hr⟩:=hr
 cases hr
 obtain ⟨hSt,hch⟩:=drawOk_st hdraw
 have hedge:=drawOk_edge hdraw
 have hlen:(aL ops).length=ops.size:=by rw [aL_eq];simp
 rw [hlen] at hst hseen
 have hw:(fun t=>writer t (aL ops) 0)=wrO ops:=by rw [aL_eq];rfl
 rw [hw] at hst ⊢
 obtain ⟨ms,hms⟩:∃ ms,ms=masksFrom [] (aL ops):=⟨_,rfl⟩
 rw [← hms] at hst hSt hch hedge
 generalize hes:effs (aL ops) 0=es at *
 rw [aL_eq] at hl hst
 have hesm:∀ e,e ∈ es ↔ ∃ o,ops[e]?=some o∧cls o.op=2:=by
  intro e
  rw [← hes,effs_mem,aL_eq]
  constructor
  ·rintro ⟨j,o,h1,h2,h3⟩
   have:e=j:=by omega
   subst this
   exact ⟨o,by simpa using h2,h3⟩
  ·rintro ⟨o,h1,h2⟩
   exact ⟨e,o,by omega,by simpa using h1,h2⟩
 obtain ⟨hd1,hd2⟩:=dps_ok (P:=P) (nt:=nt) (ops:=ops) (ms:=ms) (es:=es) ops.toList l 0 (by simp) hl
 have hdl:=dps_len (ms:=ms) (es:=es) l ops.toList 0
 generalize hds:dps ms es l ops.toList 0=ds at *
 have hget:∀ (j:Nat) (d:Dp),ds[j]?=some d→d.i=j:=by
  intro j d hj
  have hjl:=(List.getElem?_eq_some_iff.1 hj).1
  have hjo:j < ops.toList.length:=by omega
  obtain ⟨d',h1,h2⟩:=hd2 j _ (List.getElem?_eq_getElem hjo)
  rw [hj] at h1;cases h1
  omega
 have hat:∀ (e:Nat) (d:Dp),dpAt ds e=some d→d ∈ ds∧d.i=e:=by
  intro e d h
  unfold dpAt at h
  rw [nth_eq] at h
  exact ⟨List.mem_of_getElem? h,hget e d h⟩
 have huni:∀ d ∈ ds,∀ d' ∈ ds,d.i=d'.i→d=d':=by
  intro d hd d' hd' he
  obtain ⟨j,hj⟩:=List.getElem?_of_mem hd
  obtain ⟨j',hj'⟩:=List.getElem?_of_mem hd'
  have h1:=hget j d hj
  have h2:=hget j' d' hj'
  have:j=j':=by omega
  subst this
  rw [hj] at hj';cases hj';rfl
 have hlo:∀ d ∈ ds,d.lo≤d.hi:=by
  intro d hd
  obtain ⟨_,o,hok⟩:=hd1 d hd
  rw [hok.lo,hok.hi]
  refine countB_le fun e he h=>?_
  obtain ⟨oe,hoe,_⟩:=(hesm e).1 he
  cases ht:tb (mAt ms e) d.i with
  | true=>have h3:=hSt.lt e oe hoe d.i ht;have h4:=hSt.lt d.i o hok.op e h;omega
  | false=>rfl
 have hdsn:∀ d ∈ ds,(∃ o,DpOk P nt ops ms es d o)∧∀ j,tb d.m j=true→j < ops.size:=by
  intro d hd
  obtain ⟨_,o,hok⟩:=hd1 d hd
  refine ⟨⟨o,hok⟩,fun j hj=>?_⟩
  rw [hok.m] at hj
  have h3:=hSt.lt d.i o hok.op j hj
  have h4:=(Array.getElem?_eq_some_iff.1 hok.op).1
  omega
 obtain ⟨Sx,Jx,hS0,_,hstg⟩:=stages_ok hdsn hat hlo es 0 _ _ hst (fun d _ _ h=>absurd h (Nat.not_lt_zero _))
 have hall:∀ i,i < ops.size→∃ v,vsF i=some v:=by
  intro i hi
  refine seen_P hseen ?_ i ?_
  ·intro j hj
   rw [tb_eq] at hj
   rcases Nat.lt_or_ge j ops.size with h | h
   ·exact h
   ·have e1:Nat.sub (Nat.shiftLeft 1 ops.size) 1=2 ^ ops.size - 1:=by
     show 1 <<< ops.size - 1=_
     rw [Nat.shiftLeft_eq,Nat.one_mul]
    rw [e1,Nat.testBit_two_pow_sub_one] at hj
    simpa using hj
  ·rw [tb_eq]
   have e1:Nat.sub (Nat.shiftLeft 1 ops.size) 1=2 ^ ops.size - 1:=by
    show 1 <<< ops.size - 1=_
    rw [Nat.shiftLeft_eq,Nat.one_mul]
   rw [e1,Nat.testBit_two_pow_sub_one]
   simpa using hi
 have C:Ctx P nt ops ms es call e s.c ds vsF sF Sx Jx:=by
  refine ⟨hSt,hedge,hch,hesm,fun d hd=>(hdsn d hd).1,?_,huni,hall,hstg⟩
  intro i o ho
  obtain ⟨d,h1,h2⟩:=hd2 i o (by simpa using ho)
  exact ⟨d,List.mem_of_getElem? h1,by omega⟩
 have h0:on (Array.replicate ops.size false)=fun _=>false:=by
  funext j
  unfold on
  rw [Array.getD_eq_getD_getElem?,Array.getElem?_replicate]
  split <;> rfl
 have hcnt0:∀ l:List Nat,countB (fun _=>false) l=0:=by
  intro l
  induction l with
  | nil=>rfl
  | cons a l ih=>exact ih
 have hS0c:(Sx 0).c=s.c+ops.size:=by rw [hS0];rfl
 refine ⟨rfl,ms,es,ds,vsF,sF,Sx,Jx,C,hms,?_,?_⟩
 ·intro φ a w hA
  refine ⟨by simp,?_,?_,hA.stt.rel.draws rfl,?_,?_,?_,?_,?_,hA.env.size,?_,?_,⟨Sub.refl φ,Nat.le_refl _,fun x g h1 h2=>(by rw [h1] at h2;cases h2),fun _ _ _=>rfl,⟨rfl,rfl,rfl⟩⟩,fun _ h1 h2=>absurd h1 h2,fun _ hx=>.inl hx⟩
  ·intro j hj;rw [h0] at hj;cases hj
  ·rw [h0,hcnt0]
  ·intro x o hx _
   rw [hS0] at hx;exact hx
  ·intro d _ _ hl;rw [h0] at hl;cases hl
  ·omega
  ·intro x hx;exact hA.stt.fr x (by omega)
  ·intro j _ _;exact hA.stt.fr _ (by omega)
  ·intro t
   have hv:=hA.env.val t
   have:envL ops e vsF (Array.replicate ops.size false) t=e t:=by
    unfold envL
    cases writer t ops.toList 0 with
    | none=>rfl
    | some j=>simp [h0]
   rw [this];exact hv
  ·rw [hS0];exact hA.dfs
 ·intro φ w listed k a' w' φ' h' I hon
  have hk:k=es.length:=by
   rw [← I.cnt]
   refine Nat.le_antisymm countB_len ?_
   have h1:countB (fun _=>true) es≤countB (on listed) es:=countB_le fun e he _=>by
    obtain ⟨o,ho,_⟩:=(hesm e).1 he
    exact hon e (Array.getElem?_eq_some_iff.1 ho).1
   have h2:∀ l:List Nat,countB (fun _=>true) l=l.length:=by
    intro l
    induction l with
    | nil=>rfl
    | cons a l ih=>show Nat.succ (countB (fun _=>true) l)=l.length+1;rw [ih]
   rw [h2] at h1;exact h1
  have hlast:=hstg.last
  rw [Nat.zero_add,← hk] at hlast
  have hJ:=join_sub C I fun d hd _ _=>by
   obtain ⟨_,o,hok⟩:=hd1 d hd
   exact hon d.i (Array.getElem?_eq_some_iff.1 hok.op).1
  obtain ⟨jc,jd,_⟩:=hstg.join k (Nat.zero_le _) (by omega)
  rw [hlast] at hJ jc jd
  have hJl:∀ x,live sF.h x→live h' x:=fun x ⟨o,h1,h2⟩=>⟨o,hJ x o h1 h2,h2⟩
  refine ⟨⟨⟨I.tsz,fun t=>?_⟩,⟨I.rel.less hJ,fun x hx=>I.fr x (by rw [← jc];exact hx)⟩,?_⟩,⟨I.ext,?_,I.new,fun x hx=>I.liv x (hJl x hx)⟩⟩
  ·have hv:=I.env t
   have:envF (wrO ops) vsF e t=envL ops e vsF listed t:=by
    unfold envF envL wrO
    cases hw:writer t ops.toList 0 with
    | none=>exact reb_eq _
    | some j =>
     obtain ⟨q,p,hq,hp,_⟩:=writer_some hw
     have hj:j=q:=by omega
     subst hj
     have hp':ops[j]?=some p:=by simpa using hp
     show reb (vsF j)=if on listed j=true then vsF j else e t
     rw [if_pos (hon j (Array.getElem?_eq_some_iff.1 hp').1),reb_eq]
   show V φ' (getE (envF (wrO ops) vsF e t)) _
   rw [this];exact hv
  ·show L (DR φ') sF.ds a'.defers
   rw [jd];exact I.dfs
  ·have:=I.cle
   show s.c≤sF.c
   omega
end Xe
end Go.Proofs.YthffafaoobpedabGreatDoor
