/- The last one of many threads,plainly. -/
import Derived.Test.YthffafaoobpedabGreatDoorM43
import Derived.Test.YthffafaoobpedabGreatDoorM40
namespace Go.Proofs.YthffafaoobpedabGreatDoor.Vw
open Go.RowKit Vf Vm
theorem set_last {α:Type}(h h':α):∀ P:List α,(P ++ [h]).set P.length h'=P ++ [h']
 | []=>rfl
 | x :: P=>congrArg (x :: ·) (set_last h h' P)
theorem get_last {α:Type}(h:α):∀ P:List α,(P ++ [h])[P.length]?=some h
 | []=>rfl
 | _ :: P=>get_last h P
abbrev pp (P:List Th) (ws:List Int) (fs:List Wk) (up:Option Nat) (o:List Int) (X:List Lst):Cf:=⟨P ++ [⟨ws,fs,2,up⟩],P.length,o,X⟩
section
variable {P:List Th} {ws:List Int} {fs:List Wk} {up:Option Nat} {o:List Int} {X:List Lst}
theorem pp_top (log:List Ev):((pp P ws fs up o X).tk log).top=⟨ws,fs,2,up⟩:=by
 show ((P ++ [_])[P.length]?).getD th0=_
 rw [get_last]
 rfl
theorem pp_set (log:List Ev)(h:Th):((pp P ws fs up o X).tk log).set P.length h=⟨P ++ [h],P.length,o,0,0,log⟩:=by
 show (⟨(P ++ [_]).set P.length h,P.length,o,0,0,log⟩:Tk)=_
 rw [set_last]
theorem pp_words (ws':List Int)(log:List Ev):((pp P ws fs up o X).tk log).words ws'=(pp P ws' fs up o X).tk log:=by
 unfold Tk.words
 rw [pp_top]
 exact pp_set log _
theorem pp_put (v:Int)(log:List Ev)(h:ws.length < 400):((pp P ws fs up o X).tk log).put v=(pp P (ws ++ [v]) fs up o X).tk log:=by
 unfold Tk.put
 rw [pp_top,if_neg (by show ¬ ws.length=400;omega)]
 exact pp_words _ log
theorem pp_last {p:List Int}{v:Int}(log:List Ev):((pp P (p ++ [v]) fs up o X).tk log).last=v∧((pp P (p ++ [v]) fs up o X).tk log).cut=(pp P p fs up o X).tk log:=by
 constructor
 ·unfold Tk.last
  rw [pp_top]
  show ((p ++ [v]).getLast?).getD 0=v
  simp
 ·unfold Tk.cut
  rw [pp_top,pp_words]
  show (pp P (p ++ [v]).dropLast fs up o X).tk log=_
  rw [List.dropLast_concat]
theorem pp_goto {u pc base n:Nat}{F:List Wk}(log:List Ev):((pp P ws (⟨u,pc,base⟩ :: F) up o X).tk log).goto n=(pp P ws (⟨u,n,base⟩ :: F) up o X).tk log:=by
 unfold Tk.goto Tk.frame
 rw [pp_top]
 exact pp_set log _
theorem pp_op {m:Md}{u pc base:Nat}{F:List Wk}{c:Ins}{b:Cf}(hi:(unit m u).code[pc]?=some c)(h26:c.op≠26)(h27:c.op≠27)(hx:b.x=X)
  (h:∀ rv log,((pp P ws (⟨u,pc+1,base⟩ :: F) up o X).tk log).act m c rv=b.tk log):Goes m 1 (pp P ws (⟨u,pc,base⟩ :: F) up o X) b:=by
 have hins:∀ log,((pp P ws (⟨u,pc,base⟩ :: F) up o X).tk log).ins m=c:=fun log=>by
  unfold Tk.ins Tk.frame
  rw [pp_top]
  show ((unit m u).code[pc]?).getD ⟨0,0,0⟩=c
  rw [hi];rfl
 have hfr:∀ log,((pp P ws (⟨u,pc,base⟩ :: F) up o X).tk log).frame.pc=pc:=fun log=>by
  unfold Tk.frame
  rw [pp_top]
  rfl
 refine Goes.step (e:=[]) (fun log=>?_) (fun log=>?_)
 ·unfold stat
  rw [hins,if_neg (fun q=>q rfl),if_neg (fun q=>h26 q.1),if_neg (fun q=>h27 q.1)]
 ·unfold one Tk.step
  rw [hins,List.append_nil,hfr,pp_goto,h]
  unfold stX
  rw [if_neg h26,if_neg h27,hx]
theorem pp_get {m:Md}{u pc base:Nat}{F:List Wk}{a n v:Int}(hi:(unit m u).code[pc]?=some ⟨3,a,n⟩)(hv:ws[base+a.toNat]?=some v)(hl:ws.length < 400) :
  Goes m 1 (pp P ws (⟨u,pc,base⟩ :: F) up o X) (pp P (ws ++ [v]) (⟨u,pc+1,base⟩ :: F) up o X) :=
 pp_op hi (show (3:Int)≠26 by decide) (show (3:Int)≠27 by decide) rfl fun rv log=>by
  show ((pp P ws (⟨u,pc+1,base⟩ :: F) up o X).tk log).put ((((pp P ws (⟨u,pc+1,base⟩ :: F) up o X).tk log).top.ws[((pp P ws (⟨u,pc+1,base⟩ :: F) up o X).tk log).frame.base+a.toNat]?).getD 0)=_
  unfold Tk.frame
  rw [pp_top]
  show ((pp P ws (⟨u,pc+1,base⟩ :: F) up o X).tk log).put ((ws[base+a.toNat]?).getD 0)=_
  rw [hv]
  exact pp_put v log hl
theorem pp_push {m:Md}{u pc base:Nat}{F:List Wk}{a n:Int}(hi:(unit m u).code[pc]?=some ⟨1,a,n⟩)(hl:ws.length < 400) :
  Goes m 1 (pp P ws (⟨u,pc,base⟩ :: F) up o X) (pp P (ws ++ [n]) (⟨u,pc+1,base⟩ :: F) up o X) :=
 pp_op hi (show (1:Int)≠26 by decide) (show (1:Int)≠27 by decide) rfl fun rv log=>pp_put n log hl
theorem pp_store {m:Md}{u pc base:Nat}{F:List Wk}{p:List Int}{a n v:Int}(hi:(unit m u).code[pc]?=some ⟨4,a,n⟩) :
  Goes m 1 (pp P (p ++ [v]) (⟨u,pc,base⟩ :: F) up o X) (pp P (p.set (base+a.toNat) v) (⟨u,pc+1,base⟩ :: F) up o X) :=
 pp_op hi (show (4:Int)≠26 by decide) (show (4:Int)≠27 by decide) rfl fun rv log=>by
  show ((pp P (p ++ [v]) (⟨u,pc+1,base⟩ :: F) up o X).tk log).words (((pp P (p ++ [v]) (⟨u,pc+1,base⟩ :: F) up o X).tk log).top.ws.dropLast.set (((pp P (p ++ [v]) (⟨u,pc+1,base⟩ :: F) up o X).tk log).frame.base+a.toNat) ((pp P (p ++ [v]) (⟨u,pc+1,base⟩ :: F) up o X).tk log).last)=_
  rw [(pp_last log).1]
  unfold Tk.frame
  rw [pp_top,pp_words]
  show (pp P ((p ++ [v]).dropLast.set (base+a.toNat) v) _ up o X).tk log=_
  rw [List.dropLast_concat]
theorem pp_pop {m:Md}{u pc base:Nat}{F:List Wk}{p:List Int}{a n v:Int}(hi:(unit m u).code[pc]?=some ⟨5,a,n⟩) :
  Goes m 1 (pp P (p ++ [v]) (⟨u,pc,base⟩ :: F) up o X) (pp P p (⟨u,pc+1,base⟩ :: F) up o X) :=
 pp_op hi (show (5:Int)≠26 by decide) (show (5:Int)≠27 by decide) rfl fun _ log=>(pp_last log).2
theorem pp_jump {m:Md}{u pc base:Nat}{F:List Wk}{a n:Int}(hi:(unit m u).code[pc]?=some ⟨21,a,n⟩) :
  Goes m 1 (pp P ws (⟨u,pc,base⟩ :: F) up o X) (pp P ws (⟨u,a.toNat,base⟩ :: F) up o X) :=
 pp_op hi (show (21:Int)≠26 by decide) (show (21:Int)≠27 by decide) rfl fun _ log=>pp_goto log
theorem pp_bin {m:Md}{u pc base:Nat}{F:List Wk}{p:List Int}{x y:Int}{op a n:Int}(hi:(unit m u).code[pc]?=some ⟨op,a,n⟩)(h26:op≠26)(h27:op≠27)(hr:∀ (t:Tk) rv,t.act m ⟨op,a,n⟩ rv=t.reckon op)(h1:op≠11)(h2:op≠12)(hl:p.length < 400) :
  Goes m 1 (pp P (p ++ [x] ++ [y]) (⟨u,pc,base⟩ :: F) up o X) (pp P (p ++ [Vm.two op x y]) (⟨u,pc+1,base⟩ :: F) up o X) :=
 pp_op hi h26 h27 rfl fun rv log=>by
  rw [hr,reckon_safe h1 h2,(pp_last log).1,(pp_last log).2,(pp_last log).1,(pp_last log).2]
  exact pp_put _ log hl
theorem pp_else {m:Md}{u pc base:Nat}{F:List Wk}{p:List Int}{x:Int}{a n:Int}(hi:(unit m u).code[pc]?=some ⟨22,a,n⟩) :
  Goes m 1 (pp P (p ++ [x]) (⟨u,pc,base⟩ :: F) up o X) (pp P p (⟨u,if x=0 then a.toNat else pc+1,base⟩ :: F) up o X) :=
 pp_op hi (show (22:Int)≠26 by decide) (show (22:Int)≠27 by decide) rfl fun rv log=>by
  show (if ((pp P (p ++ [x]) (⟨u,pc+1,base⟩ :: F) up o X).tk log).last=0 then ((pp P (p ++ [x]) (⟨u,pc+1,base⟩ :: F) up o X).tk log).cut.goto a.toNat else ((pp P (p ++ [x]) (⟨u,pc+1,base⟩ :: F) up o X).tk log).cut)=_
  rw [(pp_last log).1,(pp_last log).2]
  split
  ·exact pp_goto log
  ·rfl
end
theorem wrap_in {n:Int}(h:-9223372036854775808≤n)(k:n≤9223372036854775807):wrap n=n:=by
 unfold wrap Go.RowKit.wrap64
 omega
theorem wrap_add (n k:Int):wrap (n+k * 18446744073709551616)=wrap n:=by
 unfold wrap Go.RowKit.wrap64
 rw [show n+k * 18446744073709551616+9223372036854775808=(n+9223372036854775808)+k * 18446744073709551616 by omega,Int.add_mul_emod_self_right]
theorem wrap_is (n:Int):∃ k,wrap n=n+k * 18446744073709551616:=by
 refine ⟨-((n+9223372036854775808) / 18446744073709551616),?_⟩
 unfold wrap Go.RowKit.wrap64
 have:=Int.emod_add_mul_ediv (n+9223372036854775808) 18446744073709551616
 rw [Int.neg_mul]
 omega
theorem wrap_wrap (a:Int):wrap (wrap a)=wrap a:=by
 obtain ⟨k,h⟩:=wrap_is a
 have h2:=wrap_add a k
 rw [← h] at h2
 exact h2
end Go.Proofs.YthffafaoobpedabGreatDoor.Vw
namespace Go.Proofs.YthffafaoobpedabGreatDoor
namespace Xe
noncomputable section
def preOf (ops:Array Oper):Array Oper:=⟨(aL ops).take (Nat.sub (aL ops).length 3)⟩
def storeOf (P:Program)(o:Oper):Option (Nat × Operand × Operand):=match o.op,o.dst,o.guard with
 | .store t x y,none,none=>guardB (okOp o.op) (oB (tsz P t) fun n=>some (n,x,y))
 | _,_,_=>none
structure Ix where
 z:Nat
 x:Operand
 i:Operand
 d:Nat
def ixB {γ:Type}(q:Ix)(f:Nat→Operand→Operand→Nat→γ):γ:=@Ix.rec (fun _=>γ) f q
def idxOf (P:Program)(nt:Nat)(o:Oper):Option Ix:=match o.op,o.dst,o.guard with
 | .indexAddr t x i,some d,none=>match und P t with
  | some (.slice el)=>guardB (okOp o.op) (guardB (dstOk nt (some d)) (oB (tsz P el) fun z=>some ⟨z,x,i,d⟩))
  | _=>none
 | _,_,_=>none
def full (n:Nat):Nat:=Nat.sub (Nat.shiftLeft 1 n) 1
def lastOk (ops:Array Oper)(n:Nat):Bool:=(number (aL ops) 0).all (oneOk (masksFrom [] (aL ops))) && (Nat.beq (mAt (masksFrom [] (aL ops)) n) (full n) && (Nat.beq (mAt (masksFrom [] (aL ops)) (Nat.succ n)) (full (Nat.succ n)) && Nat.beq (mAt (masksFrom [] (aL ops)) (Nat.succ (Nat.succ n))) (full n)))
def both (x y:Operand)(e:En):Bool:=@Option.rec Addr (fun _=>Bool) false (fun a=>@Option.rec Addr (fun _=>Bool) false (fun b=>not' (Nat.beq a.block b.block)) (ptr (ev e y))) (ptr (ev e x))
def two2 (a b:Nat × Operand × Operand)(call:Cl)(e:En)(s:S):Option S:=pB a fun na qa=>pB qa fun xa ya=>pB b fun nb qb=>pB qb fun xb yb =>
 guardB (both xa xb e) (bindS (fStore na xa ya call e s 0) fun _ s2=>bindS (fStore nb xb yb call e s2 0) fun _ s3=>some s3)
def notT (d:Nat)(x:Operand):Bool:=@Operand.rec (fun _=>Bool) (fun t=>not' (Nat.beq t d)) (fun _=>true) (fun _=>true) (fun _=>true) x
def regT (P:Program)(nt:Nat)(call:Cl)(ops:Array Oper)(e:En)(s:S):Option R :=
 guardB (Nat.ble 3 (aL ops).length && lastOk ops (Nat.sub (aL ops).length 3)) <|
  oB (oB (nth (aL ops) (Nat.sub (aL ops).length 3)) (idxOf P nt)) fun q=>oB (oB (nth (aL ops) (Nat.succ (Nat.sub (aL ops).length 3))) (storeOf P)) fun a=>oB (oB (nth (aL ops) (Nat.succ (Nat.succ (Nat.sub (aL ops).length 3)))) (storeOf P)) fun b =>
  ixB q fun z x i d=>guardB (notT d b.2.1 && notT d b.2.2) <|
  oB (regD P nt call (preOf ops) e s) fun r=>rB r fun k e1 s1=>guardB (Nat.beq k 0) (bindS (fIdx z x i call e1 s1 0) fun v _=>oB (two2 a b call (setE e1 d v) s1) fun s3=>some ⟨0,setE e1 d v,s3⟩)
def spTwo (P:Program)(call:Cl)(f:FuncId)(args:List Value)(s:S):Option (Value × S):=oB (bodyOf P f) fun p=>pB p fun fn c=>match c with
 | .region _ ops true=>lB (aL fn.results) (guardB (Nat.ble args.length fn.ntmps) (sB s fun k h ds=>oB (regT P fn.ntmps call ops (enter args 0 (fun _=>none)) ⟨k,h,[]⟩) fun r=>rB r fun _ _ s2=>sB s2 fun k2 h2 d2=>lB d2 (some (.tuple #[],⟨k2,h2,ds⟩)) fun _ _=>none)) fun _ _=>none
 | _=>none
end
variable {P:Program}
structure RegC (P:Program) (nt:Nat) (call:Cl) (ops:Array Oper) (e:En) (s:S) (r:R) (ms es:List Nat) (ds:List Dp) (vsF:En) (sF:S) (Sx Jx:Nat→S):Prop where
 ctx:Ctx P nt ops ms es call e s.c ds vsF sF Sx Jx
 msE:ms=masksFrom [] (aL ops)
 start:∀ φ a w,AR1 φ nt e s a w→Inv ops nt ms es call e s.c ds vsF Sx φ s.h w (Array.replicate ops.size false) 0 a { w with drawn:=w.drawn+1 } φ s.h
 fin:∀ φ w listed k a' w' φ' h',Inv ops nt ms es call e s.c ds vsF Sx φ s.h w listed k a' w' φ' h'→(∀ i,i < ops.size→on listed i=true)→AR1 φ' nt r.e r.s a' w'∧Grew φ s w φ' r.s w'
theorem one_of {ops:Array Oper}(h:(number (aL ops) 0).all (oneOk (masksFrom [] (aL ops)))=true)(i:Nat)(o:Oper)(ho:ops[i]?=some o) :
  mAt (masksFrom [] (aL ops)) i=edgeM (masksFrom [] (aL ops)) (aL o.after)∧mAt (masksFrom [] (aL ops)) i < 2 ^ i:=by
 rw [List.all_eq_true] at h
 have hm:(i,o) ∈ number (aL ops) 0:=by
  have:=number_mem (k:=0) (l:=aL ops) (i:=i) (a:=o) (by rw [aL_eq];simpa using ho)
  rwa [Nat.zero_add] at this
 have:=h _ hm
 unfold oneOk at this
 rw [Bool.and_eq_true,beq_dec,ble_dec] at this
 simp only [decide_eq_true_eq] at this
 refine ⟨this.1,?_⟩
 have h4:=this.2
 rw [show Nat.shiftLeft 1 i=1 <<< i from rfl,Nat.shiftLeft_eq,Nat.one_mul] at h4
 omega
theorem masks_pre:∀ (l acc:List Nat) (ops p:List Oper),masksFrom acc ops=l→∃ t,masksFrom acc (ops ++ p)=l ++ t
 | l,acc,[],p,h=>by
  have h':acc=l:=h
  subst h'
  have:∀ (p:List Oper) (acc:List Nat),∃ t,masksFrom acc p=acc ++ t:=by
   intro p
   induction p with
   | nil=>intro acc;exact ⟨[],by simp [masksFrom]⟩
   | cons o p ih =>
    intro acc
    obtain ⟨t,ht⟩:=ih (acc ++ [edgeM acc (aL o.after)])
    exact ⟨edgeM acc (aL o.after) :: t,by show masksFrom (acc ++ [edgeM acc (aL o.after)]) p=_;rw [ht];simp⟩
  exact this p acc
 | l,acc,o :: ops,p,h=>by
  exact masks_pre l (acc ++ [edgeM acc (aL o.after)]) ops p h
theorem masks_len:∀ (ops:List Oper) (acc:List Nat),(masksFrom acc ops).length=acc.length+ops.length
 | [],acc=>by simp [masksFrom]
 | o :: ops,acc=>by
  show (masksFrom (acc ++ [edgeM acc (aL o.after)]) ops).length=_
  rw [masks_len ops]
  simp
  omega
theorem reg_c (call:Cl){nt:Nat}{ops:Array Oper}{e:En}{s:S}{r:R}(hr:regD P nt call ops e s=some r) :
  r.k=0∧∃ ms es ds vsF sF Sx Jx,RegC P nt call ops e s r ms es ds vsF sF Sx Jx:=by
 unfold regD at hr
 rw [guardB_some,sB_eq,fN_eq] at hr
 obtain ⟨hdraw,hr⟩:=hr
 obtain ⟨l,hl,hr⟩:=oB_some.1 hr
 obtain ⟨⟨vsF,sF⟩,hst,hr⟩:=oB_some.1 hr
 rw [pB_mk,guardB_some] at hr
 obtain ⟨hseen,hr⟩:=hr
 cases hr
 obtain ⟨hSt,hch⟩:=drawOk_st hdraw
 have hedge:=drawOk_edge hdraw
 have hlen:(aL ops).length=ops.size:=by rw [aL_eq];simp
 rw [hlen] at hst hseen
 have hw:(fun t=>writer t (aL ops) 0)=wrO ops:=by rw [aL_eq];rfl
 rw [hw] at hst ⊢
 obtain ⟨ms,hms⟩:∃ ms,ms=masksFrom [] (aL ops):=⟨_,rfl⟩
 rw [← hms] at hst hSt hch hedge
 generalize hes:effs (aL ops) 0=es at *
 rw [aL_eq] at hl hst
 have hesm:∀ e,e ∈ es ↔ ∃ o,ops[e]?=some o∧cls o.op=2:=by
  intro e
  rw [← hes,effs_mem,aL_eq]
  constructor
  ·rintro ⟨j,o,h1,h2,h3⟩
   have:e=j:=by omega
   subst this
   exact ⟨o,by simpa using h2,h3⟩
  ·rintro ⟨o,h1,h2⟩
   exact ⟨e,o,by omega,by simpa using h1,h2⟩
 obtain ⟨hd1,hd2⟩:=dps_ok (P:=P) (nt:=nt) (ops:=ops) (ms:=ms) (es:=es) ops.toList l 0 (by simp) hl
 have hdl:=dps_len (ms:=ms) (es:=es) l ops.toList 0
 generalize hds:dps ms es l ops.toList 0=ds at *
 have hget:∀ (j:Nat) (d:Dp),ds[j]?=some d→d.i=j:=by
  intro j d hj
  have hjl:=(List.getElem?_eq_some_iff.1 hj).1
  have hjo:j < ops.toList.length:=by omega
  obtain ⟨d',h1,h2⟩:=hd2 j _ (List.getElem?_eq_getElem hjo)
  rw [hj] at h1;cases h1
  omega
 have hat:∀ (e:Nat) (d:Dp),dpAt ds e=some d→d ∈ ds∧d.i=e:=by
  intro e d h
  unfold dpAt at h
  rw [nth_eq] at h
  exact ⟨List.mem_of_getElem? h,hget e d h⟩
 have huni:∀ d ∈ ds,∀ d' ∈ ds,d.i=d'.i→d=d':=by
  intro d hd d' hd' he
  obtain ⟨j,hj⟩:=List.getElem?_of_mem hd
  obtain ⟨j',hj'⟩:=List.getElem?_of_mem hd'
  have h1:=hget j d hj
  have h2:=hget j' d' hj'
  have:j=j':=by omega
  subst this
  rw [hj] at hj';cases hj';rfl
 have hlo:∀ d ∈ ds,d.lo≤d.hi:=by
  intro d hd
  obtain ⟨_,o,hok⟩:=hd1 d hd
  rw [hok.lo,hok.hi]
  refine countB_le fun e he h=>?_
  obtain ⟨oe,hoe,_⟩:=(hesm e).1 he
  cases ht:tb (mAt ms e) d.i with
  | true=>have h3:=hSt.lt e oe hoe d.i ht;have h4:=hSt.lt d.i o hok.op e h;omega
  | false=>rfl
 have hdsn:∀ d ∈ ds,(∃ o,DpOk P nt ops ms es d o)∧∀ j,tb d.m j=true→j < ops.size:=by
  intro d hd
  obtain ⟨_,o,hok⟩:=hd1 d hd
  refine ⟨⟨o,hok⟩,fun j hj=>?_⟩
  rw [hok.m] at hj
  have h3:=hSt.lt d.i o hok.op j hj
  have h4:=(Array.getElem?_eq_some_iff.1 hok.op).1
  omega
 obtain ⟨Sx,Jx,hS0,_,hstg⟩:=stages_ok hdsn hat hlo es 0 _ _ hst (fun d _ _ h=>absurd h (Nat.not_lt_zero _))
 have hall:∀ i,i < ops.size→∃ v,vsF i=some v:=by
  intro i hi
  refine seen_P hseen ?_ i ?_
  ·intro j hj
   rw [tb_eq] at hj
   rcases Nat.lt_or_ge j ops.size with h | h
   ·exact h
   ·have e1:Nat.sub (Nat.shiftLeft 1 ops.size) 1=2 ^ ops.size - 1:=by
     show 1 <<< ops.size - 1=_
     rw [Nat.shiftLeft_eq,Nat.one_mul]
    rw [e1,Nat.testBit_two_pow_sub_one] at hj
    simpa using hj
  ·rw [tb_eq]
   have e1:Nat.sub (Nat.shiftLeft 1 ops.size) 1=2 ^ ops.size - 1:=by
    show 1 <<< ops.size - 1=_
    rw [Nat.shiftLeft_eq,Nat.one_mul]
   rw [e1,Nat.testBit_two_pow_sub_one]
   simpa using hi
 have C:Ctx P nt ops ms es call e s.c ds vsF sF Sx Jx:=by
  refine ⟨hSt,hedge,hch,hesm,fun d hd=>(hdsn d hd).1,?_,huni,hall,hstg⟩
  intro i o ho
  obtain ⟨d,h1,h2⟩:=hd2 i o (by simpa using ho)
  exact ⟨d,List.mem_of_getElem? h1,by omega⟩
 have h0:on (Array.replicate ops.size false)=fun _=>false:=by
  funext j
  unfold on
  rw [Array.getD_eq_getD_getElem?,Array.getElem?_replicate]
  split <;> rfl
 have hcnt0:∀ l:List Nat,countB (fun _=>false) l=0:=by
  intro l
  induction l with
  | nil=>rfl
  | cons a l ih=>exact ih
 have hS0c:(Sx 0).c=s.c+ops.size:=by rw [hS0];rfl
 refine ⟨rfl,ms,es,ds,vsF,sF,Sx,Jx,C,hms,?_,?_⟩
 ·intro φ a w hA
  refine ⟨by simp,?_,?_,hA.stt.rel.draws rfl,?_,?_,?_,?_,?_,hA.env.size,?_,?_,⟨Sub.refl φ,Nat.le_refl _,fun x g h1 h2=>(by rw [h1] at h2;cases h2),fun _ _ _=>rfl,⟨rfl,rfl,rfl⟩⟩,fun _ h1 h2=>absurd h1 h2,fun _ hx=>.inl hx⟩
  ·intro j hj;rw [h0] at hj;cases hj
  ·rw [h0,hcnt0]
  ·intro x o hx _
   rw [hS0] at hx;exact hx
  ·intro d _ _ hl;rw [h0] at hl;cases hl
  ·omega
  ·intro x hx;exact hA.stt.fr x (by omega)
  ·intro j _ _;exact hA.stt.fr _ (by omega)
  ·intro t
   have hv:=hA.env.val t
   have:envL ops e vsF (Array.replicate ops.size false) t=e t:=by
    unfold envL
    cases writer t ops.toList 0 with
    | none=>rfl
    | some j=>simp [h0]
   rw [this];exact hv
  ·rw [hS0];exact hA.dfs
 ·intro φ w listed k a' w' φ' h' I hon
  have hk:k=es.length:=by
   rw [← I.cnt]
   refine Nat.le_antisymm countB_len ?_
   have h1:countB (fun _=>true) es≤countB (on listed) es:=countB_le fun e he _=>by
    obtain ⟨o,ho,_⟩:=(hesm e).1 he
    exact hon e (Array.getElem?_eq_some_iff.1 ho).1
   have h2:∀ l:List Nat,countB (fun _=>true) l=l.length:=by
    intro l
    induction l with
    | nil=>rfl
    | cons a l ih=>show Nat.succ (countB (fun _=>true) l)=l.length+1;rw [ih]
   rw [h2] at h1;exact h1
  have hlast:=hstg.last
  rw [Nat.zero_add,← hk] at hlast
  have hJ:=join_sub C I fun d hd _ _=>by
   obtain ⟨_,o,hok⟩:=hd1 d hd
   exact hon d.i (Array.getElem?_eq_some_iff.1 hok.op).1
  obtain ⟨jc,jd,_⟩:=hstg.join k (Nat.zero_le _) (by omega)
  rw [hlast] at hJ jc jd
  have hJl:∀ x,live sF.h x→live h' x:=fun x ⟨o,h1,h2⟩=>⟨o,hJ x o h1 h2,h2⟩
  refine ⟨⟨⟨I.tsz,fun t=>?_⟩,⟨I.rel.less hJ,fun x hx=>I.fr x (by rw [← jc];exact hx)⟩,?_⟩,⟨I.ext,?_,I.new,fun x hx=>I.liv x (hJl x hx)⟩⟩
  ·have hv:=I.env t
   have:envF (wrO ops) vsF e t=envL ops e vsF listed t:=by
    unfold envF envL wrO
    cases hw:writer t ops.toList 0 with
    | none=>exact reb_eq _
    | some j =>
     obtain ⟨q,p,hq,hp,_⟩:=writer_some hw
     have hj:j=q:=by omega
     subst hj
     have hp':ops[j]?=some p:=by simpa using hp
     show reb (vsF j)=if on listed j=true then vsF j else e t
     rw [if_pos (hon j (Array.getElem?_eq_some_iff.1 hp').1),reb_eq]
   show V φ' (getE (envF (wrO ops) vsF e t)) _
   rw [this];exact hv
  ·show L (DR φ') sF.ds a'.defers
   rw [jd];exact I.dfs
  ·have:=I.cle
   show s.c≤sF.c
   omega
end Xe
end Go.Proofs.YthffafaoobpedabGreatDoor
