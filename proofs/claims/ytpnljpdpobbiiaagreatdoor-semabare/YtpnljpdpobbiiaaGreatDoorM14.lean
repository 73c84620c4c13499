/- A function that is one drawn region whose last three operations are an element's address,a store there,and a store elsewhere that may come ahead of them. -/
import Derived.Test.YtpnljpdpobbiiaaGreatDoorM12
namespace Go.Proofs.YtpnljpdpobbiiaaGreatDoor
namespace Xe
noncomputable section
def preOf (ops:Array Oper):Array Oper:=⟨(aL ops).take (Nat.sub (aL ops).length 3)⟩
def storeOf (P:Program) (o:Oper):Option (Nat × Operand × Operand):=match o.op,o.dst,o.guard with
 | .store t x y,none,none => guardB (okOp o.op) (oB (tsz P t) fun n => some (n,x,y))
 | _,_,_ => none
structure Ix where
 z:Nat
 x:Operand
 i:Operand
 d:Nat
def ixB {γ:Type} (q:Ix) (f:Nat → Operand → Operand → Nat → γ):γ:=@Ix.rec (fun _ => γ) f q
def idxOf (P:Program) (nt:Nat) (o:Oper):Option Ix:=match o.op,o.dst,o.guard with
 | .indexAddr t x i,some d,none => match und P t with
  | some (.slice el) => guardB (okOp o.op) (guardB (dstOk nt (some d)) (oB (tsz P el) fun z => some ⟨z,x,i,d⟩))
  | _ => none
 | _,_,_ => none
def full (n:Nat):Nat:=Nat.sub (Nat.shiftLeft 1 n) 1
def lastOk (ops:Array Oper) (n:Nat):Bool:=(number (aL ops) 0).all (oneOk (masksFrom [] (aL ops))) && (Nat.beq (mAt (masksFrom [] (aL ops)) n) (full n) && (Nat.beq (mAt (masksFrom [] (aL ops)) (Nat.succ n)) (full (Nat.succ n)) && Nat.beq (mAt (masksFrom [] (aL ops)) (Nat.succ (Nat.succ n))) (full n)))
def both (x y:Operand) (e:En):Bool:=@Option.rec Addr (fun _ => Bool) false (fun a => @Option.rec Addr (fun _ => Bool) false (fun b => not' (Nat.beq a.block b.block)) (ptr (ev e y))) (ptr (ev e x))
def two2 (a b:Nat × Operand × Operand) (call:Cl) (e:En) (s:S):Option S:=pB a fun na qa => pB qa fun xa ya => pB b fun nb qb => pB qb fun xb yb =>
 guardB (both xa xb e) (bindS (fStore na xa ya call e s 0) fun _ s2 => bindS (fStore nb xb yb call e s2 0) fun _ s3 => some s3)
def notT (d:Nat) (x:Operand):Bool:=@Operand.rec (fun _ => Bool) (fun t => not' (Nat.beq t d)) (fun _ => true) (fun _ => true) (fun _ => true) x
def regT (P:Program) (nt:Nat) (call:Cl) (ops:Array Oper) (e:En) (s:S):Option R :=
 guardB (Nat.ble 3 (aL ops).length && lastOk ops (Nat.sub (aL ops).length 3)) <|
  oB (oB (nth (aL ops) (Nat.sub (aL ops).length 3)) (idxOf P nt)) fun q => oB (oB (nth (aL ops) (Nat.succ (Nat.sub (aL ops).length 3))) (storeOf P)) fun a => oB (oB (nth (aL ops) (Nat.succ (Nat.succ (Nat.sub (aL ops).length 3)))) (storeOf P)) fun b =>
  ixB q fun z x i d => guardB (notT d b.2.1 && notT d b.2.2) <|
  oB (regD P nt call (preOf ops) e s) fun r => rB r fun k e1 s1 => guardB (Nat.beq k 0) (bindS (fIdx z x i call e1 s1 0) fun v _ => oB (two2 a b call (setE e1 d v) s1) fun s3 => some ⟨0,setE e1 d v,s3⟩)
def spTwo (P:Program) (call:Cl) (f:FuncId) (args:List Value) (s:S):Option (Value × S):=oB (bodyOf P f) fun p => pB p fun fn c => match c with
 | .region _ ops true => lB (aL fn.results) (guardB (Nat.ble args.length fn.ntmps) (sB s fun k h ds => oB (regT P fn.ntmps call ops (enter args 0 (fun _ => none)) ⟨k,h,[]⟩) fun r => rB r fun _ _ s2 => sB s2 fun k2 h2 d2 => lB d2 (some (.tuple #[],⟨k2,h2,ds⟩)) fun _ _ => none)) fun _ _ => none
 | _ => none
end
variable {P:Program}
structure RegC (P:Program) (nt:Nat) (call:Cl) (ops:Array Oper) (e:En) (s:S) (r:R) (ms es:List Nat) (ds:List Dp) (vsF:En) (sF:S) (Sx Jx:Nat → S):Prop where
 ctx:Ctx P nt ops ms es call e s.c ds vsF sF Sx Jx
 msE:ms = masksFrom [] (aL ops)
 start:∀ φ a w,AR1 φ nt e s a w → Inv ops nt ms es call e s.c ds vsF Sx φ s.h w (Array.replicate ops.size false) 0 a { w with drawn:=w.drawn + 1 } φ s.h
 fin:∀ φ w listed k a' w' φ' h',Inv ops nt ms es call e s.c ds vsF Sx φ s.h w listed k a' w' φ' h' → (∀ i,i < ops.size → on listed i = true) → AR1 φ' nt r.e r.s a' w' ∧ Grew φ s w φ' r.s w'
theorem one_of {ops:Array Oper} (h:(number (aL ops) 0).all (oneOk (masksFrom [] (aL ops))) = true) (i:Nat) (o:Oper) (ho:ops[i]? = some o) :
  mAt (masksFrom [] (aL ops)) i = edgeM (masksFrom [] (aL ops)) (aL o.after) ∧ mAt (masksFrom [] (aL ops)) i < 2 ^ i:=by
 rw [List.all_eq_true] at h
 have hm:(i,o) ∈ number (aL ops) 0:=by
  have:=number_mem (k:=0) (l:=aL ops) (i:=i) (a:=o) (by rw [aL_eq]; simpa using ho)
  rwa [Nat.zero_add] at this
 have:=h _ hm
 unfold oneOk at this
 rw [Bool.and_eq_true,beq_dec,ble_dec] at this
 simp only [decide_eq_true_eq] at this
 refine ⟨this.1,?_⟩
 have h4:=this.2
 rw [show Nat.shiftLeft 1 i = 1 <<< i from rfl,Nat.shiftLeft_eq,Nat.one_mul] at h4
 omega
theorem masks_pre:∀ (l acc:List Nat) (ops p:List Oper),masksFrom acc ops = l → ∃ t,masksFrom acc (ops ++ p) = l ++ t
 | l,acc,[],p,h => by
  have h':acc = l:=h
  subst h'
  have:∀ (p:List Oper) (acc:List Nat),∃ t,masksFrom acc p = acc ++ t:=by
   intro p
   induction p with
   | nil => intro acc; exact ⟨[],by simp [masksFrom]⟩
   | cons o p ih =>
    intro acc
    obtain ⟨t,ht⟩:=ih (acc ++ [edgeM acc (aL o.after)])
    exact ⟨edgeM acc (aL o.after) :: t,by show masksFrom (acc ++ [edgeM acc (aL o.after)]) p = _; rw [ht]; simp⟩
  exact this p acc
 | l,acc,o :: ops,p,h => by
  exact masks_pre l (acc ++ [edgeM acc (aL o.after)]) ops p h
theorem masks_len:∀ (ops:List Oper) (acc:List Nat),(masksFrom acc ops).length = acc.length + ops.length
 | [],acc => by simp [masksFrom]
 | o :: ops,acc => by
  show (masksFrom (acc ++ [edgeM acc (aL o.after)]) ops).length = _
  rw [masks_len ops]
  simp
  omega
theorem reg_c (call:Cl) {nt:Nat} {ops:Array Oper} {e:En} {s:S} {r:R} (hr:regD P nt call ops e s = some r) :
  r.k = 0 ∧ ∃ ms es ds vsF sF Sx Jx,RegC P nt call ops e s r ms es ds vsF sF Sx Jx:=by
 unfold regD at hr
 rw [guardB_some,sB_eq,fN_eq] at hr
 obtain ⟨hdraw,hr⟩:=hr
 obtain ⟨l,hl,hr⟩:=oB_some.1 hr
 obtain ⟨⟨vsF,sF⟩,hst,hr⟩:=oB_some.1 hr
 rw [pB_mk,guardB_some] at hr
 obtain ⟨hseen,hr⟩:=hr
 cases hr
 obtain ⟨hSt,hch⟩:=drawOk_st hdraw
 have hedge:=drawOk_edge hdraw
 have hlen:(aL ops).length = ops.size:=by rw [aL_eq]; simp
 rw [hlen] at hst hseen
 have hw:(fun t => writer t (aL ops) 0) = wrO ops:=by rw [aL_eq]; rfl
 rw [hw] at hst ⊢
 obtain ⟨ms,hms⟩:∃ ms,ms = masksFrom [] (aL ops):=⟨_,rfl⟩
 rw [← hms] at hst hSt hch hedge
 generalize hes:effs (aL ops) 0 = es at *
 rw [aL_eq] at hl hst
 have hesm:∀ e,e ∈ es ↔ ∃ o,ops[e]? = some o ∧ cls o.op = 2:=by
  intro e
  rw [← hes,effs_mem,aL_eq]
  constructor
  ·rintro ⟨j,o,h1,h2,h3⟩
   have:e = j:=by omega
   subst this
   exact ⟨o,by simpa using h2,h3⟩
  ·rintro ⟨o,h1,h2⟩
   exact ⟨e,o,by omega,by simpa using h1,h2⟩
 obtain ⟨hd1,hd2⟩:=dps_ok (P:=P) (nt:=nt) (ops:=ops) (ms:=ms) (es:=es) ops.toList l 0 (by simp) hl
 have hdl:=dps_len (ms:=ms) (es:=es) l ops.toList 0
 generalize hds:dps ms es l ops.toList 0 = ds at *
 have hget:∀ (j:Nat) (d:Dp),ds[j]? = some d → d.i = j:=by
  intro j d hj
  have hjl:=(List.getElem?_eq_some_iff.1 hj).1
  have hjo:j < ops.toList.length:=by omega
  obtain ⟨d',h1,h2⟩:=hd2 j _ (List.getElem?_eq_getElem hjo)
  rw [hj] at h1; cases h1
  omega
 have hat:∀ (e:Nat) (d:Dp),dpAt ds e = some d → d ∈ ds ∧ d.i = e:=by
  intro e d h
  unfold dpAt at h
  rw [nth_eq] at h
  exact ⟨List.mem_of_getElem? h,hget e d h⟩
 have huni:∀ d ∈ ds,∀ d' ∈ ds,d.i = d'.i → d = d':=by
  intro d hd d' hd' he
  obtain ⟨j,hj⟩:=List.getElem?_of_mem hd
  obtain ⟨j',hj'⟩:=List.getElem?_of_mem hd'
  have h1:=hget j d hj
  have h2:=hget j' d' hj'
  have:j = j':=by omega
  subst this
  rw [hj] at hj'; cases hj'; rfl
 have hlo:∀ d ∈ ds,d.lo ≤ d.hi:=by
  intro d hd
  obtain ⟨_,o,hok⟩:=hd1 d hd
  rw [hok.lo,hok.hi]
  refine countB_le fun e he h => ?_
  obtain ⟨oe,hoe,_⟩:=(hesm e).1 he
  cases ht:tb (mAt ms e) d.i with
  | true => have h3:=hSt.lt e oe hoe d.i ht; have h4:=hSt.lt d.i o hok.op e h; omega
  | false => rfl
 have hdsn:∀ d ∈ ds,(∃ o,DpOk P nt ops ms es d o) ∧ ∀ j,tb d.m j = true → j < ops.size:=by
  intro d hd
  obtain ⟨_,o,hok⟩:=hd1 d hd
  refine ⟨⟨o,hok⟩,fun j hj => ?_⟩
  rw [hok.m] at hj
  have h3:=hSt.lt d.i o hok.op j hj
  have h4:=(Array.getElem?_eq_some_iff.1 hok.op).1
  omega
 obtain ⟨Sx,Jx,hS0,_,hstg⟩:=stages_ok hdsn hat hlo es 0 _ _ hst (fun d _ _ h => absurd h (Nat.not_lt_zero _))
 have hall:∀ i,i < ops.size → ∃ v,vsF i = some v:=by
  intro i hi
  refine seen_P hseen ?_ i ?_
  ·intro j hj
   rw [tb_eq] at hj
   rcases Nat.lt_or_ge j ops.size with h | h
   ·exact h
   ·have e1:Nat.sub (Nat.shiftLeft 1 ops.size) 1 = 2 ^ ops.size - 1:=by
     show 1 <<< ops.size - 1 = _
     rw [Nat.shiftLeft_eq,Nat.one_mul]
    rw [e1,Nat.testBit_two_pow_sub_one] at hj
    simpa using hj
  ·rw [tb_eq]
   have e1:Nat.sub (Nat.shiftLeft 1 ops.size) 1 = 2 ^ ops.size - 1:=by
    show 1 <<< ops.size - 1 = _
    rw [Nat.shiftLeft_eq,Nat.one_mul]
   rw [e1,Nat.testBit_two_pow_sub_one]
   simpa using hi
 have C:Ctx P nt ops ms es call e s.c ds vsF sF Sx Jx:=by
  refine ⟨hSt,hedge,hch,hesm,fun d hd => (hdsn d hd).1,?_,huni,hall,hstg⟩
  intro i o ho
  obtain ⟨d,h1,h2⟩:=hd2 i o (by simpa using ho)
  exact ⟨d,List.mem_of_getElem? h1,by omega⟩
 have h0:on (Array.replicate ops.size false) = fun _ => false:=by
  funext j
  unfold on
  rw [Array.getD_eq_getD_getElem?,Array.getElem?_replicate]
  split <;> rfl
 have hcnt0:∀ l:List Nat,countB (fun _ => false) l = 0:=by
  intro l
  induction l with
  | nil => rfl
  | cons a l ih => exact ih
 have hS0c:(Sx 0).c = s.c + ops.size:=by rw [hS0]; rfl
 refine ⟨rfl,ms,es,ds,vsF,sF,Sx,Jx,C,hms,?_,?_⟩
 ·intro φ a w hA
  refine ⟨by simp,?_,?_,hA.stt.rel.draws rfl,?_,?_,?_,?_,?_,hA.env.size,?_,?_,⟨Sub.refl φ,Nat.le_refl _,fun x g h1 h2 => (by rw [h1] at h2; cases h2),fun _ _ _ => rfl,⟨rfl,rfl,rfl⟩⟩,fun _ h1 h2 => absurd h1 h2,fun _ hx => .inl hx⟩
  ·intro j hj; rw [h0] at hj; cases hj
  ·rw [h0,hcnt0]
  ·intro x o hx _
   rw [hS0] at hx; exact hx
  ·intro d _ _ hl; rw [h0] at hl; cases hl
  ·omega
  ·intro x hx; exact hA.stt.fr x (by omega)
  ·intro j _ _; exact hA.stt.fr _ (by omega)
  ·intro t
   have hv:=hA.env.val t
   have:envL ops e vsF (Array.replicate ops.size false) t = e t:=by
    unfold envL
    cases writer t ops.toList 0 with
    | none => rfl
    | some j => simp [h0]
   rw [this]; exact hv
  ·rw [hS0]; exact hA.dfs
 ·intro φ w listed k a' w' φ' h' I hon
  have hk:k = es.length:=by
   rw [← I.cnt]
   refine Nat.le_antisymm countB_len ?_
   have h1:countB (fun _ => true) es ≤ countB (on listed) es:=countB_le fun e he _ => by
    obtain ⟨o,ho,_⟩:=(hesm e).1 he
    exact hon e (Array.getElem?_eq_some_iff.1 ho).1
   have h2:∀ l:List Nat,countB (fun _ => true) l = l.length:=by
    intro l
    induction l with
    | nil => rfl
    | cons a l ih => show Nat.succ (countB (fun _ => true) l) = l.length + 1; rw [ih]
   rw [h2] at h1; exact h1
  have hlast:=hstg.last
  rw [Nat.zero_add,← hk] at hlast
  have hJ:=join_sub C I fun d hd _ _ => by
   obtain ⟨_,o,hok⟩:=hd1 d hd
   exact hon d.i (Array.getElem?_eq_some_iff.1 hok.op).1
  obtain ⟨jc,jd,_⟩:=hstg.join k (Nat.zero_le _) (by omega)
  rw [hlast] at hJ jc jd
  have hJl:∀ x,live sF.h x → live h' x:=fun x ⟨o,h1,h2⟩ => ⟨o,hJ x o h1 h2,h2⟩
  refine ⟨⟨⟨I.tsz,fun t => ?_⟩,⟨I.rel.less hJ,fun x hx => I.fr x (by rw [← jc]; exact hx)⟩,?_⟩,⟨I.ext,?_,I.new,fun x hx => I.liv x (hJl x hx)⟩⟩
  ·have hv:=I.env t
   have:envF (wrO ops) vsF e t = envL ops e vsF listed t:=by
    unfold envF envL wrO
    cases hw:writer t ops.toList 0 with
    | none => exact reb_eq _
    | some j =>
     obtain ⟨q,p,hq,hp,_⟩:=writer_some hw
     have hj:j = q:=by omega
     subst hj
     have hp':ops[j]? = some p:=by simpa using hp
     show reb (vsF j) = if on listed j = true then vsF j else e t
     rw [if_pos (hon j (Array.getElem?_eq_some_iff.1 hp').1),reb_eq]
   show V φ' (getE (envF (wrO ops) vsF e t)) _
   rw [this]; exact hv
  ·show L (DR φ') sF.ds a'.defers
   rw [jd]; exact I.dfs
  ·have:=I.cle
   show s.c ≤ sF.c
   omega
end Xe
namespace Xe
variable {P:Program}
theorem ready_iff {ops:Array Oper} {L:Array Bool} (hs:L.size = ops.size) (i:Nat) :
  i ∈ Region.ready .any ops L ↔ ∃ o,ops[i]? = some o ∧ on L i = false ∧ ∀ e ∈ o.after,Region.binds .any e = true → on L e.on = true:=by
 unfold Region.ready
 rw [List.mem_filter,List.mem_range,Bool.and_eq_true]
 constructor
 ·rintro ⟨hlt,h1,h2⟩
  have ho:ops[i]? = some ops[i]:=Array.getElem?_eq_getElem hlt
  refine ⟨ops[i],ho,?_,fun e he hb => ?_⟩
  ·have hl:L[i]? = some (L[i]'(by rw [hs]; exact hlt)):=Array.getElem?_eq_getElem _
   unfold on
   rw [Array.getD_eq_getD_getElem?,hl] at h1 ⊢
   simpa using h1
  ·rw [ho] at h2
   simp only [Option.map_some,Option.getD_some] at h2
   rw [Array.all_eq_true'] at h2
   have:=h2 e he
   rw [hb] at this
   simpa [on] using this
 ·rintro ⟨o,ho,h1,h2⟩
  have hlt:=(Array.getElem?_eq_some_iff.1 ho).1
  refine ⟨hlt,?_,?_⟩
  ·have hl:L[i]? = some (L[i]'(by rw [hs]; exact hlt)):=Array.getElem?_eq_getElem _
   unfold on at h1
   rw [Array.getD_eq_getD_getElem?,hl] at h1 ⊢
   simpa using h1
  ·rw [ho]
   simp only [Option.map_some,Option.getD_some]
   rw [Array.all_eq_true']
   intro e he
   cases hb:Region.binds .any e with
   | false => rfl
   | true =>
    have:=h2 e he hb
    unfold on at this
    rw [this]; rfl
def ff (lp:Array Bool):Array Bool:=lp ++ #[false,false,false]
theorem on_ff (lp:Array Bool) (i:Nat):on (ff lp) i = on lp i:=by
 unfold on ff
 rw [Array.getD_eq_getD_getElem?,Array.getD_eq_getD_getElem?]
 by_cases h:i < lp.size
 ·rw [Array.getElem?_append_left h]
 ·rw [Array.getElem?_append_right (by omega)]
  have h2:lp[i]? = none:=Array.getElem?_eq_none (by omega)
  rw [h2]
  match hq:i - lp.size with
  | 0 => rfl
  | 1 => rfl
  | 2 => rfl
  | q + 3 => rfl
theorem ff_set (lp:Array Bool) {i:Nat} (h:i < lp.size):(ff lp).setIfInBounds i true = ff (lp.setIfInBounds i true):=by
 apply Array.ext_getElem?
 intro j
 unfold ff
 rw [Array.getElem?_setIfInBounds]
 by_cases hj:j < lp.size
 ·rw [Array.getElem?_append_left (xs:=lp) hj,Array.getElem?_append_left (xs:=lp.setIfInBounds i true) (by simpa using hj),Array.getElem?_setIfInBounds]
  by_cases e:i = j
  ·subst e
   rw [if_pos rfl,if_pos rfl,if_pos (by simp; omega),if_pos h]
  ·rw [if_neg e,if_neg e]
 ·have hne:i ≠ j:=by omega
  rw [if_neg hne,Array.getElem?_append_right (by omega),Array.getElem?_append_right (by simp; omega)]
  simp
theorem tb_lt {m n k:Nat} (h:m < 2 ^ n) (hb:tb m k = true):k < n:=by
 rw [tb_eq] at hb
 rcases Nat.lt_or_ge k n with h1 | h1
 ·exact h1
 ·have:=Nat.testBit_lt_two_pow (Nat.lt_of_lt_of_le h (Nat.pow_le_pow_right (by omega) h1))
  rw [this] at hb; cases hb
theorem writeN_of {s:S} {a:Addr} {vs:List Value} {c:Array Value} {el:TypeId} {f:Nat × Nat} {c':List Value} (h0:a.spot = none) (h1:3 ≤ a.block) (h2:s.h a.block = some (.cells c el f)) (h3:overAt a.off c.toList vs = some c') :
  writeN s a vs = some ⟨s.c,setH s.h a.block (.cells c'.toArray el f),s.ds⟩:=by
 unfold writeN
 rw [aB_eq,noSp_some,sB_eq,guardB_some]
 refine ⟨h0,by rw [ble_dec]; simpa using h1,oB_some.2 ⟨_,h2,?_⟩⟩
 simp only [obRow]
 rw [aL_eq]
 exact oB_some.2 ⟨c',h3,rfl⟩
theorem setH_swap (h:Hp) {x y:Nat} (hne:x ≠ y) (o1 o2:Obj):setH (setH h x o1) y o2 = setH (setH h y o2) x o1:=by
 funext z
 rw [setH_get,setH_get,setH_get,setH_get]
 by_cases h1:z = x
 ·subst h1
  rw [if_neg hne,if_pos rfl,if_pos rfl]
 ·by_cases h2:z = y
  ·subst h2
   rw [if_pos rfl,if_neg h1,if_pos rfl]
  ·rw [if_neg h2,if_neg h1,if_neg h1,if_neg h2]
theorem store_swap {na nb:Nat} {xa ya xb yb:Operand} {call:Cl} {e:En} {s s2 s3:S} {v1 v2:Value} (hb:both xa xb e = true) (h1:fStore na xa ya call e s 0 = some (v1,s2)) (h2:fStore nb xb yb call e s2 0 = some (v2,s3)) :
  ∃ s2',fStore nb xb yb call e s 0 = some (v2,s2') ∧ fStore na xa ya call e s2' 0 = some (v1,s3):=by
 obtain ⟨aa,ha,h1⟩:=oB_some.1 h1
 obtain ⟨ab,hab,h2⟩:=oB_some.1 h2
 have hne:aa.block ≠ ab.block:=by
  unfold both at hb
  rw [ha,hab] at hb
  have:=not_true' hb
  rw [beq_dec] at this
  simpa using this
 rw [guardB_some,guardB_some] at h1 h2
 obtain ⟨p1,p2,h1⟩:=h1
 obtain ⟨q1,q2,h2⟩:=h2
 obtain ⟨t1,w1,h1⟩:=oB_some.1 h1
 cases h1
 obtain ⟨t2,w2,h2⟩:=oB_some.1 h2
 cases h2
 obtain ⟨a1,a2,c,el,f,c',a3,a4,rfl⟩:=writeN_some w1
 obtain ⟨b1,b2,d,em,g,d',b3,b4,rfl⟩:=writeN_some w2
 have b3':s.h ab.block = some (.cells d em g):=by
  have h:setH s.h aa.block (.cells c'.toArray el f) ab.block = some (.cells d em g):=b3
  rwa [setH_get,if_neg (Ne.symm hne)] at h
 refine ⟨⟨s.c,setH s.h ab.block (.cells d'.toArray em g),s.ds⟩,?_,?_⟩
 ·refine oB_some.2 ⟨ab,hab,?_⟩
  rw [guardB_some,guardB_some]
  exact ⟨q1,q2,oB_some.2 ⟨_,writeN_of b1 b2 b3' b4,rfl⟩⟩
 ·refine oB_some.2 ⟨aa,ha,?_⟩
  rw [guardB_some,guardB_some]
  refine ⟨p1,p2,oB_some.2 ⟨_,writeN_of (s:=⟨s.c,setH s.h ab.block (.cells d'.toArray em g),s.ds⟩) (c:=c) (el:=el) (f:=f) a1 a2 ?_ a4,?_⟩⟩
  ·show setH s.h ab.block (.cells d'.toArray em g) aa.block = _
   rw [setH_get,if_neg hne]; exact a3
  ·show some (undef,(⟨s.c,setH (setH s.h ab.block (.cells d'.toArray em g)) aa.block (.cells c'.toArray el f),s.ds⟩:S)) = some (undef,⟨s.c,setH (setH s.h aa.block (.cells c'.toArray el f)) ab.block (.cells d'.toArray em g),s.ds⟩)
   rw [setH_swap s.h hne]
theorem storeOf_some {o:Oper} {q:Nat × Operand × Operand} (h:storeOf P o = some q):∃ t,o.op = .store t q.2.1 q.2.2 ∧ o.dst = none ∧ o.guard = none ∧ okOp o.op = true ∧ tsz P t = some q.1:=by
 unfold storeOf at h
 split at h
 ·rename_i t x y h1 h2 h3
  rw [guardB_some] at h
  obtain ⟨h4,h⟩:=h
  obtain ⟨n,hn,h⟩:=oB_some.1 h
  cases h
  exact ⟨t,h1,h2,h3,h4,hn⟩
 ·cases h
theorem store_step (hN:NameOk P) {call:Cl} (hC:CallOk P call) {ops:Array Oper} {i:Nat} {o:Oper} (ho:ops[i]? = some o) {q:Nat × Operand × Operand} (hq:storeOf P o = some q) {nt:Nat} {e:En} {s s':S} {v:Value} (h:fStore q.1 q.2.1 q.2.2 call e s 0 = some (v,s'))
  {φ:Ph} {a:Act} {w:World} (hA:AR1 φ nt e s a w) {K:Act → World → Prop} {Q:Exit → Act → World → Prop} (hK:∀ φ' a' w',AR1 φ' nt e s' a' w' → Grew φ s w φ' s' w' → K a' w'):wpOp P ops Q i K a w:=by
 obtain ⟨t,hop,hd,hg,hok,ht⟩:=storeOf_some hq
 unfold wpOp
 rw [ho]
 show (if Region.wanted o (yielded ops a.tmps) = true then _ else _)
 have hw:Region.wanted o (yielded ops a.tmps) = true:=by simp [Region.wanted,hg]
 rw [if_pos hw]
 have hf:comp P o.op = some (fStore q.1 q.2.1 q.2.2):=by
  rw [hop]
  show oB (tsz P t) _ = _
  rw [ht]; rfl
 have hE:EvR φ e a o.op:=okOp_EvR hok hA.env hA.stt.rel.glo
 refine .inl (eff_wp hN hC hf (by rw [hop]; rfl) h hE hA.stt hA.dfs K Q ?_)
 intro φ' v' w' df hV hP hdf
 rw [hd]
 exact hK φ' _ w' ⟨⟨hA.env.size,fun t => (hA.env.val t).mono hP.ext.sub⟩,hP.stt,hdf⟩ hP.grew
theorem idxOf_some {nt:Nat} {o:Oper} {q:Ix} (h:idxOf P nt o = some q):comp P o.op = some (fIdx q.z q.x q.i) ∧ o.dst = some q.d ∧ o.guard = none ∧ okOp o.op = true ∧ dstOk nt (some q.d) = true:=by
 unfold idxOf at h
 split at h
 ·rename_i t x i d h1 h2 h3
  split at h
  ·rename_i el hu
   rw [guardB_some,guardB_some] at h
   obtain ⟨h4,h5,h⟩:=h
   obtain ⟨z,hz,h⟩:=oB_some.1 h
   cases h
   refine ⟨?_,h2,h3,h4,h5⟩
   rw [h1]
   show compIA P t x i = _
   unfold compIA
   rw [hu]
   exact oB_some.2 ⟨z,hz,rfl⟩
  ·cases h
 ·cases h
theorem idx_step {call:Cl} {ops:Array Oper} {i:Nat} {o:Oper} (ho:ops[i]? = some o) {nt:Nat} {q:Ix} (hq:idxOf P nt o = some q) {e:En} {s s':S} {v:Value} (h:fIdx q.z q.x q.i call e s 0 = some (v,s'))
  {φ:Ph} {a:Act} {w:World} (hA:AR1 φ nt e s a w) {K:Act → World → Prop} {Q:Exit → Act → World → Prop} (hK:∀ a',AR1 φ nt (setE e q.d v) s a' w → K a' w):wpOp P ops Q i K a w:=by
 obtain ⟨hf,hd,hg,hok,hdo⟩:=idxOf_some hq
 unfold wpOp
 rw [ho]
 show (if Region.wanted o (yielded ops a.tmps) = true then _ else _)
 have hw:Region.wanted o (yielded ops a.tmps) = true:=by simp [Region.wanted,hg]
 rw [if_pos hw]
 have hE:EvR φ e a o.op:=okOp_EvR hok hA.env hA.stt.rel.glo
 have hcls:cls o.op = 0:=by
  unfold idxOf at hq
  split at hq
  ·rename_i h1 _ _
   rw [h1]; rfl
  ·cases hq
 refine .inl ?_
 rcases comp_cls hf with ⟨_,hR⟩ | ⟨h0,_⟩ | ⟨h0,_⟩
 ·obtain ⟨rfl,hR⟩:=hR call e s 0 v s' h
  obtain ⟨v',hv,hrun⟩:=hR φ a w hE hA.stt.rel
  unfold Oper.wp
  rw [hrun o rfl]
  have hA':AR1 φ nt (put e (some q.d) v) s' (a.put (some q.d) v') w:=⟨hA.env.put hdo hv,hA.stt,hA.dfs⟩
  show K (a.put o.dst v') w
  rw [hd]
  exact hK _ hA'
 ·rw [hcls] at h0; cases h0
 ·rw [hcls] at h0; cases h0
theorem ev_notT {d:Nat} {x:Operand} (h:notT d x = true) (e:En) (v:Value):ev (setE e d v) x = ev e x:=by
 cases x with
 | tmp t =>
  have ht:t ≠ d:=by
   have h1:not' (Nat.beq t d) = true:=h
   have:=not_true' h1
   rw [beq_dec] at this
   simpa using this
  show getE (setE e d v t) = getE (e t)
  unfold setE
  rw [bB_ite,beq_dec,if_neg (by simpa using ht),reb_eq]
 | const c => rfl
 | global g => rfl
 | func f => rfl
theorem store_notT {d n:Nat} {x y:Operand} (hx:notT d x = true) (hy:notT d y = true) (call:Cl) (e:En) (v:Value) (s:S):fStore n x y call (setE e d v) s 0 = fStore n x y call e s 0:=by
 unfold fStore
 rw [ev_notT hx,ev_notT hy]
theorem full_eq (n:Nat):full n = 2 ^ n - 1:=by
 show 1 <<< n - 1 = _
 rw [Nat.shiftLeft_eq,Nat.one_mul]
theorem wpAny_end {ops:Array Oper} {L:Array Bool} {Q:Exit → Act → World → Prop} (hs:L.size = ops.size) (hall:∀ i,i < ops.size → on L i = true) {a:Act} {w:World} (hQ:Q .normal a w):∀ f,wpAny P .any ops Q f L a w:=by
 have hr:∀ i,i ∉ Region.ready .any ops L:=fun i hi => by
  obtain ⟨o,ho,h1,_⟩:=(ready_iff hs i).1 hi
  rw [hall i (Array.getElem?_eq_some_iff.1 ho).1] at h1; cases h1
 intro f
 cases f with
 | zero => exact ⟨List.eq_nil_iff_forall_not_mem.2 hr,hQ⟩
 | succ f => exact ⟨fun _ => hQ,fun i hi => absurd hi (hr i)⟩
end Xe
end Go.Proofs.YtpnljpdpobbiiaaGreatDoor
