/- The variables that the road reads,in memory. -/
import Derived.Test.YtbioaoangfiijaaGreatDoorM47
import Derived.KernelRfl
namespace Go.Proofs.YtbioaoangfiijaaGreatDoor
open Go.RowKit
namespace Xe
noncomputable section
def sv (l:List UInt8):Value:=.string ⟨⟨l⟩⟩
def iv (n:Int):Value:=.int .i64 n
def pairL:List Value:=[iv 18,sv [111,114],iv 1,iv 17,sv [97,110,100],iv 2,iv 11,sv [61,61],iv 3,iv 12,sv [33,61],iv 3,iv 13,sv [60],iv 3,iv 14,sv [60,61],iv 3,iv 15,sv [62],iv 3,iv 16,sv [62,61],iv 3,iv 6,sv [43],iv 4,iv 7,sv [45],iv 4,iv 8,sv [42],iv 5,iv 9,sv [47],iv 5,iv 10,sv [37],iv 5]
def truthL:List Value:=[iv 2,sv []]
def numL:List Value:=[iv 1,sv []]
def h0:Hp:=fun x => bB (Nat.beq x 0) (some (.cells ⟨pairL⟩ 0)) (bB (Nat.beq x 1) (some (.cells ⟨truthL⟩ 0)) (bB (Nat.beq x 2) (some (.cells ⟨numL⟩ 0)) none))
def s0:S:=⟨10,h0,[]⟩
def fn:Cl:=func Tryz.prog (special 35 16 110) 60 false
end
structure Tabs (w:World):Prop where
 pairs:∃ e fr,w.heap[0]? = some (.cells ⟨pairL⟩ e fr)
 truth:∃ e fr,w.heap[1]? = some (.cells ⟨truthL⟩ e fr)
 num:∃ e fr,w.heap[2]? = some (.cells ⟨numL⟩ e fr)
theorem Tabs.below {w w':World} (h:Tabs w) (hb:Below w.heap.size w w'):Tabs w':=by
 obtain ⟨⟨e0,f0,h0⟩,⟨e1,f1,h1⟩,⟨e2,f2,h2⟩⟩:=h
 have l:∀ {b:Nat} {o:Obj},w.heap[b]? = some o → w'.heap[b]? = some o:=fun {b o} h => (hb.block b (Array.getElem?_eq_some_iff.1 h).1).trans h
 exact ⟨⟨e0,f0,l h0⟩,⟨e1,f1,l h1⟩,⟨e2,f2,l h2⟩⟩
def ph0:Ph:=fun x => if x = 0 then some ⟨0,39⟩ else if x = 1 then some ⟨1,2⟩ else if x = 2 then some ⟨2,2⟩ else none
theorem h0_some {x:Nat} {o:Obj} (h:h0 x = some o):(x = 0 ∧ o = .cells ⟨pairL⟩ 0) ∨ (x = 1 ∧ o = .cells ⟨truthL⟩ 0) ∨ (x = 2 ∧ o = .cells ⟨numL⟩ 0):=by
 unfold h0 at h
 rw [bB_ite,bB_ite,bB_ite,beq_dec,beq_dec,beq_dec] at h
 split at h
 ·rename_i e; cases h; exact .inl ⟨by simpa using e,rfl⟩
 ·split at h
  ·rename_i e; cases h; exact .inr (.inl ⟨by simpa using e,rfl⟩)
  ·split at h
   ·rename_i e; cases h; exact .inr (.inr ⟨by simpa using e,rfl⟩)
   ·cases h
theorem L_V1 (φ:Ph):∀ (l:List Value),(∀ v ∈ l,(∃ n,v = iv n) ∨ ∃ b,v = sv b) → L (V1 φ) l l:=fun l h => L.refl l fun v hv => by
 rcases h v hv with ⟨n,rfl⟩ | ⟨b,rfl⟩ <;> exact .inl rfl
theorem stt0 {w:World} (h:Tabs w):Stt ph0 s0 w:=by
 obtain ⟨⟨e0,f0,q0⟩,⟨e1,f1,q1⟩,⟨e2,f2,q2⟩⟩:=h
 have b0:=(Array.getElem?_eq_some_iff.1 q0).1
 have b1:=(Array.getElem?_eq_some_iff.1 q1).1
 have b2:=(Array.getElem?_eq_some_iff.1 q2).1
 have hk:∀ l:List Value,(l = pairL ∨ l = truthL ∨ l = numL) → ∀ v ∈ l,(∃ n,v = iv n) ∨ ∃ b,v = sv b:=by
  intro l hl v hv
  rcases hl with rfl | rfl | rfl
  ·simp only [pairL,List.mem_cons,List.not_mem_nil,or_false] at hv
   rcases hv with h | h | h | h | h | h | h | h | h | h | h | h | h | h | h | h | h | h | h | h | h | h | h | h | h | h | h | h | h | h | h | h | h | h | h | h | h | h | h <;> first | exact .inl ⟨_,h⟩ | exact .inr ⟨_,h⟩
  ·simp only [truthL,List.mem_cons,List.not_mem_nil,or_false] at hv
   rcases hv with h | h <;> first | exact .inl ⟨_,h⟩ | exact .inr ⟨_,h⟩
  ·simp only [numL,List.mem_cons,List.not_mem_nil,or_false] at hv
   rcases hv with h | h <;> first | exact .inl ⟨_,h⟩ | exact .inr ⟨_,h⟩
 refine ⟨⟨?_,?_,?_,?_⟩,?_⟩
 ·intro x o hx
  rcases h0_some hx with ⟨rfl,rfl⟩ | ⟨rfl,rfl⟩ | ⟨rfl,rfl⟩
  ·exact ⟨⟨0,39⟩,⟨pairL⟩,e0,f0,rfl,q0,rfl,fun h => absurd h (by omega),Nat.le_refl _,L_V1 _ _ (hk _ (.inl rfl))⟩
  ·exact ⟨⟨1,2⟩,⟨truthL⟩,e1,f1,rfl,q1,rfl,fun h => absurd h (by omega),Nat.le_refl _,L_V1 _ _ (hk _ (.inr (.inl rfl)))⟩
  ·exact ⟨⟨2,2⟩,⟨numL⟩,e2,f2,rfl,q2,rfl,fun h => absurd h (by omega),Nat.le_refl _,L_V1 _ _ (hk _ (.inr (.inr rfl)))⟩
 ·rintro x y g g' ⟨o,hx,_⟩ ⟨o',hy,_⟩ h1 h2 e
  rcases h0_some hx with ⟨rfl,_⟩ | ⟨rfl,_⟩ | ⟨rfl,_⟩ <;> rcases h0_some hy with ⟨rfl,_⟩ | ⟨rfl,_⟩ | ⟨rfl,_⟩ <;> first | rfl | (cases h1; cases h2; cases e)
 ·intro x g hx
  unfold ph0 at hx
  split at hx
  ·cases hx; exact b0
  ·split at hx
   ·cases hx; exact b1
   ·split at hx
    ·cases hx; exact b2
    ·cases hx
 ·intro x hx
  have:x = 0 ∨ x = 1 ∨ x = 2:=by omega
  rcases this with rfl | rfl | rfl
  ·exact ⟨39,rfl⟩
  ·exact ⟨2,rfl⟩
  ·exact ⟨2,rfl⟩
 ·intro x hx
  have hx':10 ≤ x:=hx
  unfold ph0
  rw [if_neg (by omega),if_neg (by omega),if_neg (by omega)]
end Xe
end Go.Proofs.YtbioaoangfiijaaGreatDoor
namespace Go.Proofs.YtbioaoangfiijaaGreatDoor
namespace Xe
noncomputable section
def preOf (ops:Array Oper):Array Oper:=⟨(aL ops).take (Nat.sub (aL ops).length 3)⟩
def storeOf (P:Program) (o:Oper):Option (Nat × Operand × Operand):=match o.op,o.dst,o.guard with
 | .store t x y,none,none => guardB (okOp o.op) (oB (tsz P t) fun n => some (n,x,y))
 | _,_,_ => none
structure Ix where
 z:Nat
 x:Operand
 i:Operand
 d:Nat
def ixB {γ:Type} (q:Ix) (f:Nat → Operand → Operand → Nat → γ):γ:=@Ix.rec (fun _ => γ) f q
def idxOf (P:Program) (nt:Nat) (o:Oper):Option Ix:=match o.op,o.dst,o.guard with
 | .indexAddr t x i,some d,none => match und P t with
  | some (.slice el) => guardB (okOp o.op) (guardB (dstOk nt (some d)) (oB (tsz P el) fun z => some ⟨z,x,i,d⟩))
  | _ => none
 | _,_,_ => none
def full (n:Nat):Nat:=Nat.sub (Nat.shiftLeft 1 n) 1
def lastOk (ops:Array Oper) (n:Nat):Bool:=(number (aL ops) 0).all (oneOk (masksFrom [] (aL ops))) && (Nat.beq (mAt (masksFrom [] (aL ops)) n) (full n) && (Nat.beq (mAt (masksFrom [] (aL ops)) (Nat.succ n)) (full (Nat.succ n)) && Nat.beq (mAt (masksFrom [] (aL ops)) (Nat.succ (Nat.succ n))) (full n)))
def both (x y:Operand) (e:En):Bool:=@Option.rec Addr (fun _ => Bool) false (fun a => @Option.rec Addr (fun _ => Bool) false (fun b => not' (Nat.beq a.block b.block)) (ptr (ev e y))) (ptr (ev e x))
def two2 (a b:Nat × Operand × Operand) (call:Cl) (e:En) (s:S):Option S:=pB a fun na qa => pB qa fun xa ya => pB b fun nb qb => pB qb fun xb yb =>
 guardB (both xa xb e) (bindS (fStore na xa ya call e s 0) fun _ s2 => bindS (fStore nb xb yb call e s2 0) fun _ s3 => some s3)
def notT (d:Nat) (x:Operand):Bool:=@Operand.rec (fun _ => Bool) (fun t => not' (Nat.beq t d)) (fun _ => true) (fun _ => true) (fun _ => true) x
def regT (P:Program) (nt:Nat) (call:Cl) (ops:Array Oper) (e:En) (s:S):Option R :=
 guardB (Nat.ble 3 (aL ops).length && lastOk ops (Nat.sub (aL ops).length 3)) <|
  oB (oB (nth (aL ops) (Nat.sub (aL ops).length 3)) (idxOf P nt)) fun q => oB (oB (nth (aL ops) (Nat.succ (Nat.sub (aL ops).length 3))) (storeOf P)) fun a => oB (oB (nth (aL ops) (Nat.succ (Nat.succ (Nat.sub (aL ops).length 3)))) (storeOf P)) fun b =>
  ixB q fun z x i d => guardB (notT d b.2.1 && notT d b.2.2) <|
  oB (regD P nt call (preOf ops) e s) fun r => rB r fun k e1 s1 => guardB (Nat.beq k 0) (bindS (fIdx z x i call e1 s1 0) fun v _ => oB (two2 a b call (setE e1 d v) s1) fun s3 => some ⟨0,setE e1 d v,s3⟩)
def spTwo (P:Program) (call:Cl) (f:FuncId) (args:List Value) (s:S):Option (Value × S):=oB (bodyOf P f) fun p => pB p fun fn c => match c with
 | .region _ ops true => lB (aL fn.results) (guardB (Nat.ble args.length fn.ntmps) (sB s fun k h ds => oB (regT P fn.ntmps call ops (enter args 0 (fun _ => none)) ⟨k,h,[]⟩) fun r => rB r fun _ _ s2 => sB s2 fun k2 h2 d2 => lB d2 (some (.tuple #[],⟨k2,h2,ds⟩)) fun _ _ => none)) fun _ _ => none
 | _ => none
end
variable {P:Program}
structure RegC (P:Program) (nt:Nat) (call:Cl) (ops:Array Oper) (e:En) (s:S) (r:R) (ms es:List Nat) (ds:List Dp) (vsF:En) (sF:S) (Sx Jx:Nat → S):Prop where
 ctx:Ctx P nt ops ms es call e s.c ds vsF sF Sx Jx
 msE:ms = masksFrom [] (aL ops)
 start:∀ φ a w,AR1 φ nt e s a w → Inv ops nt ms es call e s.c ds vsF Sx φ s.h w (Array.replicate ops.size false) 0 a { w with drawn:=w.drawn + 1 } φ s.h
 fin:∀ φ w listed k a' w' φ' h',Inv ops nt ms es call e s.c ds vsF Sx φ s.h w listed k a' w' φ' h' → (∀ i,i < ops.size → on listed i = true) → AR1 φ' nt r.e r.s a' w' ∧ Grew φ s w φ' r.s w'
theorem one_of {ops:Array Oper} (h:(number (aL ops) 0).all (oneOk (masksFrom [] (aL ops))) = true) (i:Nat) (o:Oper) (ho:ops[i]? = some o) :
  mAt (masksFrom [] (aL ops)) i = edgeM (masksFrom [] (aL ops)) (aL o.after) ∧ mAt (masksFrom [] (aL ops)) i < 2 ^ i:=by
 rw [List.all_eq_true] at h
 have hm:(i,o) ∈ number (aL ops) 0:=by
  have:=number_mem (k:=0) (l:=aL ops) (i:=i) (a:=o) (by rw [aL_eq]; simpa using ho)
  rwa [Nat.zero_add] at this
 have:=h _ hm
 unfold oneOk at this
 rw [Bool.and_eq_true,beq_dec,ble_dec] at this
 simp only [decide_eq_true_eq] at this
 refine ⟨this.1,?_⟩
 have h4:=this.2
 rw [show Nat.shiftLeft 1 i = 1 <<< i from rfl,Nat.shiftLeft_eq,Nat.one_mul] at h4
 omega
theorem masks_pre:∀ (l acc:List Nat) (ops p:List Oper),masksFrom acc ops = l → ∃ t,masksFrom acc (ops ++ p) = l ++ t
 | l,acc,[],p,h => by
  have h':acc = l:=h
  subst h'
  have:∀ (p:List Oper) (acc:List Nat),∃ t,masksFrom acc p = acc ++ t:=by
   intro p
   induction p with
   | nil => intro acc; exact ⟨[],by simp [masksFrom]⟩
   | cons o p ih =>
    intro acc
    obtain ⟨t,ht⟩:=ih (acc ++ [edgeM acc (aL o.after)])
    exact ⟨edgeM acc (aL o.after) :: t,by show masksFrom (acc ++ [edgeM acc (aL o.after)]) p = _; rw [ht]; simp⟩
  exact this p acc
 | l,acc,o :: ops,p,h => by
  exact masks_pre l (acc ++ [edgeM acc (aL o.after)]) ops p h
theorem masks_len:∀ (ops:List Oper) (acc:List Nat),(masksFrom acc ops).length = acc.length + ops.length
 | [],acc => by simp [masksFrom]
 | o :: ops,acc => by
  show (masksFrom (acc ++ [edgeM acc (aL o.after)]) ops).length = _
  rw [masks_len ops]
  simp
  omega
theorem reg_c (call:Cl) {nt:Nat} {ops:Array Oper} {e:En} {s:S} {r:R} (hr:regD P nt call ops e s = some r) :
  r.k = 0 ∧ ∃ ms es ds vsF sF Sx Jx,RegC P nt call ops e s r ms es ds vsF sF Sx Jx:=by
 unfold regD at hr
 rw [guardB_some,sB_eq,fN_eq] at hr
 obtain ⟨hdraw,hr⟩:=hr
 obtain ⟨l,hl,hr⟩:=oB_some.1 hr
 obtain ⟨⟨vsF,sF⟩,hst,hr⟩:=oB_some.1 hr
 rw [pB_mk,guardB_some] at hr
 obtain ⟨hseen,hr⟩:=hr
 cases hr
 obtain ⟨hSt,hch⟩:=drawOk_st hdraw
 have hedge:=drawOk_edge hdraw
 have hlen:(aL ops).length = ops.size:=by rw [aL_eq]; simp
 rw [hlen] at hst hseen
 have hw:(fun t => writer t (aL ops) 0) = wrO ops:=by rw [aL_eq]; rfl
 rw [hw] at hst ⊢
 obtain ⟨ms,hms⟩:∃ ms,ms = masksFrom [] (aL ops):=⟨_,rfl⟩
 rw [← hms] at hst hSt hch hedge
 generalize hes:effs (aL ops) 0 = es at *
 rw [aL_eq] at hl hst
 have hesm:∀ e,e ∈ es ↔ ∃ o,ops[e]? = some o ∧ cls o.op = 2:=by
  intro e
  rw [← hes,effs_mem,aL_eq]
  constructor
  ·rintro ⟨j,o,h1,h2,h3⟩
   have:e = j:=by omega
   subst this
   exact ⟨o,by simpa using h2,h3⟩
  ·rintro ⟨o,h1,h2⟩
   exact ⟨e,o,by omega,by simpa using h1,h2⟩
 obtain ⟨hd1,hd2⟩:=dps_ok (P:=P) (nt:=nt) (ops:=ops) (ms:=ms) (es:=es) ops.toList l 0 (by simp) hl
 have hdl:=dps_len (ms:=ms) (es:=es) l ops.toList 0
 generalize hds:dps ms es l ops.toList 0 = ds at *
 have hget:∀ (j:Nat) (d:Dp),ds[j]? = some d → d.i = j:=by
  intro j d hj
  have hjl:=(List.getElem?_eq_some_iff.1 hj).1
  have hjo:j < ops.toList.length:=by omega
  obtain ⟨d',h1,h2⟩:=hd2 j _ (List.getElem?_eq_getElem hjo)
  rw [hj] at h1; cases h1
  omega
 have hat:∀ (e:Nat) (d:Dp),dpAt ds e = some d → d ∈ ds ∧ d.i = e:=by
  intro e d h
  unfold dpAt at h
  rw [nth_eq] at h
  exact ⟨List.mem_of_getElem? h,hget e d h⟩
 have huni:∀ d ∈ ds,∀ d' ∈ ds,d.i = d'.i → d = d':=by
  intro d hd d' hd' he
  obtain ⟨j,hj⟩:=List.getElem?_of_mem hd
  obtain ⟨j',hj'⟩:=List.getElem?_of_mem hd'
  have h1:=hget j d hj
  have h2:=hget j' d' hj'
  have:j = j':=by omega
  subst this
  rw [hj] at hj'; cases hj'; rfl
 have hlo:∀ d ∈ ds,d.lo ≤ d.hi:=by
  intro d hd
  obtain ⟨_,o,hok⟩:=hd1 d hd
  rw [hok.lo,hok.hi]
  refine countB_le fun e he h => ?_
  obtain ⟨oe,hoe,_⟩:=(hesm e).1 he
  cases ht:tb (mAt ms e) d.i with
  | true => have h3:=hSt.lt e oe hoe d.i ht; have h4:=hSt.lt d.i o hok.op e h; omega
  | false => rfl
 have hdsn:∀ d ∈ ds,(∃ o,DpOk P nt ops ms es d o) ∧ ∀ j,tb d.m j = true → j < ops.size:=by
  intro d hd
  obtain ⟨_,o,hok⟩:=hd1 d hd
  refine ⟨⟨o,hok⟩,fun j hj => ?_⟩
  rw [hok.m] at hj
  have h3:=hSt.lt d.i o hok.op j hj
  have h4:=(Array.getElem?_eq_some_iff.1 hok.op).1
  omega
 obtain ⟨Sx,Jx,hS0,_,hstg⟩:=stages_ok hdsn hat hlo es 0 _ _ hst (fun d _ _ h => absurd h (Nat.not_lt_zero _))
 have hall:∀ i,i < ops.size → ∃ v,vsF i = some v:=by
  intro i hi
  refine seen_P hseen ?_ i ?_
  ·intro j hj
   rw [tb_eq] at hj
   rcases Nat.lt_or_ge j ops.size with h | h
   ·exact h
   ·have e1:Nat.sub (Nat.shiftLeft 1 ops.size) 1 = 2 ^ ops.size - 1:=by
     show 1 <<< ops.size - 1 = _
     rw [Nat.shiftLeft_eq,Nat.one_mul]
    rw [e1,Nat.testBit_two_pow_sub_one] at hj
    simpa using hj
  ·rw [tb_eq]
   have e1:Nat.sub (Nat.shiftLeft 1 ops.size) 1 = 2 ^ ops.size - 1:=by
    show 1 <<< ops.size - 1 = _
    rw [Nat.shiftLeft_eq,Nat.one_mul]
   rw [e1,Nat.testBit_two_pow_sub_one]
   simpa using hi
 have C:Ctx P nt ops ms es call e s.c ds vsF sF Sx Jx:=by
  refine ⟨hSt,hedge,hch,hesm,fun d hd => (hdsn d hd).1,?_,huni,hall,hstg⟩
  intro i o ho
  obtain ⟨d,h1,h2⟩:=hd2 i o (by simpa using ho)
  exact ⟨d,List.mem_of_getElem? h1,by omega⟩
 have h0:on (Array.replicate ops.size false) = fun _ => false:=by
  funext j
  unfold on
  rw [Array.getD_eq_getD_getElem?,Array.getElem?_replicate]
  split <;> rfl
 have hcnt0:∀ l:List Nat,countB (fun _ => false) l = 0:=by
  intro l
  induction l with
  | nil => rfl
  | cons a l ih => exact ih
 have hS0c:(Sx 0).c = s.c + ops.size:=by rw [hS0]; rfl
 refine ⟨rfl,ms,es,ds,vsF,sF,Sx,Jx,C,hms,?_,?_⟩
 ·intro φ a w hA
  refine ⟨by simp,?_,?_,hA.stt.rel.draws rfl,?_,?_,?_,?_,?_,hA.env.size,?_,?_,⟨Sub.refl φ,Nat.le_refl _,fun x g h1 h2 => (by rw [h1] at h2; cases h2),fun _ _ _ => rfl,⟨rfl,rfl,rfl⟩⟩,fun _ h1 h2 => absurd h1 h2,fun _ hx => .inl hx⟩
  ·intro j hj; rw [h0] at hj; cases hj
  ·rw [h0,hcnt0]
  ·intro x o hx _
   rw [hS0] at hx; exact hx
  ·intro d _ _ hl; rw [h0] at hl; cases hl
  ·omega
  ·intro x hx; exact hA.stt.fr x (by omega)
  ·intro j _ _; exact hA.stt.fr _ (by omega)
  ·intro t
   have hv:=hA.env.val t
   have:envL ops e vsF (Array.replicate ops.size false) t = e t:=by
    unfold envL
    cases writer t ops.toList 0 with
    | none => rfl
    | some j => simp [h0]
   rw [this]; exact hv
  ·rw [hS0]; exact hA.dfs
 ·intro φ w listed k a' w' φ' h' I hon
  have hk:k = es.length:=by
   rw [← I.cnt]
   refine Nat.le_antisymm countB_len ?_
   have h1:countB (fun _ => true) es ≤ countB (on listed) es:=countB_le fun e he _ => by
    obtain ⟨o,ho,_⟩:=(hesm e).1 he
    exact hon e (Array.getElem?_eq_some_iff.1 ho).1
   have h2:∀ l:List Nat,countB (fun _ => true) l = l.length:=by
    intro l
    induction l with
    | nil => rfl
    | cons a l ih => show Nat.succ (countB (fun _ => true) l) = l.length + 1; rw [ih]
   rw [h2] at h1; exact h1
  have hlast:=hstg.last
  rw [Nat.zero_add,← hk] at hlast
  have hJ:=join_sub C I fun d hd _ _ => by
   obtain ⟨_,o,hok⟩:=hd1 d hd
   exact hon d.i (Array.getElem?_eq_some_iff.1 hok.op).1
  obtain ⟨jc,jd,_⟩:=hstg.join k (Nat.zero_le _) (by omega)
  rw [hlast] at hJ jc jd
  have hJl:∀ x,live sF.h x → live h' x:=fun x ⟨o,h1,h2⟩ => ⟨o,hJ x o h1 h2,h2⟩
  refine ⟨⟨⟨I.tsz,fun t => ?_⟩,⟨I.rel.less hJ,fun x hx => I.fr x (by rw [← jc]; exact hx)⟩,?_⟩,⟨I.ext,?_,I.new,fun x hx => I.liv x (hJl x hx)⟩⟩
  ·have hv:=I.env t
   have:envF (wrO ops) vsF e t = envL ops e vsF listed t:=by
    unfold envF envL wrO
    cases hw:writer t ops.toList 0 with
    | none => exact reb_eq _
    | some j =>
     obtain ⟨q,p,hq,hp,_⟩:=writer_some hw
     have hj:j = q:=by omega
     subst hj
     have hp':ops[j]? = some p:=by simpa using hp
     show reb (vsF j) = if on listed j = true then vsF j else e t
     rw [if_pos (hon j (Array.getElem?_eq_some_iff.1 hp').1),reb_eq]
   show V φ' (getE (envF (wrO ops) vsF e t)) _
   rw [this]; exact hv
  ·show L (DR φ') sF.ds a'.defers
   rw [jd]; exact I.dfs
  ·have:=I.cle
   show s.c ≤ sF.c
   omega
end Xe
end Go.Proofs.YtbioaoangfiijaaGreatDoor
