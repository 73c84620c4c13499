/- What the small pieces of our machine answer;values by their kinds. -/
import Derived.Test.YthffafaoobpedaaGreatDoorM33
import Derived.Laws.Cells
import Derived.Laws.CopyRow
import Derived.Laws.Strings
namespace Go.Proofs.YthffafaoobpedaaGreatDoor
namespace Xe
section
variable {α β γ:Type}
theorem ai {x:Option α}{f:α→Option β}{y:β}:oB x f=some y ↔ ∃ a,x=some a∧f a=some y:=by
 cases x with
 | none=>simp [oB]
 | some a=>simp [oB]
theorem aN {b:Bool}{x:Option α}{y:α}:aM b x=some y ↔ b=true∧x=some y:=by cases b <;> simp [aM,bB]
theorem bS (b:Bool)(t f:γ):bB b t f=if b=true then t else f:=by cases b <;> rfl
theorem zn (z:γ)(s:Nat→γ):nB 0 z s=z:=rfl
theorem zo (n:Nat)(z:γ)(s:Nat→γ):nB (n+1) z s=s n:=rfl
theorem nN (n:Nat)(k:Nat→Option α):fN n k=k n:=by cases n <;> rfl
theorem BV (n:γ)(c:α→List α→γ):lB [] n c=n:=rfl
theorem BX (a:α)(l:List α)(n:γ)(c:α→List α→γ):lB (a :: l) n c=c a l:=rfl
theorem bF (a:Array α):aL a=a.toList:=by cases a;rfl
theorem qy (s:ByteArray):sL s=s.data.toList:=by cases s;exact bF _
theorem wM {sp:Option Nat}{x:Option γ}{y:γ}:wF sp x=some y ↔ sp=none∧x=some y:=by cases sp <;> simp [wF]
theorem jY:∀ (l:List α) (n:Nat),nth l n=l[n]?
 | [],n=>by simp [nth]
 | a :: l,0=>by show some a=_;simp
 | a :: l,n+1=>by
  have:=jY l n
  simp only [List.getElem?_cons_succ,← this]
  rfl
theorem wN:∀ (n:Nat) (l r:List α),takeN n l=some r ↔ n≤l.length∧r=l.take n
 | 0,l,r=>by show some []=some r ↔ _;simp [eq_comm]
 | n+1,[],r=>by simp [takeN,lB]
 | n+1,a :: l,r=>by
  show oB (takeN n l) (fun r=>some (a :: r))=some r ↔ _
  rw [ai]
  constructor
  ·rintro ⟨t,h,e⟩
   obtain ⟨h1,rfl⟩:=(wN n l t).1 h
   cases e
   exact ⟨by simpa using h1,by simp⟩
  ·rintro ⟨h1,rfl⟩
   exact ⟨l.take n,(wN n l _).2 ⟨by simpa using h1,rfl⟩,by simp⟩
theorem zq:∀ (n:Nat) (l:List α),wE n l=l.drop n
 | 0,l=>by show l=_;simp
 | n+1,[]=>by simp [wE,lB]
 | n+1,a :: l=>by
  show wE n l=_
  rw [zq n l];simp
end
theorem gD {α β γ:Type}(a:α)(b:β)(f:α→β→γ):pB (a,b) f=f a b:=rfl
theorem BZ {γ:Type}(n:Nat)(p q:Nat→γ):iB (.ofNat n) p q=p n:=rfl
theorem zt {γ:Type}(a:Addr)(f:Nat→Nat→Option Nat→γ):aB a f=f a.block a.off a.spot:=by cases a;rfl
theorem jE {γ:Type}(s:S)(f:Nat→Hp→List (FuncId × List Value)→γ):sB s f=f s.c s.h s.ds:=by cases s;rfl
theorem uz (q:IntKind)(i:Int):oG q i=some (.int q i):=by cases i <;> simp [oG,iB,nN]
theorem zu (b:Bool):oH b=some (.bool b):=by cases b <;> rfl
theorem OI (a:Addr):BA a=some (.pointer (some a)):=by cases a;simp [BA,aB,nN]
theorem OJ (a:Addr)(n z:Nat):BB a n z=some (.slice (some a) n z):=by cases a;simp [BB,aB,nN]
theorem kF {v:Option Value}{s:S}{x:Value}{s':S}:ret v s=some (x,s') ↔ v=some x∧s'=s:=by
 cases v with
 | none=>simp [ret,oB]
 | some a=>simp [ret,oB,eq_comm]
theorem GJ (a:Addr)(n:Nat):yY a n=a.add n:=by
 cases n with
 | zero=>show a=a.add 0;simp [Addr.add]
 | succ n=>cases a;simp [yY,nB,aB,Addr.add]
theorem GK {β:Type}{x:Value}{f:Bool→Option β}{y:β}:ug x none f=some y ↔ ∃ b,x=.bool b∧f b=some y:=by cases x <;> simp [ug]
theorem qA {β:Type}{x:Value}{f:IntKind→Int→Option β}{y:β}:iX x none f=some y ↔ ∃ k n,x=.int k n∧f k n=some y:=by
 cases x <;> first | simp [iX];done | exact ⟨fun h=>⟨_,_,rfl,h⟩,fun ⟨_,_,e,h⟩=>by cases e;exact h⟩
theorem zw {β:Type}{x:Value}{f:ByteArray→Option β}{y:β}:kR x none f=some y ↔ ∃ b,x=.string b∧f b=some y:=by cases x <;> simp [kR]
theorem wO {β:Type}{x:Value}{f:Option Addr→Nat→Nat→Option β}{y:β}:qj x none f=some y ↔ ∃ a n c,x=.slice a n c∧f a n c=some y:=by
 cases x <;> first | simp [qj];done | exact ⟨fun h=>⟨_,_,_,rfl,h⟩,fun ⟨_,_,_,e,h⟩=>by cases e;exact h⟩
theorem GL {β:Type}{x:Value}{f:Array Value→Option β}{y:β}:q9 x none f=some y ↔ ∃ c,x=.agg c∧f c=some y:=by cases x <;> simp [q9]
theorem GM {β:Type}{x:Value}{f:Array Value→Option β}{y:β}:uh x none f=some y ↔ ∃ c,x=.tuple c∧f c=some y:=by cases x <;> simp [uh]
theorem ZX {β:Type}{x:Value}{f:Option Nat→Option β}{y:β}:yU x none f=some y ↔ ∃ r,x=.map r∧f r=some y:=by cases x <;> simp [yU]
theorem ZY {β:Type}{x:Value}{f:Fn→Array Value→Array Value→Option β}{y:β}:Gb x none f=some y ↔ ∃ fn a c,x=.func fn a c∧f fn a c=some y:=by
 cases x <;> first | simp [Gb];done | exact ⟨fun h=>⟨_,_,_,rfl,h⟩,fun ⟨_,_,_,e,h⟩=>by cases e;exact h⟩
theorem wP {x:Value}{a:Addr}:ptr x=some a ↔ x=.pointer (some a):=by cases x <;> simp [ptr,Oc]
theorem OL {x:Value}{r:Nat}:BL x=some r ↔ x=.map (some r):=by cases x <;> simp [BL,yU]
theorem OM {o:Option Obj}{l:List Value}:rowOf o=some l ↔ ∃ c e f,o=some (.cells c e f)∧l=c.toList:=by
 cases o with
 | none=>simp [rowOf,oB]
 | some o=>cases o <;> simp [rowOf,oB,yV,bF,eq_comm]
theorem GN {o:Option Obj}{p:List MapEntry × Nat}:mapOf o=some p ↔ ∃ es k,o=some (.map es k)∧p=(es.toList,k):=by
 cases o with
 | none=>simp [mapOf,oB]
 | some o =>
  cases o <;> first | simp [mapOf,oB,Od];done | skip
  rename_i es k
  show some (aL es,k)=some p ↔ _
  rw [bF]
  exact ⟨fun h=>⟨es,k,rfl,(Option.some.inj h).symm⟩,fun ⟨_,_,e,h⟩=>by cases e;rw [h]⟩
theorem OO {h:Hp}{a:Addr}{n:Nat}{l:List Value}:nJ h a n=some l ↔ a.spot=none∧∃ c e f,h a.block=some (.cells c e f)∧n≤(c.toList.drop a.off).length∧l=(c.toList.drop a.off).take n:=by
 unfold nJ
 rw [zt,wM,ai]
 constructor
 ·rintro ⟨h0,c,hc,ht⟩
  obtain ⟨c',e,f,h1,rfl⟩:=OM.1 hc
  rw [zq,wN] at ht
  exact ⟨h0,c',e,f,h1,ht.1,ht.2⟩
 ·rintro ⟨h0,c,e,f,h1,h2,h3⟩
  exact ⟨h0,c.toList,OM.2 ⟨c,e,f,h1,rfl⟩,by rw [zq,wN];exact ⟨h2,h3⟩⟩
theorem Ca:∀ (l m:List UInt8),oJ l m=decide (l=m)
 | [],[]=>by simp [oJ,lB]
 | [],b :: m=>by simp [oJ,lB]
 | a :: l,[]=>by simp [oJ,lB]
 | a :: l,b :: m=>by
  show bB (Nat.beq a.toNat b.toNat) (oJ l m) false=_
  rw [Ca l m]
  by_cases h:a=b
  ·subst h
   have:Nat.beq a.toNat a.toNat=true:=by simp
   rw [this];simp [bB]
  ·have:Nat.beq a.toNat b.toNat=false:=by
    cases hb:Nat.beq a.toNat b.toNat with
    | true=>exact (h (UInt8.toNat_inj.1 (Nat.eq_of_beq_eq_true hb))).elim
    | false=>rfl
   rw [this];simp [bB,h]
theorem dG (a b:Nat):Nat.beq a b=decide (a=b):=by
 cases hb:Nat.beq a b with
 | true=>simp [Nat.eq_of_beq_eq_true hb]
 | false=>simp [Nat.ne_of_beq_eq_false hb]
theorem dL (a b:Nat):Nat.ble a b=decide (a≤b):=by
 cases hb:Nat.ble a b with
 | true=>simp [Nat.le_of_ble_eq_true hb]
 | false =>
  have:¬ a≤b:=fun h=>by rw [Nat.ble_eq_true_of_le h] at hb;cases hb
  simp [this]
theorem GQ (a b:Int):ui a b=decide (a=b):=by
 cases a <;> cases b <;> simp [ui,iB,dG] <;> omega
theorem GR (a b:Int):leI a b=decide (a≤b):=by
 cases a <;> cases b <;> simp only [leI,iB,dL] <;> (try simp) <;> (try omega)
theorem ZZ (a b:Int):Og a b=a+b:=by cases a <;> cases b <;> rfl
theorem GU (k l:IntKind):Nat.beq (mJ k) (mJ l)=true ↔ k=l:=by cases k <;> cases l <;> simp [mJ]
theorem not_eq (b:Bool):not' b=!b:=by cases b <;> rfl
theorem OP (k:IntKind)(i:Int):yZ k i=k.wrap i:=by
 cases i with
 | negSucc n=>rfl
 | ofNat n =>
  show bB (Nat.ble (top k) n) (k.wrap (.ofNat n)) (.ofNat n)=_
  rw [dL]
  by_cases h:top k≤n
  ·simp [h,bB]
  ·simp only [h,decide_false,bB]
   cases k <;> simp [top] at h <;> simp [IntKind.wrap,IntKind.bits,IntKind.signed] <;> omega
section kinds
variable {φ:Ph} {v':Value}
theorem zx {b:Bool}(h:V φ (.bool b) v'):v'=.bool b:=by
 rcases h with ((h | ⟨_,_,_,_,_,h,_⟩) | ⟨_,_,h,_⟩) | ⟨_,_,h,_⟩ <;> first | exact h | cases h
theorem mM {k:IntKind}{n:Int}(h:V φ (.int k n) v'):v'=.int k n:=by
 rcases h with ((h | ⟨_,_,_,_,_,h,_⟩) | ⟨_,_,h,_⟩) | ⟨_,_,h,_⟩ <;> first | exact h | cases h
theorem rA {s:ByteArray}(h:V φ (.string s) v'):v'=.string s:=by
 rcases h with ((h | ⟨_,_,_,_,_,h,_⟩) | ⟨_,_,h,_⟩) | ⟨_,_,h,_⟩ <;> first | exact h | cases h
theorem wQ {a:Addr}(h:V φ (.pointer (some a)) v'):∃ a',v'=.pointer (some a')∧AR φ a a':=by
 rcases h with ((h | ⟨_,_,_,_,_,h,_⟩) | ⟨_,_,h,_⟩) | ⟨_,_,h,_⟩ <;> first | exact h | cases h
theorem uA {a:Addr}{n z:Nat}(h:V φ (.slice (some a) n z) v'):∃ a' c,v'=.slice a' n c∧SR φ a n z a' c:=by
 rcases h with ((h | ⟨_,_,_,_,_,h,_⟩) | ⟨_,_,h,_⟩) | ⟨_,_,h,_⟩ <;> first | exact h | cases h
theorem zy {n z:Nat}(h:V φ (.slice none n z) v'):n=0∧v'=.slice none 0 0:=by
 rcases h with ((h | ⟨_,_,_,_,_,h,_⟩) | ⟨_,_,h,_⟩) | ⟨_,_,h,_⟩ <;> first | exact h | cases h
theorem GV {r:Nat}(h:V φ (.map (some r)) v'):∃ g,φ r=some g∧v'=.map (some g.b):=by
 rcases h with ((h | ⟨_,_,_,_,_,h,_⟩) | ⟨_,_,h,_⟩) | ⟨_,_,h,_⟩ <;> first | exact h | cases h
theorem Z0 (h:V φ (.map none) v'):v'=.map none:=by
 rcases h with ((h | ⟨_,_,_,_,_,h,_⟩) | ⟨_,_,h,_⟩) | ⟨_,_,h,_⟩ <;> first | exact h | cases h
theorem Z4 {fn:Fn}{f c:Array Value}(h:V φ (.func fn f c) v'):∃ f' c',v'=.func fn f' c'∧L (V0 φ) f.toList f'.toList∧L (V0 φ) c.toList c'.toList:=by
 rcases h with ((h | ⟨_,_,_,f',c',h,h2,h3,h4⟩) | ⟨_,_,h,_⟩) | ⟨_,_,h,_⟩
 ·exact h.elim
 ·cases h;exact ⟨f',c',h2,h3,h4⟩
 ·cases h
 ·cases h
theorem OQ {c:Array Value}(h:V φ (.agg c) v'):∃ c',v'=.agg c'∧L (V1 φ) c.toList c'.toList:=by
 rcases h with ((h | ⟨_,_,_,_,_,h,_⟩) | ⟨_,c',h,h2,h3⟩) | ⟨_,_,h,_⟩
 ·exact h.elim
 ·cases h
 ·cases h;exact ⟨c',h2,h3⟩
 ·cases h
theorem Z5 {c:Array Value}(h:V φ (.tuple c) v'):∃ c',v'=.tuple c'∧L (VA φ) c.toList c'.toList:=by
 rcases h with ((h | ⟨_,_,_,_,_,h,_⟩) | ⟨_,c',h,h2,h3⟩) | ⟨_,c',h,h2,h3⟩
 ·exact h.elim
 ·cases h
 ·cases h
 ·cases h;exact ⟨c',h2,h3⟩
theorem wR {v:Value}(h:V φ v v')(hn:oF v=true):VA φ v v':=by
 rcases h with h | ⟨_,_,rfl,_⟩
 ·exact h
 ·simp [oF,uh] at hn
theorem OT {v:Value}(h:V φ v v')(hn:flat v=true):V0 φ v v':=by
 rcases h with ((h | ⟨_,_,_,_,_,rfl,_⟩) | ⟨_,_,rfl,_⟩) | ⟨_,_,rfl,_⟩
 ·exact h
 all_goals simp [flat] at hn
theorem uB {v:Value}(h:VA φ v v'):L (V1 φ) (kS v) v'.cells.toList:=by
 rcases h with h | ⟨c,c',rfl,rfl,h⟩
 ·have hv:kS v=[v]:=by
   rcases h with h | ⟨_,_,_,_,_,rfl,_⟩
   ·cases v <;> first | rfl | exact h.elim
   ·rfl
  have hv':v'.cells=#[v']:=by
   rcases h with h | ⟨_,_,_,_,_,_,rfl,_⟩
   ·unfold V0 at h
    split at h
    case h_1=>subst h;rfl
    case h_2=>subst h;rfl
    case h_3=>subst h;rfl
    case h_4=>subst h;rfl
    case h_5=>obtain ⟨_,rfl,_⟩:=h;rfl
    case h_6=>obtain ⟨_,rfl⟩:=h;rfl
    case h_7=>obtain ⟨_,_,rfl,_⟩:=h;rfl
    case h_8=>subst h;rfl
    case h_9=>obtain ⟨_,_,rfl⟩:=h;rfl
    case h_10=>subst h;rfl
    case h_11=>exact h.elim
   ·rfl
  rw [hv,hv']
  exact ⟨h,trivial⟩
 ·show L (V1 φ) (aL c) c'.toList
  rw [bF];exact h
end kinds
end Xe
namespace Xe
variable {P:Program}
def oK (φ:Ph)(e:En)(a:Act)(op:Op):Prop:=∀ x ∈ op.operands,V φ (ev e x) (a.eval x)
def gL (P:Program)(op:Op)(f:F):Prop:=∀ (call:Cl) (e:En) (s:S) (nm:Nat) (v:Value) (s':S),f call e s nm=some (v,s') →
 s'=s∧∀ (φ:Ph) (a:Act) (w:World),oK φ e a op→Rel φ s.h w→∃ v',V φ v v'∧∀ o:Oper,o.op=op→(execOp a.eval o).run P w=.ok (.value v') w
theorem Cb {φ:Ph}{h:Hp}{w:World}{a a':Addr}{n:Nat}{l:List Value}(hr:nJ h a n=some l)(r:Rel φ h w)(ha:AR φ a a') :
  ∃ l',L (V1 φ) l l'∧l'.length=n∧∀ (j:Nat) v,l'[j]?=some v→w.cell? (a'.add j)=some v:=by
 obtain ⟨_,c,e,f,hc,hn,rfl⟩:=OO.1 hr
 obtain ⟨_,g,hg,rfl⟩:=ha
 obtain ⟨g',c',e',fr,hg',hw,_,_,hle,hL⟩:=r.obj _ _ hc
 rw [hg] at hg';cases hg'
 rcases Nat.eq_zero_or_pos n with h0 | h0
 ·subst h0
  exact ⟨[],by simp [L],rfl,fun j v hj=>by simp at hj⟩
 have hn':a.off+n≤c.size:=by simp at hn;omega
 refine ⟨((c'.toList.take c.size).drop a.off).take n,(hL.drop a.off).take n,by simp;omega,?_⟩
 intro j v hj
 have hjn:j < n:=by
  rcases Nat.lt_or_ge j n with h | h
  ·exact h
  ·rw [List.getElem?_eq_none (by simp;omega)] at hj;cases hj
 have hadd:(⟨g.b,a.off,none⟩:Addr).add j=⟨g.b,a.off+j,none⟩:=by unfold Addr.add;split <;> simp_all
 rw [hadd]
 rw [List.getElem?_take_of_lt hjn,List.getElem?_drop,List.getElem?_take_of_lt (by omega)] at hj
 simp [World.cell?,hw]
 simpa using hj
theorem Z7 {φ:Ph}{h:Hp}{w:World}{a a':Addr}{l:List Value}(hr:nJ h a 1=some l)(r:Rel φ h w)(ha:AR φ a a') :
  ∃ x x',l=[x]∧V1 φ x x'∧w.cell? a'=some x':=by
 obtain ⟨l',hL,hlen,hc⟩:=Cb hr r ha
 match l',hlen with
 | [x'],_ =>
  match l,hL with
  | [x],hL =>
   refine ⟨x,x',rfl,hL.1,?_⟩
   have:=hc 0 x' rfl
   have h0:a'.add 0=a':=by simp [Addr.add]
   rw [h0] at this
   exact this
theorem Z8 {φ:Ph}{h:Hp}{w:World}{a a':Addr}{n:Nat}{l:List Value}(hr:nJ h a n=some l)(r:Rel φ h w)(ha:AR φ a a') :
  ∃ l',L (V1 φ) l l'∧l'.length=n∧(loadCells a' n).run P w=.ok l'.toArray w:=by
 obtain ⟨l',hL,hlen,hc⟩:=Cb hr r ha
 exact ⟨l',hL,hlen,by rw [← hlen];exact run_loadCells_list w a' l' hc⟩
theorem Z9 (x:Operand):gL P (.move x) (BG x):=by
 intro call e s nm v s' h
 cases h
 exact ⟨rfl,fun φ a w hE _=>⟨a.eval x,hE x (by simp [Op.operands]),fun o ho=>by simp only [execOp,ho];rfl⟩⟩
theorem aaa (x:Operand):gL P (.assign x) (BG x):=by
 intro call e s nm v s' h
 cases h
 exact ⟨rfl,fun φ a w hE _=>⟨a.eval x,hE x (by simp [Op.operands]),fun o ho=>by simp only [execOp,ho];rfl⟩⟩
theorem aab (c x y:Operand):gL P (.pick c x y) (Oi c x y):=by
 intro call e s nm v s' h
 obtain ⟨b,hb,h⟩:=GK.1 h
 have hs:s'=s∧v=if b=true then ev e x else ev e y:=by cases b <;> cases h <;> exact ⟨rfl,rfl⟩
 obtain ⟨rfl,rfl⟩:=hs
 refine ⟨rfl,fun φ a w hE _=>?_⟩
 have hc:=hE c (by simp [Op.operands])
 rw [hb] at hc
 refine ⟨if b=true then a.eval x else a.eval y,?_,fun o ho=>?_⟩
 ·cases b
  ·exact hE y (by simp [Op.operands])
  ·exact hE x (by simp [Op.operands])
 ·simp only [execOp,ho,zx hc]
  cases b <;> simp [asBool]
theorem aac (x:Operand):gL P (.nilCheck x) (Om x):=by
 intro call e s nm v s' h
 obtain ⟨b,hb,h⟩:=ai.1 h
 rw [wP] at hb
 cases h
 refine ⟨rfl,fun φ a w hE _=>?_⟩
 have hx:=hE x (by simp [Op.operands])
 rw [hb] at hx
 obtain ⟨a',ha,hr⟩:=wQ hx
 exact ⟨.pointer (some a'),.dS ⟨a',rfl,hr⟩,fun o ho=>by simp only [execOp,ho,ha];rfl⟩
theorem aad {t:TypeId}(x:Operand)(ht:nI P t=false)(hu:(P.underlying t).isSome=true):gL P (.load t x) (Oj x):=by
 intro call e s nm v s' h
 obtain ⟨b,hb,h⟩:=ai.1 h
 rw [wP] at hb
 obtain ⟨l,hl,h⟩:=ai.1 h
 have hs:s'=s∧∃ r,l=v :: r:=by
  match l,h with
  | y :: r,h=>cases h;exact ⟨rfl,r,rfl⟩
 obtain ⟨rfl,r,rfl⟩:=hs
 refine ⟨rfl,fun φ a w hE hR=>?_⟩
 have hx:=hE x (by simp [Op.operands])
 rw [hb] at hx
 obtain ⟨a',ha,hr⟩:=wQ hx
 obtain ⟨y,y',e1,hv,hrun⟩:=Z7 hl hR hr
 cases e1
 refine ⟨y',.inl (.inl hv),fun o ho=>?_⟩
 obtain ⟨d,hd⟩:=Option.isSome_iff_exists.1 hu
 have hag:(isAgg t).run P w=.ok false w:=by
  unfold nI und at ht
  rw [hd] at ht
  cases d <;> simp_all [isAgg,underlying]
 simp only [execOp,ho,ha]
 simp [Instr.loadAt,Instr.sureAddr,loadVar,hag,hrun]
theorem aae {t:TypeId}{n:Nat}(x:Operand)(ht:nI P t=true)(hn:dz P t=some n):gL P (.load t x) (Ol n x):=by
 intro call e s nm v s' h
 obtain ⟨b,hb,h⟩:=ai.1 h
 rw [wP] at hb
 obtain ⟨l,hl,h⟩:=ai.1 h
 cases h
 refine ⟨rfl,fun φ a w hE hR=>?_⟩
 have hx:=hE x (by simp [Op.operands])
 rw [hb] at hx
 obtain ⟨a',ha,hr⟩:=wQ hx
 obtain ⟨l',hL,hlen,hrun⟩:=Z8 (P:=P) hl hR hr
 refine ⟨.agg l'.toArray,.inl (.inr ⟨l.toArray,l'.toArray,rfl,rfl,by simpa using hL⟩),fun o ho=>?_⟩
 have hag:(isAgg t).run P w=.ok true w:=by
  unfold nI und at ht
  split at ht <;> simp_all [isAgg,underlying]
 have hsz:(sizeOf t).run P w=.ok n w:=by
  unfold dz at hn
  split at hn <;> simp_all [sizeOf,typeInfo]
 simp only [execOp,ho,ha]
 simp [Instr.loadAt,Instr.sureAddr,loadVar,hag,hsz,hrun]
theorem run_sizeOf {t:TypeId}{n:Nat}(hn:dz P t=some n)(w:World):(sizeOf t).run P w=.ok n w:=by
 unfold dz at hn
 split at hn <;> simp_all [sizeOf,typeInfo]
theorem dA {t:TypeId}{d:TypeDesc}(hd:und P t=some d)(w:World):(underlying t).run P w=.ok d w:=by
 unfold und at hd
 simp [underlying,hd]
theorem OU {t:TypeId}{d:TypeDesc}(hd:und P t=some d)(w:World):(isAgg t).run P w=.ok (nI P t) w:=by
 unfold nI
 rw [hd]
 cases d <;> simp [isAgg,dA hd]
theorem AR.add {φ:Ph}{a a':Addr}(h:AR φ a a')(n:Nat):AR φ (a.add n) (a'.add n):=by
 obtain ⟨h0,g,hg,rfl⟩:=h
 cases a
 simp only at h0 hg
 subst h0
 refine ⟨?_,g,?_,?_⟩ <;> unfold Addr.add <;> split <;> simp_all
theorem aaf {t:TypeId}{x:Operand}{k:Nat}{f:F}(h:Gp P t x k=some f):gL P (.fieldAddr t x k) f:=by
 unfold Gp at h
 split at h
 case h_2=>cases h
 rename_i fs hd
 obtain ⟨fd,hf,h⟩:=ai.1 h
 split at h
 case h_2=>cases h
 rename_i n hn
 cases h
 intro call e s nm v s' h
 obtain ⟨b,hb,h⟩:=ai.1 h
 rw [wP] at hb
 rw [kF,OI,GJ] at h
 obtain ⟨h2,rfl⟩:=h
 cases h2
 refine ⟨rfl,fun φ a w hE _=>?_⟩
 have hx:=hE x (by simp [Op.operands])
 rw [hb] at hx
 obtain ⟨a',ha,hr⟩:=wQ hx
 refine ⟨.pointer (some (a'.add fd.offset)),.dS ⟨_,rfl,hr.add _⟩,fun o ho=>?_⟩
 rw [jY] at hf
 have hf':fs[k]?=some fd:=by simpa using hf
 simp only [execOp,ho,ha]
 simp [Instr.fieldAt,Instr.sureAddr,dA hd,hf',fieldPlace,run_sizeOf hn]
theorem aag {t:TypeId}(x:Operand):gL P (.unOp .not t x) (Oo x):=by
 intro call e s nm v s' h
 obtain ⟨b,hb,h⟩:=GK.1 h
 rw [kF,zu,not_eq] at h
 obtain ⟨h2,rfl⟩:=h
 cases h2
 refine ⟨rfl,fun φ a w hE _=>?_⟩
 have hx:=hE x (by simp [Op.operands])
 rw [hb] at hx
 exact ⟨.bool (!b),.dS rfl,fun o ho=>by simp only [execOp,ho,zx hx];simp [Op.unary]⟩
theorem aah (x:Operand)(i:Nat):gL P (.extract x i) (Ow x i):=by
 intro call e s nm v s' h
 obtain ⟨c,hc,h⟩:=GM.1 h
 rw [kF,jY,bF] at h
 obtain ⟨h2,rfl⟩:=h
 refine ⟨rfl,fun φ a w hE _=>?_⟩
 have hx:=hE x (by simp [Op.operands])
 rw [hc] at hx
 obtain ⟨c',hc',hL⟩:=Z5 hx
 obtain ⟨y,hy,hv⟩:=hL.at h2
 exact ⟨y,.inl hv,fun o ho=>by simp only [execOp,ho,hc'];simp at hy;simp [Instr.extract,hy]⟩
end Xe
namespace Xe
variable {P:Program}
theorem aai {op:BinOp}{x y v:Value}(h:bin op x y=some v) :
  (∃ k a b,x=.int k a∧y=.int k b∧za op k a b=some v)∨(∃ a b,x=.string a∧y=.string b∧zb op a b=some v):=by
 unfold bin at h
 cases x <;> simp only [iX,kR] at h <;> try cases h
 ·rename_i k a
  obtain ⟨k',b,hy,h⟩:=qA.1 h
  rw [bS] at h
  split at h
  ·rename_i hk
   have:=(GU _ _).1 hk
   subst this
   exact .inl ⟨k,a,b,rfl,hy,h⟩
  ·cases h
 ·rename_i a
  obtain ⟨b,hy,h⟩:=zw.1 h
  exact .inr ⟨a,b,rfl,hy,h⟩
theorem aaj {op:BinOp}{k:IntKind}{a b:Int}{v:Value}(h:za op k a b=some v)(t:TypeId)(x y:Operand)(w:World) :
  (do eqGuard op t x y (.int k a) (.int k b);binOp op t (.int k a) (.int k b):Sem Value).run P w=.ok v w:=by
 cases op <;> simp only [za,uz,zu,OP,ZZ,GQ,GR,not_eq,reduceCtorEq,Option.some.injEq] at h <;> subst h <;>
  simp [eqGuard,binOp,Op.intArith,Op.intCmp]
 all_goals first | rfl | (rw [Bool.eq_iff_iff];simp)
theorem aak {op:BinOp}{a b:ByteArray}{v:Value}(h:zb op a b=some v)(t:TypeId)(x y:Operand)(w:World) :
  (do eqGuard op t x y (.string a) (.string b);binOp op t (.string a) (.string b):Sem Value).run P w=.ok v w:=by
 cases op <;> simp only [zb,zu,not_eq,Ca,qy,reduceCtorEq,Option.some.injEq] at h <;> subst h <;>
  simp [eqGuard,binOp,Op.stringOp,ByteArray.toList_eq] <;> by_cases hh:a.data=b.data <;> simp [hh]
theorem aal {op:BinOp}{t t2:TypeId}(x y:Operand):gL P (.binOp op t x y t2) (Gf op x y):=by
 intro call e s nm v s' h
 rw [Gf,kF] at h
 obtain ⟨h2,rfl⟩:=h
 refine ⟨rfl,fun φ a w hE _=>?_⟩
 have hx:=hE x (by simp [Op.operands])
 have hy:=hE y (by simp [Op.operands])
 rcases aai h2 with ⟨k,m,n,e1,e2,h3⟩ | ⟨m,n,e1,e2,h3⟩
 ·rw [e1] at hx;rw [e2] at hy
  refine ⟨v,?_,fun o ho=>?_⟩
  ·have:(∃ i,v=.int k i)∨∃ b,v=.bool b:=by
    cases op <;> simp only [za,uz,zu,reduceCtorEq,Option.some.injEq] at h3 <;> first | exact .inl ⟨_,h3.symm⟩ | exact .inr ⟨_,h3.symm⟩
   rcases this with ⟨_,rfl⟩ | ⟨_,rfl⟩ <;> exact .dS rfl
  ·have:=aaj (P:=P) h3 t x y w
   simp only [execOp,ho,mM hx,mM hy]
   rw [Sem.run_bind,this];rfl
 ·rw [e1] at hx;rw [e2] at hy
  refine ⟨v,?_,fun o ho=>?_⟩
  ·have:∃ b,v=.bool b:=by
    cases op <;> simp only [zb,zu,reduceCtorEq,Option.some.injEq] at h3 <;> exact ⟨_,h3.symm⟩
   obtain ⟨_,rfl⟩:=this;exact .dS rfl
  ·have:=aak (P:=P) h3 t x y w
   simp only [execOp,ho,rA hx,rA hy]
   rw [Sem.run_bind,this];rfl
theorem aam {src dst:TypeId}{k:IntKind}{d:TypeDesc}(x:Operand)(hs:und P src=some d)(hd:und P dst=some (.int k)):gL P (.convert src dst x) (Oq k x):=by
 intro call e s nm v s' h
 obtain ⟨q,n,hn,h⟩:=qA.1 h
 rw [kF,uz,OP] at h
 obtain ⟨h2,rfl⟩:=h
 cases h2
 refine ⟨rfl,fun φ a w hE _=>?_⟩
 have hx:=hE x (by simp [Op.operands])
 rw [hn] at hx
 exact ⟨.int k (k.wrap n),.dS rfl,fun o ho=>by simp only [execOp,ho,mM hx];simp [convert,dA hs,dA hd,Conv.intToInt]⟩
theorem zz (e:En):∀ l:List Operand,evs e l=l.map (ev e)
 | []=>rfl
 | x :: l=>by show ev e x :: evs e l=_;rw [zz e l];rfl
theorem GX:∀ {l:List Value},BF l=true→∀ v ∈ l,flat v=true
 | [],_,_,h=>by cases h
 | a :: l,h,v,hv=>by
  have h':bB (flat a) (BF l) false=true:=h
  rw [bS] at h'
  split at h'
  ·rename_i ha
   rcases List.mem_cons.1 hv with rfl | hv
   ·exact ha
   ·exact GX h' v hv
  ·cases h'
theorem wS {α β γ:Type}{R:β→γ→Prop}{f:α→β}{g:α→γ}:∀ {l:List α},(∀ x ∈ l,R (f x) (g x))→L R (l.map f) (l.map g)
 | [],_=>trivial
 | a :: l,h=>⟨h a (by simp),wS fun x hx=>h x (by simp [hx])⟩
theorem aan (fn:Fn)(first captured:Array Operand):gL P (.makeFunc fn first captured) (Gg fn first.toList captured.toList):=by
 intro call e s nm v s' h
 rw [Gg,aN,aN] at h
 obtain ⟨h1,h2,h3⟩:=h
 cases h3
 refine ⟨rfl,fun φ a w hE _=>?_⟩
 rw [zz] at h1 h2
 have f1:=GX h1
 have f2:=GX h2
 refine ⟨.func fn (first.map a.eval) (captured.map a.eval),.inl (.inl (.inr ⟨fn,_,_,_,_,rfl,rfl,?_,?_⟩)),fun o ho=>?_⟩
 ·simp only [zz,Array.toList_map]
  exact wS fun x hx=>OT (hE x (by simp [Op.operands];exact .inl (by simpa using hx))) (f1 _ (List.mem_map_of_mem hx))
 ·simp only [zz,Array.toList_map]
  exact wS fun x hx=>OT (hE x (by simp [Op.operands];exact .inr (by simpa using hx))) (f2 _ (List.mem_map_of_mem hx))
 ·simp only [execOp,ho];rfl
theorem OV {φ:Ph}{t:TypeId}{n off:Nat}{cs cs':Array Value}{v:Value}{d:TypeDesc}(hd:und P t=some d)(hn:dz P t=some n)(hL:L (V1 φ) cs.toList cs'.toList)
  (h:BC (nI P t) n cs.toList off=some v) (w:World):∃ v',V φ v v'∧(part t cs' off).run P w=.ok v' w:=by
 unfold BC at h
 rw [bS] at h
 split at h
 ·rename_i ht
  obtain ⟨l,hl,h⟩:=ai.1 h
  cases h
  rw [zq,wN] at hl
  obtain ⟨_,rfl⟩:=hl
  refine ⟨.agg (cs'.extract off (off+n)),.inl (.inr ⟨_,_,rfl,rfl,?_⟩),?_⟩
  ·have e:(cs'.extract off (off+n)).toList=(cs'.toList.drop off).take n:=by simp [Array.toList_extract]
   rw [e]
   simpa using (hL.drop off).take n
  ·simp [part,OU hd,ht,run_sizeOf hn]
 ·rename_i ht
  rw [jY] at h
  obtain ⟨y,hy,hv⟩:=hL.at h
  refine ⟨y,.inl (.inl hv),?_⟩
  have ht':nI P t=false:=by simpa using ht
  have hy':cs'[off]?=some y:=by simpa using hy
  simp [part,OU hd,ht',hy']
theorem aao {t:TypeId}{x:Operand}{k:Nat}{f:F}(h:Gq P t x k=some f):gL P (.field t x k) f:=by
 unfold Gq at h
 split at h
 case h_2=>cases h
 rename_i fs hd
 obtain ⟨fd,hf,h⟩:=ai.1 h
 obtain ⟨d,fB,h⟩:=ai.1 h
 obtain ⟨n,hn,h⟩:=ai.1 h
 cases h
 intro call e s nm v s' h
 obtain ⟨c,hc,h⟩:=GL.1 h
 rw [kF,bF] at h
 obtain ⟨h2,rfl⟩:=h
 refine ⟨rfl,fun φ a w hE _=>?_⟩
 have hx:=hE x (by simp [Op.operands])
 rw [hc] at hx
 obtain ⟨c',hc',hL⟩:=OQ hx
 obtain ⟨v',hv,hrun⟩:=OV fB hn hL h2 w
 refine ⟨v',hv,fun o ho=>?_⟩
 rw [jY] at hf
 have hf':fs[k]?=some fd:=by simpa using hf
 simp only [execOp,ho,hc']
 simp [Instr.field,dA hd,hf',asAgg,hrun]
theorem OW {z n:Nat}{a:Addr}{i v:Value}(h:BH z n a i=some v):∃ (k:IntKind) (j:Nat),i=.int k (j:Int)∧j < n∧v=.pointer (some (a.add (j * z))):=by
 unfold BH at h
 obtain ⟨k,j,hj,h⟩:=qA.1 h
 cases j with
 | negSucc j=>cases h
 | ofNat j =>
  rw [BZ,bS,dL] at h
  split at h
  ·cases h
  ·rename_i hn
   rw [OI,GJ] at h
   cases h
   exact ⟨k,j,hj,by simpa using hn,rfl⟩
theorem aap {t:TypeId}{x i:Operand}{f:F}(h:zg P t x i=some f):gL P (.indexAddr t x i) f:=by
 unfold zg at h
 split at h
 case h_3=>cases h
 ·rename_i el hd
  obtain ⟨z,hz,h⟩:=ai.1 h
  cases h
  intro call e s nm v s' h
  obtain ⟨b,n,c,hb,h⟩:=wO.1 h
  obtain ⟨b,rfl,h1⟩:=ai.1 h
  rw [kF] at h1
  obtain ⟨h2,rfl⟩:=h1
  obtain ⟨k,j,hj,hlt,rfl⟩:=OW h2
  refine ⟨rfl,fun φ a w hE _=>?_⟩
  have hx:=hE x (by simp [Op.operands])
  have hi:=hE i (by simp [Op.operands])
  rw [hb] at hx;rw [hj] at hi
  obtain ⟨a',c',ha,hs⟩:=uA hx
  rcases hs with ⟨_,h0⟩ | ⟨h0,hc,g,hg,rfl,_⟩
  ·omega
  have GY:AR φ b ⟨g.b,b.off,none⟩:=⟨h0,g,hg,rfl⟩
  refine ⟨_,.dS ⟨_,rfl,GY.add (j * z)⟩,fun o ho=>?_⟩
  have hj0:(0:Int)≤(j:Int)∧(j:Int) < (n:Int):=⟨by omega,by omega⟩
  simp only [execOp,ho,ha,mM hi]
  simp [Instr.indexAt,asIntOf,dA hd,run_sizeOf hz,hlt]
 ·rename_i n el hd
  obtain ⟨z,hz,h⟩:=ai.1 h
  cases h
  intro call e s nm v s' h
  obtain ⟨b,hb,h⟩:=ai.1 h
  rw [wP] at hb
  rw [kF] at h
  obtain ⟨h2,rfl⟩:=h
  obtain ⟨k,j,hj,hlt,rfl⟩:=OW h2
  refine ⟨rfl,fun φ a w hE _=>?_⟩
  have hx:=hE x (by simp [Op.operands])
  have hi:=hE i (by simp [Op.operands])
  rw [hb] at hx;rw [hj] at hi
  obtain ⟨a',ha,hr⟩:=wQ hx
  refine ⟨_,.dS ⟨_,rfl,hr.add (j * z)⟩,fun o ho=>?_⟩
  simp only [execOp,ho,ha,mM hi]
  simp [Instr.indexAt,asIntOf,dA hd,run_sizeOf hz,hlt,Instr.sureAddr]
theorem aaq {t:TypeId}{x i:Operand}{f:F}(h:Gs P t x i=some f):gL P (.index t x i) f:=by
 unfold Gs at h
 split at h
 case h_3=>cases h
 ·rename_i hd
  cases h
  intro call e s nm v s' h
  obtain ⟨b,hb,h⟩:=zw.1 h
  rw [kF] at h
  obtain ⟨h2,rfl⟩:=h
  unfold Ot at h2
  obtain ⟨k,j,hj,h2⟩:=qA.1 h2
  cases j with
  | negSucc j=>cases h2
  | ofNat j =>
   rw [BZ] at h2
   obtain ⟨c,hc,h2⟩:=ai.1 h2
   rw [uz] at h2
   cases h2
   refine ⟨rfl,fun φ a w hE _=>?_⟩
   have hx:=hE x (by simp [Op.operands])
   have hi:=hE i (by simp [Op.operands])
   rw [hb] at hx;rw [hj] at hi
   refine ⟨_,.dS rfl,fun o ho=>?_⟩
   rw [jY,qy] at hc
   have hc':b[j]?=some c:=by
    have:=List.getElem?_eq_some_iff.1 hc
    obtain ⟨hlt,he⟩:=this
    have hs:j < b.size:=by
     show j < b.data.size
     simpa using hlt
    rw [getElem?_pos b j hs]
    simp only [Option.some.injEq]
    simpa [ByteArray.getElem_eq_getElem_data] using he
   simp only [execOp,ho,rA hx,mM hi]
   simp [Instr.index,asIntOf,dA hd,hc']
 ·rename_i n el hd
  obtain ⟨d,hel,h⟩:=ai.1 h
  obtain ⟨z,hz,h⟩:=ai.1 h
  cases h
  intro call e s nm v s' h
  obtain ⟨c,hc,h⟩:=GL.1 h
  rw [kF] at h
  obtain ⟨h2,rfl⟩:=h
  unfold Ou at h2
  obtain ⟨k,j,hj,h2⟩:=qA.1 h2
  cases j with
  | negSucc j=>cases h2
  | ofNat j =>
   rw [BZ,bS,dL] at h2
   split at h2
   ·cases h2
   ·rename_i hlt
    rw [bF] at h2
    refine ⟨rfl,fun φ a w hE _=>?_⟩
    have hx:=hE x (by simp [Op.operands])
    have hi:=hE i (by simp [Op.operands])
    rw [hc] at hx;rw [hj] at hi
    obtain ⟨c',hc',hL⟩:=OQ hx
    obtain ⟨v',hv,hrun⟩:=OV hel hz hL h2 w
    refine ⟨v',hv,fun o ho=>?_⟩
    have hlt':j < n:=by simpa using hlt
    simp only [execOp,ho,hc',mM hi]
    simp [Instr.index,asIntOf,dA hd,run_sizeOf hz,hlt']
    simpa using congrArg (fun r=>r.andThen fun a w'=>Result.ok (Next.value a) w') hrun
end Xe
end Go.Proofs.YthffafaoobpedaaGreatDoor
