/- What the small pieces of our machine answer;values by their kinds. -/
import Derived.Test.YthffafaoobpedaaGreatDoorM33
import Derived.Laws.Cells
import Derived.Laws.CopyRow
import Derived.Laws.Strings
namespace Go.Proofs.YthffafaoobpedaaGreatDoor
namespace Xe
section
variable {α β γ:Type}
theorem ai {x:Option α}{f:α→Option β}{y:β}:oB x f=some y ↔ ∃ a,x=some a∧f a=some y:=by
 cases x with
 | none=>simp [oB]
 | some a=>simp [oB]
theorem aM {b:Bool}{x:Option α}{y:α}:aK b x=some y ↔ b=true∧x=some y:=by cases b <;> simp [aK,bB]
theorem bK (b:Bool)(t f:γ):bB b t f=if b=true then t else f:=by cases b <;> rfl
theorem zw (z:γ)(s:Nat→γ):nB 0 z s=z:=rfl
theorem zx (n:Nat)(z:γ)(s:Nat→γ):nB (n+1) z s=s n:=rfl
theorem nM (n:Nat)(k:Nat→Option α):fN n k=k n:=by cases n <;> rfl
theorem zy (n:γ)(c:α→List α→γ):lB [] n c=n:=rfl
theorem zz (a:α)(l:List α)(n:γ)(c:α→List α→γ):lB (a :: l) n c=c a l:=rfl
theorem bD (a:Array α):aL a=a.toList:=by cases a;rfl
theorem qw (s:ByteArray):sL s=s.data.toList:=by cases s;exact bD _
theorem wM {sp:Option Nat}{x:Option γ}{y:γ}:wD sp x=some y ↔ sp=none∧x=some y:=by cases sp <;> simp [wD]
theorem jX:∀ (l:List α) (n:Nat),nth l n=l[n]?
 | [],n=>by simp [nth]
 | a :: l,0=>by show some a=_;simp
 | a :: l,n+1=>by
  have:=jX l n
  simp only [List.getElem?_cons_succ,← this]
  rfl
theorem wN:∀ (n:Nat) (l r:List α),takeN n l=some r ↔ n≤l.length∧r=l.take n
 | 0,l,r=>by show some []=some r ↔ _;simp [eq_comm]
 | n+1,[],r=>by simp [takeN,lB]
 | n+1,a :: l,r=>by
  show oB (takeN n l) (fun r=>some (a :: r))=some r ↔ _
  rw [ai]
  constructor
  ·rintro ⟨t,h,e⟩
   obtain ⟨h1,rfl⟩:=(wN n l t).1 h
   cases e
   exact ⟨by simpa using h1,by simp⟩
  ·rintro ⟨h1,rfl⟩
   exact ⟨l.take n,(wN n l _).2 ⟨by simpa using h1,rfl⟩,by simp⟩
theorem zA:∀ (n:Nat) (l:List α),wC n l=l.drop n
 | 0,l=>by show l=_;simp
 | n+1,[]=>by simp [wC,lB]
 | n+1,a :: l=>by
  show wC n l=_
  rw [zA n l];simp
end
theorem gB {α β γ:Type}(a:α)(b:β)(f:α→β→γ):pB (a,b) f=f a b:=rfl
theorem Ce {γ:Type}(n:Nat)(p q:Nat→γ):iB (.ofNat n) p q=p n:=rfl
theorem zB {γ:Type}(a:Addr)(f:Nat→Nat→Option Nat→γ):aB a f=f a.block a.off a.spot:=by cases a;rfl
theorem iY {γ:Type}(s:S)(f:Nat→Hp→List (FuncId × List Value)→γ):sB s f=f s.c s.h s.ds:=by cases s;rfl
theorem uy (q:IntKind)(i:Int):oF q i=some (.int q i):=by cases i <;> simp [oF,iB,nM]
theorem zC (b:Bool):oG b=some (.bool b):=by cases b <;> rfl
theorem OL (a:Addr):BJ a=some (.pointer (some a)):=by cases a;simp [BJ,aB,nM]
theorem OM (a:Addr)(n z:Nat):BK a n z=some (.slice (some a) n z):=by cases a;simp [BK,aB,nM]
theorem kE {v:Option Value}{s:S}{x:Value}{s':S}:ret v s=some (x,s') ↔ v=some x∧s'=s:=by
 cases v with
 | none=>simp [ret,oB]
 | some a=>simp [ret,oB,eq_comm]
theorem GQ (a:Addr)(n:Nat):zg a n=a.add n:=by
 cases n with
 | zero=>show a=a.add 0;simp [Addr.add]
 | succ n=>cases a;simp [zg,nB,aB,Addr.add]
theorem GR {β:Type}{x:Value}{f:Bool→Option β}{y:β}:uf x none f=some y ↔ ∃ b,x=.bool b∧f b=some y:=by cases x <;> simp [uf]
theorem qx {β:Type}{x:Value}{f:IntKind→Int→Option β}{y:β}:iW x none f=some y ↔ ∃ k n,x=.int k n∧f k n=some y:=by
 cases x <;> first | simp [iW];done | exact ⟨fun h=>⟨_,_,rfl,h⟩,fun ⟨_,_,e,h⟩=>by cases e;exact h⟩
theorem zD {β:Type}{x:Value}{f:ByteArray→Option β}{y:β}:kC x none f=some y ↔ ∃ b,x=.string b∧f b=some y:=by cases x <;> simp [kC]
theorem wO {β:Type}{x:Value}{f:Option Addr→Nat→Nat→Option β}{y:β}:qh x none f=some y ↔ ∃ a n c,x=.slice a n c∧f a n c=some y:=by
 cases x <;> first | simp [qh];done | exact ⟨fun h=>⟨_,_,_,rfl,h⟩,fun ⟨_,_,_,e,h⟩=>by cases e;exact h⟩
theorem GU {β:Type}{x:Value}{f:Array Value→Option β}{y:β}:q9 x none f=some y ↔ ∃ c,x=.agg c∧f c=some y:=by cases x <;> simp [q9]
theorem GV {β:Type}{x:Value}{f:Array Value→Option β}{y:β}:ug x none f=some y ↔ ∃ c,x=.tuple c∧f c=some y:=by cases x <;> simp [ug]
theorem Z0 {β:Type}{x:Value}{f:Option Nat→Option β}{y:β}:za x none f=some y ↔ ∃ r,x=.map r∧f r=some y:=by cases x <;> simp [za]
theorem Z4 {β:Type}{x:Value}{f:Fn→Array Value→Array Value→Option β}{y:β}:Gj x none f=some y ↔ ∃ fn a c,x=.func fn a c∧f fn a c=some y:=by
 cases x <;> first | simp [Gj];done | exact ⟨fun h=>⟨_,_,_,rfl,h⟩,fun ⟨_,_,_,e,h⟩=>by cases e;exact h⟩
theorem wP {x:Value}{a:Addr}:ptr x=some a ↔ x=.pointer (some a):=by cases x <;> simp [ptr,Og]
theorem OO {x:Value}{r:Nat}:BU x=some r ↔ x=.map (some r):=by cases x <;> simp [BU,za]
theorem OP {o:Option Obj}{l:List Value}:rowOf o=some l ↔ ∃ c e f,o=some (.cells c e f)∧l=c.toList:=by
 cases o with
 | none=>simp [rowOf,oB]
 | some o=>cases o <;> simp [rowOf,oB,zb,bD,eq_comm]
theorem GX {o:Option Obj}{p:List MapEntry × Nat}:mapOf o=some p ↔ ∃ es k,o=some (.map es k)∧p=(es.toList,k):=by
 cases o with
 | none=>simp [mapOf,oB]
 | some o =>
  cases o <;> first | simp [mapOf,oB,Oh];done | skip
  rename_i es k
  show some (aL es,k)=some p ↔ _
  rw [bD]
  exact ⟨fun h=>⟨es,k,rfl,(Option.some.inj h).symm⟩,fun ⟨_,_,e,h⟩=>by cases e;rw [h]⟩
theorem OQ {h:Hp}{a:Addr}{n:Nat}{l:List Value}:nI h a n=some l ↔ a.spot=none∧∃ c e f,h a.block=some (.cells c e f)∧n≤(c.toList.drop a.off).length∧l=(c.toList.drop a.off).take n:=by
 unfold nI
 rw [zB,wM,ai]
 constructor
 ·rintro ⟨h0,c,hc,ht⟩
  obtain ⟨c',e,f,h1,rfl⟩:=OP.1 hc
  rw [zA,wN] at ht
  exact ⟨h0,c',e,f,h1,ht.1,ht.2⟩
 ·rintro ⟨h0,c,e,f,h1,h2,h3⟩
  exact ⟨h0,c.toList,OP.2 ⟨c,e,f,h1,rfl⟩,by rw [zA,wN];exact ⟨h2,h3⟩⟩
theorem zF:∀ (l m:List UInt8),mH l m=decide (l=m)
 | [],[]=>by simp [mH,lB]
 | [],b :: m=>by simp [mH,lB]
 | a :: l,[]=>by simp [mH,lB]
 | a :: l,b :: m=>by
  show bB (Nat.beq a.toNat b.toNat) (mH l m) false=_
  rw [zF l m]
  by_cases h:a=b
  ·subst h
   have:Nat.beq a.toNat a.toNat=true:=by simp
   rw [this];simp [bB]
  ·have:Nat.beq a.toNat b.toNat=false:=by
    cases hb:Nat.beq a.toNat b.toNat with
    | true=>exact (h (UInt8.toNat_inj.1 (Nat.eq_of_beq_eq_true hb))).elim
    | false=>rfl
   rw [this];simp [bB,h]
theorem dw (a b:Nat):Nat.beq a b=decide (a=b):=by
 cases hb:Nat.beq a b with
 | true=>simp [Nat.eq_of_beq_eq_true hb]
 | false=>simp [Nat.ne_of_beq_eq_false hb]
theorem di (a b:Nat):Nat.ble a b=decide (a≤b):=by
 cases hb:Nat.ble a b with
 | true=>simp [Nat.le_of_ble_eq_true hb]
 | false =>
  have:¬ a≤b:=fun h=>by rw [Nat.ble_eq_true_of_le h] at hb;cases hb
  simp [this]
theorem GY (a b:Int):uh a b=decide (a=b):=by
 cases a <;> cases b <;> simp [uh,iB,dw] <;> omega
theorem GZ (a b:Int):leI a b=decide (a≤b):=by
 cases a <;> cases b <;> simp only [leI,iB,di] <;> (try simp) <;> (try omega)
theorem Z5 (a b:Int):Oi a b=a+b:=by cases a <;> cases b <;> rfl
theorem G5 (k l:IntKind):Nat.beq (mI k) (mI l)=true ↔ k=l:=by cases k <;> cases l <;> simp [mI]
theorem not_eq (b:Bool):not' b=!b:=by cases b <;> rfl
theorem OT (k:IntKind)(i:Int):zh k i=k.wrap i:=by
 cases i with
 | negSucc n=>rfl
 | ofNat n =>
  show bB (Nat.ble (top k) n) (k.wrap (.ofNat n)) (.ofNat n)=_
  rw [di]
  by_cases h:top k≤n
  ·simp [h,bB]
  ·simp only [h,decide_false,bB]
   cases k <;> simp [top] at h <;> simp [IntKind.wrap,IntKind.bits,IntKind.signed] <;> omega
section kinds
variable {φ:Ph} {v':Value}
theorem zG {b:Bool}(h:V φ (.bool b) v'):v'=.bool b:=by
 rcases h with ((h | ⟨_,_,_,_,_,h,_⟩) | ⟨_,_,h,_⟩) | ⟨_,_,h,_⟩ <;> first | exact h | cases h
theorem mK {k:IntKind}{n:Int}(h:V φ (.int k n) v'):v'=.int k n:=by
 rcases h with ((h | ⟨_,_,_,_,_,h,_⟩) | ⟨_,_,h,_⟩) | ⟨_,_,h,_⟩ <;> first | exact h | cases h
theorem rA {s:ByteArray}(h:V φ (.string s) v'):v'=.string s:=by
 rcases h with ((h | ⟨_,_,_,_,_,h,_⟩) | ⟨_,_,h,_⟩) | ⟨_,_,h,_⟩ <;> first | exact h | cases h
theorem wQ {a:Addr}(h:V φ (.pointer (some a)) v'):∃ a',v'=.pointer (some a')∧AR φ a a':=by
 rcases h with ((h | ⟨_,_,_,_,_,h,_⟩) | ⟨_,_,h,_⟩) | ⟨_,_,h,_⟩ <;> first | exact h | cases h
theorem uz {a:Addr}{n z:Nat}(h:V φ (.slice (some a) n z) v'):∃ a' c,v'=.slice a' n c∧SR φ a n z a' c:=by
 rcases h with ((h | ⟨_,_,_,_,_,h,_⟩) | ⟨_,_,h,_⟩) | ⟨_,_,h,_⟩ <;> first | exact h | cases h
theorem zH {n z:Nat}(h:V φ (.slice none n z) v'):n=0∧v'=.slice none 0 0:=by
 rcases h with ((h | ⟨_,_,_,_,_,h,_⟩) | ⟨_,_,h,_⟩) | ⟨_,_,h,_⟩ <;> first | exact h | cases h
theorem G6 {r:Nat}(h:V φ (.map (some r)) v'):∃ g,φ r=some g∧v'=.map (some g.b):=by
 rcases h with ((h | ⟨_,_,_,_,_,h,_⟩) | ⟨_,_,h,_⟩) | ⟨_,_,h,_⟩ <;> first | exact h | cases h
theorem Z7 (h:V φ (.map none) v'):v'=.map none:=by
 rcases h with ((h | ⟨_,_,_,_,_,h,_⟩) | ⟨_,_,h,_⟩) | ⟨_,_,h,_⟩ <;> first | exact h | cases h
theorem Z8 {fn:Fn}{f c:Array Value}(h:V φ (.func fn f c) v'):∃ f' c',v'=.func fn f' c'∧L (V0 φ) f.toList f'.toList∧L (V0 φ) c.toList c'.toList:=by
 rcases h with ((h | ⟨_,_,_,f',c',h,h2,h3,h4⟩) | ⟨_,_,h,_⟩) | ⟨_,_,h,_⟩
 ·exact h.elim
 ·cases h;exact ⟨f',c',h2,h3,h4⟩
 ·cases h
 ·cases h
theorem OU {c:Array Value}(h:V φ (.agg c) v'):∃ c',v'=.agg c'∧L (V1 φ) c.toList c'.toList:=by
 rcases h with ((h | ⟨_,_,_,_,_,h,_⟩) | ⟨_,c',h,h2,h3⟩) | ⟨_,_,h,_⟩
 ·exact h.elim
 ·cases h
 ·cases h;exact ⟨c',h2,h3⟩
 ·cases h
theorem Z9 {c:Array Value}(h:V φ (.tuple c) v'):∃ c',v'=.tuple c'∧L (VA φ) c.toList c'.toList:=by
 rcases h with ((h | ⟨_,_,_,_,_,h,_⟩) | ⟨_,c',h,h2,h3⟩) | ⟨_,c',h,h2,h3⟩
 ·exact h.elim
 ·cases h
 ·cases h
 ·cases h;exact ⟨c',h2,h3⟩
theorem wR {v:Value}(h:V φ v v')(hn:oD v=true):VA φ v v':=by
 rcases h with h | ⟨_,_,rfl,_⟩
 ·exact h
 ·simp [oD,ug] at hn
theorem OV {v:Value}(h:V φ v v')(hn:flat v=true):V0 φ v v':=by
 rcases h with ((h | ⟨_,_,_,_,_,rfl,_⟩) | ⟨_,_,rfl,_⟩) | ⟨_,_,rfl,_⟩
 ·exact h
 all_goals simp [flat] at hn
theorem uA {v:Value}(h:VA φ v v'):L (V1 φ) (kQ v) v'.cells.toList:=by
 rcases h with h | ⟨c,c',rfl,rfl,h⟩
 ·have hv:kQ v=[v]:=by
   rcases h with h | ⟨_,_,_,_,_,rfl,_⟩
   ·cases v <;> first | rfl | exact h.elim
   ·rfl
  have hv':v'.cells=#[v']:=by
   rcases h with h | ⟨_,_,_,_,_,_,rfl,_⟩
   ·unfold V0 at h
    split at h
    case h_1=>subst h;rfl
    case h_2=>subst h;rfl
    case h_3=>subst h;rfl
    case h_4=>subst h;rfl
    case h_5=>obtain ⟨_,rfl,_⟩:=h;rfl
    case h_6=>obtain ⟨_,rfl⟩:=h;rfl
    case h_7=>obtain ⟨_,_,rfl,_⟩:=h;rfl
    case h_8=>subst h;rfl
    case h_9=>obtain ⟨_,_,rfl⟩:=h;rfl
    case h_10=>subst h;rfl
    case h_11=>exact h.elim
   ·rfl
  rw [hv,hv']
  exact ⟨h,trivial⟩
 ·show L (V1 φ) (aL c) c'.toList
  rw [bD];exact h
end kinds
end Xe
namespace Xe
variable {P:Program}
def oI (φ:Ph)(e:En)(a:Act)(op:Op):Prop:=∀ x ∈ op.operands,V φ (ev e x) (a.eval x)
def gL (P:Program)(op:Op)(f:F):Prop:=∀ (call:Cl) (e:En) (s:S) (nm:Nat) (v:Value) (s':S),f call e s nm=some (v,s') →
 s'=s∧∀ (φ:Ph) (a:Act) (w:World),oI φ e a op→Rel φ s.h w→∃ v',V φ v v'∧∀ o:Oper,o.op=op→(execOp a.eval o).run P w=.ok (.value v') w
theorem Cg {φ:Ph}{h:Hp}{w:World}{a a':Addr}{n:Nat}{l:List Value}(hr:nI h a n=some l)(r:Rel φ h w)(ha:AR φ a a') :
  ∃ l',L (V1 φ) l l'∧l'.length=n∧∀ (j:Nat) v,l'[j]?=some v→w.cell? (a'.add j)=some v:=by
 obtain ⟨_,c,e,f,hc,hn,rfl⟩:=OQ.1 hr
 obtain ⟨_,g,hg,rfl⟩:=ha
 obtain ⟨g',c',e',fr,hg',hw,_,_,hle,hL⟩:=r.obj _ _ hc
 rw [hg] at hg';cases hg'
 rcases Nat.eq_zero_or_pos n with h0 | h0
 ·subst h0
  exact ⟨[],by simp [L],rfl,fun j v hj=>by simp at hj⟩
 have hn':a.off+n≤c.size:=by simp at hn;omega
 refine ⟨((c'.toList.take c.size).drop a.off).take n,(hL.drop a.off).take n,by simp;omega,?_⟩
 intro j v hj
 have hjn:j < n:=by
  rcases Nat.lt_or_ge j n with h | h
  ·exact h
  ·rw [List.getElem?_eq_none (by simp;omega)] at hj;cases hj
 have hadd:(⟨g.b,a.off,none⟩:Addr).add j=⟨g.b,a.off+j,none⟩:=by unfold Addr.add;split <;> simp_all
 rw [hadd]
 rw [List.getElem?_take_of_lt hjn,List.getElem?_drop,List.getElem?_take_of_lt (by omega)] at hj
 simp [World.cell?,hw]
 simpa using hj
theorem aaa {φ:Ph}{h:Hp}{w:World}{a a':Addr}{l:List Value}(hr:nI h a 1=some l)(r:Rel φ h w)(ha:AR φ a a') :
  ∃ x x',l=[x]∧V1 φ x x'∧w.cell? a'=some x':=by
 obtain ⟨l',hL,hlen,hc⟩:=Cg hr r ha
 match l',hlen with
 | [x'],_ =>
  match l,hL with
  | [x],hL =>
   refine ⟨x,x',rfl,hL.1,?_⟩
   have:=hc 0 x' rfl
   have h0:a'.add 0=a':=by simp [Addr.add]
   rw [h0] at this
   exact this
theorem aab {φ:Ph}{h:Hp}{w:World}{a a':Addr}{n:Nat}{l:List Value}(hr:nI h a n=some l)(r:Rel φ h w)(ha:AR φ a a') :
  ∃ l',L (V1 φ) l l'∧l'.length=n∧(loadCells a' n).run P w=.ok l'.toArray w:=by
 obtain ⟨l',hL,hlen,hc⟩:=Cg hr r ha
 exact ⟨l',hL,hlen,by rw [← hlen];exact run_loadCells_list w a' l' hc⟩
theorem aac (x:Operand):gL P (.move x) (BO x):=by
 intro call e s nm v s' h
 cases h
 exact ⟨rfl,fun φ a w hE _=>⟨a.eval x,hE x (by simp [Op.operands]),fun o ho=>by simp only [execOp,ho];rfl⟩⟩
theorem aad (x:Operand):gL P (.assign x) (BO x):=by
 intro call e s nm v s' h
 cases h
 exact ⟨rfl,fun φ a w hE _=>⟨a.eval x,hE x (by simp [Op.operands]),fun o ho=>by simp only [execOp,ho];rfl⟩⟩
theorem aae (c x y:Operand):gL P (.pick c x y) (Ol c x y):=by
 intro call e s nm v s' h
 obtain ⟨b,hb,h⟩:=GR.1 h
 have hs:s'=s∧v=if b=true then ev e x else ev e y:=by cases b <;> cases h <;> exact ⟨rfl,rfl⟩
 obtain ⟨rfl,rfl⟩:=hs
 refine ⟨rfl,fun φ a w hE _=>?_⟩
 have hc:=hE c (by simp [Op.operands])
 rw [hb] at hc
 refine ⟨if b=true then a.eval x else a.eval y,?_,fun o ho=>?_⟩
 ·cases b
  ·exact hE y (by simp [Op.operands])
  ·exact hE x (by simp [Op.operands])
 ·simp only [execOp,ho,zG hc]
  cases b <;> simp [asBool]
theorem aaf (x:Operand):gL P (.nilCheck x) (Oq x):=by
 intro call e s nm v s' h
 obtain ⟨b,hb,h⟩:=ai.1 h
 rw [wP] at hb
 cases h
 refine ⟨rfl,fun φ a w hE _=>?_⟩
 have hx:=hE x (by simp [Op.operands])
 rw [hb] at hx
 obtain ⟨a',ha,hr⟩:=wQ hx
 exact ⟨.pointer (some a'),.dQ ⟨a',rfl,hr⟩,fun o ho=>by simp only [execOp,ho,ha];rfl⟩
theorem aag {t:TypeId}(x:Operand)(ht:nH P t=false)(hu:(P.underlying t).isSome=true):gL P (.load t x) (Om x):=by
 intro call e s nm v s' h
 obtain ⟨b,hb,h⟩:=ai.1 h
 rw [wP] at hb
 obtain ⟨l,hl,h⟩:=ai.1 h
 have hs:s'=s∧∃ r,l=v :: r:=by
  match l,h with
  | y :: r,h=>cases h;exact ⟨rfl,r,rfl⟩
 obtain ⟨rfl,r,rfl⟩:=hs
 refine ⟨rfl,fun φ a w hE hR=>?_⟩
 have hx:=hE x (by simp [Op.operands])
 rw [hb] at hx
 obtain ⟨a',ha,hr⟩:=wQ hx
 obtain ⟨y,y',e1,hv,hrun⟩:=aaa hl hR hr
 cases e1
 refine ⟨y',.inl (.inl hv),fun o ho=>?_⟩
 obtain ⟨d,hd⟩:=Option.isSome_iff_exists.1 hu
 have hag:(isAgg t).run P w=.ok false w:=by
  unfold nH und at ht
  rw [hd] at ht
  cases d <;> simp_all [isAgg,underlying]
 simp only [execOp,ho,ha]
 simp [Instr.loadAt,Instr.sureAddr,loadVar,hag,hrun]
theorem aah {t:TypeId}{n:Nat}(x:Operand)(ht:nH P t=true)(hn:dA P t=some n):gL P (.load t x) (Oo n x):=by
 intro call e s nm v s' h
 obtain ⟨b,hb,h⟩:=ai.1 h
 rw [wP] at hb
 obtain ⟨l,hl,h⟩:=ai.1 h
 cases h
 refine ⟨rfl,fun φ a w hE hR=>?_⟩
 have hx:=hE x (by simp [Op.operands])
 rw [hb] at hx
 obtain ⟨a',ha,hr⟩:=wQ hx
 obtain ⟨l',hL,hlen,hrun⟩:=aab (P:=P) hl hR hr
 refine ⟨.agg l'.toArray,.inl (.inr ⟨l.toArray,l'.toArray,rfl,rfl,by simpa using hL⟩),fun o ho=>?_⟩
 have hag:(isAgg t).run P w=.ok true w:=by
  unfold nH und at ht
  split at ht <;> simp_all [isAgg,underlying]
 have hsz:(sizeOf t).run P w=.ok n w:=by
  unfold dA at hn
  split at hn <;> simp_all [sizeOf,typeInfo]
 simp only [execOp,ho,ha]
 simp [Instr.loadAt,Instr.sureAddr,loadVar,hag,hsz,hrun]
theorem run_sizeOf {t:TypeId}{n:Nat}(hn:dA P t=some n)(w:World):(sizeOf t).run P w=.ok n w:=by
 unfold dA at hn
 split at hn <;> simp_all [sizeOf,typeInfo]
theorem dC {t:TypeId}{d:TypeDesc}(hd:und P t=some d)(w:World):(underlying t).run P w=.ok d w:=by
 unfold und at hd
 simp [underlying,hd]
theorem OW {t:TypeId}{d:TypeDesc}(hd:und P t=some d)(w:World):(isAgg t).run P w=.ok (nH P t) w:=by
 unfold nH
 rw [hd]
 cases d <;> simp [isAgg,dC hd]
theorem AR.add {φ:Ph}{a a':Addr}(h:AR φ a a')(n:Nat):AR φ (a.add n) (a'.add n):=by
 obtain ⟨h0,g,hg,rfl⟩:=h
 cases a
 simp only at h0 hg
 subst h0
 refine ⟨?_,g,?_,?_⟩ <;> unfold Addr.add <;> split <;> simp_all
theorem aai {t:TypeId}{x:Operand}{k:Nat}{f:F}(h:Gv P t x k=some f):gL P (.fieldAddr t x k) f:=by
 unfold Gv at h
 split at h
 case h_2=>cases h
 rename_i fs hd
 obtain ⟨fd,hf,h⟩:=ai.1 h
 split at h
 case h_2=>cases h
 rename_i n hn
 cases h
 intro call e s nm v s' h
 obtain ⟨b,hb,h⟩:=ai.1 h
 rw [wP] at hb
 rw [kE,OL,GQ] at h
 obtain ⟨h2,rfl⟩:=h
 cases h2
 refine ⟨rfl,fun φ a w hE _=>?_⟩
 have hx:=hE x (by simp [Op.operands])
 rw [hb] at hx
 obtain ⟨a',ha,hr⟩:=wQ hx
 refine ⟨.pointer (some (a'.add fd.offset)),.dQ ⟨_,rfl,hr.add _⟩,fun o ho=>?_⟩
 rw [jX] at hf
 have hf':fs[k]?=some fd:=by simpa using hf
 simp only [execOp,ho,ha]
 simp [Instr.fieldAt,Instr.sureAddr,dC hd,hf',fieldPlace,run_sizeOf hn]
theorem aaj {t:TypeId}(x:Operand):gL P (.unOp .not t x) (Ot x):=by
 intro call e s nm v s' h
 obtain ⟨b,hb,h⟩:=GR.1 h
 rw [kE,zC,not_eq] at h
 obtain ⟨h2,rfl⟩:=h
 cases h2
 refine ⟨rfl,fun φ a w hE _=>?_⟩
 have hx:=hE x (by simp [Op.operands])
 rw [hb] at hx
 exact ⟨.bool (!b),.dQ rfl,fun o ho=>by simp only [execOp,ho,zG hx];simp [Op.unary]⟩
theorem aak (x:Operand)(i:Nat):gL P (.extract x i) (Oy x i):=by
 intro call e s nm v s' h
 obtain ⟨c,hc,h⟩:=GV.1 h
 rw [kE,jX,bD] at h
 obtain ⟨h2,rfl⟩:=h
 refine ⟨rfl,fun φ a w hE _=>?_⟩
 have hx:=hE x (by simp [Op.operands])
 rw [hc] at hx
 obtain ⟨c',hc',hL⟩:=Z9 hx
 obtain ⟨y,hy,hv⟩:=hL.at h2
 exact ⟨y,.inl hv,fun o ho=>by simp only [execOp,ho,hc'];simp at hy;simp [Instr.extract,hy]⟩
end Xe
namespace Xe
variable {P:Program}
theorem aal {op:BinOp}{x y v:Value}(h:bin op x y=some v) :
  (∃ k a b,x=.int k a∧y=.int k b∧zi op k a b=some v)∨(∃ a b,x=.string a∧y=.string b∧zk op a b=some v):=by
 unfold bin at h
 cases x <;> simp only [iW,kC] at h <;> try cases h
 ·rename_i k a
  obtain ⟨k',b,hy,h⟩:=qx.1 h
  rw [bK] at h
  split at h
  ·rename_i hk
   have:=(G5 _ _).1 hk
   subst this
   exact .inl ⟨k,a,b,rfl,hy,h⟩
  ·cases h
 ·rename_i a
  obtain ⟨b,hy,h⟩:=zD.1 h
  exact .inr ⟨a,b,rfl,hy,h⟩
theorem aam {op:BinOp}{k:IntKind}{a b:Int}{v:Value}(h:zi op k a b=some v)(t:TypeId)(x y:Operand)(w:World) :
  (do eqGuard op t x y (.int k a) (.int k b);binOp op t (.int k a) (.int k b):Sem Value).run P w=.ok v w:=by
 cases op <;> simp only [zi,uy,zC,OT,Z5,GY,GZ,not_eq,reduceCtorEq,Option.some.injEq] at h <;> subst h <;>
  simp [eqGuard,binOp,Op.intArith,Op.intCmp]
 all_goals first | rfl | (rw [Bool.eq_iff_iff];simp)
theorem aan {op:BinOp}{a b:ByteArray}{v:Value}(h:zk op a b=some v)(t:TypeId)(x y:Operand)(w:World) :
  (do eqGuard op t x y (.string a) (.string b);binOp op t (.string a) (.string b):Sem Value).run P w=.ok v w:=by
 cases op <;> simp only [zk,zC,not_eq,zF,qw,reduceCtorEq,Option.some.injEq] at h <;> subst h <;>
  simp [eqGuard,binOp,Op.stringOp,ByteArray.toList_eq] <;> by_cases hh:a.data=b.data <;> simp [hh]
theorem aao {op:BinOp}{t t2:TypeId}(x y:Operand):gL P (.binOp op t x y t2) (Gm op x y):=by
 intro call e s nm v s' h
 rw [Gm,kE] at h
 obtain ⟨h2,rfl⟩:=h
 refine ⟨rfl,fun φ a w hE _=>?_⟩
 have hx:=hE x (by simp [Op.operands])
 have hy:=hE y (by simp [Op.operands])
 rcases aal h2 with ⟨k,m,n,e1,e2,h3⟩ | ⟨m,n,e1,e2,h3⟩
 ·rw [e1] at hx;rw [e2] at hy
  refine ⟨v,?_,fun o ho=>?_⟩
  ·have:(∃ i,v=.int k i)∨∃ b,v=.bool b:=by
    cases op <;> simp only [zi,uy,zC,reduceCtorEq,Option.some.injEq] at h3 <;> first | exact .inl ⟨_,h3.symm⟩ | exact .inr ⟨_,h3.symm⟩
   rcases this with ⟨_,rfl⟩ | ⟨_,rfl⟩ <;> exact .dQ rfl
  ·have:=aam (P:=P) h3 t x y w
   simp only [execOp,ho,mK hx,mK hy]
   rw [Sem.run_bind,this];rfl
 ·rw [e1] at hx;rw [e2] at hy
  refine ⟨v,?_,fun o ho=>?_⟩
  ·have:∃ b,v=.bool b:=by
    cases op <;> simp only [zk,zC,reduceCtorEq,Option.some.injEq] at h3 <;> exact ⟨_,h3.symm⟩
   obtain ⟨_,rfl⟩:=this;exact .dQ rfl
  ·have:=aan (P:=P) h3 t x y w
   simp only [execOp,ho,rA hx,rA hy]
   rw [Sem.run_bind,this];rfl
theorem aap {src dst:TypeId}{k:IntKind}{d:TypeDesc}(x:Operand)(hs:und P src=some d)(hd:und P dst=some (.int k)):gL P (.convert src dst x) (Ou k x):=by
 intro call e s nm v s' h
 obtain ⟨q,n,hn,h⟩:=qx.1 h
 rw [kE,uy,OT] at h
 obtain ⟨h2,rfl⟩:=h
 cases h2
 refine ⟨rfl,fun φ a w hE _=>?_⟩
 have hx:=hE x (by simp [Op.operands])
 rw [hn] at hx
 exact ⟨.int k (k.wrap n),.dQ rfl,fun o ho=>by simp only [execOp,ho,mK hx];simp [convert,dC hs,dC hd,Conv.intToInt]⟩
theorem zI (e:En):∀ l:List Operand,evs e l=l.map (ev e)
 | []=>rfl
 | x :: l=>by show ev e x :: evs e l=_;rw [zI e l];rfl
theorem G7:∀ {l:List Value},BN l=true→∀ v ∈ l,flat v=true
 | [],_,_,h=>by cases h
 | a :: l,h,v,hv=>by
  have h':bB (flat a) (BN l) false=true:=h
  rw [bK] at h'
  split at h'
  ·rename_i ha
   rcases List.mem_cons.1 hv with rfl | hv
   ·exact ha
   ·exact G7 h' v hv
  ·cases h'
theorem wS {α β γ:Type}{R:β→γ→Prop}{f:α→β}{g:α→γ}:∀ {l:List α},(∀ x ∈ l,R (f x) (g x))→L R (l.map f) (l.map g)
 | [],_=>trivial
 | a :: l,h=>⟨h a (by simp),wS fun x hx=>h x (by simp [hx])⟩
theorem aaq (fn:Fn)(first captured:Array Operand):gL P (.makeFunc fn first captured) (Gn fn first.toList captured.toList):=by
 intro call e s nm v s' h
 rw [Gn,aM,aM] at h
 obtain ⟨h1,h2,h3⟩:=h
 cases h3
 refine ⟨rfl,fun φ a w hE _=>?_⟩
 rw [zI] at h1 h2
 have f1:=G7 h1
 have f2:=G7 h2
 refine ⟨.func fn (first.map a.eval) (captured.map a.eval),.inl (.inl (.inr ⟨fn,_,_,_,_,rfl,rfl,?_,?_⟩)),fun o ho=>?_⟩
 ·simp only [zI,Array.toList_map]
  exact wS fun x hx=>OV (hE x (by simp [Op.operands];exact .inl (by simpa using hx))) (f1 _ (List.mem_map_of_mem hx))
 ·simp only [zI,Array.toList_map]
  exact wS fun x hx=>OV (hE x (by simp [Op.operands];exact .inr (by simpa using hx))) (f2 _ (List.mem_map_of_mem hx))
 ·simp only [execOp,ho];rfl
theorem OX {φ:Ph}{t:TypeId}{n off:Nat}{cs cs':Array Value}{v:Value}{d:TypeDesc}(hd:und P t=some d)(hn:dA P t=some n)(hL:L (V1 φ) cs.toList cs'.toList)
  (h:BL (nH P t) n cs.toList off=some v) (w:World):∃ v',V φ v v'∧(part t cs' off).run P w=.ok v' w:=by
 unfold BL at h
 rw [bK] at h
 split at h
 ·rename_i ht
  obtain ⟨l,hl,h⟩:=ai.1 h
  cases h
  rw [zA,wN] at hl
  obtain ⟨_,rfl⟩:=hl
  refine ⟨.agg (cs'.extract off (off+n)),.inl (.inr ⟨_,_,rfl,rfl,?_⟩),?_⟩
  ·have e:(cs'.extract off (off+n)).toList=(cs'.toList.drop off).take n:=by simp [Array.toList_extract]
   rw [e]
   simpa using (hL.drop off).take n
  ·simp [part,OW hd,ht,run_sizeOf hn]
 ·rename_i ht
  rw [jX] at h
  obtain ⟨y,hy,hv⟩:=hL.at h
  refine ⟨y,.inl (.inl hv),?_⟩
  have ht':nH P t=false:=by simpa using ht
  have hy':cs'[off]?=some y:=by simpa using hy
  simp [part,OW hd,ht',hy']
theorem aar {t:TypeId}{x:Operand}{k:Nat}{f:F}(h:Gw P t x k=some f):gL P (.field t x k) f:=by
 unfold Gw at h
 split at h
 case h_2=>cases h
 rename_i fs hd
 obtain ⟨fd,hf,h⟩:=ai.1 h
 obtain ⟨d,fq,h⟩:=ai.1 h
 obtain ⟨n,hn,h⟩:=ai.1 h
 cases h
 intro call e s nm v s' h
 obtain ⟨c,hc,h⟩:=GU.1 h
 rw [kE,bD] at h
 obtain ⟨h2,rfl⟩:=h
 refine ⟨rfl,fun φ a w hE _=>?_⟩
 have hx:=hE x (by simp [Op.operands])
 rw [hc] at hx
 obtain ⟨c',hc',hL⟩:=OU hx
 obtain ⟨v',hv,hrun⟩:=OX fq hn hL h2 w
 refine ⟨v',hv,fun o ho=>?_⟩
 rw [jX] at hf
 have hf':fs[k]?=some fd:=by simpa using hf
 simp only [execOp,ho,hc']
 simp [Instr.field,dC hd,hf',asAgg,hrun]
theorem OY {z n:Nat}{a:Addr}{i v:Value}(h:BP z n a i=some v):∃ (k:IntKind) (j:Nat),i=.int k (j:Int)∧j < n∧v=.pointer (some (a.add (j * z))):=by
 unfold BP at h
 obtain ⟨k,j,hj,h⟩:=qx.1 h
 cases j with
 | negSucc j=>cases h
 | ofNat j =>
  rw [Ce,bK,di] at h
  split at h
  ·cases h
  ·rename_i hn
   rw [OL,GQ] at h
   cases h
   exact ⟨k,j,hj,by simpa using hn,rfl⟩
theorem aas {t:TypeId}{x i:Operand}{f:F}(h:zm P t x i=some f):gL P (.indexAddr t x i) f:=by
 unfold zm at h
 split at h
 case h_3=>cases h
 ·rename_i el hd
  obtain ⟨z,hz,h⟩:=ai.1 h
  cases h
  intro call e s nm v s' h
  obtain ⟨b,n,c,hb,h⟩:=wO.1 h
  obtain ⟨b,rfl,h1⟩:=ai.1 h
  rw [kE] at h1
  obtain ⟨h2,rfl⟩:=h1
  obtain ⟨k,j,hj,hlt,rfl⟩:=OY h2
  refine ⟨rfl,fun φ a w hE _=>?_⟩
  have hx:=hE x (by simp [Op.operands])
  have hi:=hE i (by simp [Op.operands])
  rw [hb] at hx;rw [hj] at hi
  obtain ⟨a',c',ha,hs⟩:=uz hx
  rcases hs with ⟨_,h0⟩ | ⟨h0,hc,g,hg,rfl,_⟩
  ·omega
  have G8:AR φ b ⟨g.b,b.off,none⟩:=⟨h0,g,hg,rfl⟩
  refine ⟨_,.dQ ⟨_,rfl,G8.add (j * z)⟩,fun o ho=>?_⟩
  have hj0:(0:Int)≤(j:Int)∧(j:Int) < (n:Int):=⟨by omega,by omega⟩
  simp only [execOp,ho,ha,mK hi]
  simp [Instr.indexAt,asIntOf,dC hd,run_sizeOf hz,hlt]
 ·rename_i n el hd
  obtain ⟨z,hz,h⟩:=ai.1 h
  cases h
  intro call e s nm v s' h
  obtain ⟨b,hb,h⟩:=ai.1 h
  rw [wP] at hb
  rw [kE] at h
  obtain ⟨h2,rfl⟩:=h
  obtain ⟨k,j,hj,hlt,rfl⟩:=OY h2
  refine ⟨rfl,fun φ a w hE _=>?_⟩
  have hx:=hE x (by simp [Op.operands])
  have hi:=hE i (by simp [Op.operands])
  rw [hb] at hx;rw [hj] at hi
  obtain ⟨a',ha,hr⟩:=wQ hx
  refine ⟨_,.dQ ⟨_,rfl,hr.add (j * z)⟩,fun o ho=>?_⟩
  simp only [execOp,ho,ha,mK hi]
  simp [Instr.indexAt,asIntOf,dC hd,run_sizeOf hz,hlt,Instr.sureAddr]
theorem aat {t:TypeId}{x i:Operand}{f:F}(h:Gx P t x i=some f):gL P (.index t x i) f:=by
 unfold Gx at h
 split at h
 case h_3=>cases h
 ·rename_i hd
  cases h
  intro call e s nm v s' h
  obtain ⟨b,hb,h⟩:=zD.1 h
  rw [kE] at h
  obtain ⟨h2,rfl⟩:=h
  unfold Ov at h2
  obtain ⟨k,j,hj,h2⟩:=qx.1 h2
  cases j with
  | negSucc j=>cases h2
  | ofNat j =>
   rw [Ce] at h2
   obtain ⟨c,hc,h2⟩:=ai.1 h2
   rw [uy] at h2
   cases h2
   refine ⟨rfl,fun φ a w hE _=>?_⟩
   have hx:=hE x (by simp [Op.operands])
   have hi:=hE i (by simp [Op.operands])
   rw [hb] at hx;rw [hj] at hi
   refine ⟨_,.dQ rfl,fun o ho=>?_⟩
   rw [jX,qw] at hc
   have hc':b[j]?=some c:=by
    have:=List.getElem?_eq_some_iff.1 hc
    obtain ⟨hlt,he⟩:=this
    have hs:j < b.size:=by
     show j < b.data.size
     simpa using hlt
    rw [getElem?_pos b j hs]
    simp only [Option.some.injEq]
    simpa [ByteArray.getElem_eq_getElem_data] using he
   simp only [execOp,ho,rA hx,mK hi]
   simp [Instr.index,asIntOf,dC hd,hc']
 ·rename_i n el hd
  obtain ⟨d,hel,h⟩:=ai.1 h
  obtain ⟨z,hz,h⟩:=ai.1 h
  cases h
  intro call e s nm v s' h
  obtain ⟨c,hc,h⟩:=GU.1 h
  rw [kE] at h
  obtain ⟨h2,rfl⟩:=h
  unfold Ow at h2
  obtain ⟨k,j,hj,h2⟩:=qx.1 h2
  cases j with
  | negSucc j=>cases h2
  | ofNat j =>
   rw [Ce,bK,di] at h2
   split at h2
   ·cases h2
   ·rename_i hlt
    rw [bD] at h2
    refine ⟨rfl,fun φ a w hE _=>?_⟩
    have hx:=hE x (by simp [Op.operands])
    have hi:=hE i (by simp [Op.operands])
    rw [hc] at hx;rw [hj] at hi
    obtain ⟨c',hc',hL⟩:=OU hx
    obtain ⟨v',hv,hrun⟩:=OX hel hz hL h2 w
    refine ⟨v',hv,fun o ho=>?_⟩
    have hlt':j < n:=by simpa using hlt
    simp only [execOp,ho,hc',mK hi]
    simp [Instr.index,asIntOf,dC hd,run_sizeOf hz,hlt']
    simpa using congrArg (fun r=>r.andThen fun a w'=>Result.ok (Next.value a) w') hrun
end Xe
end Go.Proofs.YthffafaoobpedaaGreatDoor
