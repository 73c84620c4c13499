/- What the small pieces of our machine answer;values by their kinds. -/
import Derived.Test.YtfcpglhpolpdcaaGreatDoorM36
import Derived.Laws.Cells
import Derived.Laws.CopyRow
import Derived.Laws.Strings
namespace Go.Proofs.YtfcpglhpolpdcaaGreatDoor
namespace Xe
section
variable {α β γ:Type}
theorem aj {x:Option α}{f:α→Option β}{y:β}:oB x f=some y ↔ ∃ a,x=some a∧f a=some y:=by
 cases x with
 | none=>simp[oB]
 | some a=>simp[oB]
theorem aN {b:Bool}{x:Option α}{y:α}:aO b x=some y ↔ b=true∧x=some y:=by cases b<;>simp[aO,bB]
theorem bT (b:Bool)(t f:γ):bB b t f=if b=true then t else f:=by cases b<;>rfl
theorem Bi (z:γ)(s:Nat→γ):nB 0 z s=z:=rfl
theorem Bj (n:Nat)(z:γ)(s:Nat→γ):nB (n+1) z s=s n:=rfl
theorem oC (n:Nat)(k:Nat→Option α):fN n k=k n:=by cases n<;>rfl
theorem Es (n:γ)(c:α→List α→γ):lB [] n c=n:=rfl
theorem Et (a:α)(l:List α)(n:γ)(c:α→List α→γ):lB (a :: l) n c=c a l:=rfl
theorem bK (a:Array α):aL a=a.toList:=by cases a;rfl
theorem qX (s:ByteArray):sL s=s.data.toList:=by cases s;exact bK _
theorem x9 {sp:Option Nat}{x:Option γ}{y:γ}:xU sp x=some y ↔ sp=none∧x=some y:=by cases sp<;>simp[xU]
theorem kv:∀ (l:List α) (n:Nat),nth l n=l[n]?
 | [],n=>by simp[nth]
 | a :: l,0=>by show some a=_;simp
 | a :: l,n+1=>by
  have:=kv l n;simp only[List.getElem?_cons_succ,← this];rfl
theorem yc:∀ (n:Nat) (l r:List α),takeN n l=some r ↔ n≤l.length∧r=l.take n
 | 0,l,r=>by show some []=some r ↔ _;simp[eq_comm]
 | n+1,[],r=>by simp[takeN,lB]
 | n+1,a :: l,r=>by
  show oB (takeN n l) (fun r=>some (a :: r))=some r ↔ _
  rw[aj];constructor
  ·rintro⟨t,h,e⟩
   obtain⟨h1,rfl⟩:=(yc n l t).1 h;cases e;exact⟨by simpa using h1,by simp⟩
  ·rintro⟨h1,rfl⟩
   exact⟨l.take n,(yc n l _).2 ⟨by simpa using h1,rfl⟩,by simp⟩
theorem Bl:∀ (n:Nat) (l:List α),xS n l=l.drop n
 | 0,l=>by show l=_;simp
 | n+1,[]=>by simp[xS,lB]
 | n+1,a :: l=>by
  show xS n l=_
  rw[Bl n l];simp
end
theorem gQ {α β γ:Type}(a:α)(b:β)(f:α→β→γ):pB (a,b) f=f a b:=rfl
theorem Eu {γ:Type}(n:Nat)(p q:Nat→γ):iB (.ofNat n) p q=p n:=rfl
theorem Bn {γ:Type}(a:Addr)(f:Nat→Nat→Option Nat→γ):aB a f=f a.block a.off a.spot:=by cases a;rfl
theorem jN {γ:Type}(s:S)(f:Nat→Hp→List (FuncId × List Value)→γ):sB s f=f s.c s.h s.ds:=by cases s;rfl
theorem vS (q:IntKind)(i:Int):pg q i=some (.int q i):=by cases i<;>simp[pg,iB,oC]
theorem Bo (b:Bool):pq b=some (.bool b):=by cases b<;>rfl
theorem RO (a:Addr):D6 a=some (.pointer (some a)):=by cases a;simp[D6,aB,oC]
theorem RP (a:Addr)(n z:Nat):D7 a n z=some (.slice (some a) n z):=by cases a;simp[D7,aB,oC]
theorem kU {v:Option Value}{s:S}{x:Value}{s':S}:ret v s=some (x,s') ↔ v=some x∧s'=s:=by
 cases v with
 | none=>simp[ret,oB]
 | some a=>simp[ret,oB,eq_comm]
theorem JH (a:Addr)(n:Nat):A7 a n=a.add n:=by
 cases n with
 | zero=>show a=a.add 0;simp[Addr.add]
 | succ n=>cases a;simp[A7,nB,aB,Addr.add]
theorem JI {β:Type}{x:Value}{f:Bool→Option β}{y:β}:vG x none f=some y ↔ ∃ b,x=.bool b∧f b=some y:=by cases x<;>simp[vG]
theorem sM {β:Type}{x:Value}{f:IntKind→Int→Option β}{y:β}:jM x none f=some y ↔ ∃ k n,x=.int k n∧f k n=some y:=by
 cases x<;>first | simp[jM];done | exact⟨fun h=>⟨_,_,rfl,h⟩,fun⟨_,_,e,h⟩=>by cases e;exact h⟩
theorem Bp {β:Type}{x:Value}{f:ByteArray→Option β}{y:β}:lJ x none f=some y ↔ ∃ b,x=.string b∧f b=some y:=by cases x<;>simp[lJ]
theorem Br {β:Type}{x:Value}{f:Option Addr→Nat→Nat→Option β}{y:β}:sG x none f=some y ↔ ∃ a n c,x=.slice a n c∧f a n c=some y:=by
 cases x<;>first | simp[sG];done | exact⟨fun h=>⟨_,_,_,rfl,h⟩,fun⟨_,_,_,e,h⟩=>by cases e;exact h⟩
theorem RQ {β:Type}{x:Value}{f:Array Value→Option β}{y:β}:vH x none f=some y ↔ ∃ c,x=.agg c∧f c=some y:=by cases x<;>simp[vH]
theorem RU {β:Type}{x:Value}{f:Array Value→Option β}{y:β}:xR x none f=some y ↔ ∃ c,x=.tuple c∧f c=some y:=by cases x<;>simp[xR]
theorem ac3 {β:Type}{x:Value}{f:Option Nat→Option β}{y:β}:AX x none f=some y ↔ ∃ r,x=.map r∧f r=some y:=by cases x<;>simp[AX]
theorem ac4 {β:Type}{x:Value}{f:Fn→Array Value→Array Value→Option β}{y:β}:Ji x none f=some y ↔ ∃ fn a c,x=.func fn a c∧f fn a c=some y:=by
 cases x<;>first | simp[Ji];done | exact⟨fun h=>⟨_,_,_,rfl,h⟩,fun⟨_,_,_,e,h⟩=>by cases e;exact h⟩
theorem yg {x:Value}{a:Addr}:ptr x=some a ↔ x=.pointer (some a):=by cases x<;>simp[ptr,Rj]
theorem RV {x:Value}{r:Nat}:Eh x=some r ↔ x=.map (some r):=by cases x<;>simp[Eh,AX]
theorem RX {o:Option Obj}{l:List Value}:rowOf o=some l ↔ ∃ c e f,o=some (.cells c e f)∧l=c.toList:=by
 cases o with
 | none=>simp[rowOf,oB]
 | some o=>cases o<;>simp[rowOf,oB,AY,bK,eq_comm]
theorem JJ {o:Option Obj}{p:List MapEntry × Nat}:mapOf o=some p ↔ ∃ es k,o=some (.map es k)∧p=(es.toList,k):=by
 cases o with
 | none=>simp[mapOf,oB]
 | some o =>
  cases o<;>first | simp[mapOf,oB,Rk];done | skip
  rename_i es k;show some (aL es,k)=some p ↔ _
  rw[bK];exact⟨fun h=>⟨es,k,rfl,(Option.some.inj h).symm⟩,fun⟨_,_,e,h⟩=>by cases e;rw[h]⟩
theorem Ew {h:Hp}{a:Addr}{n:Nat}{l:List Value}:oo h a n=some l ↔ a.spot=none∧∃ c e f,h a.block=some (.cells c e f)∧n≤(c.toList.drop a.off).length∧l=(c.toList.drop a.off).take n:=by
 unfold oo;rw[Bn,x9,aj];constructor
 ·rintro⟨h0,c,hc,ht⟩
  obtain⟨c',e,f,h1,rfl⟩:=RX.1 hc;rw[Bl,yc] at ht;exact⟨h0,c',e,f,h1,ht.1,ht.2⟩
 ·rintro⟨h0,c,e,f,h1,h2,h3⟩
  exact⟨h0,c.toList,RX.2 ⟨c,e,f,h1,rfl⟩,by rw[Bl,yc];exact⟨h2,h3⟩⟩
theorem Ey:∀ (l m:List UInt8),pE l m=decide (l=m)
 | [],[]=>by simp[pE,lB]
 | [],b :: m=>by simp[pE,lB]
 | a :: l,[]=>by simp[pE,lB]
 | a :: l,b :: m=>by
  show bB (Nat.beq a.toNat b.toNat) (pE l m) false=_
  rw[Ey l m];by_cases h:a=b
  ·subst h
   have:Nat.beq a.toNat a.toNat=true:=by simp
   rw[this];simp[bB]
  ·have:Nat.beq a.toNat b.toNat=false:=by
    cases hb:Nat.beq a.toNat b.toNat with
    | true=>exact (h (UInt8.toNat_inj.1 (Nat.eq_of_beq_eq_true hb))).elim
    | false=>rfl
   rw[this];simp[bB,h]
theorem dV (a b:Nat):Nat.beq a b=decide (a=b):=by
 cases hb:Nat.beq a b with
 | true=>simp[Nat.eq_of_beq_eq_true hb]
 | false=>simp[Nat.ne_of_beq_eq_false hb]
theorem dW (a b:Nat):Nat.ble a b=decide (a≤b):=by
 cases hb:Nat.ble a b with
 | true=>simp[Nat.le_of_ble_eq_true hb]
 | false =>
  have:¬ a≤b:=fun h=>by rw[Nat.ble_eq_true_of_le h] at hb;cases hb
  simp[this]
theorem JK (a b:Int):vI a b=decide (a=b):=by
 cases a<;>cases b<;>simp[vI,iB,dV]<;>omega
theorem ac5 (a b:Int):leI a b=decide (a≤b):=by
 cases a<;>cases b<;>simp only[leI,iB,dW]<;>(try simp)<;>(try omega)
theorem ac6 (a b:Int):Rl a b=a+b:=by cases a<;>cases b<;>rfl
theorem JL (k l:IntKind):Nat.beq (oq k) (oq l)=true ↔ k=l:=by cases k<;>cases l<;>simp[oq]
theorem not_eq (b:Bool):not' b=!b:=by cases b<;>rfl
theorem RY (k:IntKind)(i:Int):A8 k i=k.wrap i:=by
 cases i with
 | negSucc n=>rfl
 | ofNat n =>
  show bB (Nat.ble (top k) n) (k.wrap (.ofNat n)) (.ofNat n)=_
  rw[dW];by_cases h:top k≤n
  ·simp[h,bB]
  ·simp only[h,decide_false,bB]
   cases k<;>simp[top] at h<;>simp[IntKind.wrap,IntKind.bits,IntKind.signed]<;>omega
section kinds
variable {φ:Ph} {v':Value}
theorem Bt {b:Bool}(h:V φ (.bool b) v'):v'=.bool b:=by
 rcases h with ((h | ⟨_,_,_,_,_,h,_⟩) | ⟨_,_,h,_⟩) | ⟨_,_,h,_⟩<;>first | exact h | cases h
theorem nD {k:IntKind}{n:Int}(h:V φ (.int k n) v'):v'=.int k n:=by
 rcases h with ((h | ⟨_,_,_,_,_,h,_⟩) | ⟨_,_,h,_⟩) | ⟨_,_,h,_⟩<;>first | exact h | cases h
theorem sN {s:ByteArray}(h:V φ (.string s) v'):v'=.string s:=by
 rcases h with ((h | ⟨_,_,_,_,_,h,_⟩) | ⟨_,_,h,_⟩) | ⟨_,_,h,_⟩<;>first | exact h | cases h
theorem yh {a:Addr}(h:V φ (.pointer (some a)) v'):∃ a',v'=.pointer (some a')∧AR φ a a':=by
 rcases h with ((h | ⟨_,_,_,_,_,h,_⟩) | ⟨_,_,h,_⟩) | ⟨_,_,h,_⟩<;>first | exact h | cases h
theorem pF {a:Addr}{n z:Nat}(h:V φ (.slice (some a) n z) v'):∃ a' c,v'=.slice a' n c∧SR φ a n z a' c:=by
 rcases h with ((h | ⟨_,_,_,_,_,h,_⟩) | ⟨_,_,h,_⟩) | ⟨_,_,h,_⟩<;>first | exact h | cases h
theorem Bu {n z:Nat}(h:V φ (.slice none n z) v'):n=0∧v'=.slice none 0 0:=by
 rcases h with ((h | ⟨_,_,_,_,_,h,_⟩) | ⟨_,_,h,_⟩) | ⟨_,_,h,_⟩<;>first | exact h | cases h
theorem JM {r:Nat}(h:V φ (.map (some r)) v'):∃ g,φ r=some g∧v'=.map (some g.b):=by
 rcases h with ((h | ⟨_,_,_,_,_,h,_⟩) | ⟨_,_,h,_⟩) | ⟨_,_,h,_⟩<;>first | exact h | cases h
theorem ac7 (h:V φ (.map none) v'):v'=.map none:=by
 rcases h with ((h | ⟨_,_,_,_,_,h,_⟩) | ⟨_,_,h,_⟩) | ⟨_,_,h,_⟩<;>first | exact h | cases h
theorem ac8 {fn:Fn}{f c:Array Value}(h:V φ (.func fn f c) v'):∃ f' c',v'=.func fn f' c'∧L (V0 φ) f.toList f'.toList∧L (V0 φ) c.toList c'.toList:=by
 rcases h with ((h | ⟨_,_,_,f',c',h,h2,h3,h4⟩) | ⟨_,_,h,_⟩) | ⟨_,_,h,_⟩
 ·exact h.elim
 ·cases h;exact⟨f',c',h2,h3,h4⟩
 ·cases h
 ·cases h
theorem RZ {c:Array Value}(h:V φ (.agg c) v'):∃ c',v'=.agg c'∧L (V1 φ) c.toList c'.toList:=by
 rcases h with ((h | ⟨_,_,_,_,_,h,_⟩) | ⟨_,c',h,h2,h3⟩) | ⟨_,_,h,_⟩
 ·exact h.elim
 ·cases h
 ·cases h;exact⟨c',h2,h3⟩
 ·cases h
theorem ac9 {c:Array Value}(h:V φ (.tuple c) v'):∃ c',v'=.tuple c'∧L (VA φ) c.toList c'.toList:=by
 rcases h with ((h | ⟨_,_,_,_,_,h,_⟩) | ⟨_,c',h,h2,h3⟩) | ⟨_,c',h,h2,h3⟩
 ·exact h.elim
 ·cases h
 ·cases h
 ·cases h;exact⟨c',h2,h3⟩
theorem yj {v:Value}(h:V φ v v')(hn:o9 v=true):VA φ v v':=by
 rcases h with h | ⟨_,_,rfl,_⟩
 ·exact h
 ·simp[o9,xR] at hn
theorem R6 {v:Value}(h:V φ v v')(hn:flat v=true):V0 φ v v':=by
 rcases h with ((h | ⟨_,_,_,_,_,rfl,_⟩) | ⟨_,_,rfl,_⟩) | ⟨_,_,rfl,_⟩
 ·exact h
 all_goals simp[flat] at hn
theorem vT {v:Value}(h:VA φ v v'):L (V1 φ) (lK v) v'.cells.toList:=by
 rcases h with h | ⟨c,c',rfl,rfl,h⟩
 ·have hv:lK v=[v]:=by
   rcases h with h | ⟨_,_,_,_,_,rfl,_⟩
   ·cases v<;>first | rfl | exact h.elim
   ·rfl
  have hv':v'.cells=#[v']:=by
   rcases h with h | ⟨_,_,_,_,_,_,rfl,_⟩
   ·unfold V0 at h
    split at h;case h_1=>subst h;rfl
    case h_2=>subst h;rfl
    case h_3=>subst h;rfl
    case h_4=>subst h;rfl
    case h_5=>obtain⟨_,rfl,_⟩:=h;rfl
    case h_6=>obtain⟨_,rfl⟩:=h;rfl
    case h_7=>obtain⟨_,_,rfl,_⟩:=h;rfl
    case h_8=>subst h;rfl
    case h_9=>obtain⟨_,_,rfl⟩:=h;rfl
    case h_10=>subst h;rfl
    case h_11=>exact h.elim
   ·rfl
  rw[hv,hv'];exact⟨h,trivial⟩
 ·show L (V1 φ) (aL c) c'.toList
  rw[bK];exact h
end kinds
end Xe
namespace Xe
variable {P:Program}
def pG (φ:Ph)(e:En)(a:Act)(op:Op):Prop:=∀ x ∈ op.operands,V φ (ev e x) (a.eval x)
def gT (P:Program)(op:Op)(f:F):Prop:=∀ (call:Cl) (e:En) (s:S) (nm:Nat) (v:Value) (s':S),f call e s nm=some (v,s') →
 s'=s∧∀ (φ:Ph) (a:Act) (w:World),pG φ e a op→Rel φ s.h w→∃ v',V φ v v'∧∀ o:Oper,o.op=op→(execOp a.eval o).run P w=.ok (.value v') w
theorem Bv {φ:Ph}{h:Hp}{w:World}{a a':Addr}{n:Nat}{l:List Value}(hr:oo h a n=some l)(r:Rel φ h w)(ha:AR φ a a') :
  ∃ l',L (V1 φ) l l'∧l'.length=n∧∀ (j:Nat) v,l'[j]?=some v→w.cell? (a'.add j)=some v:=by
 obtain⟨_,c,e,f,hc,hn,rfl⟩:=Ew.1 hr;obtain⟨_,g,hg,rfl⟩:=ha;obtain⟨g',c',e',fr,hg',hw,_,_,hle,hL⟩:=r.obj _ _ hc;rw[hg] at hg';cases hg';rcases Nat.eq_zero_or_pos n with h0 | h0
 ·subst h0
  exact⟨[],by simp[L],rfl,fun j v hj=>by simp at hj⟩
 have hn':a.off+n≤c.size:=by simp at hn;omega
 refine⟨((c'.toList.take c.size).drop a.off).take n,(hL.drop a.off).take n,by simp;omega,?_⟩;intro j v hj;have hjn:j<n:=by
  rcases Nat.lt_or_ge j n with h | h
  ·exact h
  ·rw[List.getElem?_eq_none (by simp;omega)] at hj;cases hj
 have hadd:(⟨g.b,a.off,none⟩:Addr).add j=⟨g.b,a.off+j,none⟩:=by unfold Addr.add;split<;>simp_all
 rw[hadd];rw[List.getElem?_take_of_lt hjn,List.getElem?_drop,List.getElem?_take_of_lt (by omega)] at hj;simp[World.cell?,hw];simpa using hj
theorem ada {φ:Ph}{h:Hp}{w:World}{a a':Addr}{l:List Value}(hr:oo h a 1=some l)(r:Rel φ h w)(ha:AR φ a a') :
  ∃ x x',l=[x]∧V1 φ x x'∧w.cell? a'=some x':=by
 obtain⟨l',hL,hlen,hc⟩:=Bv hr r ha;match l',hlen with
 | [x'],_ =>
  match l,hL with
  | [x],hL =>
   refine⟨x,x',rfl,hL.1,?_⟩;have:=hc 0 x' rfl;have h0:a'.add 0=a':=by simp[Addr.add]
   rw[h0] at this;exact this
theorem adb {φ:Ph}{h:Hp}{w:World}{a a':Addr}{n:Nat}{l:List Value}(hr:oo h a n=some l)(r:Rel φ h w)(ha:AR φ a a') :
  ∃ l',L (V1 φ) l l'∧l'.length=n∧(loadCells a' n).run P w=.ok l'.toArray w:=by
 obtain⟨l',hL,hlen,hc⟩:=Bv hr r ha;exact⟨l',hL,hlen,by rw[← hlen];exact run_loadCells_list w a' l' hc⟩
theorem ade (x:Operand):gT P (.move x) (Eb x):=by
 intro call e s nm v s' h;cases h;exact⟨rfl,fun φ a w hE _=>⟨a.eval x,hE x (by simp[Op.operands]),fun o ho=>by simp only[execOp,ho];rfl⟩⟩
theorem adf (x:Operand):gT P (.assign x) (Eb x):=by
 intro call e s nm v s' h;cases h;exact⟨rfl,fun φ a w hE _=>⟨a.eval x,hE x (by simp[Op.operands]),fun o ho=>by simp only[execOp,ho];rfl⟩⟩
theorem adg (c x y:Operand):gT P (.pick c x y) (Rn c x y):=by
 intro call e s nm v s' h;obtain⟨b,hb,h⟩:=JI.1 h;have hs:s'=s∧v=if b=true then ev e x else ev e y:=by cases b<;>cases h<;>exact⟨rfl,rfl⟩
 obtain⟨rfl,rfl⟩:=hs;refine⟨rfl,fun φ a w hE _=>?_⟩;have hc:=hE c (by simp[Op.operands]);rw[hb] at hc;refine⟨if b=true then a.eval x else a.eval y,?_,fun o ho=>?_⟩
 ·cases b
  ·exact hE y (by simp[Op.operands])
  ·exact hE x (by simp[Op.operands])
 ·simp only[execOp,ho,Bt hc]
  cases b<;>simp[asBool]
theorem adh (x:Operand):gT P (.nilCheck x) (Rq x):=by
 intro call e s nm v s' h;obtain⟨b,hb,h⟩:=aj.1 h;rw[yg] at hb;cases h;refine⟨rfl,fun φ a w hE _=>?_⟩;have hx:=hE x (by simp[Op.operands]);rw[hb] at hx;obtain⟨a',ha,hr⟩:=yh hx;exact⟨.pointer (some a'),.dU ⟨a',rfl,hr⟩,fun o ho=>by simp only[execOp,ho,ha];rfl⟩
theorem adi {t:TypeId}(x:Operand)(ht:om P t=false)(hu:(P.underlying t).isSome=true):gT P (.load t x) (Ro x):=by
 intro call e s nm v s' h;obtain⟨b,hb,h⟩:=aj.1 h;rw[yg] at hb;obtain⟨l,hl,h⟩:=aj.1 h;have hs:s'=s∧∃ r,l=v :: r:=by
  match l,h with
  | y :: r,h=>cases h;exact⟨rfl,r,rfl⟩
 obtain⟨rfl,r,rfl⟩:=hs;refine⟨rfl,fun φ a w hE hR=>?_⟩;have hx:=hE x (by simp[Op.operands]);rw[hb] at hx;obtain⟨a',ha,hr⟩:=yh hx;obtain⟨y,y',e1,hv,hrun⟩:=ada hl hR hr;cases e1;refine⟨y',.inl (.inl hv),fun o ho=>?_⟩;obtain⟨d,hd⟩:=Option.isSome_iff_exists.1 hu;have hag:(isAgg t).run P w=.ok false w:=by
  unfold om und at ht;rw[hd] at ht;cases d<;>simp_all [isAgg,underlying]
 simp only[execOp,ho,ha];simp[Instr.loadAt,Instr.sureAddr,loadVar,hag,hrun]
theorem adj {t:TypeId}{n:Nat}(x:Operand)(ht:om P t=true)(hn:dF P t=some n):gT P (.load t x) (Rp n x):=by
 intro call e s nm v s' h;obtain⟨b,hb,h⟩:=aj.1 h;rw[yg] at hb;obtain⟨l,hl,h⟩:=aj.1 h;cases h;refine⟨rfl,fun φ a w hE hR=>?_⟩;have hx:=hE x (by simp[Op.operands]);rw[hb] at hx;obtain⟨a',ha,hr⟩:=yh hx;obtain⟨l',hL,hlen,hrun⟩:=adb (P:=P) hl hR hr;refine⟨.agg l'.toArray,.inl (.inr ⟨l.toArray,l'.toArray,rfl,rfl,by simpa using hL⟩),fun o ho=>?_⟩;have hag:(isAgg t).run P w=.ok true w:=by
  unfold om und at ht;split at ht<;>simp_all [isAgg,underlying]
 have hsz:(sizeOf t).run P w=.ok n w:=by
  unfold dF at hn;split at hn<;>simp_all [sizeOf,typeInfo]
 simp only[execOp,ho,ha];simp[Instr.loadAt,Instr.sureAddr,loadVar,hag,hsz,hrun]
theorem run_sizeOf {t:TypeId}{n:Nat}(hn:dF P t=some n)(w:World):(sizeOf t).run P w=.ok n w:=by
 unfold dF at hn;split at hn<;>simp_all [sizeOf,typeInfo]
theorem dH {t:TypeId}{d:TypeDesc}(hd:und P t=some d)(w:World):(underlying t).run P w=.ok d w:=by
 unfold und at hd;simp[underlying,hd]
theorem R8 {t:TypeId}{d:TypeDesc}(hd:und P t=some d)(w:World):(isAgg t).run P w=.ok (om P t) w:=by
 unfold om;rw[hd];cases d<;>simp[isAgg,dH hd]
theorem AR.add {φ:Ph}{a a':Addr}(h:AR φ a a')(n:Nat):AR φ (a.add n) (a'.add n):=by
 obtain⟨h0,g,hg,rfl⟩:=h;cases a;simp only at h0 hg;subst h0;refine⟨?_,g,?_,?_⟩<;>unfold Addr.add<;>split<;>simp_all
theorem adk {t:TypeId}{x:Operand}{k:Nat}{f:F}(h:Jr P t x k=some f):gT P (.fieldAddr t x k) f:=by
 unfold Jr at h;split at h;case h_2=>cases h
 rename_i fs hd;obtain⟨fd,hf,h⟩:=aj.1 h;split at h;case h_2=>cases h
 rename_i n hn;cases h;intro call e s nm v s' h;obtain⟨b,hb,h⟩:=aj.1 h;rw[yg] at hb;rw[kU,RO,JH] at h;obtain⟨h2,rfl⟩:=h;cases h2;refine⟨rfl,fun φ a w hE _=>?_⟩;have hx:=hE x (by simp[Op.operands]);rw[hb] at hx;obtain⟨a',ha,hr⟩:=yh hx;refine⟨.pointer (some (a'.add fd.offset)),.dU ⟨_,rfl,hr.add _⟩,fun o ho=>?_⟩;rw[kv] at hf;have hf':fs[k]?=some fd:=by simpa using hf
 simp only[execOp,ho,ha];simp[Instr.fieldAt,Instr.sureAddr,dH hd,hf',fieldPlace,run_sizeOf hn]
theorem adl {t:TypeId}(x:Operand):gT P (.unOp .not t x) (Rs x):=by
 intro call e s nm v s' h;obtain⟨b,hb,h⟩:=JI.1 h;rw[kU,Bo,not_eq] at h;obtain⟨h2,rfl⟩:=h;cases h2;refine⟨rfl,fun φ a w hE _=>?_⟩;have hx:=hE x (by simp[Op.operands]);rw[hb] at hx;exact⟨.bool (!b),.dU rfl,fun o ho=>by simp only[execOp,ho,Bt hx];simp[Op.unary]⟩
theorem adm (x:Operand)(i:Nat):gT P (.extract x i) (Ry x i):=by
 intro call e s nm v s' h;obtain⟨c,hc,h⟩:=RU.1 h;rw[kU,kv,bK] at h;obtain⟨h2,rfl⟩:=h;refine⟨rfl,fun φ a w hE _=>?_⟩;have hx:=hE x (by simp[Op.operands]);rw[hc] at hx;obtain⟨c',hc',hL⟩:=ac9 hx;obtain⟨y,hy,hv⟩:=hL.at h2;exact⟨y,.inl hv,fun o ho=>by simp only[execOp,ho,hc'];simp at hy;simp[Instr.extract,hy]⟩
end Xe
namespace Xe
variable {P:Program}
theorem adn {op:BinOp}{x y v:Value}(h:bin op x y=some v) :
  (∃ k a b,x=.int k a∧y=.int k b∧A9 op k a b=some v)∨(∃ a b,x=.string a∧y=.string b∧Ba op a b=some v):=by
 unfold bin at h;cases x<;>simp only[jM,lJ] at h<;>try cases h
 ·rename_i k a
  obtain⟨k',b,hy,h⟩:=sM.1 h;rw[bT] at h;split at h
  ·rename_i hk
   have:=(JL _ _).1 hk;subst this;exact .inl ⟨k,a,b,rfl,hy,h⟩
  ·cases h
 ·rename_i a
  obtain⟨b,hy,h⟩:=Bp.1 h;exact .inr ⟨a,b,rfl,hy,h⟩
theorem ado {op:BinOp}{k:IntKind}{a b:Int}{v:Value}(h:A9 op k a b=some v)(t:TypeId)(x y:Operand)(w:World) :
  (do eqGuard op t x y (.int k a) (.int k b);binOp op t (.int k a) (.int k b):Sem Value).run P w=.ok v w:=by
 cases op<;>simp only[A9,vS,Bo,RY,ac6,JK,ac5,not_eq,reduceCtorEq,Option.some.injEq] at h<;>subst h <;>
  simp[eqGuard,binOp,Op.intArith,Op.intCmp]
 all_goals first | rfl | (rw[Bool.eq_iff_iff];simp)
theorem adp {op:BinOp}{a b:ByteArray}{v:Value}(h:Ba op a b=some v)(t:TypeId)(x y:Operand)(w:World) :
  (do eqGuard op t x y (.string a) (.string b);binOp op t (.string a) (.string b):Sem Value).run P w=.ok v w:=by
 cases op<;>simp only[Ba,Bo,not_eq,Ey,qX,reduceCtorEq,Option.some.injEq] at h<;>subst h <;>
  simp[eqGuard,binOp,Op.stringOp,ByteArray.toList_eq]<;>by_cases hh:a.data=b.data<;>simp[hh]
theorem adq {op:BinOp}{t t2:TypeId}(x y:Operand):gT P (.binOp op t x y t2) (Jk op x y):=by
 intro call e s nm v s' h;rw[Jk,kU] at h;obtain⟨h2,rfl⟩:=h;refine⟨rfl,fun φ a w hE _=>?_⟩;have hx:=hE x (by simp[Op.operands]);have hy:=hE y (by simp[Op.operands]);rcases adn h2 with⟨k,m,n,e1,e2,h3⟩ | ⟨m,n,e1,e2,h3⟩
 ·rw[e1] at hx;rw[e2] at hy
  refine⟨v,?_,fun o ho=>?_⟩
  ·have:(∃ i,v=.int k i)∨∃ b,v=.bool b:=by
    cases op<;>simp only[A9,vS,Bo,reduceCtorEq,Option.some.injEq] at h3<;>first | exact .inl ⟨_,h3.symm⟩ | exact .inr ⟨_,h3.symm⟩
   rcases this with⟨_,rfl⟩ | ⟨_,rfl⟩<;>exact .dU rfl
  ·have:=ado (P:=P) h3 t x y w
   simp only[execOp,ho,nD hx,nD hy];rw[Sem.run_bind,this];rfl
 ·rw[e1] at hx;rw[e2] at hy
  refine⟨v,?_,fun o ho=>?_⟩
  ·have:∃ b,v=.bool b:=by
    cases op<;>simp only[Ba,Bo,reduceCtorEq,Option.some.injEq] at h3<;>exact⟨_,h3.symm⟩
   obtain⟨_,rfl⟩:=this;exact .dU rfl
  ·have:=adp (P:=P) h3 t x y w
   simp only[execOp,ho,sN hx,sN hy];rw[Sem.run_bind,this];rfl
theorem adr {src dst:TypeId}{k:IntKind}{d:TypeDesc}(x:Operand)(hs:und P src=some d)(hd:und P dst=some (.int k)):gT P (.convert src dst x) (Ru k x):=by
 intro call e s nm v s' h;obtain⟨q,n,hn,h⟩:=sM.1 h;rw[kU,vS,RY] at h;obtain⟨h2,rfl⟩:=h;cases h2;refine⟨rfl,fun φ a w hE _=>?_⟩;have hx:=hE x (by simp[Op.operands]);rw[hn] at hx;exact⟨.int k (k.wrap n),.dU rfl,fun o ho=>by simp only[execOp,ho,nD hx];simp[convert,dH hs,dH hd,Conv.intToInt]⟩
theorem Bw (e:En):∀ l:List Operand,evs e l=l.map (ev e)
 | []=>rfl
 | x :: l=>by show ev e x :: evs e l=_;rw[Bw e l];rfl
theorem JN:∀ {l:List Value},Ea l=true→∀ v ∈ l,flat v=true
 | [],_,_,h=>by cases h
 | a :: l,h,v,hv=>by
  have h':bB (flat a) (Ea l) false=true:=h;rw[bT] at h';split at h'
  ·rename_i ha
   rcases List.mem_cons.1 hv with rfl | hv
   ·exact ha
   ·exact JN h' v hv
  ·cases h'
theorem yl {α β γ:Type}{R:β→γ→Prop}{f:α→β}{g:α→γ}:∀ {l:List α},(∀ x ∈ l,R (f x) (g x))→L R (l.map f) (l.map g)
 | [],_=>trivial
 | a :: l,h=>⟨h a (by simp),yl fun x hx=>h x (by simp[hx])⟩
theorem ads (fn:Fn)(first captured:Array Operand):gT P (.makeFunc fn first captured) (Jl fn first.toList captured.toList):=by
 intro call e s nm v s' h;rw[Jl,aN,aN] at h;obtain⟨h1,h2,h3⟩:=h;cases h3;refine⟨rfl,fun φ a w hE _=>?_⟩;rw[Bw] at h1 h2;have f1:=JN h1;have f2:=JN h2;refine⟨.func fn (first.map a.eval) (captured.map a.eval),.inl (.inl (.inr ⟨fn,_,_,_,_,rfl,rfl,?_,?_⟩)),fun o ho=>?_⟩
 ·simp only[Bw,Array.toList_map]
  exact yl fun x hx=>R6 (hE x (by simp[Op.operands];exact .inl (by simpa using hx))) (f1 _ (List.mem_map_of_mem hx))
 ·simp only[Bw,Array.toList_map]
  exact yl fun x hx=>R6 (hE x (by simp[Op.operands];exact .inr (by simpa using hx))) (f2 _ (List.mem_map_of_mem hx))
 ·simp only[execOp,ho];rfl
theorem R9 {φ:Ph}{t:TypeId}{n off:Nat}{cs cs':Array Value}{v:Value}{d:TypeDesc}(hd:und P t=some d)(hn:dF P t=some n)(hL:L (V1 φ) cs.toList cs'.toList)
  (h:D8 (om P t) n cs.toList off=some v) (w:World):∃ v',V φ v v'∧(part t cs' off).run P w=.ok v' w:=by
 unfold D8 at h;rw[bT] at h;split at h
 ·rename_i ht
  obtain⟨l,hl,h⟩:=aj.1 h;cases h;rw[Bl,yc] at hl;obtain⟨_,rfl⟩:=hl;refine⟨.agg (cs'.extract off (off+n)),.inl (.inr ⟨_,_,rfl,rfl,?_⟩),?_⟩
  ·have e:(cs'.extract off (off+n)).toList=(cs'.toList.drop off).take n:=by simp[Array.toList_extract]
   rw[e];simpa using (hL.drop off).take n
  ·simp[part,R8 hd,ht,run_sizeOf hn]
 ·rename_i ht
  rw[kv] at h;obtain⟨y,hy,hv⟩:=hL.at h;refine⟨y,.inl (.inl hv),?_⟩;have ht':om P t=false:=by simpa using ht
  have hy':cs'[off]?=some y:=by simpa using hy
  simp[part,R8 hd,ht',hy']
theorem adt {t:TypeId}{x:Operand}{k:Nat}{f:F}(h:Js P t x k=some f):gT P (.field t x k) f:=by
 unfold Js at h;split at h;case h_2=>cases h
 rename_i fs hd;obtain⟨fd,hf,h⟩:=aj.1 h;obtain⟨d,hfd,h⟩:=aj.1 h;obtain⟨n,hn,h⟩:=aj.1 h;cases h;intro call e s nm v s' h;obtain⟨c,hc,h⟩:=RQ.1 h;rw[kU,bK] at h;obtain⟨h2,rfl⟩:=h;refine⟨rfl,fun φ a w hE _=>?_⟩;have hx:=hE x (by simp[Op.operands]);rw[hc] at hx;obtain⟨c',hc',hL⟩:=RZ hx;obtain⟨v',hv,hrun⟩:=R9 hfd hn hL h2 w;refine⟨v',hv,fun o ho=>?_⟩;rw[kv] at hf;have hf':fs[k]?=some fd:=by simpa using hf
 simp only[execOp,ho,hc'];simp[Instr.field,dH hd,hf',asAgg,hrun]
theorem Sa {z n:Nat}{a:Addr}{i v:Value}(h:Ec z n a i=some v):∃ (k:IntKind) (j:Nat),i=.int k (j:Int)∧j<n∧v=.pointer (some (a.add (j * z))):=by
 unfold Ec at h;obtain⟨k,j,hj,h⟩:=sM.1 h;cases j with
 | negSucc j=>cases h
 | ofNat j =>
  rw[Eu,bT,dW] at h;split at h
  ·cases h
  ·rename_i hn
   rw[RO,JH] at h;cases h;exact⟨k,j,hj,by simpa using hn,rfl⟩
theorem adv {t:TypeId}{x i:Operand}{f:F}(h:Bc P t x i=some f):gT P (.indexAddr t x i) f:=by
 unfold Bc at h;split at h;case h_3=>cases h
 ·rename_i el hd
  obtain⟨z,hz,h⟩:=aj.1 h;cases h;intro call e s nm v s' h;obtain⟨b,n,c,hb,h⟩:=Br.1 h;obtain⟨b,rfl,h1⟩:=aj.1 h;rw[kU] at h1;obtain⟨h2,rfl⟩:=h1;obtain⟨k,j,hj,hlt,rfl⟩:=Sa h2;refine⟨rfl,fun φ a w hE _=>?_⟩;have hx:=hE x (by simp[Op.operands]);have hi:=hE i (by simp[Op.operands]);rw[hb] at hx;rw[hj] at hi;obtain⟨a',c',ha,hs⟩:=pF hx;rcases hs with⟨_,h0⟩ | ⟨h0,hc,g,hg,rfl,_⟩
  ·omega
  have JO:AR φ b ⟨g.b,b.off,none⟩:=⟨h0,g,hg,rfl⟩;refine⟨_,.dU ⟨_,rfl,JO.add (j * z)⟩,fun o ho=>?_⟩;have hj0:(0:Int)≤(j:Int)∧(j:Int)<(n:Int):=⟨by omega,by omega⟩;simp only[execOp,ho,ha,nD hi];simp[Instr.indexAt,asIntOf,dH hd,run_sizeOf hz,hlt]
 ·rename_i n el hd
  obtain⟨z,hz,h⟩:=aj.1 h;cases h;intro call e s nm v s' h;obtain⟨b,hb,h⟩:=aj.1 h;rw[yg] at hb;rw[kU] at h;obtain⟨h2,rfl⟩:=h;obtain⟨k,j,hj,hlt,rfl⟩:=Sa h2;refine⟨rfl,fun φ a w hE _=>?_⟩;have hx:=hE x (by simp[Op.operands]);have hi:=hE i (by simp[Op.operands]);rw[hb] at hx;rw[hj] at hi;obtain⟨a',ha,hr⟩:=yh hx;refine⟨_,.dU ⟨_,rfl,hr.add (j * z)⟩,fun o ho=>?_⟩;simp only[execOp,ho,ha,nD hi];simp[Instr.indexAt,asIntOf,dH hd,run_sizeOf hz,hlt,Instr.sureAddr]
theorem adw {t:TypeId}{x i:Operand}{f:F}(h:Jt P t x i=some f):gT P (.index t x i) f:=by
 unfold Jt at h;split at h;case h_3=>cases h
 ·rename_i hd
  cases h;intro call e s nm v s' h;obtain⟨b,hb,h⟩:=Bp.1 h;rw[kU] at h;obtain⟨h2,rfl⟩:=h;unfold Rv at h2;obtain⟨k,j,hj,h2⟩:=sM.1 h2;cases j with
  | negSucc j=>cases h2
  | ofNat j =>
   rw[Eu] at h2;obtain⟨c,hc,h2⟩:=aj.1 h2;rw[vS] at h2;cases h2;refine⟨rfl,fun φ a w hE _=>?_⟩;have hx:=hE x (by simp[Op.operands]);have hi:=hE i (by simp[Op.operands]);rw[hb] at hx;rw[hj] at hi;refine⟨_,.dU rfl,fun o ho=>?_⟩;rw[kv,qX] at hc;have hc':b[j]?=some c:=by
    have:=List.getElem?_eq_some_iff.1 hc;obtain⟨hlt,he⟩:=this;have hs:j<b.size:=by
     show j<b.data.size
     simpa using hlt
    rw[getElem?_pos b j hs];simp only[Option.some.injEq];simpa[ByteArray.getElem_eq_getElem_data] using he
   simp only[execOp,ho,sN hx,nD hi];simp[Instr.index,asIntOf,dH hd,hc']
 ·rename_i n el hd
  obtain⟨d,hel,h⟩:=aj.1 h;obtain⟨z,hz,h⟩:=aj.1 h;cases h;intro call e s nm v s' h;obtain⟨c,hc,h⟩:=RQ.1 h;rw[kU] at h;obtain⟨h2,rfl⟩:=h;unfold Rw at h2;obtain⟨k,j,hj,h2⟩:=sM.1 h2;cases j with
  | negSucc j=>cases h2
  | ofNat j =>
   rw[Eu,bT,dW] at h2;split at h2
   ·cases h2
   ·rename_i hlt
    rw[bK] at h2;refine⟨rfl,fun φ a w hE _=>?_⟩;have hx:=hE x (by simp[Op.operands]);have hi:=hE i (by simp[Op.operands]);rw[hc] at hx;rw[hj] at hi;obtain⟨c',hc',hL⟩:=RZ hx;obtain⟨v',hv,hrun⟩:=R9 hel hz hL h2 w;refine⟨v',hv,fun o ho=>?_⟩;have hlt':j<n:=by simpa using hlt
    simp only[execOp,ho,hc',nD hi];simp[Instr.index,asIntOf,dH hd,run_sizeOf hz,hlt'];simpa using congrArg (fun r=>r.andThen fun a w'=>Result.ok (Next.value a) w') hrun
end Xe
end Go.Proofs.YtfcpglhpolpdcaaGreatDoor
