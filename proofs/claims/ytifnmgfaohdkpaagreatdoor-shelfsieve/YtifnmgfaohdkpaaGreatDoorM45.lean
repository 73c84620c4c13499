/- A module,read out of our memory. -/
import Derived.Test.YtifnmgfaohdkpaaGreatDoorM41
import Derived.Test.YtifnmgfaohdkpaaGreatDoorM1
import Derived.Test.YtifnmgfaohdkpaaGreatDoorM44
import Derived.Test.YtifnmgfaohdkpaaGreatDoorM35
import Derived.Test.YtifnmgfaohdkpaaGreatDoorM36
set_option maxRecDepth 100000
set_option maxHeartbeats 1000000
namespace Go.Proofs.YtifnmgfaohdkpaaGreatDoor
open Go.RowKit
namespace Xe
noncomputable section
def RO (i:Int):Bool:=leI (-9223372036854775808) i && leI i 9223372036854775807
def gD (v:Value):Option Int:=ji v none fun k i=>aK (Nat.beq (mY k) 3 && RO i) (some i)
def pq (h:Hp)(z:Nat)(v:Value):Option (List Value):=qD v none fun a n k=>@Option.rec Addr (fun _=>Option (List Value)) (nB n (some []) fun _=>none) (fun a=>nB n (some []) fun m=>aK (Nat.beq k z) (nX h a (Nat.mul (Nat.succ m) z))) a
def ym:List Value→Option (List Int)
 | []=>some []
 | a :: l=>oB (gD a) fun x=>oB (ym l) fun r=>some (x :: r)
def Ej:List Value→Option (List Vf.Bx)
 | []=>some []
 | a :: b :: l=>oB (gD a) fun x=>oB (gD b) fun y=>oB (Ej l) fun r=>some (⟨x,y⟩ :: r)
 | _=>none
def yn:List Value→Option (List Vf.Ins)
 | []=>some []
 | a :: b :: c :: l=>oB (gD a) fun x=>oB (gD b) fun y=>oB (gD c) fun z=>oB (yn l) fun r=>some (⟨x,y,z⟩ :: r)
 | _=>none
def El (h:Hp):List Value→Option (List Vf.Un)
 | []=>some []
 | a :: b :: c :: d :: e :: f :: l=>oB (gD a) fun k=>oB (gD b) fun p=>oB (oB (pq h 1 c) ym) fun lo=>oB (gD d) fun r=>oB (gD e) fun t=>oB (oB (pq h 3 f) yn) fun co=>oB (El h l) fun us=>some (⟨k,p,lo,r,t,co⟩ :: us)
 | _=>none
def Em (h:Hp)(v:Value):Option Vf.Md:=rX v none fun a=>match aL a with
 | [b,u]=>oB (oB (pq h 2 b) Ej) fun bs=>oB (oB (pq h 6 u) (El h)) fun us=>some ⟨bs,us⟩
 | _=>none
end
theorem ow {v:Value}{i:Int}(h:gD v=some i):v=.int .i64 i∧dn i:=by
 unfold gD at h
 obtain ⟨k,j,rfl,h0⟩:=qL.1 h
 rw [aM,Bool.and_eq_true] at h0
 obtain ⟨⟨h1,h2⟩,h3⟩:=h0
 cases h3
 have hk:k=.i64:=by cases k <;> first | rfl | (exact absurd h1 (by decide))
 subst hk
 unfold RO at h2
 rw [Bool.and_eq_true,I6,I6] at h2
 exact ⟨rfl,by simpa using h2.1,by simpa using h2.2⟩
theorem RP {φ:Ph}{k:IntKind}{i:Int}{y:Value}(h:V1 φ (.int k i) y):y=.int k i:=by
 rcases h with h | ⟨_,_,_,_,_,h,_⟩
 ·exact h
 ·cases h
structure JS (φ:Ph) (w:World) (z:Nat) (l:List Value) (v':Value) (a:Option Addr) (n c:Nat):Prop where
 val:v'=.slice a n c
 le:n≤c
 len:l.length=n * z
 cell:∀ (j:Nat) x,l[j]?=some x→∃ b off y,a=some ⟨b,off,none⟩∧b < w.heap.size∧V1 φ x y∧w.cell? ⟨b,off+j,none⟩=some y
theorem Eo {φ:Ph}{h:Hp}{w:World}{z:Nat}{v v':Value}{l:List Value}(hr:pq h z v=some l)(hv:V1 φ v v')(r:Rel φ h w):∃ a n c,JS φ w z l v' a n c:=by
 unfold pq at hr
 obtain ⟨a,n,k,rfl,hr⟩:=xQ.1 hr
 have hv0:V0 φ (.slice a n k) v':=by
  rcases hv with h | ⟨_,_,_,_,_,h,_⟩
  ·exact h
  ·cases h
 cases a with
 | none =>
  obtain ⟨rfl,rfl⟩:n=0∧v'=.slice none 0 0:=hv0
  have hr':some []=some l:=hr
  cases hr'
  exact ⟨none,0,0,rfl,Nat.le_refl _,by simp,fun j x hx=>by simp at hx⟩
 | some a =>
  obtain ⟨a',c,rfl,hS⟩:∃ a' c,v'=.slice a' n c∧SR φ a n k a' c:=hv0
  cases n with
  | zero =>
   have hr':some []=some l:=hr
   cases hr'
   exact ⟨a',0,c,rfl,Nat.zero_le _,by simp,fun j x hx=>by simp at hx⟩
  | succ m =>
   have hr':aK (Nat.beq k z) (nX h a (Nat.mul (Nat.succ m) z))=some l:=hr
   rw [aM,dA] at hr'
   obtain ⟨hk,hr'⟩:=hr'
   have hk:k=z:=by simpa using hk
   subst hk
   rcases hS with ⟨_,h0⟩ | ⟨hsp,hle,g,hg,rfl,_⟩
   ·omega
   ·obtain ⟨l',hL,hlen,hcell⟩:=Dz hr' r ⟨hsp,g,hg,rfl⟩
    refine ⟨_,m+1,c,rfl,hle,by rw [L.length hL,hlen];rfl,fun j x hx=>?_⟩
    obtain ⟨y,hy,hV⟩:=L.at hL hx
    refine ⟨g.b,a.off,y,rfl,r.bnd _ _ hg,hV,?_⟩
    have:=hcell j y hy
    unfold Addr.add at this
    split at this
    ·rename_i hj;subst hj;exact this
    ·exact this
theorem RQ:∀ {l:List Value} {r:List Int},ym l=some r→l.length=r.length∧∀ (i:Nat) x,r[i]?=some x→l[i]?=some (.int .i64 x)∧dn x
 | [],r,h=>by
  have h':some []=some r:=h
  cases h'
  exact ⟨rfl,fun i x hx=>by simp at hx⟩
 | a :: l,r,h=>by
  have h':(oB (gD a) fun x=>oB (ym l) fun r=>some (x :: r))=some r:=h
  obtain ⟨x,hx,h'⟩:=ah.1 h'
  obtain ⟨r',hr,h'⟩:=ah.1 h'
  cases h'
  obtain ⟨rfl,h64⟩:=ow hx
  obtain ⟨h1,h2⟩:=RQ hr
  refine ⟨by simp [h1],fun i y hy=>?_⟩
  cases i with
  | zero=>simp at hy;subst hy;exact ⟨rfl,h64⟩
  | succ i=>simp at hy;simpa using h2 i y hy
theorem RV:∀ {l:List Value} {r:List Vf.Bx},Ej l=some r→l.length=r.length * 2∧∀ (i:Nat) x,r[i]?=some x→l[i * 2]?=some (.int .i64 x.ty)∧l[i * 2+1]?=some (.int .i64 x.cap)∧dn x.ty∧dn x.cap
 | [],r,h=>by
  have h':some []=some r:=h
  cases h'
  exact ⟨rfl,fun i x hx=>by simp at hx⟩
 | [a],r,h=>by
  have h':none=some r:=h
  cases h'
 | a :: b :: l,r,h=>by
  have h':(oB (gD a) fun x=>oB (gD b) fun y=>oB (Ej l) fun r=>some ((⟨x,y⟩:Vf.Bx) :: r))=some r:=h
  obtain ⟨x,hx,h'⟩:=ah.1 h'
  obtain ⟨y,hy,h'⟩:=ah.1 h'
  obtain ⟨r',hr,h'⟩:=ah.1 h'
  cases h'
  obtain ⟨rfl,qh⟩:=ow hx
  obtain ⟨rfl,JU⟩:=ow hy
  obtain ⟨h1,h2⟩:=RV hr
  refine ⟨by simp [h1];omega,fun i u hu=>?_⟩
  cases i with
  | zero=>simp at hu;subst hu;exact ⟨rfl,rfl,qh,JU⟩
  | succ i =>
   simp at hu
   have:=h2 i u hu
   rw [show (i+1) * 2=i * 2+2 by omega,show i * 2+2+1=i * 2+1+2 by omega]
   simpa using this
theorem RX:∀ {l:List Value} {r:List Vf.Ins},yn l=some r→l.length=r.length * 3∧∀ (i:Nat) x,r[i]?=some x→l[i * 3]?=some (.int .i64 x.op)∧l[i * 3+1]?=some (.int .i64 x.a)∧l[i * 3+2]?=some (.int .i64 x.n)∧dn x.op∧dn x.a∧dn x.n
 | [],r,h=>by
  have h':some []=some r:=h
  cases h'
  exact ⟨rfl,fun i x hx=>by simp at hx⟩
 | [a],r,h=>by
  have h':none=some r:=h
  cases h'
 | [a,b],r,h=>by
  have h':none=some r:=h
  cases h'
 | a :: b :: c :: l,r,h=>by
  have h':(oB (gD a) fun x=>oB (gD b) fun y=>oB (gD c) fun z=>oB (yn l) fun r=>some ((⟨x,y,z⟩:Vf.Ins) :: r))=some r:=h
  obtain ⟨x,hx,h'⟩:=ah.1 h'
  obtain ⟨y,hy,h'⟩:=ah.1 h'
  obtain ⟨z,hz,h'⟩:=ah.1 h'
  obtain ⟨r',hr,h'⟩:=ah.1 h'
  cases h'
  obtain ⟨rfl,qh⟩:=ow hx
  obtain ⟨rfl,JU⟩:=ow hy
  obtain ⟨rfl,acR⟩:=ow hz
  obtain ⟨h1,h2⟩:=RX hr
  refine ⟨by simp [h1];omega,fun i u hu=>?_⟩
  cases i with
  | zero=>simp at hu;subst hu;exact ⟨rfl,rfl,rfl,qh,JU,acR⟩
  | succ i =>
   simp at hu
   have:=h2 i u hu
   rw [show (i+1) * 3=i * 3+3 by omega,show i * 3+3+1=i * 3+1+3 by omega,show i * 3+3+2=i * 3+2+3 by omega]
   simpa using this
structure acS (h:Hp) (l:List Value) (j:Nat) (u:Vf.Un):Prop where
 kind:l[j]?=some (.int .i64 u.kind)∧dn u.kind
 params:l[j+1]?=some (.int .i64 u.params)∧dn u.params
 locals:∃ v r,l[j+2]?=some v∧pq h 1 v=some r∧ym r=some u.locals
 result:l[j+3]?=some (.int .i64 u.result)∧dn u.result
 takes:l[j+4]?=some (.int .i64 u.takes)∧dn u.takes
 code:∃ v r,l[j+5]?=some v∧pq h 3 v=some r∧yn r=some u.code
theorem acT (a b c d e f:Value)(l:List Value)(i q:Nat):(a :: b :: c :: d :: e :: f :: l)[(i+1) * 6+q]?=l[i * 6+q]?:=by
 rw [show (i+1) * 6+q=i * 6+q+6 by omega]
 rfl
theorem RY {h:Hp}:∀ {l:List Value} {r:List Vf.Un},El h l=some r→l.length=r.length * 6∧∀ (i:Nat) u,r[i]?=some u→acS h l (i * 6) u
 | [],r,e=>by
  have e':some []=some r:=e
  cases e'
  exact ⟨rfl,fun i x hx=>by simp at hx⟩
 | [_],r,e=>by
  have e':none=some r:=e
  cases e'
 | [_,_],r,e=>by
  have e':none=some r:=e
  cases e'
 | [_,_,_],r,e=>by
  have e':none=some r:=e
  cases e'
 | [_,_,_,_],r,e=>by
  have e':none=some r:=e
  cases e'
 | [_,_,_,_,_],r,e=>by
  have e':none=some r:=e
  cases e'
 | a :: b :: c :: d :: e :: f :: l,r,h'=>by
  have h':(oB (gD a) fun k=>oB (gD b) fun p=>oB (oB (pq h 1 c) ym) fun lo=>oB (gD d) fun r=>oB (gD e) fun t=>oB (oB (pq h 3 f) yn) fun co=>oB (El h l) fun us=>some ((⟨k,p,lo,r,t,co⟩:Vf.Un) :: us))=some r:=h'
  obtain ⟨k,hk,h'⟩:=ah.1 h'
  obtain ⟨p,hp,h'⟩:=ah.1 h'
  obtain ⟨lo,hlo,h'⟩:=ah.1 h'
  obtain ⟨lor,acU,hlo⟩:=ah.1 hlo
  obtain ⟨rs,hrs,h'⟩:=ah.1 h'
  obtain ⟨t,ht,h'⟩:=ah.1 h'
  obtain ⟨co,hco,h'⟩:=ah.1 h'
  obtain ⟨cor,acW,hco⟩:=ah.1 hco
  obtain ⟨us,qB,h'⟩:=ah.1 h'
  cases h'
  obtain ⟨rfl,acX⟩:=ow hk
  obtain ⟨rfl,acY⟩:=ow hp
  obtain ⟨rfl,acZ⟩:=ow hrs
  obtain ⟨rfl,ac0⟩:=ow ht
  obtain ⟨h1,h2⟩:=RY qB
  refine ⟨by simp [h1];omega,fun i u hu=>?_⟩
  cases i with
  | zero =>
   simp at hu;subst hu
   exact ⟨⟨rfl,acX⟩,⟨rfl,acY⟩,⟨c,lor,rfl,acU,hlo⟩,⟨rfl,acZ⟩,⟨rfl,ac0⟩,⟨f,cor,rfl,acW,hco⟩⟩
  | succ i =>
   simp at hu
   have:=h2 i u hu
   have e6:=acT (.int .i64 k) (.int .i64 p) c (.int .i64 rs) (.int .i64 t) f l i
   exact ⟨⟨(e6 0).trans this.kind.1,this.kind.2⟩,⟨(e6 1).trans this.params.1,this.params.2⟩,this.locals.elim fun v h3=>h3.elim fun r h4=>⟨v,r,(e6 2).trans h4.1,h4.2⟩,
    ⟨(e6 3).trans this.result.1,this.result.2⟩,⟨(e6 4).trans this.takes.1,this.takes.2⟩,this.code.elim fun v h3=>h3.elim fun r h4=>⟨v,r,(e6 5).trans h4.1,h4.2⟩⟩
theorem JS.int {φ:Ph}{w:World}{z:Nat}{l:List Value}{v':Value}{a:Option Addr}{n c:Nat}(h:JS φ w z l v' a n c){j:Nat}{x:Int}(hx:l[j]?=some (.int .i64 x)) :
  ∃ b off,a=some ⟨b,off,none⟩∧b < w.heap.size∧w.cell? ⟨b,off+j,none⟩=some (.int .i64 x):=by
 obtain ⟨b,off,y,h1,h2,h3,h4⟩:=h.cell j _ hx
 have:=RP h3
 subst this
 exact ⟨b,off,h1,h2,h4⟩
theorem ac1 {φ:Ph}{h:Hp}{w:World}{v v':Value}{m:Vf.Md}(hm:Em h v=some m)(hv:VA φ v v')(r:Rel φ h w)(hf:m.boxes.length≤1000000∧m.units.length≤1000000∧∀ u ∈ m.units,u.locals.length≤1000000∧u.code.length≤1000000) :
  ∃ ab au cb cu,v'=.agg #[.slice ab m.boxes.length cb,.slice au m.units.length cu]∧aY w.heap.size w m ab au:=by
 unfold Em at hm
 obtain ⟨a,rfl,hm2⟩:=IZ.1 hm
 clear hm
 obtain ⟨c',rfl,hL⟩:∃ c',v'=.agg c'∧L (V1 φ) a.toList c'.toList:=by
  rcases hv with (h | ⟨_,_,_,_,_,h,_⟩) | ⟨c,c',h1,h2,h3⟩
  ·exact h.elim
  ·cases h
  ·cases h1;exact ⟨c',h2,h3⟩
 rw [bE] at hm2
 split at hm2
 ·rename_i b u hbu
  rw [hbu] at hL
  obtain ⟨bs,hbs,hm⟩:=ah.1 hm2
  obtain ⟨rb,hrb,hbs⟩:=ah.1 hbs
  obtain ⟨us,qB,hm⟩:=ah.1 hm
  obtain ⟨ru,hru,qB⟩:=ah.1 qB
  cases hm
  cases c' with
  | mk cl =>
  cases cl with
  | nil=>exact hL.elim
  | cons b' cl =>
  cases cl with
  | nil=>exact hL.2.elim
  | cons u' cl =>
  cases cl with
  | cons _ _=>exact hL.2.2.elim
  | nil =>
  obtain ⟨ab,nb,cb,RB⟩:=Eo hrb hL.1 r
  obtain ⟨au,nu,cu,RU⟩:=Eo hru hL.2.1 r
  obtain ⟨lb,hb⟩:=RV hbs
  obtain ⟨lu,hu⟩:=RY qB
  have enb:nb=bs.length:=by have:=RB.len;omega
  have enu:nu=us.length:=by have:=RU.len;omega
  subst enb;subst enu
  refine ⟨ab,au,cb,cu,by rw [RB.val,RU.val],⟨by omega,by omega⟩,?_,?_⟩
  ·intro i x hx
   obtain ⟨h1,h2,h3,h4⟩:=hb i x hx
   obtain ⟨b,off,rfl,hlt,hc1⟩:=RB.int h1
   obtain ⟨b2,GV,he,_,hc2⟩:=RB.int h2
   cases he
   exact ⟨h3,h4,b,off,rfl,hlt,hc1,by rw [Nat.add_assoc];exact hc2⟩
  ·intro i x hx
   have hU:=hu i x hx
   have hsz:=hf.2.2 x (List.mem_of_getElem? hx)
   obtain ⟨b,off,rfl,hlt,hc1⟩:=RU.int hU.kind.1
   obtain ⟨b2,GV,he,_,hc2⟩:=RU.int hU.params.1
   cases he
   obtain ⟨b3,ac5,he,_,hc3⟩:=RU.int hU.result.1
   cases he
   obtain ⟨b4,afe,he,_,hc4⟩:=RU.int hU.takes.1
   cases he
   obtain ⟨vl,rl,hvl,hrl,hil⟩:=hU.locals
   obtain ⟨vc,rc,hvc,hrc,hic⟩:=hU.code
   obtain ⟨b5,aff,yl,he,_,hVl,hc5⟩:=RU.cell _ _ hvl
   cases he
   obtain ⟨b6,afg,yc,he,_,hVc,hc6⟩:=RU.cell _ _ hvc
   cases he
   obtain ⟨al,nl,cl,RL⟩:=Eo hrl hVl r
   obtain ⟨ac,nc,cc,RC⟩:=Eo hrc hVc r
   obtain ⟨ll,hl⟩:=RQ hil
   obtain ⟨lc,hc⟩:=RX hic
   have enl:nl=x.locals.length:=by have:=RL.len;omega
   have enc:nc=x.code.length:=by have:=RC.len;omega
   subst enl;subst enc
   refine ⟨b,off,al,cl,ac,cc,rfl,hlt,⟨⟨hU.kind.2,hU.params.2,hU.result.2,hU.takes.2⟩,⟨by omega,by omega⟩,⟨RL.le,RC.le⟩,?_,?_⟩,hc1,by rw [Nat.add_assoc];exact hc2,by rw [Nat.add_assoc,hc5,RL.val],by rw [Nat.add_assoc];exact hc3,by rw [Nat.add_assoc];exact hc4,by rw [Nat.add_assoc,hc6,RC.val]⟩
   ·intro j y hy
    obtain ⟨h1,h2⟩:=hl j y hy
    obtain ⟨b,off,rfl,hlt,hcc⟩:=RL.int h1
    exact ⟨h2,b,off,rfl,hlt,hcc⟩
   ·intro j y hy
    obtain ⟨h1,h2,h3,h4,h5,h6⟩:=hc j y hy
    obtain ⟨b,off,rfl,hlt,adb⟩:=RC.int h1
    obtain ⟨b2,GV,he,_,ade⟩:=RC.int h2
    cases he
    obtain ⟨b3,ac5,he,_,adf⟩:=RC.int h3
    cases he
    exact ⟨h4,h5,h6,b,off,rfl,hlt,adb,by rw [Nat.add_assoc];exact ade,by rw [Nat.add_assoc];exact adf⟩
 ·cases hm2
end Xe
namespace Xe
noncomputable section
def ans (r:Option (Value × S)):Option Vf.Md:=oB r fun p=>pB p fun v s=>uO v none fun a=>match aL a with
 | [m,e]=>oB (gD e) fun i=>iB i (fun n=>nB n (Em s.h m) fun _=>none) fun _=>none
 | _=>none
end
theorem adg {name:ByteArray}{m:Vf.Md}{cl:Cl}(hcl:fH Tryz.prog cl)(h:ans (cl 9 [.string name] s0)=some m)(hf:m.boxes.length≤1000000∧m.units.length≤1000000∧∀ u ∈ m.units,u.locals.length≤1000000∧u.code.length≤1000000)(w:World)(hT:pg w) :
  Calls Tryz.prog 9 #[.string name] w fun e w'=>Below w.heap.size w w'∧∃ ab au cb cu,e=.returned (.tuple #[.agg #[.slice ab m.boxes.length cb,.slice au m.units.length cu],.int .i64 0])∧aY w'.heap.size w' m ab au:=by
 unfold ans at h
 obtain ⟨⟨v,s'⟩,hr,h⟩:=ah.1 h
 rw [gB] at h
 obtain ⟨a,rfl,h2⟩:=I1.1 h
 clear h
 rw [bE] at h2
 split at h2
 ·rename_i mv ev hme
  obtain ⟨i,hi,h3⟩:=ah.1 h2
  clear h2
  obtain ⟨rfl,_⟩:=ow hi
  have hz:i=0∧Em s'.h mv=some m:=by
   cases i with
   | ofNat n =>
    cases n with
    | zero=>exact ⟨rfl,h3⟩
    | succ n=>cases h3
   | negSucc n=>cases h3
  obtain ⟨rfl,hrd⟩:=hz
  obtain ⟨_,_,hcall⟩:=hcl _ _ _ _ _ hr
  refine (hcall Ei w #[.string name] ⟨.dS rfl,trivial⟩ (acQ hT)).mono ?_
  rintro e w' ⟨φ',v',rfl,hV,hP⟩
  refine ⟨⟨hP.ext.out.1,hP.ext.out.2.1,hP.ext.out.2.2,hP.ext.size,fun k hk=>hP.ext.kept k hk ?_⟩,?_⟩
  ·rintro x g h3 ⟨o,hx,_⟩ _
   rcases yj hx with ⟨rfl,_⟩ | ⟨rfl,_⟩ | ⟨rfl,_⟩ <;> omega
  ·obtain ⟨c',rfl,hL⟩:∃ c',v'=.tuple c'∧L (VA φ') a.toList c'.toList:=by
    rcases hV with ((h | ⟨_,_,_,_,_,h,_⟩) | ⟨_,_,h,_⟩) | ⟨c,c',h1,h2,h3⟩
    ·exact h.elim
    ·cases h
    ·cases h
    ·cases h1;exact ⟨c',h2,h3⟩
   rw [hme] at hL
   cases c' with
   | mk cl =>
   cases cl with
   | nil=>exact hL.elim
   | cons x cl =>
   cases cl with
   | nil=>exact hL.2.elim
   | cons y cl =>
   cases cl with
   | cons _ _=>exact hL.2.2.elim
   | nil =>
   have hy:y=.int .i64 0:=by
    rcases hL.2.1 with h | ⟨_,_,h,_⟩
    ·exact RP h
    ·cases h
   obtain ⟨ab,au,cb,cu,hx,hM⟩:=ac1 hrd hL.1 hP.stt.rel hf
   exact ⟨ab,au,cb,cu,by rw [hx,hy],hM⟩
 ·cases h2
end Xe
end Go.Proofs.YtifnmgfaohdkpaaGreatDoor
namespace Go.Proofs.YtifnmgfaohdkpaaGreatDoor.Vw
open Go.RowKit Vf Vm
def Ep (m:Md)(R:Wd)(w:World)(e:Ending)(w':World):Prop:=∃ ea ec ba bc ov bv,e=.returned (.tuple #[.agg #[.slice ea R.ts.length ec,.slice ba m.boxes.length bc,.int .i64 R.steps],.int .i64 0])∧Below w.heap.size w w'∧je m R 0 w' (.slice ea R.ts.length ec) (.slice ba m.boxes.length bc) R.ts.length m.boxes.length ov bv
theorem je.on {m:Md}{W:Wd}{C:Nat}{w w1:World}{vE vB:Value}{k1 k2:Nat}{ov bv:Nat→Value}(h:je m W C w vE vB k1 k2 ov bv)(hb:Below w.heap.size w w1):je m W C w1 vE vB k1 k2 ov bv :=
 h.keep (fun _=>False) (fun k hk _=>hb.block k hk) (fun _ x=>x.elim)
theorem adh {B:Nat}{w:World}:uG B w [] none:=fun i p h=>by simp at h
theorem adi (m:Md)(ab au:Option Addr)(cb cu B:Nat)(w:World)(hmd:Hid (aY B w m ab au))(hB:B≤w.heap.size)(hE:dw m [] 100=0)(R:Wd)(hR:Hid (R=(mW m [] 100).2)) :
  Calls Tryz.prog 8 #[eH m ab au cb cu,.slice none 0 0,.int .i64 100] w fun e w'=>Ep m R w e w':=by
 refine (aaQ m ab au cb cu B [] none 0 w hmd (Sb.hide adh) hB 100 0 hE.symm R hR).mono ?_
 rintro e w' ⟨hb,hr⟩
 rcases hr with ⟨h0,rfl⟩ | ⟨_,vE,vB,ov,bv,rfl,fO,_⟩
 ·exact absurd rfl h0
 ·obtain ⟨ea,ec,rfl⟩:=gK fO.ends
  obtain ⟨ba,bc,rfl⟩:=gK fO.jK
  exact ⟨_,_,_,_,ov,bv,rfl,hb,fO⟩
theorem adj (m:Md)(ab au:Option Addr)(cb cu:Nat)(w:World)(hmd:Hid (aY w.heap.size w m ab au))(hE:Hid (dw m [] 100=0))(R:Wd)(hR:Hid (R=(mW m [] 100).2)) :
  Calls Tryz.prog 7 #[eH m ab au cb cu] w fun e w'=>Ep m R w e w':=by
 go_enter Tryz.func7,Tryz.ntmps7
 have HF:=Sb.hide (Sr.first w m ab au cb cu)
 have c2:=rG HF.out.md
 go_wp2_with fail
 refine (adi m ab au cb cu w.heap.size _ (Sb.hide (hmd.out.low HF.out.below.block)) HF.out.below.size hE.out R hR).mono ?_
 rintro e w1 ⟨ea,ec,ba,bc,ov,bv,rfl,hb1,fO⟩
 have aG:=Sb.hide (HF.out.on hb1)
 have HZ:=Sb.hide aG.out.zero
 have HB:=Sb.hide aG.out.below
 have l6:=Sb.hide fO
 clear hb1 fO c2 HF aG hmd hE hR
 have z:=(bP HZ.out).1
 have zf:=(bP HZ.out).2
 go_wp2
 have hX:=uK (v0:=.slice ea R.ts.length ec) (v1:=.slice ba m.boxes.length bc) (v2:=.int .i64 R.steps) HZ.out
 have fD:=rU (v0:=.slice ea R.ts.length ec) (v1:=.slice ba m.boxes.length bc) (v2:=.int .i64 R.steps) HB.out (b:=w.heap.size+1) (by simp)
 have nV:=C8 (v0:=.slice ea R.ts.length ec) (v1:=.slice ba m.boxes.length bc) (v2:=.int .i64 R.steps) HZ.out l6.out
 unfold jg at hX fD nV
 obtain ⟨g0,g1,g2⟩:=hX
 generalize ((w1.setCell ⟨w.heap.size+1,0,none⟩ (.slice ea R.ts.length ec)).setCell ⟨w.heap.size+1,1,none⟩ (.slice ba m.boxes.length bc)).setCell ⟨w.heap.size+1,2,none⟩ (.int .i64 R.steps)=W4 at *
 exact bodyPost_ret (v:=.tuple #[.agg #[.slice ea R.ts.length ec,.slice ba m.boxes.length bc,.int .i64 R.steps],.int .i64 0]) (by simp [results,Tryz.results7,go_sem,g0,g1,g2]) rfl ⟨_,_,_,_,ov,bv,rfl,fD,nV⟩
structure Br (name:ByteArray) (m:Md):Prop where
 ans:∃ cl,Xe.fH Tryz.prog cl∧Xe.ans (cl 9 [.string name] Xe.s0)=some m
 few:m.boxes.length≤1000000∧m.units.length≤1000000∧∀ u ∈ m.units,u.locals.length≤1000000∧u.code.length≤1000000
 rests:dw m [] 100=0
theorem adk {name:ByteArray}{m:Md}(hN:Hid (Br name m))(w:World)(hT:Hid (Xe.pg w))(R:Wd)(hR:Hid (R=(mW m [] 100).2)) :
  Calls Tryz.prog 6 #[.string name,.func (.func 7) #[] #[]] w fun e w'=>Ep m R w e w':=by
 go_enter Tryz.func6,Tryz.ntmps6
 have HB:Hid (Below w.heap.size w (w.alloc kM)):=(Below.refl _ w).alloc (Nat.le_refl _) _
 have HR:Hid ((w.alloc kM).heap[w.heap.size]?=some kM):=heap_alloc_new w kM
 go_wp2_with fail
 obtain ⟨cl,hcl,adl⟩:=hN.out.ans
 refine (Xe.adg hcl adl hN.out.few _ (hT.out.below HB.out)).mono ?_
 rintro e w1 ⟨hb1,ab,au,cb,cu,rfl,hM⟩
 have HR1:=Sb.hide ((hb1.block _ (lt_of_block HR.out)).trans HR.out)
 have HB1:=Sb.hide (HB.out.trans (hb1.mono HB.out.size))
 have HM:=Sb.hide hM
 clear hb1 hM HB HR
 have HB2:Hid (Below w1.heap.size w1 (w1.alloc (nU m ab au cb cu))):=(Below.refl _ w1).alloc (Nat.le_refl _) _
 have HA:Hid ((w1.alloc (nU m ab au cb cu)).heap[w1.heap.size]?=some (nU m ab au cb cu)):=heap_alloc_new w1 _
 have c2:=rG HA.out
 go_wp2_with fail
 refine (adj m ab au cb cu _ (Sb.hide ((HM.out.low HB2.out.block).mono HB2.out.size)) (Sb.hide hN.out.rests) R hR).mono ?_
 rintro e w2 ⟨ea,ec,ba,bc,ov,bv,rfl,hb2,fO⟩
 have HZ:=Sb.hide ((hb2.block _ (Nat.lt_of_lt_of_le (lt_of_block HR1.out) HB2.out.size)).trans ((HB2.out.block _ (lt_of_block HR1.out)).trans HR1.out))
 have HB3:=Sb.hide ((HB1.out.trans (HB2.out.mono HB1.out.size)).trans (hb2.mono (Nat.le_trans HB1.out.size HB2.out.size)))
 have l6:=Sb.hide fO
 clear hb2 fO c2 HA HB2 HM HR1 HB1 hT hN hR
 have z:=(bP HZ.out).1
 have zf:=(bP HZ.out).2
 go_wp2
 have hX:=uK (v0:=.slice ea R.ts.length ec) (v1:=.slice ba m.boxes.length bc) (v2:=.int .i64 R.steps) HZ.out
 have fD:=rU (v0:=.slice ea R.ts.length ec) (v1:=.slice ba m.boxes.length bc) (v2:=.int .i64 R.steps) HB3.out (b:=w.heap.size) (by simp)
 have nV:=C8 (v0:=.slice ea R.ts.length ec) (v1:=.slice ba m.boxes.length bc) (v2:=.int .i64 R.steps) HZ.out l6.out
 unfold jg at hX fD nV
 obtain ⟨g0,g1,g2⟩:=hX
 generalize ((w2.setCell ⟨w.heap.size,0,none⟩ (.slice ea R.ts.length ec)).setCell ⟨w.heap.size,1,none⟩ (.slice ba m.boxes.length bc)).setCell ⟨w.heap.size,2,none⟩ (.int .i64 R.steps)=W4 at *
 exact bodyPost_ret (v:=.tuple #[.agg #[.slice ea R.ts.length ec,.slice ba m.boxes.length bc,.int .i64 R.steps],.int .i64 0]) (by simp [results,Tryz.results6,go_sem,g0,g1,g2]) rfl ⟨_,_,_,_,ov,bv,rfl,fD,nV⟩
theorem adm {name:ByteArray}{m:Md}(hN:Hid (Br name m))(w:World)(hT:Hid (Xe.pg w))(R:Wd)(hR:Hid (R=(mW m [] 100).2)) :
  Calls Tryz.prog 4 #[.string name] w fun e w'=>Ep m R w e w':=by
 have wQ:∀ (fn:Fn) (first cap:Array Value) (w:World),(Instr.makeFunc fn first cap).run Tryz.prog w=.ok (.func fn first cap) w:=fun _ _ _ _=>rfl
 go_enter Tryz.func4,Tryz.ntmps4
 have HB:Hid (Below w.heap.size w (w.alloc kM)):=(Below.refl _ w).alloc (Nat.le_refl _) _
 have HR:Hid ((w.alloc kM).heap[w.heap.size]?=some kM):=heap_alloc_new w kM
 go_wp2_with fail
 refine (adk hN _ (Sb.hide (hT.out.below HB.out)) R hR).mono ?_
 rintro e w2 ⟨ea,ec,ba,bc,ov,bv,rfl,hb2,fO⟩
 have HZ:=Sb.hide ((hb2.block _ (lt_of_block HR.out)).trans HR.out)
 have HB3:=Sb.hide (HB.out.trans (hb2.mono HB.out.size))
 have l6:=Sb.hide fO
 clear hb2 fO HB HR hT hN hR
 have z:=(bP HZ.out).1
 have zf:=(bP HZ.out).2
 go_wp2
 have hX:=uK (v0:=.slice ea R.ts.length ec) (v1:=.slice ba m.boxes.length bc) (v2:=.int .i64 R.steps) HZ.out
 have fD:=rU (v0:=.slice ea R.ts.length ec) (v1:=.slice ba m.boxes.length bc) (v2:=.int .i64 R.steps) HB3.out (b:=w.heap.size) (by simp)
 have nV:=C8 (v0:=.slice ea R.ts.length ec) (v1:=.slice ba m.boxes.length bc) (v2:=.int .i64 R.steps) HZ.out l6.out
 unfold jg at hX fD nV
 obtain ⟨g0,g1,g2⟩:=hX
 generalize ((w2.setCell ⟨w.heap.size,0,none⟩ (.slice ea R.ts.length ec)).setCell ⟨w.heap.size,1,none⟩ (.slice ba m.boxes.length bc)).setCell ⟨w.heap.size,2,none⟩ (.int .i64 R.steps)=W4 at *
 exact bodyPost_ret (v:=.tuple #[.agg #[.slice ea R.ts.length ec,.slice ba m.boxes.length bc,.int .i64 R.steps],.int .i64 0]) (by simp [results,Tryz.results4,go_sem,g0,g1,g2]) rfl ⟨_,_,_,_,ov,bv,rfl,fD,nV⟩
end Go.Proofs.YtifnmgfaohdkpaaGreatDoor.Vw
