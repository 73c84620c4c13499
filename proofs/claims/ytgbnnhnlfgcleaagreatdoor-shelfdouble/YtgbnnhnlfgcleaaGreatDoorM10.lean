/- A module,read out of our memory. -/
import Derived.Test.YtgbnnhnlfgcleaaGreatDoorM6
import Derived.Test.YtgbnnhnlfgcleaaGreatDoorM9
import Derived.KernelRfl
set_option maxHeartbeats 400000
namespace Go.Proofs.YtgbnnhnlfgcleaaGreatDoor
open Go.RowKit
namespace Xe
noncomputable section
def in64 (i:Int):Bool:=leI (-9223372036854775808) i && leI i 9223372036854775807
def rdI (v:Value):Option Int:=vInt v none fun k i => guardB (Nat.beq (kno k) 3 && in64 i) (some i)
def rdRow (h:Hp) (z:Nat) (v:Value):Option (List Value):=vSl v none fun a n k => @Option.rec Addr (fun _ => Option (List Value)) (nB n (some []) fun _ => none) (fun a => nB n (some []) fun m => guardB (Nat.beq k z) (readN h a (Nat.mul (Nat.succ m) z))) a
def intsL:List Value → Option (List Int)
 | [] => some []
 | a :: l => oB (rdI a) fun x => oB (intsL l) fun r => some (x :: r)
def boxesL:List Value → Option (List Vf.Bx)
 | [] => some []
 | a :: b :: l => oB (rdI a) fun x => oB (rdI b) fun y => oB (boxesL l) fun r => some (⟨x,y⟩ :: r)
 | _ => none
def codeL:List Value → Option (List Vf.Ins)
 | [] => some []
 | a :: b :: c :: l => oB (rdI a) fun x => oB (rdI b) fun y => oB (rdI c) fun z => oB (codeL l) fun r => some (⟨x,y,z⟩ :: r)
 | _ => none
def unitsL (h:Hp):List Value → Option (List Vf.Un)
 | [] => some []
 | a :: b :: c :: d :: e :: f :: l => oB (rdI a) fun k => oB (rdI b) fun p => oB (oB (rdRow h 1 c) intsL) fun lo => oB (rdI d) fun r => oB (rdI e) fun t => oB (oB (rdRow h 3 f) codeL) fun co => oB (unitsL h l) fun us => some (⟨k,p,lo,r,t,co⟩ :: us)
 | _ => none
def rdMod (h:Hp) (v:Value):Option Vf.Md:=vAgg v none fun a => match aL a with
 | [b,u] => oB (oB (rdRow h 2 b) boxesL) fun bs => oB (oB (rdRow h 6 u) (unitsL h)) fun us => some ⟨bs,us⟩
 | _ => none
end
theorem rdI_some {v:Value} {i:Int} (h:rdI v = some i):v = .int .i64 i ∧ I64 i:=by
 unfold rdI at h
 obtain ⟨k,j,rfl,h0⟩:=vInt_some.1 h
 rw [guardB_some,Bool.and_eq_true] at h0
 obtain ⟨⟨h1,h2⟩,h3⟩:=h0
 cases h3
 have hk:k = .i64:=by cases k <;> first | rfl | (exact absurd h1 (by decide))
 subst hk
 unfold in64 at h2
 rw [Bool.and_eq_true,leI_eq,leI_eq] at h2
 exact ⟨rfl,by simpa using h2.1,by simpa using h2.2⟩
theorem V1_int {φ:Ph} {k:IntKind} {i:Int} {y:Value} (h:V1 φ (.int k i) y):y = .int k i:=by
 rcases h with h | ⟨_,_,_,_,_,h,_⟩
 ·exact h
 ·cases h
structure RowAt (φ:Ph) (w:World) (z:Nat) (l:List Value) (v':Value) (a:Option Addr) (n c:Nat):Prop where
 val:v' = .slice a n c
 le:n ≤ c
 len:l.length = n * z
 cell:∀ (j:Nat) x,l[j]? = some x → ∃ b off y,a = some ⟨b,off,none⟩ ∧ b < w.heap.size ∧ V1 φ x y ∧ w.cell? ⟨b,off + j,none⟩ = some y
theorem rdRow_at {φ:Ph} {h:Hp} {w:World} {z:Nat} {v v':Value} {l:List Value} (hr:rdRow h z v = some l) (hv:V1 φ v v') (r:Rel φ h w):∃ a n c,RowAt φ w z l v' a n c:=by
 unfold rdRow at hr
 obtain ⟨a,n,k,rfl,hr⟩:=vSl_some.1 hr
 have hv0:V0 φ (.slice a n k) v':=by
  rcases hv with h | ⟨_,_,_,_,_,h,_⟩
  ·exact h
  ·cases h
 cases a with
 | none =>
  obtain ⟨rfl,rfl⟩:n = 0 ∧ v' = .slice none 0 0:=hv0
  have hr':some [] = some l:=hr
  cases hr'
  exact ⟨none,0,0,rfl,Nat.le_refl _,by simp,fun j x hx => by simp at hx⟩
 | some a =>
  obtain ⟨a',c,rfl,hS⟩:∃ a' c,v' = .slice a' n c ∧ SR φ a n k a' c:=hv0
  cases n with
  | zero =>
   have hr':some [] = some l:=hr
   cases hr'
   exact ⟨a',0,c,rfl,Nat.zero_le _,by simp,fun j x hx => by simp at hx⟩
  | succ m =>
   have hr':guardB (Nat.beq k z) (readN h a (Nat.mul (Nat.succ m) z)) = some l:=hr
   rw [guardB_some,beq_dec] at hr'
   obtain ⟨hk,hr'⟩:=hr'
   have hk:k = z:=by simpa using hk
   subst hk
   rcases hS with ⟨_,h0⟩ | ⟨hsp,hle,g,hg,rfl,_⟩
   ·omega
   ·obtain ⟨l',hL,hlen,hcell⟩:=read_row hr' r ⟨hsp,g,hg,rfl⟩
    refine ⟨_,m + 1,c,rfl,hle,by rw [L.length hL,hlen]; rfl,fun j x hx => ?_⟩
    obtain ⟨y,hy,hV⟩:=L.at hL hx
    refine ⟨g.b,a.off,y,rfl,r.bnd _ _ hg,hV,?_⟩
    have:=hcell j y hy
    unfold Addr.add at this
    split at this
    ·rename_i hj; subst hj; exact this
    ·exact this
theorem intsL_at:∀ {l:List Value} {r:List Int},intsL l = some r → l.length = r.length ∧ ∀ (i:Nat) x,r[i]? = some x → l[i]? = some (.int .i64 x) ∧ I64 x
 | [],r,h => by
  have h':some [] = some r:=h
  cases h'
  exact ⟨rfl,fun i x hx => by simp at hx⟩
 | a :: l,r,h => by
  have h':(oB (rdI a) fun x => oB (intsL l) fun r => some (x :: r)) = some r:=h
  obtain ⟨x,hx,h'⟩:=oB_some.1 h'
  obtain ⟨r',hr,h'⟩:=oB_some.1 h'
  cases h'
  obtain ⟨rfl,h64⟩:=rdI_some hx
  obtain ⟨h1,h2⟩:=intsL_at hr
  refine ⟨by simp [h1],fun i y hy => ?_⟩
  cases i with
  | zero => simp at hy; subst hy; exact ⟨rfl,h64⟩
  | succ i => simp at hy; simpa using h2 i y hy
theorem boxesL_at:∀ {l:List Value} {r:List Vf.Bx},boxesL l = some r → l.length = r.length * 2 ∧ ∀ (i:Nat) x,r[i]? = some x → l[i * 2]? = some (.int .i64 x.ty) ∧ l[i * 2 + 1]? = some (.int .i64 x.cap) ∧ I64 x.ty ∧ I64 x.cap
 | [],r,h => by
  have h':some [] = some r:=h
  cases h'
  exact ⟨rfl,fun i x hx => by simp at hx⟩
 | [a],r,h => by
  have h':none = some r:=h
  cases h'
 | a :: b :: l,r,h => by
  have h':(oB (rdI a) fun x => oB (rdI b) fun y => oB (boxesL l) fun r => some ((⟨x,y⟩:Vf.Bx) :: r)) = some r:=h
  obtain ⟨x,hx,h'⟩:=oB_some.1 h'
  obtain ⟨y,hy,h'⟩:=oB_some.1 h'
  obtain ⟨r',hr,h'⟩:=oB_some.1 h'
  cases h'
  obtain ⟨rfl,hx64⟩:=rdI_some hx
  obtain ⟨rfl,hy64⟩:=rdI_some hy
  obtain ⟨h1,h2⟩:=boxesL_at hr
  refine ⟨by simp [h1]; omega,fun i u hu => ?_⟩
  cases i with
  | zero => simp at hu; subst hu; exact ⟨rfl,rfl,hx64,hy64⟩
  | succ i =>
   simp at hu
   have:=h2 i u hu
   rw [show (i + 1) * 2 = i * 2 + 2 by omega,show i * 2 + 2 + 1 = i * 2 + 1 + 2 by omega]
   simpa using this
theorem codeL_at:∀ {l:List Value} {r:List Vf.Ins},codeL l = some r → l.length = r.length * 3 ∧ ∀ (i:Nat) x,r[i]? = some x → l[i * 3]? = some (.int .i64 x.op) ∧ l[i * 3 + 1]? = some (.int .i64 x.a) ∧ l[i * 3 + 2]? = some (.int .i64 x.n) ∧ I64 x.op ∧ I64 x.a ∧ I64 x.n
 | [],r,h => by
  have h':some [] = some r:=h
  cases h'
  exact ⟨rfl,fun i x hx => by simp at hx⟩
 | [a],r,h => by
  have h':none = some r:=h
  cases h'
 | [a,b],r,h => by
  have h':none = some r:=h
  cases h'
 | a :: b :: c :: l,r,h => by
  have h':(oB (rdI a) fun x => oB (rdI b) fun y => oB (rdI c) fun z => oB (codeL l) fun r => some ((⟨x,y,z⟩:Vf.Ins) :: r)) = some r:=h
  obtain ⟨x,hx,h'⟩:=oB_some.1 h'
  obtain ⟨y,hy,h'⟩:=oB_some.1 h'
  obtain ⟨z,hz,h'⟩:=oB_some.1 h'
  obtain ⟨r',hr,h'⟩:=oB_some.1 h'
  cases h'
  obtain ⟨rfl,hx64⟩:=rdI_some hx
  obtain ⟨rfl,hy64⟩:=rdI_some hy
  obtain ⟨rfl,hz64⟩:=rdI_some hz
  obtain ⟨h1,h2⟩:=codeL_at hr
  refine ⟨by simp [h1]; omega,fun i u hu => ?_⟩
  cases i with
  | zero => simp at hu; subst hu; exact ⟨rfl,rfl,rfl,hx64,hy64,hz64⟩
  | succ i =>
   simp at hu
   have:=h2 i u hu
   rw [show (i + 1) * 3 = i * 3 + 3 by omega,show i * 3 + 3 + 1 = i * 3 + 1 + 3 by omega,show i * 3 + 3 + 2 = i * 3 + 2 + 3 by omega]
   simpa using this
structure UnAt (h:Hp) (l:List Value) (j:Nat) (u:Vf.Un):Prop where
 kind:l[j]? = some (.int .i64 u.kind) ∧ I64 u.kind
 params:l[j + 1]? = some (.int .i64 u.params) ∧ I64 u.params
 locals:∃ v r,l[j + 2]? = some v ∧ rdRow h 1 v = some r ∧ intsL r = some u.locals
 result:l[j + 3]? = some (.int .i64 u.result) ∧ I64 u.result
 takes:l[j + 4]? = some (.int .i64 u.takes) ∧ I64 u.takes
 code:∃ v r,l[j + 5]? = some v ∧ rdRow h 3 v = some r ∧ codeL r = some u.code
theorem six_at (a b c d e f:Value) (l:List Value) (i q:Nat):(a :: b :: c :: d :: e :: f :: l)[(i + 1) * 6 + q]? = l[i * 6 + q]?:=by
 rw [show (i + 1) * 6 + q = i * 6 + q + 6 by omega]
 rfl
theorem unitsL_at {h:Hp}:∀ {l:List Value} {r:List Vf.Un},unitsL h l = some r → l.length = r.length * 6 ∧ ∀ (i:Nat) u,r[i]? = some u → UnAt h l (i * 6) u
 | [],r,e => by
  have e':some [] = some r:=e
  cases e'
  exact ⟨rfl,fun i x hx => by simp at hx⟩
 | [_],r,e => by
  have e':none = some r:=e
  cases e'
 | [_,_],r,e => by
  have e':none = some r:=e
  cases e'
 | [_,_,_],r,e => by
  have e':none = some r:=e
  cases e'
 | [_,_,_,_],r,e => by
  have e':none = some r:=e
  cases e'
 | [_,_,_,_,_],r,e => by
  have e':none = some r:=e
  cases e'
 | a :: b :: c :: d :: e :: f :: l,r,h' => by
  have h':(oB (rdI a) fun k => oB (rdI b) fun p => oB (oB (rdRow h 1 c) intsL) fun lo => oB (rdI d) fun r => oB (rdI e) fun t => oB (oB (rdRow h 3 f) codeL) fun co => oB (unitsL h l) fun us => some ((⟨k,p,lo,r,t,co⟩:Vf.Un) :: us)) = some r:=h'
  obtain ⟨k,hk,h'⟩:=oB_some.1 h'
  obtain ⟨p,hp,h'⟩:=oB_some.1 h'
  obtain ⟨lo,hlo,h'⟩:=oB_some.1 h'
  obtain ⟨lor,hlor,hlo⟩:=oB_some.1 hlo
  obtain ⟨rs,hrs,h'⟩:=oB_some.1 h'
  obtain ⟨t,ht,h'⟩:=oB_some.1 h'
  obtain ⟨co,hco,h'⟩:=oB_some.1 h'
  obtain ⟨cor,hcor,hco⟩:=oB_some.1 hco
  obtain ⟨us,hus,h'⟩:=oB_some.1 h'
  cases h'
  obtain ⟨rfl,hk64⟩:=rdI_some hk
  obtain ⟨rfl,hp64⟩:=rdI_some hp
  obtain ⟨rfl,hr64⟩:=rdI_some hrs
  obtain ⟨rfl,ht64⟩:=rdI_some ht
  obtain ⟨h1,h2⟩:=unitsL_at hus
  refine ⟨by simp [h1]; omega,fun i u hu => ?_⟩
  cases i with
  | zero =>
   simp at hu; subst hu
   exact ⟨⟨rfl,hk64⟩,⟨rfl,hp64⟩,⟨c,lor,rfl,hlor,hlo⟩,⟨rfl,hr64⟩,⟨rfl,ht64⟩,⟨f,cor,rfl,hcor,hco⟩⟩
  | succ i =>
   simp at hu
   have:=h2 i u hu
   have e6:=six_at (.int .i64 k) (.int .i64 p) c (.int .i64 rs) (.int .i64 t) f l i
   exact ⟨⟨(e6 0).trans this.kind.1,this.kind.2⟩,⟨(e6 1).trans this.params.1,this.params.2⟩,this.locals.elim fun v h3 => h3.elim fun r h4 => ⟨v,r,(e6 2).trans h4.1,h4.2⟩,
    ⟨(e6 3).trans this.result.1,this.result.2⟩,⟨(e6 4).trans this.takes.1,this.takes.2⟩,this.code.elim fun v h3 => h3.elim fun r h4 => ⟨v,r,(e6 5).trans h4.1,h4.2⟩⟩
theorem RowAt.int {φ:Ph} {w:World} {z:Nat} {l:List Value} {v':Value} {a:Option Addr} {n c:Nat} (h:RowAt φ w z l v' a n c) {j:Nat} {x:Int} (hx:l[j]? = some (.int .i64 x)) :
  ∃ b off,a = some ⟨b,off,none⟩ ∧ b < w.heap.size ∧ w.cell? ⟨b,off + j,none⟩ = some (.int .i64 x):=by
 obtain ⟨b,off,y,h1,h2,h3,h4⟩:=h.cell j _ hx
 have:=V1_int h3
 subst this
 exact ⟨b,off,h1,h2,h4⟩
theorem rdMod_at {φ:Ph} {h:Hp} {w:World} {v v':Value} {m:Vf.Md} (hm:rdMod h v = some m) (hv:VA φ v v') (r:Rel φ h w) (hf:m.boxes.length ≤ 1000000 ∧ m.units.length ≤ 1000000 ∧ ∀ u ∈ m.units,u.locals.length ≤ 1000000 ∧ u.code.length ≤ 1000000) :
  ∃ ab au cb cu,v' = .agg #[.slice ab m.boxes.length cb,.slice au m.units.length cu] ∧ ModIn w.heap.size w m ab au:=by
 unfold rdMod at hm
 obtain ⟨a,rfl,hm2⟩:=vAgg_some.1 hm
 clear hm
 obtain ⟨c',rfl,hL⟩:∃ c',v' = .agg c' ∧ L (V1 φ) a.toList c'.toList:=by
  rcases hv with (h | ⟨_,_,_,_,_,h,_⟩) | ⟨c,c',h1,h2,h3⟩
  ·exact h.elim
  ·cases h
  ·cases h1; exact ⟨c',h2,h3⟩
 rw [aL_eq] at hm2
 split at hm2
 ·rename_i b u hbu
  rw [hbu] at hL
  obtain ⟨bs,hbs,hm⟩:=oB_some.1 hm2
  obtain ⟨rb,hrb,hbs⟩:=oB_some.1 hbs
  obtain ⟨us,hus,hm⟩:=oB_some.1 hm
  obtain ⟨ru,hru,hus⟩:=oB_some.1 hus
  cases hm
  cases c' with
  | mk cl =>
  cases cl with
  | nil => exact hL.elim
  | cons b' cl =>
  cases cl with
  | nil => exact hL.2.elim
  | cons u' cl =>
  cases cl with
  | cons _ _ => exact hL.2.2.elim
  | nil =>
  obtain ⟨ab,nb,cb,RB⟩:=rdRow_at hrb hL.1 r
  obtain ⟨au,nu,cu,RU⟩:=rdRow_at hru hL.2.1 r
  obtain ⟨lb,hb⟩:=boxesL_at hbs
  obtain ⟨lu,hu⟩:=unitsL_at hus
  have enb:nb = bs.length:=by have:=RB.len; omega
  have enu:nu = us.length:=by have:=RU.len; omega
  subst enb; subst enu
  refine ⟨ab,au,cb,cu,by rw [RB.val,RU.val],⟨by omega,by omega⟩,?_,?_⟩
  ·intro i x hx
   obtain ⟨h1,h2,h3,h4⟩:=hb i x hx
   obtain ⟨b,off,rfl,hlt,hc1⟩:=RB.int h1
   obtain ⟨b2,off2,he,_,hc2⟩:=RB.int h2
   cases he
   exact ⟨h3,h4,b,off,rfl,hlt,hc1,by rw [Nat.add_assoc]; exact hc2⟩
  ·intro i x hx
   have hU:=hu i x hx
   have hsz:=hf.2.2 x (List.mem_of_getElem? hx)
   obtain ⟨b,off,rfl,hlt,hc1⟩:=RU.int hU.kind.1
   obtain ⟨b2,off2,he,_,hc2⟩:=RU.int hU.params.1
   cases he
   obtain ⟨b3,off3,he,_,hc3⟩:=RU.int hU.result.1
   cases he
   obtain ⟨b4,off4,he,_,hc4⟩:=RU.int hU.takes.1
   cases he
   obtain ⟨vl,rl,hvl,hrl,hil⟩:=hU.locals
   obtain ⟨vc,rc,hvc,hrc,hic⟩:=hU.code
   obtain ⟨b5,off5,yl,he,_,hVl,hc5⟩:=RU.cell _ _ hvl
   cases he
   obtain ⟨b6,off6,yc,he,_,hVc,hc6⟩:=RU.cell _ _ hvc
   cases he
   obtain ⟨al,nl,cl,RL⟩:=rdRow_at hrl hVl r
   obtain ⟨ac,nc,cc,RC⟩:=rdRow_at hrc hVc r
   obtain ⟨ll,hl⟩:=intsL_at hil
   obtain ⟨lc,hc⟩:=codeL_at hic
   have enl:nl = x.locals.length:=by have:=RL.len; omega
   have enc:nc = x.code.length:=by have:=RC.len; omega
   subst enl; subst enc
   refine ⟨b,off,al,cl,ac,cc,rfl,hlt,⟨⟨hU.kind.2,hU.params.2,hU.result.2,hU.takes.2⟩,⟨by omega,by omega⟩,⟨RL.le,RC.le⟩,?_,?_⟩,hc1,by rw [Nat.add_assoc]; exact hc2,by rw [Nat.add_assoc,hc5,RL.val],by rw [Nat.add_assoc]; exact hc3,by rw [Nat.add_assoc]; exact hc4,by rw [Nat.add_assoc,hc6,RC.val]⟩
   ·intro j y hy
    obtain ⟨h1,h2⟩:=hl j y hy
    obtain ⟨b,off,rfl,hlt,hcc⟩:=RL.int h1
    exact ⟨h2,b,off,rfl,hlt,hcc⟩
   ·intro j y hy
    obtain ⟨h1,h2,h3,h4,h5,h6⟩:=hc j y hy
    obtain ⟨b,off,rfl,hlt,hcc1⟩:=RC.int h1
    obtain ⟨b2,off2,he,_,hcc2⟩:=RC.int h2
    cases he
    obtain ⟨b3,off3,he,_,hcc3⟩:=RC.int h3
    cases he
    exact ⟨h4,h5,h6,b,off,rfl,hlt,hcc1,by rw [Nat.add_assoc]; exact hcc2,by rw [Nat.add_assoc]; exact hcc3⟩
 ·cases hm2
end Xe
namespace Xe
noncomputable section
def sv (l:List UInt8):Value:=.string ⟨⟨l⟩⟩
def iv (n:Int):Value:=.int .i64 n
def pairL:List Value:=[iv 18,sv [111,114],iv 1,iv 17,sv [97,110,100],iv 2,iv 11,sv [61,61],iv 3,iv 12,sv [33,61],iv 3,iv 13,sv [60],iv 3,iv 14,sv [60,61],iv 3,iv 15,sv [62],iv 3,iv 16,sv [62,61],iv 3,iv 6,sv [43],iv 4,iv 7,sv [45],iv 4,iv 8,sv [42],iv 5,iv 9,sv [47],iv 5,iv 10,sv [37],iv 5]
def truthL:List Value:=[iv 2,sv []]
def numL:List Value:=[iv 1,sv []]
def h0:Hp:=fun x => bB (Nat.beq x 0) (some (.cells ⟨pairL⟩ 0)) (bB (Nat.beq x 1) (some (.cells ⟨truthL⟩ 0)) (bB (Nat.beq x 2) (some (.cells ⟨numL⟩ 0)) none))
def s0:S:=⟨10,h0,[]⟩
def fn:Cl:=func Tryz.prog (special 206 45 216) 60 false
def ans (r:Option (Value × S)):Option Vf.Md:=oB r fun p => pB p fun v s => vTup v none fun a => match aL a with
 | [m,e] => oB (rdI e) fun i => iB i (fun n => nB n (rdMod s.h m) fun _ => none) fun _ => none
 | _ => none
end
structure Tabs (w:World):Prop where
 pairs:∃ e fr,w.heap[0]? = some (.cells ⟨pairL⟩ e fr)
 truth:∃ e fr,w.heap[1]? = some (.cells ⟨truthL⟩ e fr)
 num:∃ e fr,w.heap[2]? = some (.cells ⟨numL⟩ e fr)
theorem Tabs.below {w w':World} (h:Tabs w) (hb:Below w.heap.size w w'):Tabs w':=by
 obtain ⟨⟨e0,f0,h0⟩,⟨e1,f1,h1⟩,⟨e2,f2,h2⟩⟩:=h
 have l:∀ {b:Nat} {o:Obj},w.heap[b]? = some o → w'.heap[b]? = some o:=fun {b o} h => (hb.block b (Array.getElem?_eq_some_iff.1 h).1).trans h
 exact ⟨⟨e0,f0,l h0⟩,⟨e1,f1,l h1⟩,⟨e2,f2,l h2⟩⟩
def ph0:Ph:=fun x => if x = 0 then some ⟨0,39⟩ else if x = 1 then some ⟨1,2⟩ else if x = 2 then some ⟨2,2⟩ else none
theorem h0_some {x:Nat} {o:Obj} (h:h0 x = some o):(x = 0 ∧ o = .cells ⟨pairL⟩ 0) ∨ (x = 1 ∧ o = .cells ⟨truthL⟩ 0) ∨ (x = 2 ∧ o = .cells ⟨numL⟩ 0):=by
 unfold h0 at h
 rw [bB_ite,bB_ite,bB_ite,beq_dec,beq_dec,beq_dec] at h
 split at h
 ·rename_i e; cases h; exact .inl ⟨by simpa using e,rfl⟩
 ·split at h
  ·rename_i e; cases h; exact .inr (.inl ⟨by simpa using e,rfl⟩)
  ·split at h
   ·rename_i e; cases h; exact .inr (.inr ⟨by simpa using e,rfl⟩)
   ·cases h
theorem L_V1 (φ:Ph):∀ (l:List Value),(∀ v ∈ l,(∃ n,v = iv n) ∨ ∃ b,v = sv b) → L (V1 φ) l l:=fun l h => L.refl l fun v hv => by
 rcases h v hv with ⟨n,rfl⟩ | ⟨b,rfl⟩ <;> exact .inl rfl
theorem stt0 {w:World} (h:Tabs w):Stt ph0 s0 w:=by
 obtain ⟨⟨e0,f0,q0⟩,⟨e1,f1,q1⟩,⟨e2,f2,q2⟩⟩:=h
 have b0:=(Array.getElem?_eq_some_iff.1 q0).1
 have b1:=(Array.getElem?_eq_some_iff.1 q1).1
 have b2:=(Array.getElem?_eq_some_iff.1 q2).1
 have hk:∀ l:List Value,(l = pairL ∨ l = truthL ∨ l = numL) → ∀ v ∈ l,(∃ n,v = iv n) ∨ ∃ b,v = sv b:=by
  intro l hl v hv
  rcases hl with rfl | rfl | rfl
  ·simp only [pairL,List.mem_cons,List.not_mem_nil,or_false] at hv
   rcases hv with h | h | h | h | h | h | h | h | h | h | h | h | h | h | h | h | h | h | h | h | h | h | h | h | h | h | h | h | h | h | h | h | h | h | h | h | h | h | h <;> first | exact .inl ⟨_,h⟩ | exact .inr ⟨_,h⟩
  ·simp only [truthL,List.mem_cons,List.not_mem_nil,or_false] at hv
   rcases hv with h | h <;> first | exact .inl ⟨_,h⟩ | exact .inr ⟨_,h⟩
  ·simp only [numL,List.mem_cons,List.not_mem_nil,or_false] at hv
   rcases hv with h | h <;> first | exact .inl ⟨_,h⟩ | exact .inr ⟨_,h⟩
 refine ⟨⟨?_,?_,?_,?_⟩,?_⟩
 ·intro x o hx
  rcases h0_some hx with ⟨rfl,rfl⟩ | ⟨rfl,rfl⟩ | ⟨rfl,rfl⟩
  ·exact ⟨⟨0,39⟩,⟨pairL⟩,e0,f0,rfl,q0,rfl,fun h => absurd h (by omega),Nat.le_refl _,L_V1 _ _ (hk _ (.inl rfl))⟩
  ·exact ⟨⟨1,2⟩,⟨truthL⟩,e1,f1,rfl,q1,rfl,fun h => absurd h (by omega),Nat.le_refl _,L_V1 _ _ (hk _ (.inr (.inl rfl)))⟩
  ·exact ⟨⟨2,2⟩,⟨numL⟩,e2,f2,rfl,q2,rfl,fun h => absurd h (by omega),Nat.le_refl _,L_V1 _ _ (hk _ (.inr (.inr rfl)))⟩
 ·rintro x y g g' ⟨o,hx,_⟩ ⟨o',hy,_⟩ h1 h2 e
  rcases h0_some hx with ⟨rfl,_⟩ | ⟨rfl,_⟩ | ⟨rfl,_⟩ <;> rcases h0_some hy with ⟨rfl,_⟩ | ⟨rfl,_⟩ | ⟨rfl,_⟩ <;> first | rfl | (cases h1; cases h2; cases e)
 ·intro x g hx
  unfold ph0 at hx
  split at hx
  ·cases hx; exact b0
  ·split at hx
   ·cases hx; exact b1
   ·split at hx
    ·cases hx; exact b2
    ·cases hx
 ·intro x hx
  have:x = 0 ∨ x = 1 ∨ x = 2:=by omega
  rcases this with rfl | rfl | rfl
  ·exact ⟨39,rfl⟩
  ·exact ⟨2,rfl⟩
  ·exact ⟨2,rfl⟩
 ·intro x hx
  have hx':10 ≤ x:=hx
  unfold ph0
  rw [if_neg (by omega),if_neg (by omega),if_neg (by omega)]
theorem fn_ok:CallOk Tryz.prog fn:=(func_ok names_ok sp_ok (fun call hC => draw_ok names_ok (by kernel_rfl) call hC) 60).1
theorem module_any {name:ByteArray} {m:Vf.Md} (h:ans (fn 16 [.string name] s0) = some m) (hf:m.boxes.length ≤ 1000000 ∧ m.units.length ≤ 1000000 ∧ ∀ u ∈ m.units,u.locals.length ≤ 1000000 ∧ u.code.length ≤ 1000000) (w:World) (hT:Tabs w) :
  Calls Tryz.prog 16 #[.string name] w fun e w' => Below w.heap.size w w' ∧ ∃ ab au cb cu,e = .returned (.tuple #[.agg #[.slice ab m.boxes.length cb,.slice au m.units.length cu],.int .i64 0]) ∧ ModIn w'.heap.size w' m ab au:=by
 unfold ans at h
 obtain ⟨⟨v,s'⟩,hr,h⟩:=oB_some.1 h
 rw [pB_mk] at h
 obtain ⟨a,rfl,h2⟩:=vTup_some.1 h
 clear h
 rw [aL_eq] at h2
 split at h2
 ·rename_i mv ev hme
  obtain ⟨i,hi,h3⟩:=oB_some.1 h2
  clear h2
  obtain ⟨rfl,_⟩:=rdI_some hi
  have hz:i = 0 ∧ rdMod s'.h mv = some m:=by
   cases i with
   | ofNat n =>
    cases n with
    | zero => exact ⟨rfl,h3⟩
    | succ n => cases h3
   | negSucc n => cases h3
  obtain ⟨rfl,hrd⟩:=hz
  obtain ⟨_,_,hcall⟩:=fn_ok _ _ _ _ _ hr
  refine (hcall ph0 w #[.string name] ⟨.of0 rfl,trivial⟩ (stt0 hT)).mono ?_
  rintro e w' ⟨φ',v',rfl,hV,hP⟩
  refine ⟨⟨hP.ext.out.1,hP.ext.out.2.1,hP.ext.out.2.2,hP.ext.size,fun k hk => hP.ext.kept k hk ?_⟩,?_⟩
  ·rintro x g h3 ⟨o,hx,_⟩ _
   rcases h0_some hx with ⟨rfl,_⟩ | ⟨rfl,_⟩ | ⟨rfl,_⟩ <;> omega
  ·obtain ⟨c',rfl,hL⟩:∃ c',v' = .tuple c' ∧ L (VA φ') a.toList c'.toList:=by
    rcases hV with ((h | ⟨_,_,_,_,_,h,_⟩) | ⟨_,_,h,_⟩) | ⟨c,c',h1,h2,h3⟩
    ·exact h.elim
    ·cases h
    ·cases h
    ·cases h1; exact ⟨c',h2,h3⟩
   rw [hme] at hL
   cases c' with
   | mk cl =>
   cases cl with
   | nil => exact hL.elim
   | cons x cl =>
   cases cl with
   | nil => exact hL.2.elim
   | cons y cl =>
   cases cl with
   | cons _ _ => exact hL.2.2.elim
   | nil =>
   have hy:y = .int .i64 0:=by
    rcases hL.2.1 with h | ⟨_,_,h,_⟩
    ·exact V1_int h
    ·cases h
   obtain ⟨ab,au,cb,cu,hx,hM⟩:=rdMod_at hrd hL.1 hP.stt.rel hf
   exact ⟨ab,au,cb,cu,by rw [hx,hy],hM⟩
 ·cases h2
end Xe
def SkIn (w:World):Option Addr → List Int → Prop
 | a,[] => a = none
 | a,t :: r => ∃ b below,a = some ⟨b,0,none⟩ ∧ w.heap[b]? = some (.cells #[.int .i64 t,.pointer below] 286 (0,0)) ∧ SkIn w below r
theorem SkIn.keep {w w':World}:∀ {st:List Int} {a:Option Addr},SkIn w a st → (∀ (b:Nat) (cs:Array Value),w.heap[b]? = some (Obj.cells cs 286 (0,0)) → w'.heap[b]? = some (Obj.cells cs 286 (0,0))) → SkIn w' a st
 | [],_,h,_ => h
 | _ :: _,_,⟨b,below,e,hb,hr⟩,hk => ⟨b,below,e,hk _ _ hb,hr.keep hk⟩
structure FC where
 m:Vf.Md
 u:Vf.Un
 ab:Option Addr
 au:Option Addr
 al:Option Addr
 ac:Option Addr
 cb:Nat
 cu:Nat
 cl:Nat
 cc:Nat
 M:Nat
abbrev bvV (x:BitVec 64):Value:=.int .u64 (x.toNat:Int)
abbrev flO (c:FC) (top:Option Addr) (st:List Int) (f:Vf.Fl) (n:Int) (row:Value):Obj :=
 .cells #[.slice c.ab c.m.boxes.length c.cb,.slice c.au c.m.units.length c.cu,.int .i64 c.u.kind,.int .i64 c.u.params,.slice c.al c.u.locals.length c.cl,.int .i64 c.u.result,.int .i64 c.u.takes,.slice c.ac c.u.code.length c.cc,.pointer top,.int .i64 (st.length:Int),bvV f.a,bvV f.b,bvV f.c,bvV f.d,.int .i64 n,row,.map (some c.M)] 139 (0,0)
structure FlIn (c:FC) (w:World) (F:Nat) (top:Option Addr) (st:List Int) (f:Vf.Fl) (n:Int) (row:Value):Prop where
 blk:w.heap[F]? = some (flO c top st f n row)
 sk:SkIn w top st
theorem fl_cells {c:FC} {w:World} {F:Nat} {top:Option Addr} {st:List Int} {f:Vf.Fl} {n:Int} {row:Value} (h:w.heap[F]? = some (flO c top st f n row)) :
  w.cell? ⟨F,0,none⟩ = some (.slice c.ab c.m.boxes.length c.cb) ∧ w.cell? ⟨F,1,none⟩ = some (.slice c.au c.m.units.length c.cu) ∧ w.cell? ⟨F,2,none⟩ = some (.int .i64 c.u.kind) ∧ w.cell? ⟨F,3,none⟩ = some (.int .i64 c.u.params) ∧ w.cell? ⟨F,4,none⟩ = some (.slice c.al c.u.locals.length c.cl) ∧ w.cell? ⟨F,5,none⟩ = some (.int .i64 c.u.result) ∧ w.cell? ⟨F,6,none⟩ = some (.int .i64 c.u.takes) ∧ w.cell? ⟨F,7,none⟩ = some (.slice c.ac c.u.code.length c.cc):=by
 simp [World.cell?,h]
theorem fl_cells2 {c:FC} {w:World} {F:Nat} {top:Option Addr} {st:List Int} {f:Vf.Fl} {n:Int} {row:Value} (h:w.heap[F]? = some (flO c top st f n row)) :
  w.cell? ⟨F,8,none⟩ = some (.pointer top) ∧ w.cell? ⟨F,9,none⟩ = some (.int .i64 (st.length:Int)) ∧ w.frozen? ⟨F,8,none⟩ = false ∧ w.frozen? ⟨F,9,none⟩ = false:=by
 simp [World.cell?,World.frozen?,h]
theorem fl_cells3 {c:FC} {w:World} {F:Nat} {top:Option Addr} {st:List Int} {f:Vf.Fl} {n:Int} {row:Value} (h:w.heap[F]? = some (flO c top st f n row)) :
  w.cell? ⟨F,10,none⟩ = some (bvV f.a) ∧ w.cell? ⟨F,11,none⟩ = some (bvV f.b) ∧ w.cell? ⟨F,12,none⟩ = some (bvV f.c) ∧ w.cell? ⟨F,13,none⟩ = some (bvV f.d) ∧ w.frozen? ⟨F,10,none⟩ = false ∧ w.frozen? ⟨F,11,none⟩ = false ∧ w.frozen? ⟨F,12,none⟩ = false ∧ w.frozen? ⟨F,13,none⟩ = false:=by
 simp [World.cell?,World.frozen?,h]
theorem fl_cells4 {c:FC} {w:World} {F:Nat} {top:Option Addr} {st:List Int} {f:Vf.Fl} {n:Int} {row:Value} (h:w.heap[F]? = some (flO c top st f n row)) :
  w.cell? ⟨F,14,none⟩ = some (.int .i64 n) ∧ w.cell? ⟨F,15,none⟩ = some row ∧ w.cell? ⟨F,16,none⟩ = some (.map (some c.M)) ∧ w.frozen? ⟨F,14,none⟩ = false ∧ w.frozen? ⟨F,15,none⟩ = false:=by
 simp [World.cell?,World.frozen?,h]
theorem grown_refl (w:World) (F:Nat):w.grownBy w (some F):=World.grownBy.refl _ _
theorem grown_tr {w w1 w2:World} {F:Nat} (h:w.grownBy w1 (some F)) (h2:w1.grownBy w2 (some F)):w.grownBy w2 (some F) :=
 ⟨h2.os.trans h.os,h2.tape.trans h.tape,h2.output.trans h.output,Nat.le_trans h.size h2.size,fun k hk hne => (h2.block k (by have:=h.size; omega) hne).trans (h.block k hk hne)⟩
theorem grown_drew {w w':World} {F:Option Nat} (h:w.drew.grownBy w' F):w.grownBy w' F:=⟨h.os,h.tape,h.output,h.size,h.block⟩
theorem grown_alloc {w w':World} {F:Nat} (h:w.grownBy w' (some F)) (o:Obj):w.grownBy (w'.alloc o) (some F) :=
 ⟨h.os,h.tape,h.output,by have:=h.size; simp; omega,fun k hk hne => (Below.heap_alloc _ _ _ (by have:=h.size; omega)).trans (h.block k hk hne)⟩
theorem SkIn.grown {c:FC} {w w':World} {F:Nat} {a top:Option Addr} {st st':List Int} {f:Vf.Fl} {n:Int} {row:Value} (h:SkIn w a st) (hg:w.grownBy w' (some F)) (hF:w.heap[F]? = some (flO c top st' f n row)):SkIn w' a st :=
 h.keep fun b cs hb => (hg.block b (lt_of_block hb) (fun e => by
  simp at e
  subst e
  rw [hF] at hb
  simp at hb)).trans hb
theorem throw_any (num er:Int) (w:World) :
  Calls Tryz.prog 93 #[.int .i64 er,.int .i64 num] w fun e w' => e = .panicked [fltE er num] ∧ w' = w:=by
 go_enter Tryz.func93,Tryz.ntmps93
 go_wp2
 exact ⟨rfl,rfl,rfl⟩
def MustE (b:Bool) (er n:Int) (e:Ending):Prop:=e = if b = true then .returned (.tuple #[]) else .panicked [fltE er n]
theorem must_any (F:Nat) (b:Bool) (er n:Int) (w:World) (hc:w.cell? ⟨F,14,none⟩ = some (.int .i64 n)) :
  Calls Tryz.prog 142 #[.pointer (some ⟨F,0,none⟩),.bool b,.int .i64 er] w fun e w' => MustE b er n e ∧ w' = w:=by
 cases b
 ·go_enter Tryz.func142,Tryz.ntmps142
  go_wp2_with fail
  refine (throw_any n er _).mono ?_
  rintro e w1 ⟨rfl,rfl⟩
  go_wp2
  exact ⟨rfl,rfl,rfl⟩
 ·go_enter Tryz.func142,Tryz.ntmps142
  go_wp2
  go_end0
  exact ⟨rfl,rfl⟩
end Go.Proofs.YtgbnnhnlfgcleaaGreatDoor
