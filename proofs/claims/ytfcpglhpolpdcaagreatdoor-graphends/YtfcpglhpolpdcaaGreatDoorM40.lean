/- How our memory lies in Go's. -/
import Derived.Test.YtfcpglhpolpdcaaGreatDoorM39
import Derived.Laws.Cells
import Derived.Laws.CopyRow
import Derived.Laws.Strings
namespace Go.Proofs.YtfcpglhpolpdcaaGreatDoor
namespace Xe
structure Gh where
 b:Nat
 n:Nat
abbrev Ph:=Nat→Option Gh
def Sub (φ φ':Ph):Prop:=∀ x g,φ x=some g→φ' x=some g
theorem Sub.refl (φ:Ph):Sub φ φ:=fun _ _ h=>h
theorem Sub.trans {φ φ' ψ:Ph}(h:Sub φ φ')(h':Sub φ' ψ):Sub φ ψ:=fun x g hx=>h' x g (h x g hx)
def L {α β:Type}(R:α→β→Prop):List α→List β→Prop
 | [],[]=>True
 | a :: l,b :: m=>R a b∧L R l m
 | _,_=>False
theorem L.mono {α β:Type}{R R':α→β→Prop}(hR:∀ a b,R a b→R' a b):∀ {l:List α} {m:List β},L R l m→L R' l m
 | [],[],_=>trivial
 | _ :: _,_ :: _,h=>⟨hR _ _ h.1,L.mono hR h.2⟩
 | [],_ :: _,h=>h.elim
 | _ :: _,[],h=>h.elim
theorem L.length {α β:Type}{R:α→β→Prop}:∀ {l:List α} {m:List β},L R l m→l.length=m.length
 | [],[],_=>rfl
 | _ :: _,_ :: _,h=>by simp[L.length h.2]
 | [],_ :: _,h=>h.elim
 | _ :: _,[],h=>h.elim
theorem L.app {α β:Type}{R:α→β→Prop}:∀ {l:List α} {m:List β} {l':List α} {m':List β},L R l m→L R l' m'→L R (l++l') (m++m')
 | [],[],_,_,_,h'=>h'
 | _ :: _,_ :: _,_,_,h,h'=>⟨h.1,L.app h.2 h'⟩
 | [],_ :: _,_,_,h,_=>h.elim
 | _ :: _,[],_,_,h,_=>h.elim
theorem L.at {α β:Type}{R:α→β→Prop}:∀ {l:List α} {m:List β},L R l m→∀ {i:Nat} {x:α},l[i]?=some x→∃ y,m[i]?=some y∧R x y
 | [],[],_,i,x,h=>by simp at h
 | _ :: _,_ :: _,h,0,x,hx=>by simp at hx;subst hx;exact⟨_,rfl,h.1⟩
 | _ :: _,_ :: _,h,i+1,x,hx=>by simp at hx;simpa using L.at h.2 hx
 | [],_ :: _,h,_,_,_=>h.elim
 | _ :: _,[],h,_,_,_=>h.elim
theorem L.set {α β:Type}{R:α→β→Prop}:∀ {l:List α} {m:List β},L R l m→∀ (i:Nat) {x:α} {y:β},R x y→L R (l.set i x) (m.set i y)
 | [],[],_,_,_,_,_=>trivial
 | _ :: _,_ :: _,h,0,_,_,r=>⟨r,h.2⟩
 | _ :: _,_ :: _,h,i+1,_,_,r=>⟨h.1,L.set h.2 i r⟩
 | [],_ :: _,h,_,_,_,_=>h.elim
 | _ :: _,[],h,_,_,_,_=>h.elim
theorem L.erase {α β:Type}{R:α→β→Prop}:∀ {l:List α} {m:List β},L R l m→∀ (i:Nat),L R (l.eraseIdx i) (m.eraseIdx i)
 | [],[],_,_=>by simp[L]
 | _ :: _,_ :: _,h,0=>h.2
 | _ :: _,_ :: _,h,i+1=>⟨h.1,L.erase h.2 i⟩
 | [],_ :: _,h,_=>h.elim
 | _ :: _,[],h,_=>h.elim
theorem L.take {α β:Type}{R:α→β→Prop}:∀ {l:List α} {m:List β},L R l m→∀ (i:Nat),L R (l.take i) (m.take i)
 | [],[],_,_=>by simp[L]
 | _ :: _,_ :: _,_,0=>trivial
 | _ :: _,_ :: _,h,i+1=>⟨h.1,L.take h.2 i⟩
 | [],_ :: _,h,_=>h.elim
 | _ :: _,[],h,_=>h.elim
theorem L.drop {α β:Type}{R:α→β→Prop}:∀ {l:List α} {m:List β},L R l m→∀ (i:Nat),L R (l.drop i) (m.drop i)
 | [],[],_,_=>by simp[L]
 | _ :: _,_ :: _,h,0=>h
 | _ :: _,_ :: _,h,i+1=>L.drop h.2 i
 | [],_ :: _,h,_=>h.elim
 | _ :: _,[],h,_=>h.elim
theorem L.refl {α:Type}{R:α→α→Prop}:∀ (l:List α),(∀ x ∈ l,R x x)→L R l l
 | [],_=>trivial
 | a :: l,h=>⟨h a (by simp),L.refl l fun x hx=>h x (by simp[hx])⟩
def AR (φ:Ph)(a a':Addr):Prop:=a.spot=none∧∃ g,φ a.block=some g∧a'=⟨g.b,a.off,none⟩
def SR (φ:Ph)(a:Addr)(n z:Nat)(a':Option Addr)(c:Nat):Prop :=
 (a.spot≠none∧n=0)∨(a.spot=none∧n≤c∧∃ g,φ a.block=some g∧a'=some ⟨g.b,a.off,none⟩∧a.off+c * z≤g.n)
def V0 (φ:Ph)(v v':Value):Prop:=match v with
 | .bool b=>v'=.bool b
 | .int k n=>v'=.int k n
 | .string s=>v'=.string s
 | .pointer none=>v'=.pointer none
 | .pointer (some a)=>∃ a',v'=.pointer (some a')∧AR φ a a'
 | .slice none n _=>n=0∧v'=.slice none 0 0
 | .slice (some a) n z=>∃ a' c,v'=.slice a' n c∧SR φ a n z a' c
 | .map none=>v'=.map none
 | .map (some r)=>∃ g,φ r=some g∧v'=.map (some g.b)
 | .nilFunc=>v'=.nilFunc
 | _=>False
def V1 (φ:Ph)(v v':Value):Prop:=V0 φ v v'∨∃ fn f c f' c',v=.func fn f c∧v'=.func fn f' c'∧L (V0 φ) f.toList f'.toList∧L (V0 φ) c.toList c'.toList
def VA (φ:Ph)(v v':Value):Prop:=V1 φ v v'∨∃ c c',v=.agg c∧v'=.agg c'∧L (V1 φ) c.toList c'.toList
def V (φ:Ph)(v v':Value):Prop:=VA φ v v'∨∃ c c',v=.tuple c∧v'=.tuple c'∧L (VA φ) c.toList c'.toList
theorem AR.mono {φ φ':Ph}(h:Sub φ φ'){a a':Addr}(r:AR φ a a'):AR φ' a a':=⟨r.1,r.2.elim fun g hg=>⟨g,h _ _ hg.1,hg.2⟩⟩
theorem SR.mono {φ φ':Ph}(h:Sub φ φ'){a:Addr}{n z:Nat}{a':Option Addr}{c:Nat}(r:SR φ a n z a' c):SR φ' a n z a' c :=
 r.imp id fun⟨h0,h1,g,hg,h2⟩=>⟨h0,h1,g,h _ _ hg,h2⟩
theorem V0.mono {φ φ':Ph}(h:Sub φ φ'){v v':Value}(r:V0 φ v v'):V0 φ' v v':=by
 unfold V0 at *;split at r;case h_5=>obtain⟨a',h1,h2⟩:=r;exact⟨a',h1,h2.mono h⟩
 case h_7=>obtain⟨a',c,h1,h2⟩:=r;exact⟨a',c,h1,h2.mono h⟩
 case h_9=>obtain⟨g,h1,h2⟩:=r;exact⟨g,h _ _ h1,h2⟩
 case h_11=>exact r.elim
 all_goals exact r
theorem V1.mono {φ φ':Ph}(h:Sub φ φ'){v v':Value}(r:V1 φ v v'):V1 φ' v v' :=
 r.imp (V0.mono h) fun⟨fn,f,c,f',c',h1,h2,h3,h4⟩=>⟨fn,f,c,f',c',h1,h2,h3.mono fun _ _=>V0.mono h,h4.mono fun _ _=>V0.mono h⟩
theorem VA.mono {φ φ':Ph}(h:Sub φ φ'){v v':Value}(r:VA φ v v'):VA φ' v v' :=
 r.imp (V1.mono h) fun⟨c,c',h1,h2,h3⟩=>⟨c,c',h1,h2,h3.mono fun _ _=>V1.mono h⟩
theorem V.mono {φ φ':Ph}(h:Sub φ φ'){v v':Value}(r:V φ v v'):V φ' v v' :=
 r.imp (VA.mono h) fun⟨c,c',h1,h2,h3⟩=>⟨c,c',h1,h2,h3.mono fun _ _=>VA.mono h⟩
theorem V.dX {φ:Ph}{v v':Value}(r:V0 φ v v'):V φ v v':=.inl (.inl (.inl r))
theorem V.undef (φ:Ph):V φ undef undef:=.inr ⟨#[],#[],rfl,rfl,trivial⟩
def ER (φ:Ph)(e e':MapEntry):Prop:=V0 φ e.key e'.key∧VA φ e.val e'.val∧e'.born=e.born
theorem ER.mono {φ φ':Ph}(h:Sub φ φ'){e e':MapEntry}(r:ER φ e e'):ER φ' e e':=⟨r.1.mono h,r.2.1.mono h,r.2.2⟩
def OR (φ:Ph)(w:World)(x:Nat)(o:Obj):Prop:=match o with
 | .cells c _ _=>∃ g c' e fr,φ x=some g∧w.heap[g.b]?=some (.cells c' e fr)∧c'.size=g.n∧(3≤x→fr=(0,0))∧c.size≤c'.size∧L (V1 φ) c.toList (c'.toList.take c.size)
 | .map es k=>∃ g es',φ x=some g∧w.heap[g.b]?=some (.map es' k)∧L (ER φ) es.toList es'.toList
 | _=>True
def iZ (o:Obj):Prop:=match o with
 | .cells ..=>True
 | .map ..=>True
 | _=>False
def live (h:Hp)(x:Nat):Prop:=∃ o,h x=some o∧iZ o
theorem OR.ph {φ:Ph}{w:World}{x:Nat}{o:Obj}(h:OR φ w x o)(ho:iZ o):∃ g,φ x=some g:=by
 cases o<;>simp only[iZ] at ho
 ·obtain⟨g,_,_,_,hg,_⟩:=h;exact⟨g,hg⟩
 ·obtain⟨g,_,hg,_⟩:=h;exact⟨g,hg⟩
theorem OR.mono {φ φ':Ph}{w w':World}(h:Sub φ φ'){x:Nat}{o:Obj}(r:OR φ w x o)(hb:∀ g,φ x=some g→w'.heap[g.b]?=w.heap[g.b]?):OR φ' w' x o:=by
 cases o<;>try exact trivial
 ·obtain⟨g,c',e,fr,h1,h2,h3,h4,h5,h6⟩:=r
  exact⟨g,c',e,fr,h _ _ h1,(hb g h1).trans h2,h3,h4,h5,h6.mono fun _ _=>V1.mono h⟩
 ·obtain⟨g,es',h1,h2,h3⟩:=r
  exact⟨g,es',h _ _ h1,(hb g h1).trans h2,h3.mono fun _ _=>ER.mono h⟩
structure Rel (φ:Ph) (h:Hp) (w:World):Prop where
 obj:∀ x o,h x=some o→OR φ w x o
 inj:∀ x y g g',live h x→live h y→φ x=some g→φ y=some g'→g.b=g'.b→x=y
 bnd:∀ x g,φ x=some g→g.b<w.heap.size
 l8:∀ x,x<3→∃ n,φ x=some ⟨x,n⟩
theorem Rel.draws {φ:Ph}{h:Hp}{w w':World}(r:Rel φ h w)(e:w'.heap=w.heap):Rel φ h w' where
 obj x o hx:=(r.obj x o hx).mono (Sub.refl φ) fun g _=>by rw[e]
 inj:=r.inj
 bnd x g hx:=by rw[e];exact r.bnd x g hx
 l8:=r.l8
theorem Rel.less {φ:Ph}{h h':Hp}{w:World}(r:Rel φ h w)(hs:∀ x o,h' x=some o→iZ o→h x=some o):Rel φ h' w where
 obj x o hx:=by
  by_cases ho:iZ o
  ·exact r.obj x o (hs x o hx ho)
  ·cases o<;>simp only[iZ,not_true_eq_false] at ho<;>exact trivial
 inj x y g g' hx hy:=r.inj x y g g' (hx.elim fun o ho=>⟨o,hs x o ho.1 ho.2,ho.2⟩) (hy.elim fun o ho=>⟨o,hs y o ho.1 ho.2,ho.2⟩)
 bnd:=r.bnd
 l8:=r.l8
def Oe (w w':World):Prop:=w'.os=w.os∧w'.tape=w.tape∧w'.output=w.output
theorem Oe.refl (w:World):Oe w w:=⟨rfl,rfl,rfl⟩
structure Ext (φ:Ph) (h:Hp) (w:World) (φ':Ph) (w':World):Prop where
 sub:Sub φ φ'
 size:w.heap.size≤w'.heap.size
 news:∀ x g,φ x=none→φ' x=some g→w.heap.size≤g.b∨∃ y g',3≤y∧live h y∧φ y=some g'∧g'.b=g.b
 kept:∀ b,b<w.heap.size→(∀ x g,3≤x→live h x→φ x=some g→g.b≠b)→w'.heap[b]?=w.heap[b]?
 out:Oe w w'
theorem Ext.refl (φ:Ph)(h:Hp)(w:World):Ext φ h w φ w:=⟨Sub.refl φ,Nat.le_refl _,fun x g h0 h1=>(by rw[h0] at h1;cases h1),fun _ _ _=>rfl,Oe.refl w⟩
theorem Ext.trans {φ φ₁ φ₂:Ph}{h h₁:Hp}{w w₁ w₂:World}(a:Ext φ h w φ₁ w₁)(b:Ext φ₁ h₁ w₁ φ₂ w₂)
  (hl:∀ x,live h₁ x→live h x∨φ x=none) (hp:∀ x,live h x→∃ g,φ x=some g) (hp₁:∀ x,live h₁ x→∃ g,φ₁ x=some g):Ext φ h w φ₂ w₂:=by
 have key:∀ y g',3≤y→live h₁ y→φ₁ y=some g'→w.heap.size≤g'.b∨∃ z g,3≤z∧live h z∧φ z=some g∧g.b=g'.b:=by
  intro y g' h3 hy hg;rcases hl y hy with h0 | h0
  ·obtain⟨g,hg0⟩:=hp y h0
   have e:=a.sub y g hg0;rw[hg] at e;cases e;exact .inr ⟨y,g',h3,h0,hg0,rfl⟩
  ·exact a.news y g' h0 hg
 refine⟨a.sub.trans b.sub,Nat.le_trans a.size b.size,?_,?_,b.out.1.trans a.out.1,b.out.2.1.trans a.out.2.1,b.out.2.2.trans a.out.2.2⟩
 ·intro x g h0 h2
  cases h1:φ₁ x with
  | some g1 =>
   have e:=b.sub x g1 h1;rw[h2] at e;cases e;exact a.news x g h0 h1
  | none =>
   rcases b.news x g h1 h2 with hn | ⟨y,g',h3,hy,hg,he⟩
   ·exact .inl (Nat.le_trans a.size hn)
   ·rcases key y g' h3 hy hg with hk | ⟨z,gz,hz3,hz,hgz,BZ⟩
    ·exact .inl (he ▸ hk)
    ·exact .inr ⟨z,gz,hz3,hz,hgz,BZ.trans he⟩
 ·intro c hc hn
  have _:=hp₁;rw[b.kept c (Nat.lt_of_lt_of_le hc a.size) ?_,a.kept c hc hn];intro y g' h3 hy hg he;rcases key y g' h3 hy hg with hk | ⟨z,gz,hz3,hz,hgz,BZ⟩
  ·omega
  ·exact hn z gz hz3 hz hgz (BZ.trans he)
def Fr (φ:Ph)(c:Nat):Prop:=∀ x,c≤x→φ x=none
structure dK (φ:Ph) (s:S) (w:World):Prop where
 rel:Rel φ s.h w
 fr:Fr φ s.c
theorem Rel.has {φ:Ph}{h:Hp}{w:World}(r:Rel φ h w){x:Nat}(hx:live h x):∃ g,φ x=some g:=hx.elim fun o ho=>(r.obj x o ho.1).ph ho.2
structure Post (φ:Ph) (s:S) (w:World) (φ':Ph) (s':S) (w':World):Prop where
 stt:dK φ' s' w'
 ext:Ext φ s.h w φ' w'
 le:s.c≤s'.c
 new:∀ x,φ x=none→φ' x≠none→s.c≤x
 dF:∀ x,live s'.h x→live s.h x∨φ x=none
theorem Post.refl {φ:Ph}{s:S}{w:World}(h:dK φ s w):Post φ s w φ s w:=⟨h,Ext.refl φ s.h w,Nat.le_refl _,fun _ h0 h1=>(h1 h0).elim,fun _ hx=>.inl hx⟩
theorem Post.trans {φ φ₁ φ₂:Ph}{s s₁ s₂:S}{w w₁ w₂:World}(h0:dK φ s w)(a:Post φ s w φ₁ s₁ w₁)(b:Post φ₁ s₁ w₁ φ₂ s₂ w₂):Post φ s w φ₂ s₂ w₂ where
 stt:=b.stt
 ext:=a.ext.trans b.ext a.dF (fun _ hx=>h0.rel.has hx) (fun _ hx=>a.stt.rel.has hx)
 le:=Nat.le_trans a.le b.le
 new x hx hn:=by
  by_cases h1:φ₁ x=none
  ·exact Nat.le_trans a.le (b.new x h1 hn)
  ·exact a.new x hx h1
 dF x hx:=by
  rcases b.dF x hx with h1 | h1
  ·exact a.dF x h1
  ·cases h2:φ x with
   | none=>exact .inr rfl
   | some g=>rw[a.ext.sub x g h2] at h1;cases h1
theorem dK.draws {φ:Ph}{s:S}{w w':World}(h:dK φ s w)(e:w'.heap=w.heap):dK φ s w':=⟨h.rel.draws e,h.fr⟩
structure kI (φ:Ph) (nt:Nat) (e:En) (a:Act):Prop where
 size:a.tmps.size=nt
 val:∀ t,V φ (iy (e t)) (a.tmps.getD t undef)
theorem kI.mono {φ φ':Ph}(h:Sub φ φ'){nt:Nat}{e:En}{a:Act}(r:kI φ nt e a):kI φ' nt e a:=⟨r.size,fun t=>(r.val t).mono h⟩
theorem Ca (e:En)(d t:Nat)(v:Value):dU e d v t=if t=d then some v else e t:=by
 unfold dU bB;by_cases h:t=d
 ·subst h;simp
 ·have:Nat.beq t d=false:=by cases hb:Nat.beq t d with | true=>exact (h (Nat.eq_of_beq_eq_true hb)).elim | false=>rfl
  rw[this];simp only[h,if_false];cases e t<;>rfl
theorem iC (h:Hp)(b x:Nat)(o:Obj):setH h b o x=if x=b then some o else h x:=by
 unfold setH bB;by_cases hx:x=b
 ·subst hx;simp
 ·have:Nat.beq x b=false:=by cases hb:Nat.beq x b with | true=>exact (hx (Nat.eq_of_beq_eq_true hb)).elim | false=>rfl
  rw[this];simp only[hx,if_false];cases h x<;>rfl
theorem kI.put {φ:Ph}{nt:Nat}{e:En}{a:Act}(r:kI φ nt e a){d:Option Nat}(hd:nP nt d=true){v v':Value}(hv:V φ v v'):kI φ nt (put e d v) (a.put d v'):=by
 cases d with
 | none=>exact r
 | some d =>
  have hlt:d<nt:=by simpa[nP,Nat.ble_eq,Nat.succ_le_iff] using hd
  refine⟨by simp[Act.put,r.size],fun t=>?_⟩;show V φ (iy (dU e d v t)) ((a.tmps.setIfInBounds d v').getD t undef)
  rw[Ca];by_cases ht:t=d
  ·subst ht
   simp only[if_true];rw[Array.getD_eq_getD_getElem?,Array.getElem?_setIfInBounds_self_of_lt (by rw[r.size];exact hlt)];exact hv
  ·rw[if_neg ht,Array.getD_eq_getD_getElem?,Array.getElem?_setIfInBounds_ne (fun h=>ht h.symm),← Array.getD_eq_getD_getElem?]
   exact r.val t
end Xe
namespace Xe
section
variable {α β γ:Type}
theorem aj {x:Option α}{f:α→Option β}{y:β}:oB x f=some y ↔ ∃ a,x=some a∧f a=some y:=by
 cases x with
 | none=>simp[oB]
 | some a=>simp[oB]
theorem aN {b:Bool}{x:Option α}{y:α}:aO b x=some y ↔ b=true∧x=some y:=by cases b<;>simp[aO,bB]
theorem bV (b:Bool)(t f:γ):bB b t f=if b=true then t else f:=by cases b<;>rfl
theorem Cb (z:γ)(s:Nat→γ):nB 0 z s=z:=rfl
theorem Cc (n:Nat)(z:γ)(s:Nat→γ):nB (n+1) z s=s n:=rfl
theorem oP (n:Nat)(k:Nat→Option α):fN n k=k n:=by cases n<;>rfl
theorem Ff (n:γ)(c:α→List α→γ):lB [] n c=n:=rfl
theorem Fg (a:α)(l:List α)(n:γ)(c:α→List α→γ):lB (a :: l) n c=c a l:=rfl
theorem bL (a:Array α):aL a=a.toList:=by cases a;rfl
theorem rA (s:ByteArray):sL s=s.data.toList:=by cases s;exact bL _
theorem yJ {sp:Option Nat}{x:Option γ}{y:γ}:yC sp x=some y ↔ sp=none∧x=some y:=by cases sp<;>simp[yC]
theorem kJ:∀ (l:List α) (n:Nat),nth l n=l[n]?
 | [],n=>by simp[nth]
 | a :: l,0=>by show some a=_;simp
 | a :: l,n+1=>by
  have:=kJ l n;simp only[List.getElem?_cons_succ,← this];rfl
theorem yK:∀ (n:Nat) (l r:List α),takeN n l=some r ↔ n≤l.length∧r=l.take n
 | 0,l,r=>by show some []=some r ↔ _;simp[eq_comm]
 | n+1,[],r=>by simp[takeN,lB]
 | n+1,a :: l,r=>by
  show oB (takeN n l) (fun r=>some (a :: r))=some r ↔ _
  rw[aj];constructor
  ·rintro⟨t,h,e⟩
   obtain⟨h1,rfl⟩:=(yK n l t).1 h;cases e;exact⟨by simpa using h1,by simp⟩
  ·rintro⟨h1,rfl⟩
   exact⟨l.take n,(yK n l _).2 ⟨by simpa using h1,rfl⟩,by simp⟩
theorem Ce:∀ (n:Nat) (l:List α),yB n l=l.drop n
 | 0,l=>by show l=_;simp
 | n+1,[]=>by simp[yB,lB]
 | n+1,a :: l=>by
  show yB n l=_
  rw[Ce n l];simp
end
theorem gW {α β γ:Type}(a:α)(b:β)(f:α→β→γ):pB (a,b) f=f a b:=rfl
theorem Fh {γ:Type}(n:Nat)(p q:Nat→γ):iB (.ofNat n) p q=p n:=rfl
theorem Cf {γ:Type}(a:Addr)(f:Nat→Nat→Option Nat→γ):aB a f=f a.block a.off a.spot:=by cases a;rfl
theorem jZ {γ:Type}(s:S)(f:Nat→Hp→List (FuncId × List Value)→γ):sB s f=f s.c s.h s.ds:=by cases s;rfl
theorem wm (q:IntKind)(i:Int):pR q i=some (.int q i):=by cases i<;>simp[pR,iB,oP]
theorem Cg (b:Bool):pU b=some (.bool b):=by cases b<;>rfl
theorem Tw (a:Addr):EK a=some (.pointer (some a)):=by cases a;simp[EK,aB,oP]
theorem Tx (a:Addr)(n z:Nat):EL a n z=some (.slice (some a) n z):=by cases a;simp[EL,aB,oP]
theorem lC {v:Option Value}{s:S}{x:Value}{s':S}:ret v s=some (x,s') ↔ v=some x∧s'=s:=by
 cases v with
 | none=>simp[ret,oB]
 | some a=>simp[ret,oB,eq_comm]
theorem Kj (a:Addr)(n:Nat):BJ a n=a.add n:=by
 cases n with
 | zero=>show a=a.add 0;simp[Addr.add]
 | succ n=>cases a;simp[BJ,nB,aB,Addr.add]
theorem Kk {β:Type}{x:Value}{f:Bool→Option β}{y:β}:vP x none f=some y ↔ ∃ b,x=.bool b∧f b=some y:=by cases x<;>simp[vP]
theorem sZ {β:Type}{x:Value}{f:IntKind→Int→Option β}{y:β}:jY x none f=some y ↔ ∃ k n,x=.int k n∧f k n=some y:=by
 cases x<;>first | simp[jY];done | exact⟨fun h=>⟨_,_,rfl,h⟩,fun⟨_,_,e,h⟩=>by cases e;exact h⟩
theorem Ch {β:Type}{x:Value}{f:ByteArray→Option β}{y:β}:lY x none f=some y ↔ ∃ b,x=.string b∧f b=some y:=by cases x<;>simp[lY]
theorem Ci {β:Type}{x:Value}{f:Option Addr→Nat→Nat→Option β}{y:β}:sS x none f=some y ↔ ∃ a n c,x=.slice a n c∧f a n c=some y:=by
 cases x<;>first | simp[sS];done | exact⟨fun h=>⟨_,_,_,rfl,h⟩,fun⟨_,_,_,e,h⟩=>by cases e;exact h⟩
theorem Ty {β:Type}{x:Value}{f:Array Value→Option β}{y:β}:vQ x none f=some y ↔ ∃ c,x=.agg c∧f c=some y:=by cases x<;>simp[vQ]
theorem Tz {β:Type}{x:Value}{f:Array Value→Option β}{y:β}:yA x none f=some y ↔ ∃ c,x=.tuple c∧f c=some y:=by cases x<;>simp[yA]
theorem aeo {β:Type}{x:Value}{f:Option Nat→Option β}{y:β}:BG x none f=some y ↔ ∃ r,x=.map r∧f r=some y:=by cases x<;>simp[BG]
theorem aep {β:Type}{x:Value}{f:Fn→Array Value→Array Value→Option β}{y:β}:JQ x none f=some y ↔ ∃ fn a c,x=.func fn a c∧f fn a c=some y:=by
 cases x<;>first | simp[JQ];done | exact⟨fun h=>⟨_,_,_,rfl,h⟩,fun⟨_,_,_,e,h⟩=>by cases e;exact h⟩
theorem yL {x:Value}{a:Addr}:ptr x=some a ↔ x=.pointer (some a):=by cases x<;>simp[ptr,SI]
theorem TA {x:Value}{r:Nat}:EX x=some r ↔ x=.map (some r):=by cases x<;>simp[EX,BG]
theorem TB {o:Option Obj}{l:List Value}:rowOf o=some l ↔ ∃ c e f,o=some (.cells c e f)∧l=c.toList:=by
 cases o with
 | none=>simp[rowOf,oB]
 | some o=>cases o<;>simp[rowOf,oB,BH,bL,eq_comm]
theorem Kl {o:Option Obj}{p:List MapEntry × Nat}:mapOf o=some p ↔ ∃ es k,o=some (.map es k)∧p=(es.toList,k):=by
 cases o with
 | none=>simp[mapOf,oB]
 | some o =>
  cases o<;>first | simp[mapOf,oB,SL];done | skip
  rename_i es k;show some (aL es,k)=some p ↔ _
  rw[bL];exact⟨fun h=>⟨es,k,rfl,(Option.some.inj h).symm⟩,fun⟨_,_,e,h⟩=>by cases e;rw[h]⟩
theorem Fj {h:Hp}{a:Addr}{n:Nat}{l:List Value}:oK h a n=some l ↔ a.spot=none∧∃ c e f,h a.block=some (.cells c e f)∧n≤(c.toList.drop a.off).length∧l=(c.toList.drop a.off).take n:=by
 unfold oK;rw[Cf,yJ,aj];constructor
 ·rintro⟨h0,c,hc,ht⟩
  obtain⟨c',e,f,h1,rfl⟩:=TB.1 hc;rw[Ce,yK] at ht;exact⟨h0,c',e,f,h1,ht.1,ht.2⟩
 ·rintro⟨h0,c,e,f,h1,h2,h3⟩
  exact⟨h0,c.toList,TB.2 ⟨c,e,f,h1,rfl⟩,by rw[Ce,yK];exact⟨h2,h3⟩⟩
theorem Fp:∀ (l m:List UInt8),pW l m=decide (l=m)
 | [],[]=>by simp[pW,lB]
 | [],b :: m=>by simp[pW,lB]
 | a :: l,[]=>by simp[pW,lB]
 | a :: l,b :: m=>by
  show bB (Nat.beq a.toNat b.toNat) (pW l m) false=_
  rw[Fp l m];by_cases h:a=b
  ·subst h
   have:Nat.beq a.toNat a.toNat=true:=by simp
   rw[this];simp[bB]
  ·have:Nat.beq a.toNat b.toNat=false:=by
    cases hb:Nat.beq a.toNat b.toNat with
    | true=>exact (h (UInt8.toNat_inj.1 (Nat.eq_of_beq_eq_true hb))).elim
    | false=>rfl
   rw[this];simp[bB,h]
theorem dZ (a b:Nat):Nat.beq a b=decide (a=b):=by
 cases hb:Nat.beq a b with
 | true=>simp[Nat.eq_of_beq_eq_true hb]
 | false=>simp[Nat.ne_of_beq_eq_false hb]
theorem ed (a b:Nat):Nat.ble a b=decide (a≤b):=by
 cases hb:Nat.ble a b with
 | true=>simp[Nat.le_of_ble_eq_true hb]
 | false =>
  have:¬ a≤b:=fun h=>by rw[Nat.ble_eq_true_of_le h] at hb;cases hb
  simp[this]
theorem Km (a b:Int):vS a b=decide (a=b):=by
 cases a<;>cases b<;>simp[vS,iB,dZ]<;>omega
theorem aeq (a b:Int):leI a b=decide (a≤b):=by
 cases a<;>cases b<;>simp only[leI,iB,ed]<;>(try simp)<;>(try omega)
theorem aer (a b:Int):SN a b=a+b:=by cases a<;>cases b<;>rfl
theorem Ko (k l:IntKind):Nat.beq (oL k) (oL l)=true ↔ k=l:=by cases k<;>cases l<;>simp[oL]
theorem not_eq (b:Bool):not' b=!b:=by cases b<;>rfl
theorem TC (k:IntKind)(i:Int):BK k i=k.wrap i:=by
 cases i with
 | negSucc n=>rfl
 | ofNat n =>
  show bB (Nat.ble (top k) n) (k.wrap (.ofNat n)) (.ofNat n)=_
  rw[ed];by_cases h:top k≤n
  ·simp[h,bB]
  ·simp only[h,decide_false,bB]
   cases k<;>simp[top] at h<;>simp[IntKind.wrap,IntKind.bits,IntKind.signed]<;>omega
section kinds
variable {φ:Ph} {v':Value}
theorem Cj {b:Bool}(h:V φ (.bool b) v'):v'=.bool b:=by
 rcases h with ((h | ⟨_,_,_,_,_,h,_⟩) | ⟨_,_,h,_⟩) | ⟨_,_,h,_⟩<;>first | exact h | cases h
theorem nQ {k:IntKind}{n:Int}(h:V φ (.int k n) v'):v'=.int k n:=by
 rcases h with ((h | ⟨_,_,_,_,_,h,_⟩) | ⟨_,_,h,_⟩) | ⟨_,_,h,_⟩<;>first | exact h | cases h
theorem tq {s:ByteArray}(h:V φ (.string s) v'):v'=.string s:=by
 rcases h with ((h | ⟨_,_,_,_,_,h,_⟩) | ⟨_,_,h,_⟩) | ⟨_,_,h,_⟩<;>first | exact h | cases h
theorem yM {a:Addr}(h:V φ (.pointer (some a)) v'):∃ a',v'=.pointer (some a')∧AR φ a a':=by
 rcases h with ((h | ⟨_,_,_,_,_,h,_⟩) | ⟨_,_,h,_⟩) | ⟨_,_,h,_⟩<;>first | exact h | cases h
theorem pX {a:Addr}{n z:Nat}(h:V φ (.slice (some a) n z) v'):∃ a' c,v'=.slice a' n c∧SR φ a n z a' c:=by
 rcases h with ((h | ⟨_,_,_,_,_,h,_⟩) | ⟨_,_,h,_⟩) | ⟨_,_,h,_⟩<;>first | exact h | cases h
theorem Ck {n z:Nat}(h:V φ (.slice none n z) v'):n=0∧v'=.slice none 0 0:=by
 rcases h with ((h | ⟨_,_,_,_,_,h,_⟩) | ⟨_,_,h,_⟩) | ⟨_,_,h,_⟩<;>first | exact h | cases h
theorem Kr {r:Nat}(h:V φ (.map (some r)) v'):∃ g,φ r=some g∧v'=.map (some g.b):=by
 rcases h with ((h | ⟨_,_,_,_,_,h,_⟩) | ⟨_,_,h,_⟩) | ⟨_,_,h,_⟩<;>first | exact h | cases h
theorem aes (h:V φ (.map none) v'):v'=.map none:=by
 rcases h with ((h | ⟨_,_,_,_,_,h,_⟩) | ⟨_,_,h,_⟩) | ⟨_,_,h,_⟩<;>first | exact h | cases h
theorem aet {fn:Fn}{f c:Array Value}(h:V φ (.func fn f c) v'):∃ f' c',v'=.func fn f' c'∧L (V0 φ) f.toList f'.toList∧L (V0 φ) c.toList c'.toList:=by
 rcases h with ((h | ⟨_,_,_,f',c',h,h2,h3,h4⟩) | ⟨_,_,h,_⟩) | ⟨_,_,h,_⟩
 ·exact h.elim
 ·cases h;exact⟨f',c',h2,h3,h4⟩
 ·cases h
 ·cases h
theorem TD {c:Array Value}(h:V φ (.agg c) v'):∃ c',v'=.agg c'∧L (V1 φ) c.toList c'.toList:=by
 rcases h with ((h | ⟨_,_,_,_,_,h,_⟩) | ⟨_,c',h,h2,h3⟩) | ⟨_,_,h,_⟩
 ·exact h.elim
 ·cases h
 ·cases h;exact⟨c',h2,h3⟩
 ·cases h
theorem aeu {c:Array Value}(h:V φ (.tuple c) v'):∃ c',v'=.tuple c'∧L (VA φ) c.toList c'.toList:=by
 rcases h with ((h | ⟨_,_,_,_,_,h,_⟩) | ⟨_,c',h,h2,h3⟩) | ⟨_,c',h,h2,h3⟩
 ·exact h.elim
 ·cases h
 ·cases h
 ·cases h;exact⟨c',h2,h3⟩
theorem yN {v:Value}(h:V φ v v')(hn:pQ v=true):VA φ v v':=by
 rcases h with h | ⟨_,_,rfl,_⟩
 ·exact h
 ·simp[pQ,yA] at hn
theorem TE {v:Value}(h:V φ v v')(hn:flat v=true):V0 φ v v':=by
 rcases h with ((h | ⟨_,_,_,_,_,rfl,_⟩) | ⟨_,_,rfl,_⟩) | ⟨_,_,rfl,_⟩
 ·exact h
 all_goals simp[flat] at hn
theorem wo {v:Value}(h:VA φ v v'):L (V1 φ) (lZ v) v'.cells.toList:=by
 rcases h with h | ⟨c,c',rfl,rfl,h⟩
 ·have hv:lZ v=[v]:=by
   rcases h with h | ⟨_,_,_,_,_,rfl,_⟩
   ·cases v<;>first | rfl | exact h.elim
   ·rfl
  have hv':v'.cells=#[v']:=by
   rcases h with h | ⟨_,_,_,_,_,_,rfl,_⟩
   ·unfold V0 at h
    split at h;case h_1=>subst h;rfl
    case h_2=>subst h;rfl
    case h_3=>subst h;rfl
    case h_4=>subst h;rfl
    case h_5=>obtain⟨_,rfl,_⟩:=h;rfl
    case h_6=>obtain⟨_,rfl⟩:=h;rfl
    case h_7=>obtain⟨_,_,rfl,_⟩:=h;rfl
    case h_8=>subst h;rfl
    case h_9=>obtain⟨_,_,rfl⟩:=h;rfl
    case h_10=>subst h;rfl
    case h_11=>exact h.elim
   ·rfl
  rw[hv,hv'];exact⟨h,trivial⟩
 ·show L (V1 φ) (aL c) c'.toList
  rw[bL];exact h
end kinds
end Xe
namespace Xe
variable {P:Program}
def pY (φ:Ph)(e:En)(a:Act)(op:Op):Prop:=∀ x ∈ op.operands,V φ (ev e x) (a.eval x)
def gX (P:Program)(op:Op)(f:F):Prop:=∀ (call:Cl) (e:En) (s:S) (nm:Nat) (v:Value) (s':S),f call e s nm=some (v,s') →
 s'=s∧∀ (φ:Ph) (a:Act) (w:World),pY φ e a op→Rel φ s.h w→∃ v',V φ v v'∧∀ o:Oper,o.op=op→(execOp a.eval o).run P w=.ok (.value v') w
theorem Cm {φ:Ph}{h:Hp}{w:World}{a a':Addr}{n:Nat}{l:List Value}(hr:oK h a n=some l)(r:Rel φ h w)(ha:AR φ a a') :
  ∃ l',L (V1 φ) l l'∧l'.length=n∧∀ (j:Nat) v,l'[j]?=some v→w.cell? (a'.add j)=some v:=by
 obtain⟨_,c,e,f,hc,hn,rfl⟩:=Fj.1 hr;obtain⟨_,g,hg,rfl⟩:=ha;obtain⟨g',c',e',fr,hg',hw,_,_,hle,hL⟩:=r.obj _ _ hc;rw[hg] at hg';cases hg';rcases Nat.eq_zero_or_pos n with h0 | h0
 ·subst h0
  exact⟨[],by simp[L],rfl,fun j v hj=>by simp at hj⟩
 have hn':a.off+n≤c.size:=by simp at hn;omega
 refine⟨((c'.toList.take c.size).drop a.off).take n,(hL.drop a.off).take n,by simp;omega,?_⟩;intro j v hj;have hjn:j<n:=by
  rcases Nat.lt_or_ge j n with h | h
  ·exact h
  ·rw[List.getElem?_eq_none (by simp;omega)] at hj;cases hj
 have hadd:(⟨g.b,a.off,none⟩:Addr).add j=⟨g.b,a.off+j,none⟩:=by unfold Addr.add;split<;>simp_all
 rw[hadd];rw[List.getElem?_take_of_lt hjn,List.getElem?_drop,List.getElem?_take_of_lt (by omega)] at hj;simp[World.cell?,hw];simpa using hj
theorem aev {φ:Ph}{h:Hp}{w:World}{a a':Addr}{l:List Value}(hr:oK h a 1=some l)(r:Rel φ h w)(ha:AR φ a a') :
  ∃ x x',l=[x]∧V1 φ x x'∧w.cell? a'=some x':=by
 obtain⟨l',hL,hlen,hc⟩:=Cm hr r ha;match l',hlen with
 | [x'],_ =>
  match l,hL with
  | [x],hL =>
   refine⟨x,x',rfl,hL.1,?_⟩;have:=hc 0 x' rfl;have h0:a'.add 0=a':=by simp[Addr.add]
   rw[h0] at this;exact this
theorem aew {φ:Ph}{h:Hp}{w:World}{a a':Addr}{n:Nat}{l:List Value}(hr:oK h a n=some l)(r:Rel φ h w)(ha:AR φ a a') :
  ∃ l',L (V1 φ) l l'∧l'.length=n∧(loadCells a' n).run P w=.ok l'.toArray w:=by
 obtain⟨l',hL,hlen,hc⟩:=Cm hr r ha;exact⟨l',hL,hlen,by rw[← hlen];exact run_loadCells_list w a' l' hc⟩
theorem aex (x:Operand):gX P (.move x) (EP x):=by
 intro call e s nm v s' h;cases h;exact⟨rfl,fun φ a w hE _=>⟨a.eval x,hE x (by simp[Op.operands]),fun o ho=>by simp only[execOp,ho];rfl⟩⟩
theorem aey (x:Operand):gX P (.assign x) (EP x):=by
 intro call e s nm v s' h;cases h;exact⟨rfl,fun φ a w hE _=>⟨a.eval x,hE x (by simp[Op.operands]),fun o ho=>by simp only[execOp,ho];rfl⟩⟩
theorem aez (c x y:Operand):gX P (.pick c x y) (SS c x y):=by
 intro call e s nm v s' h;obtain⟨b,hb,h⟩:=Kk.1 h;have hs:s'=s∧v=if b=true then ev e x else ev e y:=by cases b<;>cases h<;>exact⟨rfl,rfl⟩
 obtain⟨rfl,rfl⟩:=hs;refine⟨rfl,fun φ a w hE _=>?_⟩;have hc:=hE c (by simp[Op.operands]);rw[hb] at hc;refine⟨if b=true then a.eval x else a.eval y,?_,fun o ho=>?_⟩
 ·cases b
  ·exact hE y (by simp[Op.operands])
  ·exact hE x (by simp[Op.operands])
 ·simp only[execOp,ho,Cj hc]
  cases b<;>simp[asBool]
theorem aeA (x:Operand):gX P (.nilCheck x) (SY x):=by
 intro call e s nm v s' h;obtain⟨b,hb,h⟩:=aj.1 h;rw[yL] at hb;cases h;refine⟨rfl,fun φ a w hE _=>?_⟩;have hx:=hE x (by simp[Op.operands]);rw[hb] at hx;obtain⟨a',ha,hr⟩:=yM hx;exact⟨.pointer (some a'),.dX ⟨a',rfl,hr⟩,fun o ho=>by simp only[execOp,ho,ha];rfl⟩
theorem aeB {t:TypeId}(x:Operand)(ht:oJ P t=false)(hu:(P.underlying t).isSome=true):gX P (.load t x) (SV x):=by
 intro call e s nm v s' h;obtain⟨b,hb,h⟩:=aj.1 h;rw[yL] at hb;obtain⟨l,hl,h⟩:=aj.1 h;have hs:s'=s∧∃ r,l=v :: r:=by
  match l,h with
  | y :: r,h=>cases h;exact⟨rfl,r,rfl⟩
 obtain⟨rfl,r,rfl⟩:=hs;refine⟨rfl,fun φ a w hE hR=>?_⟩;have hx:=hE x (by simp[Op.operands]);rw[hb] at hx;obtain⟨a',ha,hr⟩:=yM hx;obtain⟨y,y',e1,hv,hrun⟩:=aev hl hR hr;cases e1;refine⟨y',.inl (.inl hv),fun o ho=>?_⟩;obtain⟨d,hd⟩:=Option.isSome_iff_exists.1 hu;have hag:(isAgg t).run P w=.ok false w:=by
  unfold oJ und at ht;rw[hd] at ht;cases d<;>simp_all [isAgg,underlying]
 simp only[execOp,ho,ha];simp[Instr.loadAt,Instr.sureAddr,loadVar,hag,hrun]
theorem aeC {t:TypeId}{n:Nat}(x:Operand)(ht:oJ P t=true)(hn:dJ P t=some n):gX P (.load t x) (SX n x):=by
 intro call e s nm v s' h;obtain⟨b,hb,h⟩:=aj.1 h;rw[yL] at hb;obtain⟨l,hl,h⟩:=aj.1 h;cases h;refine⟨rfl,fun φ a w hE hR=>?_⟩;have hx:=hE x (by simp[Op.operands]);rw[hb] at hx;obtain⟨a',ha,hr⟩:=yM hx;obtain⟨l',hL,hlen,hrun⟩:=aew (P:=P) hl hR hr;refine⟨.agg l'.toArray,.inl (.inr ⟨l.toArray,l'.toArray,rfl,rfl,by simpa using hL⟩),fun o ho=>?_⟩;have hag:(isAgg t).run P w=.ok true w:=by
  unfold oJ und at ht;split at ht<;>simp_all [isAgg,underlying]
 have hsz:(sizeOf t).run P w=.ok n w:=by
  unfold dJ at hn;split at hn<;>simp_all [sizeOf,typeInfo]
 simp only[execOp,ho,ha];simp[Instr.loadAt,Instr.sureAddr,loadVar,hag,hsz,hrun]
theorem run_sizeOf {t:TypeId}{n:Nat}(hn:dJ P t=some n)(w:World):(sizeOf t).run P w=.ok n w:=by
 unfold dJ at hn;split at hn<;>simp_all [sizeOf,typeInfo]
theorem dL {t:TypeId}{d:TypeDesc}(hd:und P t=some d)(w:World):(underlying t).run P w=.ok d w:=by
 unfold und at hd;simp[underlying,hd]
theorem TF {t:TypeId}{d:TypeDesc}(hd:und P t=some d)(w:World):(isAgg t).run P w=.ok (oJ P t) w:=by
 unfold oJ;rw[hd];cases d<;>simp[isAgg,dL hd]
theorem AR.add {φ:Ph}{a a':Addr}(h:AR φ a a')(n:Nat):AR φ (a.add n) (a'.add n):=by
 obtain⟨h0,g,hg,rfl⟩:=h;cases a;simp only at h0 hg;subst h0;refine⟨?_,g,?_,?_⟩<;>unfold Addr.add<;>split<;>simp_all
theorem aeD {t:TypeId}{x:Operand}{k:Nat}{f:F}(h:J2 P t x k=some f):gX P (.fieldAddr t x k) f:=by
 unfold J2 at h;split at h;case h_2=>cases h
 rename_i fs hd;obtain⟨fd,hf,h⟩:=aj.1 h;split at h;case h_2=>cases h
 rename_i n hn;cases h;intro call e s nm v s' h;obtain⟨b,hb,h⟩:=aj.1 h;rw[yL] at hb;rw[lC,Tw,Kj] at h;obtain⟨h2,rfl⟩:=h;cases h2;refine⟨rfl,fun φ a w hE _=>?_⟩;have hx:=hE x (by simp[Op.operands]);rw[hb] at hx;obtain⟨a',ha,hr⟩:=yM hx;refine⟨.pointer (some (a'.add fd.offset)),.dX ⟨_,rfl,hr.add _⟩,fun o ho=>?_⟩;rw[kJ] at hf;have hf':fs[k]?=some fd:=by simpa using hf
 simp only[execOp,ho,ha];simp[Instr.fieldAt,Instr.sureAddr,dL hd,hf',fieldPlace,run_sizeOf hn]
theorem aeE {t:TypeId}(x:Operand):gX P (.unOp .not t x) (S9 x):=by
 intro call e s nm v s' h;obtain⟨b,hb,h⟩:=Kk.1 h;rw[lC,Cg,not_eq] at h;obtain⟨h2,rfl⟩:=h;cases h2;refine⟨rfl,fun φ a w hE _=>?_⟩;have hx:=hE x (by simp[Op.operands]);rw[hb] at hx;exact⟨.bool (!b),.dX rfl,fun o ho=>by simp only[execOp,ho,Cj hx];simp[Op.unary]⟩
theorem aeF (x:Operand)(i:Nat):gX P (.extract x i) (Tf x i):=by
 intro call e s nm v s' h;obtain⟨c,hc,h⟩:=Tz.1 h;rw[lC,kJ,bL] at h;obtain⟨h2,rfl⟩:=h;refine⟨rfl,fun φ a w hE _=>?_⟩;have hx:=hE x (by simp[Op.operands]);rw[hc] at hx;obtain⟨c',hc',hL⟩:=aeu hx;obtain⟨y,hy,hv⟩:=hL.at h2;exact⟨y,.inl hv,fun o ho=>by simp only[execOp,ho,hc'];simp at hy;simp[Instr.extract,hy]⟩
end Xe
end Go.Proofs.YtfcpglhpolpdcaaGreatDoor
