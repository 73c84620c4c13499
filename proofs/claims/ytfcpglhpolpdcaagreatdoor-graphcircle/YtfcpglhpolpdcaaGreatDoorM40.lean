/- Which class an operation is of;calls. -/
import Derived.Test.YtfcpglhpolpdcaaGreatDoorM39
namespace Go.Proofs.YtfcpglhpolpdcaaGreatDoor
namespace Xe
variable {P:Program}
theorem vZ {op:Op}{f:F}(h:comp P op=some f) :
  (cls op=0∧gT P op f)∨(cls op=1∧yn P op f)∨(cls op=2∧(BC P op f∨(∃ c g,op=.call c∧c.callee=.value g∧f=RA g c.args.toList)∨(∃ c g,op=.defer c∧c.callee=.value g∧f=RB g c.args.toList))):=by
 unfold comp at h;split at h;case h_1=>cases h;exact .inl ⟨rfl,ade _⟩
 case h_2=>cases h;exact .inl ⟨rfl,adf _⟩
 case h_3=>cases h;exact .inl ⟨rfl,adg _ _ _⟩
 case h_4 =>
  obtain⟨d,hd,h⟩:=aj.1 h;split at h
  ·rename_i ht
   obtain⟨n,hn,h⟩:=aj.1 h;cases h;exact .inl ⟨rfl,adj _ ht hn⟩
  ·rename_i ht
   cases h;exact .inl ⟨rfl,adi _ ht (by unfold und at hd;simp[hd])⟩
 case h_5=>cases h;exact .inl ⟨rfl,adh _⟩
 case h_6=>cases h;exact .inl ⟨rfl,adq _ _⟩
 case h_7=>cases h;exact .inl ⟨rfl,adl _⟩
 case h_8 =>
  obtain⟨d,hd,h⟩:=aj.1 h;split at h
  ·rename_i k hk;cases h;exact .inl ⟨rfl,adr _ hd hk⟩
  ·cases h
 case h_9=>cases h;exact .inl ⟨rfl,ads _ _ _⟩
 case h_10=>exact .inl ⟨rfl,adB h⟩
 case h_11=>exact .inl ⟨rfl,adk h⟩
 case h_12=>exact .inl ⟨rfl,adt h⟩
 case h_13=>exact .inl ⟨rfl,adv h⟩
 case h_14=>exact .inl ⟨rfl,adw h⟩
 case h_15=>exact .inl ⟨rfl,adC h⟩
 case h_16=>cases h;exact .inl ⟨rfl,adm _ _⟩
 case h_17=>exact .inl ⟨rfl,ady h⟩
 case h_18 c =>
  unfold RD at h;split at h
  ·rename_i g hg
   cases h;exact .inr (.inr ⟨by simp[cls,hg],.inr (.inl ⟨c,g,rfl,hg,rfl⟩)⟩)
  ·rename_i b hb
   cases b;case len=>exact .inl ⟨by simp[cls,hb],adE hb h⟩
   case append=>exact .inr (.inr ⟨by simp[cls,hb],.inl (adU hb h)⟩)
   case delete=>exact .inr (.inr ⟨by simp[cls,hb],.inl (adR hb h)⟩)
   all_goals (unfold sH at h;cases h)
  ·cases h
 case h_19 =>
  obtain⟨z,hz,h⟩:=aj.1 h;rw[aN] at h;obtain⟨hok,h⟩:=h;cases h;exact .inr (.inl ⟨rfl,adG hz hok⟩)
 case h_20=>cases h;exact .inr (.inl ⟨rfl,adH _ _⟩)
 case h_21=>exact .inr (.inl ⟨rfl,adJ h⟩)
 case h_22=>cases h;exact .inr (.inl ⟨rfl,adI _⟩)
 case h_23=>exact .inr (.inl ⟨rfl,adK h⟩)
 case h_24 =>
  obtain⟨n,hn,h⟩:=aj.1 h;cases h;exact .inr (.inr ⟨rfl,.inl (adN _ _ hn)⟩)
 case h_25 =>
  split at h
  ·rename_i kt el hd
   obtain⟨ks,hks,h⟩:=aj.1 h;cases h;exact .inr (.inr ⟨rfl,.inl (Sw _ _ _ hd hks _ (.inl rfl))⟩)
  ·cases h
 case h_26 =>
  split at h
  ·rename_i kt el hd
   obtain⟨ks,hks,h⟩:=aj.1 h;cases h;exact .inr (.inr ⟨rfl,.inl (Sw _ _ _ hd hks _ (.inr rfl))⟩)
  ·cases h
 case h_27 c =>
  split at h
  ·rename_i g hg
   cases h;exact .inr (.inr ⟨rfl,.inr (.inr ⟨c,g,rfl,hg,rfl⟩)⟩)
  ·cases h
 case h_28=>cases h
def jm (P:Program):Prop:=∀ (f:Nat) (fn:Func),P.funcs[f]?=some fn→(fn.name == "runtime.NumGoroutine")=false
def Kb (P:Program)(f:FuncId):Prop:=∃ fn c,P.funcs[f]?=some fn∧fn.body=some c
theorem EI (hN:jm P){f:FuncId}(hb:Kb P f)(args:Array Value)(w:World):(callFunc f args).run P w=.ok (.enter f args) w:=by
 obtain⟨fn,c,hf,hc⟩:=hb;have:=hN f fn hf;simp[callFunc,hf,hc];simpa using this
def Kc (P:Program)(f:FuncId)(args:List Value)(s:S)(v:Value)(s':S):Prop:=s'.ds=s.ds∧Kb P f ∧
 ∀ (φ:Ph) (w:World) (args':Array Value),L (V φ) args args'.toList→dG φ s w→Calls P f args' w fun e w'=>∃ φ' v',e=.returned v'∧V φ' v v'∧Post φ s w φ' s' w'
def iK (P:Program)(call:Cl):Prop:=∀ f args s v s',call f args s=some (v,s')→Kc P f args s v s'
def Ke (P:Program)(call:Cl):Prop:=∀ f args s v s',call f args s=some (v,s')→s'.ds=s.ds∧Kb P f ∧
 ∀ (φ:Ph) (w:World) (args':Array Value) (u:FrameMode),L (V φ) args args'.toList→dG φ s w→CallsD P f args' u w fun e u' w'=>u'=u∧∃ φ' v',e=.returned v'∧V φ' v v'∧Post φ s w φ' s' w'
def DR (φ:Ph)(d:FuncId × List Value)(d':Deferred):Prop:=∃ cap,d'.target=.fn (.func d.1) cap∧L (V φ) d.2 (d'.args++cap).toList
theorem DR.mono {φ φ':Ph}(h:Sub φ φ'){d:FuncId × List Value}{d':Deferred}(r:DR φ d d'):DR φ' d d':=r.elim fun cap hc=>⟨cap,hc.1,hc.2.mono fun _ _=>V.mono h⟩
theorem ad7 {v:Value}{args:List Value}{g:FuncId}{as':List Value}(h:callee v args=some (g,as')):∃ first cap,v=.func (.func g) first cap∧as'=first.toList++(args++cap.toList):=by
 unfold callee at h;obtain⟨fn,first,cap,rfl,h⟩:=ac4.1 h;cases fn with
 | func g' =>
  have h':some (g',aL first++(args++aL cap))=some (g,as'):=h;cases h';rw[bK,bK];exact⟨first,cap,rfl,rfl⟩
 | method _=>cases h
 | methodOf _ _=>cases h
 | via _ _ _ _=>cases h
 | yield _=>cases h
theorem SB {φ:Ph}{l l':List Value}(h:L (V0 φ) l l'):L (V φ) l l':=h.mono fun _ _=>V.dU
theorem EJ {φ:Ph}{e:En}{a:Act}{c:Call}{g:Operand}(hc:c.callee=.value g){f:FuncId}{as':List Value}(hE:∀ x ∈ c.operands,V φ (ev e x) (a.eval x))
  (h:callee (ev e g) (evs e c.args.toList)=some (f,as')) (ty:TypeId):∃ cap' kV,resolve a.eval c ty=pure { target:=.fn (.func f) cap',args:=kV }∧L (V φ) as' (kV++cap').toList:=by
 obtain⟨first,cap,hv,rfl⟩:=ad7 h;have hg:=hE g (by simp[Call.operands,hc]);rw[hv] at hg;obtain⟨first',cap',hg',hf,hcap⟩:=ac8 hg;refine⟨cap',first'++c.args.map a.eval,?_,?_⟩
 ·obtain⟨cal,args,ats⟩:=c
  simp only at hc;subst hc;simp only[resolve,hg',Deferred.ofValue]
 ·simp only[Array.toList_append,Array.toList_map,List.append_assoc]
  refine (SB hf).app (L.app ?_ (SB hcap));rw[Bw];exact yl fun x hx=>hE x (by simp[Call.operands,hc];exact .inr (by simpa using hx))
end Xe
namespace Xe
variable {P:Program}
structure eO (φ:Ph) (nt:Nat) (e:En) (s:S) (a:Act) (w:World):Prop where
 env:kr φ nt e a
 stt:dG φ s w
 iT:L (DR φ) s.ds a.defers
structure fe (φ:Ph) (s:S) (w:World) (φ':Ph) (s':S) (w':World):Prop where
 ext:Ext φ s.h w φ' w'
 le:s.c≤s'.c
 new:∀ x,φ x=none→φ' x≠none→s.c≤x
 dx:∀ x,live s'.h x→live s.h x∨φ x=none
theorem Post.grew {φ φ':Ph}{s s':S}{w w':World}(h:Post φ s w φ' s' w'):fe φ s w φ' s' w':=⟨h.ext,h.le,h.new,h.dx⟩
theorem fe.post {φ φ':Ph}{s s':S}{w w':World}(h:fe φ s w φ' s' w')(hs:dG φ' s' w'):Post φ s w φ' s' w':=⟨hs,h.ext,h.le,h.new,h.dx⟩
theorem fe.refl (φ:Ph)(s:S)(w:World):fe φ s w φ s w:=⟨Ext.refl φ s.h w,Nat.le_refl _,fun _ h0 h1=>(h1 h0).elim,fun _ hx=>.inl hx⟩
theorem fe.trans {φ φ₁ φ₂:Ph}{s s₁ s₂:S}{w w₁ w₂:World}(h0:dG φ s w)(h1:dG φ₁ s₁ w₁)(a:fe φ s w φ₁ s₁ w₁)(b:fe φ₁ s₁ w₁ φ₂ s₂ w₂):fe φ s w φ₂ s₂ w₂ where
 ext:=a.ext.trans b.ext a.dx (fun _ hx=>h0.rel.has hx) (fun _ hx=>h1.rel.has hx)
 le:=Nat.le_trans a.le b.le
 new x hx hn:=by
  by_cases h1:φ₁ x=none
  ·exact Nat.le_trans a.le (b.new x h1 hn)
  ·exact a.new x hx h1
 dx x hx:=by
  rcases b.dx x hx with h1 | h1
  ·exact a.dx x h1
  ·cases h2:φ x with
   | none=>exact .inr rfl
   | some g=>rw[a.ext.sub x g h2] at h1;cases h1
theorem SC {φ:Ph}{h:Hp}{w:World}{nm n:Nat}{ob o':Obj}(r:Rel φ h w)(h0:φ nm=none)(hor:∀ w':World,w'.heap[w.heap.size]?=some o'→OR (upd φ nm ⟨w.heap.size,n⟩) w' nm ob) :
  Rel (upd φ nm ⟨w.heap.size,n⟩) (setH h nm ob) (w.alloc o'):=by
 have hsub:=ym h0 ⟨w.heap.size,n⟩;have hnew:(w.alloc o').heap[w.heap.size]?=some o':=heap_alloc_new w o';have hold:∀ b,b<w.heap.size→(w.alloc o').heap[b]?=w.heap[b]?:=fun b hb=>by
  show (w.heap.push o')[b]?=_
  rw[Array.getElem?_push_lt hb];simp[hb]
 have hsz:(w.alloc o').heap.size=w.heap.size+1:=by show (w.heap.push o').size=_;simp
 have pJ:∀ y gy,y≠nm→upd φ nm ⟨w.heap.size,n⟩ y=some gy→φ y=some gy:=by
  intro y gy hy hg;unfold upd at hg;rwa [if_neg hy] at hg
 have hl:∀ y,y≠nm→live (setH h nm ob) y→live h y:=by
  rintro y hy ⟨o,ho,hi⟩;rw[ik,if_neg hy] at ho;exact⟨o,ho,hi⟩
 refine⟨?_,?_,?_,?_⟩
 ·intro y o hy
  rw[ik] at hy;split at hy
  ·rename_i e;subst e;cases hy;exact hor _ hnew
  ·exact (r.obj y o hy).mono hsub fun g hg=>hold g.b (r.bnd y g hg)
 ·intro y z g1 g2 hy hz h1 h2 e
  by_cases hy':y=nm<;>by_cases hz':z=nm
  ·rw[hy',hz']
  ·subst hy'
   rw[lU] at h1;cases h1;have:=r.bnd z g2 (pJ z g2 hz' h2);simp only at e;omega
  ·subst hz'
   rw[lU] at h2;cases h2;have:=r.bnd y g1 (pJ y g1 hy' h1);simp only at e;omega
  ·exact r.inj y z g1 g2 (hl y hy' hy) (hl z hz' hz) (pJ y g1 hy' h1) (pJ z g2 hz' h2) e
 ·intro y g hy
  rw[hsz];by_cases hy':y=nm
  ·subst hy';rw[lU] at hy;cases hy;exact Nat.lt_succ_self _
  ·exact Nat.lt_succ_of_lt (r.bnd y g (pJ y g hy' hy))
 ·intro y hy
  obtain⟨m,hm⟩:=r.lN y hy;exact⟨m,hsub _ _ hm⟩
theorem ad8 (hN:jm P){call:Cl}(hC:iK P call){o:Oper}{f:F}(hf:comp P o.op=some f)(hok:mr o.op=true){nt:Nat}(hd:nC nt o.dst=true){e:En}{s s':S}{nm:Nat}{v:Value}
  (h:f call e s nm=some (v,s')) {φ:Ph} {a:Act} {w:World} (hA:eO φ nt e s a w) (hnm:φ nm=none) {T:Nat} (hT:T≤s.c) (hlt:nm<T) (hb:∀ x,nm≤x→x<T→φ x=none) (K:Act→World→Prop) (Q:Exit→Act→World→Prop)
  (hK:∀ φ' a' w',eO φ' nt (put e o.dst v) s' a' w'→fe φ ⟨nm,s.h,s.ds⟩ w φ' s' w'→(∀ x,nm<x→x<T→φ' x=none)→s.c≤s'.c→K a' w'):o.wp P a w K Q:=by
 have hE:pG φ e a o.op:=JS hok hA.env hA.stt.rel.lN;rcases vZ hf with⟨_,hR⟩ | ⟨_,hAl⟩ | ⟨_,wh | ⟨c,g,hop,wm,rfl⟩ | ⟨c,g,hop,wm,rfl⟩⟩
 ·obtain⟨rfl,hR⟩:=hR call e s nm v s' h
  obtain⟨v',hv,hrun⟩:=hR φ a w hE hA.stt.rel;unfold Oper.wp;rw[hrun o rfl];exact hK φ _ w ⟨hA.env.put hd hv,hA.stt,by cases o.dst<;>exact hA.iT⟩ ⟨Ext.refl φ _ w,Nat.le_of_lt (Nat.lt_of_lt_of_le hlt hT),fun _ h0 h1=>(h1 h0).elim,fun _ hx=>.inl hx⟩ (fun x h1 h2=>hb x (Nat.le_of_lt h1) h2) (Nat.le_refl _)
 ·obtain⟨ob,_,hall,BG⟩:=hAl call e s nm v s' h
  have hs':s'=⟨s.c,setH s.h nm ob,s.ds⟩:=by have:=hall call s;rw[h] at this;cases this;rfl
  subst hs';obtain⟨o',n,v',hrun,hv,hor⟩:=BG φ a w hE hnm;unfold Oper.wp;rw[hrun o rfl];have hsub:=ym hnm ⟨w.heap.size,n⟩;have hrel:=SC (o':=o') hA.stt.rel hnm hor;refine hK (upd φ nm ⟨w.heap.size,n⟩) _ (w.alloc o') ⟨(hA.env.mono hsub).put hd hv,⟨hrel,?_⟩,?_⟩ ⟨⟨hsub,?_,?_,?_,⟨rfl,rfl,rfl⟩⟩,Nat.le_of_lt (Nat.lt_of_lt_of_le hlt hT),?_,?_⟩ ?_ (Nat.le_refl _)
  ·intro x hx
   have hx':s.c≤x:=hx;unfold upd;rw[if_neg (by omega)];exact hA.stt.fr x hx'
  ·have:L (DR (upd φ nm ⟨w.heap.size,n⟩)) s.ds a.defers:=hA.iT.mono fun _ _=>DR.mono hsub
   cases o.dst<;>exact this
  ·show w.heap.size≤(w.heap.push o').size
   simp
  ·intro x g h1 h2
   unfold upd at h2;split at h2
   ·cases h2;exact .inl (Nat.le_refl _)
   ·rw[h1] at h2;cases h2
  ·intro b hb' _
   show (w.heap.push o')[b]?=_
   rw[Array.getElem?_push_lt hb'];simp[hb']
  ·intro x h1 h2
   unfold upd at h2;split at h2
   ·rename_i e1;subst e1;exact Nat.le_refl _
   ·exact absurd h1 h2
  ·rintro x ⟨o1,ho0,hi⟩
   have ho1:setH s.h nm ob x=some o1:=ho0;rw[ik] at ho1;split at ho1
   ·rename_i e1;subst e1;exact .inr hnm
   ·exact .inl ⟨o1,ho1,hi⟩
  ·intro x h1 h2
   unfold upd;rw[if_neg (by omega)];exact hb x (Nat.le_of_lt h1) h2
 ·obtain⟨hds,wh⟩:=wh call e s nm v s' h
  obtain⟨φ',v',w',hv,hP,hrun⟩:=wh φ a w hE hA.stt;have key:K (a.put o.dst v') w':=by
   refine hK φ' _ w' ⟨(hA.env.mono hP.ext.sub).put hd hv,hP.stt,?_⟩ ⟨hP.ext,Nat.le_trans (Nat.le_of_lt (Nat.lt_of_lt_of_le hlt hT)) hP.le,fun x h0 h1=>Nat.le_trans (Nat.le_of_lt (Nat.lt_of_lt_of_le hlt hT)) (hP.new x h0 h1),hP.dx⟩ ?_ hP.le
   ·have:L (DR φ') s'.ds a.defers:=by rw[hds];exact hA.iT.mono fun _ _=>DR.mono hP.ext.sub
    cases o.dst<;>exact this
   ·intro x h1 h2
    by_cases h3:φ' x=none
    ·exact h3
    ·have:=hP.new x (hb x (Nat.le_of_lt h1) h2) h3;omega
  unfold Oper.wp;rcases hrun o rfl with hr | ⟨rfl,hr⟩<;>rw[hr]<;>exact key
 ·obtain⟨⟨g',as'⟩,hcl,h⟩:=aj.1 h
  rw[gQ] at h;obtain⟨hds,hbd,hcall⟩:=hC g' as' s v s' h;rw[hop] at hE;obtain⟨cap',kV,hres,hL⟩:=EJ wm hE hcl o.type;have jl:(execOp a.eval o).run P w=.ok (.enter g' (kV++cap')) w:=by
   simp only[execOp,hop,hres];simp[invoke,EI hN hbd]
  unfold Oper.wp;rw[jl];refine Calls.mono (hcall φ w (kV++cap') hL hA.stt) ?_;rintro e1 w' ⟨φ',v',rfl,hv,hP⟩;refine hK φ' _ w' ⟨(hA.env.mono hP.ext.sub).put hd hv,hP.stt,?_⟩ ⟨hP.ext,Nat.le_trans (Nat.le_of_lt (Nat.lt_of_lt_of_le hlt hT)) hP.le,fun x h0 h1=>Nat.le_trans (Nat.le_of_lt (Nat.lt_of_lt_of_le hlt hT)) (hP.new x h0 h1),hP.dx⟩ ?_ hP.le
  ·have:L (DR φ') s'.ds a.defers:=by rw[hds];exact hA.iT.mono fun _ _=>DR.mono hP.ext.sub
   cases o.dst<;>exact this
  ·intro x h1 h2
   by_cases h3:φ' x=none
   ·exact h3
   ·have:=hP.new x (hb x (Nat.le_of_lt h1) h2) h3;omega
 ·obtain⟨⟨g',as'⟩,hcl,h⟩:=aj.1 h
  rw[jN] at h;cases h;rw[hop] at hE;obtain⟨cap',kV,hres,hL⟩:=EJ (c:=c) wm hE hcl o.type;have jl:(execOp a.eval o).run P w=.ok (.defer { target:=.fn (.func g') cap',args:=kV }) w:=by
   simp only[execOp,hop,hres];rfl
  unfold Oper.wp;rw[jl];refine hK φ _ w ⟨?_,⟨hA.stt.rel,hA.stt.fr⟩,?_⟩ ⟨Ext.refl φ _ w,Nat.le_of_lt (Nat.lt_of_lt_of_le hlt hT),fun _ h0 h1=>(h1 h0).elim,fun _ hx=>.inl hx⟩ (fun x h1 h2=>hb x (Nat.le_of_lt h1) h2) (Nat.le_refl _)
  ·have hE0:kr φ nt e { a with defers:={ target:=.fn (.func g') cap',args:=kV } :: a.defers }:=⟨hA.env.size,hA.env.val⟩
   exact hE0.put hd (V.undef φ)
  ·have:L (DR φ) ((g',as') :: s.ds) ({ target:=.fn (.func g') cap',args:=kV } :: a.defers):=⟨⟨cap',rfl,hL⟩,hA.iT⟩
   cases o.dst<;>exact this
end Xe
namespace Xe
variable {P:Program}
theorem SE {φ:Ph}{v:Value}{x:Bool}(h:V φ v (.bool x)):v=.bool x:=by
 rcases h with ((h | ⟨_,_,_,_,_,_,h,_⟩) | ⟨_,_,_,h,_⟩) | ⟨_,_,_,h,_⟩
 ·unfold V0 at h
  split at h;case h_1=>cases h;rfl
  case h_2=>cases h
  case h_3=>cases h
  case h_4=>cases h
  case h_5=>obtain⟨_,h,_⟩:=h;cases h
  case h_6=>cases h.2
  case h_7=>obtain⟨_,_,h,_⟩:=h;cases h
  case h_8=>cases h
  case h_9=>obtain⟨_,_,h⟩:=h;cases h
  case h_10=>cases h
  case h_11=>exact h.elim
 all_goals cases h
theorem SF (v:Value)(b:Bool):Bd v b=true ↔ v=.bool b:=by
 cases v<;>simp[Bd,vG];rename_i x;cases x<;>cases b<;>simp[bB,not']
theorem aea {φ:Ph}{nt:Nat}{e:En}{a:Act}{ops:Array Oper}{o:Oper}{g:Option (Nat × Bool)}(hE:kr φ nt e a)(hg:guardOf ops.toList o=some g):Region.wanted o (yielded ops a.tmps)=want g e:=by
 unfold guardOf at hg;unfold Region.wanted;split at hg
 ·rename_i h0;cases hg;rw[h0];rfl
 ·rename_i j b h0
  obtain⟨og,ho,hg⟩:=aj.1 hg;obtain⟨d,hd,hg⟩:=aj.1 hg;cases hg;rw[h0];rw[kv] at ho;have ho':ops[j]?=some og:=by simpa using ho
  show (yielded ops a.tmps j==some b)=Bd (ic (e d)) b
  have hv:=hE.val d;rw[Bool.eq_iff_iff,SF,beq_iff_eq];unfold yielded;simp only[ho',Option.bind_some,hd];constructor
  ·intro h
   split at h
   ·rename_i x hx
    cases h;rw[Array.getD_eq_getD_getElem?,hx] at hv;exact SE hv
   ·cases h
  ·intro h
   rw[h] at hv;have hv':=Bt hv;rw[Array.getD_eq_getD_getElem?] at hv';cases hx:a.tmps[d]? with
   | none=>rw[hx] at hv';cases hv'
   | some y =>
    rw[hx] at hv';simp only[Option.getD_some] at hv';subst hv';rfl
theorem eO.undef {φ:Ph}{nt:Nat}{e:En}{s:S}{a:Act}{w:World}(h:eO φ nt e s a w){d:Option Nat}(hd:nC nt d=true):eO φ nt (put e d undef) s (a.put d undef) w :=
 ⟨h.env.put hd (V.undef φ),h.stt,by cases d<;>exact h.iT⟩
theorem fe.cons {φ φ₁ φ₂:Ph}{s s₁ s₂:S}{w w₁ w₂:World}{nm SG:Nat}(hn:nm≤SG)(h0:Rel φ s.h w)(h1:Rel φ₁ s₁.h w₁)(a:fe φ ⟨nm,s.h,s.ds⟩ w φ₁ s₁ w₁)(b:fe φ₁ ⟨SG,s₁.h,s₁.ds⟩ w₁ φ₂ s₂ w₂) :
  fe φ ⟨nm,s.h,s.ds⟩ w φ₂ s₂ w₂ where
 ext:=a.ext.trans b.ext a.dx (fun _ hx=>h0.has hx) (fun _ hx=>h1.has hx)
 le:=Nat.le_trans hn b.le
 new x hx hn':=by
  by_cases h1:φ₁ x=none
  ·exact Nat.le_trans hn (b.new x h1 hn')
  ·exact a.new x hx h1
 dx x hx:=by
  rcases b.dx x hx with h1 | h1
  ·exact a.dx x h1
  ·cases h2:φ x with
   | none=>exact .inr rfl
   | some g=>rw[a.ext.sub x g h2] at h1;cases h1
theorem seq_ok (hN:jm P){call:Cl}(hC:iK P call){nt:Nat}{ops:Array Oper}{Q:Exit→Act→World→Prop} :
  ∀ (rest:List Oper) (i:Nat) (l:List St) (nm:Nat) (e:En) (s:S) (e':En) (s':S),ops.toList.drop i=rest→vK P nt ops.toList rest=some l→Ej call l nm e s=some (e',s')→∀ T:Nat,nm+rest.length≤T→T≤s.c →
   ∀ (φ:Ph) (a:Act) (w:World),eO φ nt e s a w→(∀ x,nm≤x→x<T→φ x=none) →
   (∀ φ' a' w',eO φ' nt e' s' a' w'→fe φ ⟨nm,s.h,s.ds⟩ w φ' s' w'→Q .normal a' w')→wpOps P ops Q (List.range' i rest.length) a w
 | [],i,l,nm,e,s,e',s',_,hl,hr,T,hle,hT,φ,a,w,hA,_,hQ=>by
  have hl':some []=some l:=hl;cases hl';have hr':some (e,s)=some (e',s'):=hr;cases hr';exact hQ φ a w hA ⟨Ext.refl φ _ w,by simp at hle;show nm≤s.c;omega,fun _ h0 h1=>(h1 h0).elim,fun _ hx=>.inl hx⟩
 | o :: rest,i,l,nm,e,s,e',s',hdr,hl,hr,T,hle,hT,φ,a,w,hA,hb,hQ=>by
  have hl':(aO (mr o.op) <| aO (nC nt o.dst) (oB (guardOf ops.toList o) fun g=>oB (comp P o.op) fun f=>oB (vK P nt ops.toList rest) fun r=>some ((⟨g,o.dst,f⟩:St) :: r)))=some l:=hl;rw[aN,aN] at hl';obtain⟨hok,hd,hl'⟩:=hl';obtain⟨g,hg,hl'⟩:=aj.1 hl';obtain⟨f,hf,hl'⟩:=aj.1 hl';obtain⟨r,hrr,hl'⟩:=aj.1 hl';cases hl';have hoi:ops[i]?=some o:=by
   have:(ops.toList.drop i)[0]?=some o:=by rw[hdr];rfl
   rw[List.getElem?_drop] at this;simpa using this
  have hdr':ops.toList.drop (i+1)=rest:=by
   have:(ops.toList.drop i).drop 1=rest:=by rw[hdr];rfl
   rwa [List.drop_drop] at this
  have hr':bB (want g e) (lM (f call e s nm) fun v s'=>Ej call r (Nat.succ nm) (put e o.dst v) s') (Ej call r (Nat.succ nm) (put e o.dst undef) s)=some (e',s'):=hr;rw[bT] at hr';simp only[List.length_cons] at hle;show wpOps P ops Q (i :: List.range' (i+1) rest.length) a w
  simp only[wpOps,hoi];rw[aea hA.env hg];split at hr'
  ·rename_i hw
   rw[if_pos hw];obtain⟨⟨v,s1⟩,h1,h2⟩:=aj.1 hr';rw[gQ] at h2;refine .inl (ad8 hN hC hf hok hd h1 hA (hb nm (Nat.le_refl _) (by omega)) hT (by omega) hb _ _ ?_);intro φ1 a1 w1 hA1 hG1 hfree hcc;refine seq_ok hN hC rest (i+1) r (nm+1) _ s1 e' s' hdr' hrr h2 T (by omega) (Nat.le_trans hT hcc) φ1 a1 w1 hA1 (fun x h3 h4=>hfree x (by omega) h4) ?_;intro φ' a' w' hA' hG';exact hQ φ' a' w' hA' (fe.cons (Nat.le_succ _) hA.stt.rel hA1.stt.rel hG1 hG')
  ·rename_i hw
   rw[if_neg hw];refine seq_ok hN hC rest (i+1) r (nm+1) _ s e' s' hdr' hrr hr' T (by omega) hT φ _ w (hA.undef hd) (fun x h1 h2=>hb x (by omega) h2) ?_;intro φ' a' w' hA' hG';exact hQ φ' a' w' hA' ⟨hG'.ext,Nat.le_trans (Nat.le_succ _) hG'.le,fun x h0 h1=>Nat.le_trans (Nat.le_succ _) (hG'.new x h0 h1),hG'.dx⟩
end Xe
end Go.Proofs.YtfcpglhpolpdcaaGreatDoor
