/- Code and functions: what our machine answers is what Go answers. -/
import Derived.Test.YtfcpglhpolpdcaaGreatDoorM40
import Derived.Scope
namespace Go.Proofs.YtfcpglhpolpdcaaGreatDoor
namespace Xe
variable {P:Program}
def BH:Nat→Exit
 | 0=>.normal
 | 1=>.ret
 | k+2=>.exit k
def To (φ:Ph)(nt:Nat)(s:S)(w:World)(r:R):Exit→Act→World→Prop:=fun ex a' w'=>ex=BH r.k∧∃ φ',eO φ' nt r.e r.s a' w'∧fe φ s w φ' r.s w'
def EK (P:Program)(call:Cl):Prop:=∀ (nt:Nat) (ops:Array Oper) (e:En) (s:S) (r:R),x8 P nt call ops e s=some r →
 ∀ (id:Nat) (φ:Ph) (a:Act) (w:World),eO φ nt e s a w→(Code.region id ops true).wp P (To φ nt s w r) a w
theorem BI {γ:Type}(r:R)(f:Nat→En→S→γ):rB r f=f r.k r.e r.s:=by cases r;rfl
theorem aeb (hN:jm P){call:Cl}(hC:iK P call){nt id:Nat}{ops:Array Oper}{e:En}{s:S}{r:R}(h:JF P nt call (aL ops) e s=some r){φ:Ph}{a:Act}{w:World}(hA:eO φ nt e s a w) :
  (Code.region id ops false).wp P (To φ nt s w r) a w:=by
 unfold JF at h;rw[jN,oC] at h;obtain⟨l,hl,h⟩:=aj.1 h;obtain⟨⟨e',s'⟩,h1,h2⟩:=aj.1 h;rw[gQ] at h2;cases h2;rw[bK] at hl h1;refine wp_region ?_;have hlen:ops.toList.length=ops.size:=by simp
 have:=seq_ok (Q:=To φ nt s w ⟨0,e',s'⟩) hN hC ops.toList 0 l s.c e ⟨s.c+ops.toList.length,s.h,s.ds⟩ e' s' (by simp) hl h1 (s.c+ops.toList.length) (Nat.le_refl _) (Nat.le_refl _) φ a w
  ⟨hA.env,⟨hA.stt.rel,fun x hx=>hA.stt.fr x (Nat.le_trans (Nat.le_add_right _ _) hx)⟩,hA.iT⟩ (fun x hx _=>hA.stt.fr x hx) (fun φ' a' w' hA' hG'=>⟨rfl,φ',hA',hG'⟩)
 rw[hlen,← List.range_eq_range'] at this;exact this
theorem To.mono {φ φ₁:Ph}{nt:Nat}{s s₁:S}{w w₁:World}{r:R}(h0:dG φ s w)(h1:dG φ₁ s₁ w₁)(hG:fe φ s w φ₁ s₁ w₁){ex:Exit}{a:Act}{w':World}(h:To φ₁ nt s₁ w₁ r ex a w'):To φ nt s w r ex a w' :=
 ⟨h.1,h.2.elim fun φ' h'=>⟨φ',h'.1,hG.trans h0 h1 h'.2⟩⟩
theorem SH {x:Option R}{f:En→S→Option R}{r:R}(hx:El x f=some r):∃ r0,x=some r0∧((r0.k=0∧f r0.e r0.s=some r)∨(r0.k≠0∧r0=r)):=by
 obtain⟨r0,h0,hx⟩:=aj.1 hx;rw[BI] at hx;refine⟨r0,h0,?_⟩;cases hk:r0.k with
 | zero=>rw[hk,Bi] at hx;exact .inl ⟨rfl,hx⟩
 | succ k =>
  rw[hk,Bj] at hx;cases hx;refine .inr ⟨by omega,?_⟩;cases r0;simp only at hk;subst hk;rfl
theorem aec {call:Cl}{nt N:Nat}{c:Code}(ih:∀ m,m<N→∀ (c:Code) (e:En) (s:S) (r:R),code P nt call m c e s=some r→∀ (φ:Ph) (a:Act) (w:World),eO φ nt e s a w→c.wp P (To φ nt s w r) a w) :
  ∀ (n:Nat),n≤N→∀ (e:En) (s:S) (r:R),code P nt call n (.loop c) e s=some r→∀ (φ:Ph) (a:Act) (w:World),eO φ nt e s a w →
   ∀ (b:Frame) (k:List Item) (cs:List Frame),∃ ex a' w',To φ nt s w r ex a' w'∧Arrives P (lone (b.at a (.code c :: .inLoop c :: k)) cs w) b k cs ex a' w':=by
 intro n;induction n with
 | zero=>intro _ e s r h;cases h
 | succ n ihn =>
  intro hn e s r h φ a w hA b k cs;have h':El (code P nt call n c e s) (code P nt call n (.loop c))=some r:=h;obtain⟨r0,h0,h1⟩:=SH h';obtain⟨ex,a1,w1,⟨rfl,φ1,hA1,hG1⟩,harr⟩:=ih n hn c e s r0 h0 φ a w hA b (.inLoop c :: k) cs;rcases h1 with⟨hk,h1⟩ | ⟨hk,rfl⟩
  ·rw[hk] at harr
   obtain⟨ex2,a2,w2,iW,aef⟩:=ihn (by omega) r0.e r0.s r h1 φ1 a1 w1 hA1 b k cs;exact⟨ex2,a2,w2,iW.mono hA.stt hA1.stt hG1,.of_steps (Steps.trans harr (.one step_inLoop)) aef⟩
  ·refine⟨_,a1,w1,⟨rfl,φ1,hA1,hG1⟩,.pass (x:=.inLoop c) rfl (fun _ _=>.inl ?_) harr⟩
   revert hk;cases r0.k with
   | zero=>intro hk;exact absurd rfl hk
   | succ k=>cases k<;>intro _<;>simp[BH]
theorem aeg (hN:jm P){call:Cl}(hC:iK P call)(hD:EK P call){nt:Nat}:∀ (n:Nat) (c:Code) (e:En) (s:S) (r:R),code P nt call n c e s=some r →
  ∀ (φ:Ph) (a:Act) (w:World),eO φ nt e s a w→c.wp P (To φ nt s w r) a w:=by
 intro n;induction n using Nat.strongRecOn with
 | _ n SI =>
 cases n with
 | zero=>intro c e s r h;cases h
 | succ n =>
  have ih:=SI n (Nat.lt_succ_self n);intro c e s r h φ a w hA;have h:RH P nt call (code P nt call n) c e s=some r:=h;cases c with
  | skip=>have h':some (⟨0,e,s⟩:R)=some r:=h;cases h';exact wp_skip ⟨rfl,φ,hA,fe.refl _ _ _⟩
  | label l=>have h':some (⟨0,e,s⟩:R)=some r:=h;cases h';exact wp_label ⟨rfl,φ,hA,fe.refl _ _ _⟩
  | ret=>have h':some (⟨1,e,s⟩:R)=some r:=h;cases h';exact wp_ret ⟨rfl,φ,hA,fe.refl _ _ _⟩
  | exit id=>have h':some (⟨Nat.add id 2,e,s⟩:R)=some r:=h;cases h';exact wp_exit ⟨rfl,φ,hA,fe.refl _ _ _⟩
  | region id ops draw =>
   cases draw with
   | true=>exact hD nt ops e s r h id φ a w hA
   | false=>exact aeb hN hC h hA
  | seq x y =>
   obtain⟨r0,h0,h1⟩:=SH h;refine wp_seq (wp_mono (ih x e s r0 h0 φ a w hA) ?_);rintro ex a1 w1 ⟨rfl,φ1,hA1,hG1⟩;rcases h1 with⟨hk,h1⟩ | ⟨hk,rfl⟩
   ·rw[hk]
    exact wp_mono (ih y r0.e r0.s r h1 φ1 a1 w1 hA1) fun ex a2 w2 h2=>h2.mono hA.stt hA1.stt hG1
   ·have:To φ nt s w r0 (BH r0.k) a1 w1:=⟨rfl,φ1,hA1,hG1⟩
    revert this hk;cases r0.k with
    | zero=>intro hk;exact absurd rfl hk
    | succ k=>cases k<;>exact fun _ h=>h
  | cond c x y =>
   have h':JC (ev e c) (code P nt call n x e s) (code P nt call n y e s)=some r:=h;unfold JC at h';obtain⟨b,hb,h'⟩:=JI.1 h';have hv:a.eval c=.bool b:=by
    cases c with
    | tmp t=>have:=hA.env.val t;exact Bt (show V φ (.bool b) _ from hb ▸ this)
    | const v=>exact hb
    | global g=>cases hb
    | func f=>cases hb
   rw[bT] at h';refine wp_cond hv ?_;split at h'
   ·rename_i ht;rw[if_pos ht];exact ih x e s r h' φ a w hA
   ·rename_i ht;rw[if_neg ht];exact ih y e s r h' φ a w hA
  | block id c =>
   have h':JB id (code P nt call n c e s)=some r:=h;unfold JB at h';obtain⟨r0,h0,h'⟩:=aj.1 h';rw[BI,bT,dV] at h';refine wp_block (wp_mono (ih c e s r0 h0 φ a w hA) ?_);rintro ex a1 w1 ⟨rfl,φ1,hA1,hG1⟩;split at h'
   ·rename_i hk
    have hk':r0.k=id+2:=by simpa using hk
    cases h';rw[hk'];show (if id=id then To φ nt s w ⟨0,r0.e,r0.s⟩ .normal a1 w1 else _)
    rw[if_pos rfl];exact⟨rfl,φ1,hA1,hG1⟩
   ·rename_i hk
    have hk':r0.k≠id+2:=by simpa using hk
    cases h';have hT:To φ nt s w ⟨r0.k,r0.e,r0.s⟩ (BH r0.k) a1 w1:=⟨rfl,φ1,hA1,hG1⟩;revert hT hk';cases r0.k with
    | zero=>exact fun _ h=>h
    | succ k =>
     cases k with
     | zero=>exact fun _ h=>h
     | succ k =>
      intro hk' hT;show (if k=id then _ else To φ nt s w ⟨k+2,r0.e,r0.s⟩ (.exit k) a1 w1)
      rw[if_neg (by omega)];exact hT
  | loop c =>
   have:=aec (fun m hm=>SI m hm) (n+1) (Nat.le_refl _) e s r h φ a w hA;intro b k cs;obtain⟨ex,a',w',hT,harr⟩:=this b k cs;exact⟨ex,a',w',hT,.of_steps (.one step_loop) harr⟩
  | scope c =>
   refine wp_scope_straight (wp_mono (ih c e s r h φ a w hA) ?_);rintro ex a1 w1 ⟨rfl,hh⟩;have hT:To φ nt s w r (BH r.k) a1 w1:=⟨rfl,hh⟩;revert hT;cases r.k with
   | zero=>exact id
   | succ k=>cases k<;>exact id
  | rangeFunc _ _ _ _=>cases h
  | goto l=>cases h
  | refuse w=>cases h
end Xe
namespace Xe
variable {P:Program}
theorem iO {α β:Type}{r:Result α}{f:α→β}{y:β}{w w':World}(hf:∀ a b,f a=f b→a=b){x:α}(hx:f x=y)(h:(r.andThen fun a w=>Result.ok (f a) w)=.ok y w'):r=.ok x w':=by
 have _:=w;cases r with
 | ok a w1 =>
  simp only[Result.andThen_ok,Result.ok.injEq] at h;obtain⟨h1,rfl⟩:=h;rw[hf a x (h1.trans hx.symm)]
 | halt h1 w1=>cases h
def EL (tmps:Array Value):ResultVar→Sem Value
 | .tmp t=>pure (tmps.getD t undef)
 | .cell x t=>do loadVar t (← asAddr (tmps.getD x undef))
theorem aeh {φ:Ph}{nt:Nat}{e:En}{s:S}{a:Act}{w:World}(hE:kr φ nt e a)(hR:Rel φ s.h w){r:ResultVar}{v:Value}(h:JG P e s r=some v) :
  ∃ v',V φ v v'∧(EL a.tmps r).run P w=.ok v' w:=by
 cases r with
 | tmp t =>
  have h':some (ic (e t))=some v:=h;cases h';exact⟨_,hE.val t,rfl⟩
 | cell x t =>
  have h':(oB (comp P (.load t (.tmp x))) fun f=>oB (f (fun _ _ _=>none) e s 0) fun p=>pB p fun v _=>some v)=some v:=h;obtain⟨f,hf,h'⟩:=aj.1 h';obtain⟨⟨v1,s1⟩,h1,h2⟩:=aj.1 h';rw[gQ] at h2;cases h2;rcases vZ hf with⟨_,hS⟩ | ⟨hc,_⟩ | ⟨hc,_⟩
  ·obtain⟨rfl,hS⟩:=hS _ e s 0 v s1 h1
   obtain⟨v',hv,hrun⟩:=hS φ a w (fun y hy=>by
    simp[Op.operands] at hy;subst hy;exact hE.val x) hR
   refine⟨v',hv,?_⟩;have hr:=hrun ⟨none,.load t (.tmp x),0,"",#[],none⟩ rfl
   have hr':((Instr.loadAt t (a.tmps.getD x undef)).run P w).andThen (fun a w=>Result.ok (Next.value a) w)=.ok (.value v') w:=by
    have e1:execOp a.eval (⟨none,.load t (.tmp x),0,"",#[],none⟩:Oper)=(do pure (.value (← Instr.loadAt t (a.tmps.getD x undef)))):=rfl
    rw[e1,Sem.run_bind] at hr;exact hr
   have hr2:=iO (w:=w) (fun _ _ h=>by cases h;rfl) rfl hr';show (do loadVar t (← asAddr (a.tmps.getD x undef)):Sem Value).run P w=_
   generalize a.tmps.getD x undef=u at hr2 ⊢;cases u with
   | pointer p =>
    cases p with
    | some p=>exact hr2
    | none=>simp[Instr.loadAt,Instr.sureAddr] at hr2
   | _=>simp[Instr.loadAt,Instr.sureAddr] at hr2
  ·cases hc
  ·cases hc
theorem SL {φ:Ph}{nt:Nat}{e:En}{s:S}{a:Act}{w:World}(hE:kr φ nt e a)(hR:Rel φ s.h w):∀ (rs:List ResultVar) (l:List Value),vQ P e s rs=some l →
  ∃ l',L (VA φ) l l'∧(rs.mapM (EL a.tmps)).run P w=.ok l' w
 | [],l,h=>by
  have h':some []=some l:=h;cases h';exact⟨[],trivial,rfl⟩
 | r :: rs,l,h=>by
  have h':(oB (JG P e s r) fun v=>aO (o9 v) (oB (vQ P e s rs) fun vs=>some (v :: vs)))=some l:=h;obtain⟨v,hv,h'⟩:=aj.1 h';rw[aN] at h';obtain⟨hn,h'⟩:=h';obtain⟨vs,hvs,h'⟩:=aj.1 h';cases h';obtain⟨v',h1,h2⟩:=aeh hE hR hv;obtain⟨l',h3,h4⟩:=SL hE hR rs vs hvs;refine⟨v' :: l',⟨yj h1 hn,h3⟩,?_⟩;rw[List.mapM_cons,Sem.run_bind,h2];simp only[Result.andThen_ok,Sem.run_bind,h4,Sem.run_pure]
theorem Kg {φ:Ph}{nt:Nat}{e:En}{s:S}{a:Act}{w:World}(hE:kr φ nt e a)(hR:Rel φ s.h w){fn:Func}{l:List Value}(h:vQ P e s (aL fn.results)=some l) :
  ∃ v',V φ (out l) v'∧(results fn a.tmps).run P w=.ok v' w:=by
 rw[bK] at h;obtain⟨l',hL,hrun⟩:=SL hE hR _ _ h;have hrun':(fn.results.mapM (EL a.tmps)).run P w=.ok l'.toArray w:=by
  rw[Array.mapM_eq_mapM_toList];simp only[Sem.run_map,hrun,Result.andThen_ok]
 refine⟨if h:l'.toArray.size=1 then l'.toArray[0] else .tuple l'.toArray,?_,?_⟩
 ·match l,l',hL with
  | [],[],_=>exact .inr ⟨#[],#[],rfl,rfl,trivial⟩
  | [v],[v'],hL=>exact .inl hL.1
  | v :: u :: l,v' :: u' :: l',hL=>exact .inr ⟨_,_,rfl,rfl,hL⟩
 ·show (do
   let vs ← fn.results.mapM (EL a.tmps)
   pure (if h:vs.size=1 then vs[0] else .tuple vs):Sem Value).run P w=_
  rw[Sem.run_bind,hrun'];rfl
theorem SN (hN:jm P){oz:Cl}(wo:Ke P oz){fn:Func}{tmps:Array Value}{Rr:Ending→World→Prop}{s':S}:∀ (ds:List (FuncId × List Value)) (ds':List Deferred) (s:S),defers oz ds s=some s' →
  ∀ (φ:Ph) (w:World),L (DR φ) ds ds'→dG φ s w→(∀ φ' w',Post φ s w φ' s' w'→Leaves P fn tmps Rr [] .returning w')→Leaves P fn tmps Rr ds' .returning w
 | [],[],s,h,φ,w,_,hS,hK=>by
  have h':some s=some s':=h;cases h';exact hK φ w (Post.refl hS)
 | d :: ds,d' :: ds',s,h,φ,w,hL,hS,hK=>by
  obtain⟨f,args⟩:=d;have h':lM (oz f args s) (fun _ s=>defers oz ds s)=some s':=h;obtain⟨⟨v,s1⟩,h1,h2⟩:=aj.1 h';rw[gQ] at h2;obtain⟨hds,hbd,hcall⟩:=wo f args s v s1 h1;obtain⟨⟨cap,htar,hargs⟩,hL2⟩:=hL;obtain⟨target,dargs⟩:=d';simp only at htar hargs;subst htar;refine⟨by simp,.func f,cap,f,dargs++cap,rfl,by simp[invoke,EI hN hbd],?_⟩;refine (hcall φ w (dargs++cap) .returning hargs hS).mono ?_;rintro e1 u' w1 ⟨rfl,φ1,v',rfl,_,hP⟩;show Leaves P fn tmps Rr ds' (settle .returning) w1
  refine SN hN wo ds ds' s1 h2 φ1 w1 (hL2.mono fun _ _=>DR.mono hP.ext.sub) hP.stt ?_;intro φ2 w2 hP2;exact hK φ2 w2 (hP.trans hS hP2)
 | [],_ :: _,_,_,_,_,h,_,_=>h.elim
 | _ :: _,[],_,_,_,_,h,_,_=>h.elim
theorem SQ:∀ (l:List Value) (i:Nat) (e:En) (t:Nat),enter l i e t=if i≤t∧t<i+l.length then l[t - i]? else e t
 | [],i,e,t=>by
  show e t=_
  rw[if_neg (by simp)]
 | v :: l,i,e,t=>by
  show enter l (Nat.succ i) (dE e i v) t=_
  rw[SQ l (i+1) _ t];by_cases h1:i+1≤t∧t<i+1+l.length
  ·rw[if_pos h1,if_pos (by simp;omega)]
   have:t - i=(t - (i+1))+1:=by omega
   rw[this,List.getElem?_cons_succ]
  ·rw[if_neg h1,Bh]
   by_cases h2:t=i
   ·subst h2;rw[if_pos rfl,if_pos (by simp)];simp
   ·rw[if_neg h2,if_neg (by simp;omega)]
theorem SS {φ:Ph}{args:List Value}{args':Array Value}{nt:Nat}(hL:L (V φ) args args'.toList)(hle:args.length≤nt) :
  kr φ nt (enter args 0 (fun _=>none)) { tmps:=args'++Array.replicate (nt - args'.size) undef,defers:=[] }:=by
 have hlen:=hL.length;simp at hlen;refine⟨by simp;omega,fun t=>?_⟩;rw[SQ];show V φ _ ((args'++Array.replicate (nt - args'.size) undef).getD t undef)
 rw[Array.getD_eq_getD_getElem?];by_cases ht:t<args.length
 ·rw[if_pos ⟨Nat.zero_le _,by omega⟩]
  obtain⟨x,hx⟩:∃ x,args[t]?=some x:=⟨args[t],by simp[ht]⟩;obtain⟨y,hy,hv⟩:=hL.at hx;have hy':args'[t]?=some y:=by simpa using hy
  rw[Array.getElem?_append_left (by omega),hy',Nat.sub_zero,hx];exact hv
 ·rw[if_neg (by omega),Array.getElem?_append_right (by omega)]
  have:((Array.replicate (nt - args'.size) undef)[t - args'.size]?).getD undef=undef:=by
   rw[Array.getElem?_replicate];split<;>rfl
  rw[this];exact V.undef φ
def Kh (P:Program)(iJ:Sp):Prop:=∀ call,iK P call→∀ f args s v s',iJ call f args s=some (some (v,s'))→Kc P f args s v s'
theorem EM {fn:Func}{ds:List (FuncId × List Value)}{e:En}{s:S}{v:Value}{s':S}(h:fin P fn ds e s=some (v,s')):∃ l,vQ P e ⟨s.c,s.h,ds⟩ (aL fn.results)=some l∧v=out l∧s'=⟨s.c,s.h,ds⟩:=by
 unfold fin at h;rw[jN] at h;obtain⟨l,hl,h⟩:=aj.1 h;cases h;exact⟨l,hl,rfl,rfl⟩
theorem Post.ds {φ φ':Ph}{s s':S}{w w':World}(h:Post φ s w φ' s' w')(d d':List (FuncId × List Value)):Post φ ⟨s.c,s.h,d⟩ w φ' ⟨s'.c,s'.h,d'⟩ w':=⟨⟨h.stt.rel,h.stt.fr⟩,h.ext,h.le,h.new,h.dx⟩
theorem SV (hN:jm P){call oz:Cl}(hC:iK P call)(wo:Ke P oz)(hD:EK P call){fn:Func}{c:Code}{args:List Value}{s s':S}{v:Value}{qW:Bool}(h:Bg P call oz qW args s (fn,c)=some (v,s')) :
  s'.ds=s.ds∧∀ (φ:Ph) (w:World) (args':Array Value),L (V φ) args args'.toList→dG φ s w →
   c.wp P (if qW=true then bodyPost P fn (fun e w'=>∃ φ' v',e=.returned v'∧V φ' v v'∧Post φ s w φ' s' w') else bodyPostD P fn (fun e w'=>∃ φ' v',e=.returned v'∧V φ' v v'∧Post φ s w φ' s' w'))
    { tmps:=args'++Array.replicate (fn.ntmps - args'.size) undef,defers:=[] } w:=by
 unfold Bg at h;rw[gQ,jN,aN,dW] at h;obtain⟨hle,h⟩:=h;have qY:args.length≤fn.ntmps:=by simpa using hle
 unfold leave at h;obtain⟨r,hr,h⟩:=aj.1 h;rw[BI,aN,jN,dW] at h;obtain⟨hk,h⟩:=h;have hk':r.k≤1:=by simpa using hk
 rw[bT] at h;have hds:s'.ds=s.ds:=by
  split at h
  ·cases hd:r.s.ds with
   | nil=>rw[hd,Es] at h;obtain⟨l,_,_,rfl⟩:=EM h;rfl
   | cons d l=>rw[hd,Et] at h;cases h
  ·obtain⟨s2,_,h⟩:=aj.1 h;obtain⟨l,_,_,rfl⟩:=EM h;rfl
 refine⟨hds,fun φ w args' hL hS=>?_⟩;have hA:eO φ fn.ntmps (enter args 0 (fun _=>none)) ⟨s.c,s.h,[]⟩ { tmps:=args'++Array.replicate (fn.ntmps - args'.size) undef,defers:=[] } w:=⟨SS hL qY,⟨hS.rel,hS.fr⟩,trivial⟩;refine wp_mono (aeg hN hC hD fuel c _ _ r hr φ _ w hA) ?_;rintro ex a1 w1 ⟨rfl,φ1,hA1,hG1⟩;have hP1:Post φ s w φ1 r.s w1:=⟨hA1.stt,hG1.ext,hG1.le,hG1.new,hG1.dx⟩;split at h
 ·rename_i Ki
  rw[if_pos Ki];have hnil:r.s.ds=[]:=by
   cases hd:r.s.ds with
   | nil=>rfl
   | cons d l=>rw[hd,Et] at h;cases h
  rw[hnil,Es] at h;obtain⟨l,hl,rfl,rfl⟩:=EM h;have hdf:a1.defers=[]:=by
   have:=hA1.iT;rw[hnil] at this;cases hh:a1.defers with
   | nil=>rfl
   | cons x y=>rw[hh] at this;exact this.elim
  obtain⟨v',hv,hrun⟩:=Kg (P:=P) (s:=⟨r.s.c,r.s.h,s.ds⟩) hA1.env hA1.stt.rel hl;have key:a1.defers=[]∧∃ u,(results fn a1.tmps).run P w1=.ok u w1∧∃ φ' v',(Ending.returned u)=.returned v'∧V φ' (out l) v'∧Post φ s w φ' ⟨r.s.c,r.s.h,s.ds⟩ w1:=⟨hdf,v',hrun,φ1,v',rfl,hv,hP1.ds s.ds s.ds⟩;revert hk' key;cases r.k with
  | zero=>exact fun _ h=>h
  | succ k =>
   cases k with
   | zero=>exact fun _ h=>h
   | succ k=>intro hk';omega
 ·rename_i Ki
  rw[if_neg Ki];obtain⟨s2,hs2,h⟩:=aj.1 h;obtain⟨l,hl,rfl,rfl⟩:=EM h;have key:Leaves P fn a1.tmps (fun e w'=>∃ φ' v',e=.returned v'∧V φ' (out l) v'∧Post φ s w φ' ⟨s2.c,s2.h,s.ds⟩ w') a1.defers .returning w1:=by
   refine SN hN wo r.s.ds a1.defers r.s hs2 φ1 w1 hA1.iT hA1.stt ?_;intro φ2 w2 hP2;have hE2:=hA1.env.mono hP2.ext.sub;obtain⟨v',hv,hrun⟩:=Kg (P:=P) (s:=⟨s2.c,s2.h,s.ds⟩) hE2 hP2.stt.rel hl;exact⟨v',hrun,φ2,v',rfl,hv,(hP1.trans hS hP2).ds s.ds s.ds⟩
  revert hk' key;cases r.k with
  | zero=>exact fun _ h=>h
  | succ k =>
   cases k with
   | zero=>exact fun _ h=>h
   | succ k=>intro hk';omega
theorem aei (hN:jm P){iJ:Sp}(hSp:Kh P iJ)(SX:∀ call,iK P call→EK P call):∀ n:Nat,iK P (func P iJ n false)∧Ke P (func P iJ n true):=by
 intro n;induction n with
 | zero =>
  refine⟨fun f args s v s' h=>?_,fun f args s v s' h=>?_⟩
  ·have h':none=some (v,s'):=h
   cases h'
  ·have h':none=some (v,s'):=h
   cases h'
 | succ n ih =>
  obtain⟨hC,wo⟩:=ih;refine⟨fun f args s v s' h=>?_,fun f args s v s' h=>?_⟩
  ·have h':@Option.rec (Option (Value × S)) (fun _=>Option (Value × S)) (oB (Er P f) fun p=>Bg P (func P iJ n false) (func P iJ n true) false args s p) (fun r=>r) (iJ (func P iJ n false) f args s)=some (v,s'):=h
   cases hsp:iJ (func P iJ n false) f args s with
   | some r =>
    rw[hsp] at h';have h2:r=some (v,s'):=h';subst h2;exact hSp _ hC f args s v s' hsp
   | none =>
    rw[hsp] at h';obtain⟨⟨fn,c⟩,hb,h2⟩:=aj.1 h';obtain⟨fn',hf,hb⟩:=aj.1 hb;obtain⟨c',hc,hb⟩:=aj.1 hb;cases hb;obtain⟨hds,hwp⟩:=SV hN hC wo (SX _ hC) h2;exact⟨hds,⟨fn,c,hf,hc⟩,fun φ w args' hL hS=>calls_of_wp_defers hf hc (hwp φ w args' hL hS)⟩
  ·have h':(oB (Er P f) fun p=>Bg P (func P iJ n false) (func P iJ n true) true args s p)=some (v,s'):=h
   obtain⟨⟨fn,c⟩,hb,h2⟩:=aj.1 h';obtain⟨fn',hf,hb⟩:=aj.1 hb;obtain⟨c',hc,hb⟩:=aj.1 hb;cases hb;obtain⟨hds,hwp⟩:=SV hN hC wo (SX _ hC) h2;refine⟨hds,⟨fn,c,hf,hc⟩,fun φ w args' u hL hS=>?_⟩;exact callsD_of_wp hf hc (hwp φ w args' hL hS)
end Xe
namespace Xe
variable {P:Program}
theorem jO (m k:Nat):tb m k=m.testBit k:=by
 unfold tb;rw[dV];have:Nat.land (Nat.shiftRight m k) 1=(m >>> k) % 2:=Nat.and_one_is_mod _;rw[this,Nat.testBit_eq_decide_div_mod_eq,Nat.shiftRight_eq_div_pow]
theorem wu {b:Bool}(h:not' b=true):b=false:=by cases b<;>simp_all [not',bB]
theorem BJ {acc:List Nat}:∀ {es:List Edge} {k:Nat},tb (ig acc es) k=true→∃ e ∈ es,Region.binds .any e=true∧(e.on=k∨tb (aH acc e.on) k=true)
 | [],k,h=>by rw[jO] at h;have h':Nat.testBit 0 k=true:=h;simp at h'
 | e :: es,k,h=>by
  have h':tb (bB (Region.binds .any e) (Nat.lor (Nat.lor (Nat.shiftLeft 1 e.on) ((nth acc e.on).getD 0)) (ig acc es)) (ig acc es)) k=true:=h;rw[bT] at h';split at h'
  ·rename_i hb
   rw[jO] at h';have h2:(1 <<< e.on ||| (nth acc e.on).getD 0 ||| ig acc es).testBit k=true:=h';rw[Nat.testBit_or,Nat.testBit_or,Bool.or_eq_true,Bool.or_eq_true] at h2;rcases h2 with (h2 | h2) | h2
   ·refine⟨e,by simp,hb,.inl ?_⟩
    rw[Nat.testBit_shiftLeft] at h2;simp only[Bool.and_eq_true,decide_eq_true_eq] at h2;have:=h2.2;rw[Nat.testBit_one_eq_true_iff_self_eq_zero] at this;omega
   ·exact⟨e,by simp,hb,.inr (by rw[jO];exact h2)⟩
   ·obtain⟨e',he,h3⟩:=BJ (es:=es) (by rw[jO];exact h2)
    exact⟨e',by simp[he],h3⟩
  ·obtain⟨e',he,h3⟩:=BJ (es:=es) h'
   exact⟨e',by simp[he],h3⟩
theorem EN {α:Type}:∀ {l:List α} {k i:Nat} {a:α},l[i]?=some a→(k+i,a) ∈ number l k
 | [],_,_,_,h=>by simp at h
 | b :: l,k,0,a,h=>by simp at h;subst h;simp[number]
 | b :: l,k,i+1,a,h=>by
  simp at h;have:=EN (k:=k+1) h;simp only[number,List.mem_cons];refine .inr ?_;rw[show k+(i+1)=k+1+i by omega];exact this
structure SY (ops:Array Oper) (ms:List Nat):Prop where
 edge:∀ (i:Nat) (o:Oper),ops[i]?=some o→∀ k,tb (aH ms i) k=true→∃ e ∈ o.after,Region.binds .any e=true∧(e.on=k∨tb (aH ms e.on) k=true)
 lt:∀ (i:Nat) (o:Oper),ops[i]?=some o→∀ k,tb (aH ms i) k=true→k<i
 trans:∀ (i j:Nat) (o p:Oper),ops[i]?=some o→ops[j]?=some p→tb (aH ms i) j=true→∀ k,tb (aH ms j) k=true→tb (aH ms i) k=true
 dst:∀ (i j:Nat) (o p:Oper) (d:Nat),ops[i]?=some o→ops[j]?=some p→i≠j→p.dst=some d→o.dst≠some d
 look:∀ (i j:Nat) (o p:Oper) (d:Nat),ops[i]?=some o→ops[j]?=some p→i≠j→p.dst=some d→d ∈ o.looksAt ops→tb (aH ms i) j=true∨tb (aH ms j) i=true
theorem S9 (d:Nat):vL (some d) (some d)=true:=by show Nat.beq d d=true;simp
theorem Ta {ops:Array Oper}(h:Bf ops=true):SY ops (bF [] (aL ops))∧xZ (bF [] (aL ops)) (mD (aL ops) 0)=true:=by
 unfold Bf at h;rw[Bool.and_eq_true,Bool.and_eq_true] at h;obtain⟨h1,h2,h3⟩:=h;generalize bF [] (aL ops)=ms at *;rw[List.all_eq_true] at h1;unfold RG at h2;rw[List.all_eq_true] at h2;have hmem:∀ (i:Nat) (o:Oper),ops[i]?=some o→(i,o) ∈ number (aL ops) 0:=by
  intro i o ho;have:=EN (k:=0) (l:=aL ops) (i:=i) (a:=o) (by rw[bK];simpa using ho);rwa [Nat.zero_add] at this
 have one:∀ (i:Nat) (o:Oper),ops[i]?=some o→aH ms i=ig ms (aL o.after)∧aH ms i<2 ^ i:=by
  intro i o ho;have:=h1 _ (hmem i o ho);unfold qU at this;rw[Bool.and_eq_true,dV,dW] at this;simp only[decide_eq_true_eq] at this;refine⟨this.1,?_⟩;have h4:=this.2;rw[show Nat.shiftLeft 1 i=1 <<< i from rfl,Nat.shiftLeft_eq,Nat.one_mul] at h4;omega
 have two:∀ (i j:Nat) (o p:Oper),ops[i]?=some o→ops[j]?=some p→i≠j→Ep ops ms i j o p=true∧(tb (aH ms i) j=true→aH ms j &&& aH ms i=aH ms j):=by
  intro i j o p ho hp hne;have:=h2 _ (hmem i o ho);rw[List.all_eq_true] at this;have:=this _ (hmem j p hp);unfold RF at this;simp only at this;rw[Bool.or_eq_true,dV] at this;rcases this with h | h
  ·exact absurd (by simpa using h) hne
  ·rw[Bool.and_eq_true,Bool.or_eq_true,dV] at h
   refine⟨h.1,fun ht=>?_⟩;rcases h.2 with h4 | h4
   ·rw[wu h4] at ht;cases ht
   ·simpa using h4
 refine⟨⟨?_,?_,?_,?_,?_⟩,h3⟩
 ·intro i o ho k hk
  rw[(one i o ho).1,bK] at hk;obtain⟨e,he,h4⟩:=BJ hk;exact⟨e,by simpa using he,h4⟩
 ·intro i o ho k hk
  rw[jO] at hk;rcases Nat.lt_or_ge k i with h | h
  ·exact h
  ·have:=Nat.testBit_lt_two_pow (Nat.lt_of_lt_of_le (one i o ho).2 (Nat.pow_le_pow_right (by omega) h))
   rw[this] at hk;cases hk
 ·intro i j o p ho hp hij k hk
  by_cases hne:i=j
  ·subst hne;exact hk
  ·have h5:=(two i j o p ho hp hne).2 hij
   rw[jO] at hk ⊢;rw[← h5,Nat.testBit_and,Bool.and_eq_true] at hk;exact hk.2
 ·intro i j o p d ho hp hne hd hd'
  have h5:=(two i j o p ho hp hne).1;unfold Ep at h5;rw[hd] at h5;simp only[Bool.and_eq_true] at h5;have:=wu h5.1;rw[hd',S9] at this;cases this
 ·intro i j o p d ho hp hne hd hl
  have h5:=(two i j o p ho hp hne).1;unfold Ep at h5;rw[hd] at h5;simp only[Bool.and_eq_true,Bool.or_eq_true] at h5;rcases h5.2 with h6 | h6
  ·have:=wu h6
   rw[List.any_eq_false] at this;have:=this d hl;rw[dV] at this;simp at this
  ·exact h6
theorem countB_le {p q:Nat→Bool}:∀ {l:List Nat},(∀ e ∈ l,p e=true→q e=true)→countB p l≤countB q l
 | [],_=>Nat.le_refl _
 | a :: l,h=>by
  have ih:=countB_le (l:=l) (p:=p) (q:=q) fun e he=>h e (by simp[he]);show bB (p a) (Nat.succ (countB p l)) (countB p l)≤bB (q a) (Nat.succ (countB q l)) (countB q l)
  rw[bT,bT];split
  ·rename_i hp
   rw[if_pos (h a (by simp) hp)];exact Nat.succ_le_succ ih
  ·split
   ·exact Nat.le_succ_of_le ih
   ·exact ih
theorem wy {p:Nat→Bool}:∀ {l:List Nat},(∀ (a b x y:Nat),a<b→l[a]?=some x→l[b]?=some y→p y=true→p x=true)→∀ (i x:Nat),l[i]?=some x→(p x=true ↔ i<countB p l)
 | [],_,i,x,hx=>by simp at hx
 | c :: l,h,i,x,hx=>by
  have ih:=wy (l:=l) (p:=p) fun a b x y hab hxa hyb=>h (a+1) (b+1) x y (by omega) (by simpa using hxa) (by simpa using hyb);have e1:countB p (c :: l)=bB (p c) (Nat.succ (countB p l)) (countB p l):=rfl;rw[e1,bT];have hzero:p c≠true→countB p l=0:=by
   intro hc;have:∀ e ∈ l,p e=true→False:=by
    intro e he hp;obtain⟨j,hj⟩:=List.getElem?_of_mem he;exact hc (h 0 (j+1) c e (by omega) rfl (by simpa using hj) hp)
   have:=countB_le (l:=l) (p:=p) (q:=fun _=>false) fun e he hp=>(this e he hp).elim;have h0:∀ l:List Nat,countB (fun _=>false) l=0:=by
    intro l;induction l with
    | nil=>rfl
    | cons a l ih=>exact ih
   rw[h0] at this;omega
  cases i with
  | zero =>
   simp at hx;subst hx;by_cases hc:p c=true
   ·simp[hc]
   ·rw[if_neg hc,hzero hc];simp[hc]
  | succ i =>
   simp at hx;rw[ih i x hx];by_cases hc:p c=true
   ·rw[if_pos hc];omega
   ·rw[if_neg hc,hzero hc];omega
end Xe
end Go.Proofs.YtfcpglhpolpdcaaGreatDoor
