/- A region in the text's order,whole. -/
import Derived.Test.YtfcpglhpolpdcaaGreatDoorM43
import Derived.Scope
namespace Go.Proofs.YtfcpglhpolpdcaaGreatDoor
namespace Xe
variable {P:Program}
theorem Ub {φ:Ph}{v:Value}{x:Bool}(h:V φ v (.bool x)):v=.bool x:=by
 rcases h with ((h | ⟨_,_,_,_,_,_,h,_⟩) | ⟨_,_,_,h,_⟩) | ⟨_,_,_,h,_⟩
 ·unfold V0 at h
  split at h;case h_1=>cases h;rfl
  case h_2=>cases h
  case h_3=>cases h
  case h_4=>cases h
  case h_5=>obtain⟨_,h,_⟩:=h;cases h
  case h_6=>cases h.2
  case h_7=>obtain⟨_,_,h,_⟩:=h;cases h
  case h_8=>cases h
  case h_9=>obtain⟨_,_,h⟩:=h;cases h
  case h_10=>cases h
  case h_11=>exact h.elim
 all_goals cases h
theorem Uc (v:Value)(b:Bool):BR v b=true ↔ v=.bool b:=by
 cases v<;>simp[BR,vP];rename_i x;cases x<;>cases b<;>simp[bB,not']
theorem afs {φ:Ph}{nt:Nat}{e:En}{a:Act}{ops:Array Oper}{o:Oper}{g:Option (Nat × Bool)}(hE:kI φ nt e a)(hg:guardOf ops.toList o=some g):Region.wanted o (yielded ops a.tmps)=want g e:=by
 unfold guardOf at hg;unfold Region.wanted;split at hg
 ·rename_i h0;cases hg;rw[h0];rfl
 ·rename_i j b h0
  obtain⟨og,ho,hg⟩:=aj.1 hg;obtain⟨d,hd,hg⟩:=aj.1 hg;cases hg;rw[h0];rw[kJ] at ho;have ho':ops[j]?=some og:=by simpa using ho
  show (yielded ops a.tmps j==some b)=BR (iy (e d)) b
  have hv:=hE.val d;rw[Bool.eq_iff_iff,Uc,beq_iff_eq];unfold yielded;simp only[ho',Option.bind_some,hd];constructor
  ·intro h
   split at h
   ·rename_i x hx
    cases h;rw[Array.getD_eq_getD_getElem?,hx] at hv;exact Ub hv
   ·cases h
  ·intro h
   rw[h] at hv;have hv':=Cj hv;rw[Array.getD_eq_getD_getElem?] at hv';cases hx:a.tmps[d]? with
   | none=>rw[hx] at hv';cases hv'
   | some y =>
    rw[hx] at hv';simp only[Option.getD_some] at hv';subst hv';rfl
theorem eX.undef {φ:Ph}{nt:Nat}{e:En}{s:S}{a:Act}{w:World}(h:eX φ nt e s a w){d:Option Nat}(hd:nP nt d=true):eX φ nt (put e d undef) s (a.put d undef) w :=
 ⟨h.env.put hd (V.undef φ),h.stt,by cases d<;>exact h.je⟩
theorem fC.cons {φ φ₁ φ₂:Ph}{s s₁ s₂:S}{w w₁ w₂:World}{nm Ud:Nat}(hn:nm≤Ud)(h0:Rel φ s.h w)(h1:Rel φ₁ s₁.h w₁)(a:fC φ ⟨nm,s.h,s.ds⟩ w φ₁ s₁ w₁)(b:fC φ₁ ⟨Ud,s₁.h,s₁.ds⟩ w₁ φ₂ s₂ w₂) :
  fC φ ⟨nm,s.h,s.ds⟩ w φ₂ s₂ w₂ where
 ext:=a.ext.trans b.ext a.dF (fun _ hx=>h0.has hx) (fun _ hx=>h1.has hx)
 le:=Nat.le_trans hn b.le
 new x hx hn':=by
  by_cases h1:φ₁ x=none
  ·exact Nat.le_trans hn (b.new x h1 hn')
  ·exact a.new x hx h1
 dF x hx:=by
  rcases b.dF x hx with h1 | h1
  ·exact a.dF x h1
  ·cases h2:φ x with
   | none=>exact .inr rfl
   | some g=>rw[a.ext.sub x g h2] at h1;cases h1
theorem seq_ok (hN:jF P){call:Cl}(hC:iP P call){nt:Nat}{ops:Array Oper}{Q:Exit→Act→World→Prop} :
  ∀ (rest:List Oper) (i:Nat) (l:List St) (nm:Nat) (e:En) (s:S) (e':En) (s':S),ops.toList.drop i=rest→vV P nt ops.toList rest=some l→EZ call l nm e s=some (e',s')→∀ T:Nat,nm+rest.length≤T→T≤s.c →
   ∀ (φ:Ph) (a:Act) (w:World),eX φ nt e s a w→(∀ x,nm≤x→x<T→φ x=none) →
   (∀ φ' a' w',eX φ' nt e' s' a' w'→fC φ ⟨nm,s.h,s.ds⟩ w φ' s' w'→Q .normal a' w')→wpOps P ops Q (List.range' i rest.length) a w
 | [],i,l,nm,e,s,e',s',_,hl,hr,T,hle,hT,φ,a,w,hA,_,hQ=>by
  have hl':some []=some l:=hl;cases hl';have hr':some (e,s)=some (e',s'):=hr;cases hr';exact hQ φ a w hA ⟨Ext.refl φ _ w,by simp at hle;show nm≤s.c;omega,fun _ h0 h1=>(h1 h0).elim,fun _ hx=>.inl hx⟩
 | o :: rest,i,l,nm,e,s,e',s',hdr,hl,hr,T,hle,hT,φ,a,w,hA,hb,hQ=>by
  have hl':(aO (mJ o.op) <| aO (nP nt o.dst) (oB (guardOf ops.toList o) fun g=>oB (comp P o.op) fun f=>oB (vV P nt ops.toList rest) fun r=>some ((⟨g,o.dst,f⟩:St) :: r)))=some l:=hl;rw[aN,aN] at hl';obtain⟨hok,hd,hl'⟩:=hl';obtain⟨g,hg,hl'⟩:=aj.1 hl';obtain⟨f,hf,hl'⟩:=aj.1 hl';obtain⟨r,hrr,hl'⟩:=aj.1 hl';cases hl';have hoi:ops[i]?=some o:=by
   have:(ops.toList.drop i)[0]?=some o:=by rw[hdr];rfl
   rw[List.getElem?_drop] at this;simpa using this
  have hdr':ops.toList.drop (i+1)=rest:=by
   have:(ops.toList.drop i).drop 1=rest:=by rw[hdr];rfl
   rwa [List.drop_drop] at this
  have hr':bB (want g e) (l7 (f call e s nm) fun v s'=>EZ call r (Nat.succ nm) (put e o.dst v) s') (EZ call r (Nat.succ nm) (put e o.dst undef) s)=some (e',s'):=hr;rw[bV] at hr';simp only[List.length_cons] at hle;show wpOps P ops Q (i :: List.range' (i+1) rest.length) a w
  simp only[wpOps,hoi];rw[afs hA.env hg];split at hr'
  ·rename_i hw
   rw[if_pos hw];obtain⟨⟨v,s1⟩,h1,h2⟩:=aj.1 hr';rw[gW] at h2;refine .inl (afq hN hC hf hok hd h1 hA (hb nm (Nat.le_refl _) (by omega)) hT (by omega) hb _ _ ?_);intro φ1 a1 w1 hA1 hG1 hfree hcc;refine seq_ok hN hC rest (i+1) r (nm+1) _ s1 e' s' hdr' hrr h2 T (by omega) (Nat.le_trans hT hcc) φ1 a1 w1 hA1 (fun x h3 h4=>hfree x (by omega) h4) ?_;intro φ' a' w' hA' hG';exact hQ φ' a' w' hA' (fC.cons (Nat.le_succ _) hA.stt.rel hA1.stt.rel hG1 hG')
  ·rename_i hw
   rw[if_neg hw];refine seq_ok hN hC rest (i+1) r (nm+1) _ s e' s' hdr' hrr hr' T (by omega) hT φ _ w (hA.undef hd) (fun x h1 h2=>hb x (by omega) h2) ?_;intro φ' a' w' hA' hG';exact hQ φ' a' w' hA' ⟨hG'.ext,Nat.le_trans (Nat.le_succ _) hG'.le,fun x h0 h1=>Nat.le_trans (Nat.le_succ _) (hG'.new x h0 h1),hG'.dF⟩
end Xe
namespace Xe
variable {P:Program}
def Cw:Nat→Exit
 | 0=>.normal
 | 1=>.ret
 | k+2=>.exit k
def To (φ:Ph)(nt:Nat)(s:S)(w:World)(r:R):Exit→Act→World→Prop:=fun ex a' w'=>ex=Cw r.k∧∃ φ',eX φ' nt r.e r.s a' w'∧fC φ s w φ' r.s w'
def FE (P:Program)(call:Cl):Prop:=∀ (nt:Nat) (ops:Array Oper) (e:En) (s:S) (r:R),yI P nt call ops e s=some r →
 ∀ (id:Nat) (φ:Ph) (a:Act) (w:World),eX φ nt e s a w→(Code.region id ops true).wp P (To φ nt s w r) a w
theorem Cy {γ:Type}(r:R)(f:Nat→En→S→γ):rB r f=f r.k r.e r.s:=by cases r;rfl
theorem aft (hN:jF P){call:Cl}(hC:iP P call){nt id:Nat}{ops:Array Oper}{e:En}{s:S}{r:R}(h:Kh P nt call (aL ops) e s=some r){φ:Ph}{a:Act}{w:World}(hA:eX φ nt e s a w) :
  (Code.region id ops false).wp P (To φ nt s w r) a w:=by
 unfold Kh at h;rw[jZ,oP] at h;obtain⟨l,hl,h⟩:=aj.1 h;obtain⟨⟨e',s'⟩,h1,h2⟩:=aj.1 h;rw[gW] at h2;cases h2;rw[bL] at hl h1;refine wp_region ?_;have hlen:ops.toList.length=ops.size:=by simp
 have:=seq_ok (Q:=To φ nt s w ⟨0,e',s'⟩) hN hC ops.toList 0 l s.c e ⟨s.c+ops.toList.length,s.h,s.ds⟩ e' s' (by simp) hl h1 (s.c+ops.toList.length) (Nat.le_refl _) (Nat.le_refl _) φ a w
  ⟨hA.env,⟨hA.stt.rel,fun x hx=>hA.stt.fr x (Nat.le_trans (Nat.le_add_right _ _) hx)⟩,hA.je⟩ (fun x hx _=>hA.stt.fr x hx) (fun φ' a' w' hA' hG'=>⟨rfl,φ',hA',hG'⟩)
 rw[hlen,← List.range_eq_range'] at this;exact this
theorem To.mono {φ φ₁:Ph}{nt:Nat}{s s₁:S}{w w₁:World}{r:R}(h0:dK φ s w)(h1:dK φ₁ s₁ w₁)(hG:fC φ s w φ₁ s₁ w₁){ex:Exit}{a:Act}{w':World}(h:To φ₁ nt s₁ w₁ r ex a w'):To φ nt s w r ex a w' :=
 ⟨h.1,h.2.elim fun φ' h'=>⟨φ',h'.1,hG.trans h0 h1 h'.2⟩⟩
theorem Ue {x:Option R}{f:En→S→Option R}{r:R}(hx:E8 x f=some r):∃ r0,x=some r0∧((r0.k=0∧f r0.e r0.s=some r)∨(r0.k≠0∧r0=r)):=by
 obtain⟨r0,h0,hx⟩:=aj.1 hx;rw[Cy] at hx;refine⟨r0,h0,?_⟩;cases hk:r0.k with
 | zero=>rw[hk,Cb] at hx;exact .inl ⟨rfl,hx⟩
 | succ k =>
  rw[hk,Cc] at hx;cases hx;refine .inr ⟨by omega,?_⟩;cases r0;simp only at hk;subst hk;rfl
theorem afu {call:Cl}{nt N:Nat}{c:Code}(ih:∀ m,m<N→∀ (c:Code) (e:En) (s:S) (r:R),code P nt call m c e s=some r→∀ (φ:Ph) (a:Act) (w:World),eX φ nt e s a w→c.wp P (To φ nt s w r) a w) :
  ∀ (n:Nat),n≤N→∀ (e:En) (s:S) (r:R),code P nt call n (.loop c) e s=some r→∀ (φ:Ph) (a:Act) (w:World),eX φ nt e s a w →
   ∀ (b:Frame) (k:List Item) (cs:List Frame),∃ ex a' w',To φ nt s w r ex a' w'∧Arrives P (lone (b.at a (.code c :: .inLoop c :: k)) cs w) b k cs ex a' w':=by
 intro n;induction n with
 | zero=>intro _ e s r h;cases h
 | succ n ihn =>
  intro hn e s r h φ a w hA b k cs;have h':E8 (code P nt call n c e s) (code P nt call n (.loop c))=some r:=h;obtain⟨r0,h0,h1⟩:=Ue h';obtain⟨ex,a1,w1,⟨rfl,φ1,hA1,hG1⟩,harr⟩:=ih n hn c e s r0 h0 φ a w hA b (.inLoop c :: k) cs;rcases h1 with⟨hk,h1⟩ | ⟨hk,rfl⟩
  ·rw[hk] at harr
   obtain⟨ex2,a2,w2,jk,afx⟩:=ihn (by omega) r0.e r0.s r h1 φ1 a1 w1 hA1 b k cs;exact⟨ex2,a2,w2,jk.mono hA.stt hA1.stt hG1,.of_steps (Steps.trans harr (.one step_inLoop)) afx⟩
  ·refine⟨_,a1,w1,⟨rfl,φ1,hA1,hG1⟩,.pass (x:=.inLoop c) rfl (fun _ _=>.inl ?_) harr⟩
   revert hk;cases r0.k with
   | zero=>intro hk;exact absurd rfl hk
   | succ k=>cases k<;>intro _<;>simp[Cw]
theorem afy (hN:jF P){call:Cl}(hC:iP P call)(hD:FE P call){nt:Nat}:∀ (n:Nat) (c:Code) (e:En) (s:S) (r:R),code P nt call n c e s=some r →
  ∀ (φ:Ph) (a:Act) (w:World),eX φ nt e s a w→c.wp P (To φ nt s w r) a w:=by
 intro n;induction n using Nat.strongRecOn with
 | _ n Uf =>
 cases n with
 | zero=>intro c e s r h;cases h
 | succ n =>
  have ih:=Uf n (Nat.lt_succ_self n);intro c e s r h φ a w hA;have h:Tq P nt call (code P nt call n) c e s=some r:=h;cases c with
  | skip=>have h':some (⟨0,e,s⟩:R)=some r:=h;cases h';exact wp_skip ⟨rfl,φ,hA,fC.refl _ _ _⟩
  | label l=>have h':some (⟨0,e,s⟩:R)=some r:=h;cases h';exact wp_label ⟨rfl,φ,hA,fC.refl _ _ _⟩
  | ret=>have h':some (⟨1,e,s⟩:R)=some r:=h;cases h';exact wp_ret ⟨rfl,φ,hA,fC.refl _ _ _⟩
  | exit id=>have h':some (⟨Nat.add id 2,e,s⟩:R)=some r:=h;cases h';exact wp_exit ⟨rfl,φ,hA,fC.refl _ _ _⟩
  | region id ops draw =>
   cases draw with
   | true=>exact hD nt ops e s r h id φ a w hA
   | false=>exact aft hN hC h hA
  | seq x y =>
   obtain⟨r0,h0,h1⟩:=Ue h;refine wp_seq (wp_mono (ih x e s r0 h0 φ a w hA) ?_);rintro ex a1 w1 ⟨rfl,φ1,hA1,hG1⟩;rcases h1 with⟨hk,h1⟩ | ⟨hk,rfl⟩
   ·rw[hk]
    exact wp_mono (ih y r0.e r0.s r h1 φ1 a1 w1 hA1) fun ex a2 w2 h2=>h2.mono hA.stt hA1.stt hG1
   ·have:To φ nt s w r0 (Cw r0.k) a1 w1:=⟨rfl,φ1,hA1,hG1⟩
    revert this hk;cases r0.k with
    | zero=>intro hk;exact absurd rfl hk
    | succ k=>cases k<;>exact fun _ h=>h
  | cond c x y =>
   have h':Kc (ev e c) (code P nt call n x e s) (code P nt call n y e s)=some r:=h;unfold Kc at h';obtain⟨b,hb,h'⟩:=Kk.1 h';have hv:a.eval c=.bool b:=by
    cases c with
    | tmp t=>have:=hA.env.val t;exact Cj (show V φ (.bool b) _ from hb ▸ this)
    | const v=>exact hb
    | global g=>cases hb
    | func f=>cases hb
   rw[bV] at h';refine wp_cond hv ?_;split at h'
   ·rename_i ht;rw[if_pos ht];exact ih x e s r h' φ a w hA
   ·rename_i ht;rw[if_neg ht];exact ih y e s r h' φ a w hA
  | block id c =>
   have h':Kb id (code P nt call n c e s)=some r:=h;unfold Kb at h';obtain⟨r0,h0,h'⟩:=aj.1 h';rw[Cy,bV,dZ] at h';refine wp_block (wp_mono (ih c e s r0 h0 φ a w hA) ?_);rintro ex a1 w1 ⟨rfl,φ1,hA1,hG1⟩;split at h'
   ·rename_i hk
    have hk':r0.k=id+2:=by simpa using hk
    cases h';rw[hk'];show (if id=id then To φ nt s w ⟨0,r0.e,r0.s⟩ .normal a1 w1 else _)
    rw[if_pos rfl];exact⟨rfl,φ1,hA1,hG1⟩
   ·rename_i hk
    have hk':r0.k≠id+2:=by simpa using hk
    cases h';have hT:To φ nt s w ⟨r0.k,r0.e,r0.s⟩ (Cw r0.k) a1 w1:=⟨rfl,φ1,hA1,hG1⟩;revert hT hk';cases r0.k with
    | zero=>exact fun _ h=>h
    | succ k =>
     cases k with
     | zero=>exact fun _ h=>h
     | succ k =>
      intro hk' hT;show (if k=id then _ else To φ nt s w ⟨k+2,r0.e,r0.s⟩ (.exit k) a1 w1)
      rw[if_neg (by omega)];exact hT
  | loop c =>
   have:=afu (fun m hm=>Uf m hm) (n+1) (Nat.le_refl _) e s r h φ a w hA;intro b k cs;obtain⟨ex,a',w',hT,harr⟩:=this b k cs;exact⟨ex,a',w',hT,.of_steps (.one step_loop) harr⟩
  | scope c =>
   refine wp_scope_straight (wp_mono (ih c e s r h φ a w hA) ?_);rintro ex a1 w1 ⟨rfl,hh⟩;have hT:To φ nt s w r (Cw r.k) a1 w1:=⟨rfl,hh⟩;revert hT;cases r.k with
   | zero=>exact id
   | succ k=>cases k<;>exact id
  | rangeFunc _ _ _ _=>cases h
  | goto l=>cases h
  | refuse w=>cases h
end Xe
namespace Xe
variable {P:Program}
theorem iU {α β:Type}{r:Result α}{f:α→β}{y:β}{w w':World}(hf:∀ a b,f a=f b→a=b){x:α}(hx:f x=y)(h:(r.andThen fun a w=>Result.ok (f a) w)=.ok y w'):r=.ok x w':=by
 have _:=w;cases r with
 | ok a w1 =>
  simp only[Result.andThen_ok,Result.ok.injEq] at h;obtain⟨h1,rfl⟩:=h;rw[hf a x (h1.trans hx.symm)]
 | halt h1 w1=>cases h
def FH (tmps:Array Value):ResultVar→Sem Value
 | .tmp t=>pure (tmps.getD t undef)
 | .cell x t=>do loadVar t (← asAddr (tmps.getD x undef))
theorem afz {φ:Ph}{nt:Nat}{e:En}{s:S}{a:Act}{w:World}(hE:kI φ nt e a)(hR:Rel φ s.h w){r:ResultVar}{v:Value}(h:Ki P e s r=some v) :
  ∃ v',V φ v v'∧(FH a.tmps r).run P w=.ok v' w:=by
 cases r with
 | tmp t =>
  have h':some (iy (e t))=some v:=h;cases h';exact⟨_,hE.val t,rfl⟩
 | cell x t =>
  have h':(oB (comp P (.load t (.tmp x))) fun f=>oB (f (fun _ _ _=>none) e s 0) fun p=>pB p fun v _=>some v)=some v:=h;obtain⟨f,hf,h'⟩:=aj.1 h';obtain⟨⟨v1,s1⟩,h1,h2⟩:=aj.1 h';rw[gW] at h2;cases h2;rcases wC hf with⟨_,hS⟩ | ⟨hc,_⟩ | ⟨hc,_⟩
  ·obtain⟨rfl,hS⟩:=hS _ e s 0 v s1 h1
   obtain⟨v',hv,hrun⟩:=hS φ a w (fun y hy=>by
    simp[Op.operands] at hy;subst hy;exact hE.val x) hR
   refine⟨v',hv,?_⟩;have hr:=hrun ⟨none,.load t (.tmp x),0,"",#[],none⟩ rfl
   have hr':((Instr.loadAt t (a.tmps.getD x undef)).run P w).andThen (fun a w=>Result.ok (Next.value a) w)=.ok (.value v') w:=by
    have e1:execOp a.eval (⟨none,.load t (.tmp x),0,"",#[],none⟩:Oper)=(do pure (.value (← Instr.loadAt t (a.tmps.getD x undef)))):=rfl
    rw[e1,Sem.run_bind] at hr;exact hr
   have hr2:=iU (w:=w) (fun _ _ h=>by cases h;rfl) rfl hr';show (do loadVar t (← asAddr (a.tmps.getD x undef)):Sem Value).run P w=_
   generalize a.tmps.getD x undef=u at hr2 ⊢;cases u with
   | pointer p =>
    cases p with
    | some p=>exact hr2
    | none=>simp[Instr.loadAt,Instr.sureAddr] at hr2
   | _=>simp[Instr.loadAt,Instr.sureAddr] at hr2
  ·cases hc
  ·cases hc
theorem Ug {φ:Ph}{nt:Nat}{e:En}{s:S}{a:Act}{w:World}(hE:kI φ nt e a)(hR:Rel φ s.h w):∀ (rs:List ResultVar) (l:List Value),wh P e s rs=some l →
  ∃ l',L (VA φ) l l'∧(rs.mapM (FH a.tmps)).run P w=.ok l' w
 | [],l,h=>by
  have h':some []=some l:=h;cases h';exact⟨[],trivial,rfl⟩
 | r :: rs,l,h=>by
  have h':(oB (Ki P e s r) fun v=>aO (pQ v) (oB (wh P e s rs) fun vs=>some (v :: vs)))=some l:=h;obtain⟨v,hv,h'⟩:=aj.1 h';rw[aN] at h';obtain⟨hn,h'⟩:=h';obtain⟨vs,hvs,h'⟩:=aj.1 h';cases h';obtain⟨v',h1,h2⟩:=afz hE hR hv;obtain⟨l',h3,h4⟩:=Ug hE hR rs vs hvs;refine⟨v' :: l',⟨yN h1 hn,h3⟩,?_⟩;rw[List.mapM_cons,Sem.run_bind,h2];simp only[Result.andThen_ok,Sem.run_bind,h4,Sem.run_pure]
theorem KW {φ:Ph}{nt:Nat}{e:En}{s:S}{a:Act}{w:World}(hE:kI φ nt e a)(hR:Rel φ s.h w){fn:Func}{l:List Value}(h:wh P e s (aL fn.results)=some l) :
  ∃ v',V φ (out l) v'∧(results fn a.tmps).run P w=.ok v' w:=by
 rw[bL] at h;obtain⟨l',hL,hrun⟩:=Ug hE hR _ _ h;have hrun':(fn.results.mapM (FH a.tmps)).run P w=.ok l'.toArray w:=by
  rw[Array.mapM_eq_mapM_toList];simp only[Sem.run_map,hrun,Result.andThen_ok]
 refine⟨if h:l'.toArray.size=1 then l'.toArray[0] else .tuple l'.toArray,?_,?_⟩
 ·match l,l',hL with
  | [],[],_=>exact .inr ⟨#[],#[],rfl,rfl,trivial⟩
  | [v],[v'],hL=>exact .inl hL.1
  | v :: u :: l,v' :: u' :: l',hL=>exact .inr ⟨_,_,rfl,rfl,hL⟩
 ·show (do
   let vs ← fn.results.mapM (FH a.tmps)
   pure (if h:vs.size=1 then vs[0] else .tuple vs):Sem Value).run P w=_
  rw[Sem.run_bind,hrun'];rfl
theorem Uh (hN:jF P){oO:Cl}(wF:KV P oO){fn:Func}{tmps:Array Value}{Rr:Ending→World→Prop}{s':S}:∀ (ds:List (FuncId × List Value)) (ds':List Deferred) (s:S),defers oO ds s=some s' →
  ∀ (φ:Ph) (w:World),L (DR φ) ds ds'→dK φ s w→(∀ φ' w',Post φ s w φ' s' w'→Leaves P fn tmps Rr [] .returning w')→Leaves P fn tmps Rr ds' .returning w
 | [],[],s,h,φ,w,_,hS,hK=>by
  have h':some s=some s':=h;cases h';exact hK φ w (Post.refl hS)
 | d :: ds,d' :: ds',s,h,φ,w,hL,hS,hK=>by
  obtain⟨f,args⟩:=d;have h':l7 (oO f args s) (fun _ s=>defers oO ds s)=some s':=h;obtain⟨⟨v,s1⟩,h1,h2⟩:=aj.1 h';rw[gW] at h2;obtain⟨hds,hbd,hcall⟩:=wF f args s v s1 h1;obtain⟨⟨cap,htar,hargs⟩,hL2⟩:=hL;obtain⟨target,dargs⟩:=d';simp only at htar hargs;subst htar;refine⟨by simp,.func f,cap,f,dargs++cap,rfl,by simp[invoke,FB hN hbd],?_⟩;refine (hcall φ w (dargs++cap) .returning hargs hS).mono ?_;rintro e1 u' w1 ⟨rfl,φ1,v',rfl,_,hP⟩;show Leaves P fn tmps Rr ds' (settle .returning) w1
  refine Uh hN wF ds ds' s1 h2 φ1 w1 (hL2.mono fun _ _=>DR.mono hP.ext.sub) hP.stt ?_;intro φ2 w2 hP2;exact hK φ2 w2 (hP.trans hS hP2)
 | [],_ :: _,_,_,_,_,h,_,_=>h.elim
 | _ :: _,[],_,_,_,_,h,_,_=>h.elim
theorem Ui:∀ (l:List Value) (i:Nat) (e:En) (t:Nat),enter l i e t=if i≤t∧t<i+l.length then l[t - i]? else e t
 | [],i,e,t=>by
  show e t=_
  rw[if_neg (by simp)]
 | v :: l,i,e,t=>by
  show enter l (Nat.succ i) (dU e i v) t=_
  rw[Ui l (i+1) _ t];by_cases h1:i+1≤t∧t<i+1+l.length
  ·rw[if_pos h1,if_pos (by simp;omega)]
   have:t - i=(t - (i+1))+1:=by omega
   rw[this,List.getElem?_cons_succ]
  ·rw[if_neg h1,Ca]
   by_cases h2:t=i
   ·subst h2;rw[if_pos rfl,if_pos (by simp)];simp
   ·rw[if_neg h2,if_neg (by simp;omega)]
theorem Uj {φ:Ph}{args:List Value}{args':Array Value}{nt:Nat}(hL:L (V φ) args args'.toList)(hle:args.length≤nt) :
  kI φ nt (enter args 0 (fun _=>none)) { tmps:=args'++Array.replicate (nt - args'.size) undef,defers:=[] }:=by
 have hlen:=hL.length;simp at hlen;refine⟨by simp;omega,fun t=>?_⟩;rw[Ui];show V φ _ ((args'++Array.replicate (nt - args'.size) undef).getD t undef)
 rw[Array.getD_eq_getD_getElem?];by_cases ht:t<args.length
 ·rw[if_pos ⟨Nat.zero_le _,by omega⟩]
  obtain⟨x,hx⟩:∃ x,args[t]?=some x:=⟨args[t],by simp[ht]⟩;obtain⟨y,hy,hv⟩:=hL.at hx;have hy':args'[t]?=some y:=by simpa using hy
  rw[Array.getElem?_append_left (by omega),hy',Nat.sub_zero,hx];exact hv
 ·rw[if_neg (by omega),Array.getElem?_append_right (by omega)]
  have:((Array.replicate (nt - args'.size) undef)[t - args'.size]?).getD undef=undef:=by
   rw[Array.getElem?_replicate];split<;>rfl
  rw[this];exact V.undef φ
def KX (P:Program)(iO:Sp):Prop:=∀ call,iP P call→∀ f args s v s',iO call f args s=some (some (v,s'))→KU P f args s v s'
theorem FI {fn:Func}{ds:List (FuncId × List Value)}{e:En}{s:S}{v:Value}{s':S}(h:fin P fn ds e s=some (v,s')):∃ l,wh P e ⟨s.c,s.h,ds⟩ (aL fn.results)=some l∧v=out l∧s'=⟨s.c,s.h,ds⟩:=by
 unfold fin at h;rw[jZ] at h;obtain⟨l,hl,h⟩:=aj.1 h;cases h;exact⟨l,hl,rfl,rfl⟩
theorem Post.ds {φ φ':Ph}{s s':S}{w w':World}(h:Post φ s w φ' s' w')(d d':List (FuncId × List Value)):Post φ ⟨s.c,s.h,d⟩ w φ' ⟨s'.c,s'.h,d'⟩ w':=⟨⟨h.stt.rel,h.stt.fr⟩,h.ext,h.le,h.new,h.dF⟩
theorem Uk (hN:jF P){call oO:Cl}(hC:iP P call)(wF:KV P oO)(hD:FE P call){fn:Func}{c:Code}{args:List Value}{s s':S}{v:Value}{rz:Bool}(h:BV P call oO rz args s (fn,c)=some (v,s')) :
  s'.ds=s.ds∧∀ (φ:Ph) (w:World) (args':Array Value),L (V φ) args args'.toList→dK φ s w →
   c.wp P (if rz=true then bodyPost P fn (fun e w'=>∃ φ' v',e=.returned v'∧V φ' v v'∧Post φ s w φ' s' w') else bodyPostD P fn (fun e w'=>∃ φ' v',e=.returned v'∧V φ' v v'∧Post φ s w φ' s' w'))
    { tmps:=args'++Array.replicate (fn.ntmps - args'.size) undef,defers:=[] } w:=by
 unfold BV at h;rw[gW,jZ,aN,ed] at h;obtain⟨hle,h⟩:=h;have rC:args.length≤fn.ntmps:=by simpa using hle
 unfold leave at h;obtain⟨r,hr,h⟩:=aj.1 h;rw[Cy,aN,jZ,ed] at h;obtain⟨hk,h⟩:=h;have hk':r.k≤1:=by simpa using hk
 rw[bV] at h;have hds:s'.ds=s.ds:=by
  split at h
  ·cases hd:r.s.ds with
   | nil=>rw[hd,Ff] at h;obtain⟨l,_,_,rfl⟩:=FI h;rfl
   | cons d l=>rw[hd,Fg] at h;cases h
  ·obtain⟨s2,_,h⟩:=aj.1 h;obtain⟨l,_,_,rfl⟩:=FI h;rfl
 refine⟨hds,fun φ w args' hL hS=>?_⟩;have hA:eX φ fn.ntmps (enter args 0 (fun _=>none)) ⟨s.c,s.h,[]⟩ { tmps:=args'++Array.replicate (fn.ntmps - args'.size) undef,defers:=[] } w:=⟨Uj hL rC,⟨hS.rel,hS.fr⟩,trivial⟩;refine wp_mono (afy hN hC hD fuel c _ _ r hr φ _ w hA) ?_;rintro ex a1 w1 ⟨rfl,φ1,hA1,hG1⟩;have hP1:Post φ s w φ1 r.s w1:=⟨hA1.stt,hG1.ext,hG1.le,hG1.new,hG1.dF⟩;split at h
 ·rename_i KY
  rw[if_pos KY];have hnil:r.s.ds=[]:=by
   cases hd:r.s.ds with
   | nil=>rfl
   | cons d l=>rw[hd,Fg] at h;cases h
  rw[hnil,Ff] at h;obtain⟨l,hl,rfl,rfl⟩:=FI h;have hdf:a1.defers=[]:=by
   have:=hA1.je;rw[hnil] at this;cases hh:a1.defers with
   | nil=>rfl
   | cons x y=>rw[hh] at this;exact this.elim
  obtain⟨v',hv,hrun⟩:=KW (P:=P) (s:=⟨r.s.c,r.s.h,s.ds⟩) hA1.env hA1.stt.rel hl;have key:a1.defers=[]∧∃ u,(results fn a1.tmps).run P w1=.ok u w1∧∃ φ' v',(Ending.returned u)=.returned v'∧V φ' (out l) v'∧Post φ s w φ' ⟨r.s.c,r.s.h,s.ds⟩ w1:=⟨hdf,v',hrun,φ1,v',rfl,hv,hP1.ds s.ds s.ds⟩;revert hk' key;cases r.k with
  | zero=>exact fun _ h=>h
  | succ k =>
   cases k with
   | zero=>exact fun _ h=>h
   | succ k=>intro hk';omega
 ·rename_i KY
  rw[if_neg KY];obtain⟨s2,hs2,h⟩:=aj.1 h;obtain⟨l,hl,rfl,rfl⟩:=FI h;have key:Leaves P fn a1.tmps (fun e w'=>∃ φ' v',e=.returned v'∧V φ' (out l) v'∧Post φ s w φ' ⟨s2.c,s2.h,s.ds⟩ w') a1.defers .returning w1:=by
   refine Uh hN wF r.s.ds a1.defers r.s hs2 φ1 w1 hA1.je hA1.stt ?_;intro φ2 w2 hP2;have hE2:=hA1.env.mono hP2.ext.sub;obtain⟨v',hv,hrun⟩:=KW (P:=P) (s:=⟨s2.c,s2.h,s.ds⟩) hE2 hP2.stt.rel hl;exact⟨v',hrun,φ2,v',rfl,hv,(hP1.trans hS hP2).ds s.ds s.ds⟩
  revert hk' key;cases r.k with
  | zero=>exact fun _ h=>h
  | succ k =>
   cases k with
   | zero=>exact fun _ h=>h
   | succ k=>intro hk';omega
theorem afA (hN:jF P){iO:Sp}(hSp:KX P iO)(Ul:∀ call,iP P call→FE P call):∀ n:Nat,iP P (func P iO n false)∧KV P (func P iO n true):=by
 intro n;induction n with
 | zero =>
  refine⟨fun f args s v s' h=>?_,fun f args s v s' h=>?_⟩
  ·have h':none=some (v,s'):=h
   cases h'
  ·have h':none=some (v,s'):=h
   cases h'
 | succ n ih =>
  obtain⟨hC,wF⟩:=ih;refine⟨fun f args s v s' h=>?_,fun f args s v s' h=>?_⟩
  ·have h':@Option.rec (Option (Value × S)) (fun _=>Option (Value × S)) (oB (Fe P f) fun p=>BV P (func P iO n false) (func P iO n true) false args s p) (fun r=>r) (iO (func P iO n false) f args s)=some (v,s'):=h
   cases hsp:iO (func P iO n false) f args s with
   | some r =>
    rw[hsp] at h';have h2:r=some (v,s'):=h';subst h2;exact hSp _ hC f args s v s' hsp
   | none =>
    rw[hsp] at h';obtain⟨⟨fn,c⟩,hb,h2⟩:=aj.1 h';obtain⟨fn',hf,hb⟩:=aj.1 hb;obtain⟨c',hc,hb⟩:=aj.1 hb;cases hb;obtain⟨hds,hwp⟩:=Uk hN hC wF (Ul _ hC) h2;exact⟨hds,⟨fn,c,hf,hc⟩,fun φ w args' hL hS=>calls_of_wp_defers hf hc (hwp φ w args' hL hS)⟩
  ·have h':(oB (Fe P f) fun p=>BV P (func P iO n false) (func P iO n true) true args s p)=some (v,s'):=h
   obtain⟨⟨fn,c⟩,hb,h2⟩:=aj.1 h';obtain⟨fn',hf,hb⟩:=aj.1 hb;obtain⟨c',hc,hb⟩:=aj.1 hb;cases hb;obtain⟨hds,hwp⟩:=Uk hN hC wF (Ul _ hC) h2;refine⟨hds,⟨fn,c,hf,hc⟩,fun φ w args' u hL hS=>?_⟩;exact callsD_of_wp hf hc (hwp φ w args' hL hS)
end Xe
end Go.Proofs.YtfcpglhpolpdcaaGreatDoor
