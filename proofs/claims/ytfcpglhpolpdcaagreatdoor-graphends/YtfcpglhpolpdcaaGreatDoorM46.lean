/- Regions whose order is drawn: in whatever order. -/
import Derived.Test.YtfcpglhpolpdcaaGreatDoorM45
namespace Go.Proofs.YtfcpglhpolpdcaaGreatDoor
namespace Xe
variable {P:Program}
theorem UA {ops:List Oper}:∀ {i e:Nat},e ∈ mK ops i ↔ ∃ j o,e=i+j∧ops[j]?=some o∧cls o.op=2:=by
 induction ops with
 | nil=>intro i e;simp[mK]
 | cons o l ih =>
  intro i e;have e1:mK (o :: l) i=bB (Nat.beq (cls o.op) 2) (i :: mK l (i+1)) (mK l (i+1)):=rfl;rw[e1,bV,dZ];constructor
  ·intro h
   split at h
   ·rename_i hc
    rcases List.mem_cons.1 h with rfl | h
    ·exact⟨0,o,by omega,rfl,by simpa using hc⟩
    ·obtain⟨j,o',h1,h2,h3⟩:=ih.1 h
     exact⟨j+1,o',by omega,by simpa using h2,h3⟩
   ·obtain⟨j,o',h1,h2,h3⟩:=ih.1 h
    exact⟨j+1,o',by omega,by simpa using h2,h3⟩
  ·rintro⟨j,o',h1,h2,h3⟩
   cases j with
   | zero =>
    simp at h2;subst h2;rw[if_pos (by simpa using h3)];simp;omega
   | succ j =>
    simp at h2;have:=ih.2 ⟨j,o',(by omega:e=i+1+j),h2,h3⟩;split
    ·exact List.mem_cons_of_mem _ this
    ·exact this
theorem yT {t:Nat}:∀ {ops:List Oper} {i j:Nat},writer t ops i=some j→∃ q o,j=i+q∧ops[q]?=some o∧o.dst=some t
 | [],_,_,h=>by cases h
 | o :: l,i,j,h=>by
  have h':bB (vW o.dst (some t)) (some i) (writer t l (i+1))=some j:=h;rw[bV] at h';split at h'
  ·rename_i hc;cases h';exact⟨0,o,rfl,rfl,Us hc⟩
  ·obtain⟨q,o',h1,h2,h3⟩:=yT h'
   exact⟨q+1,o',by omega,by simpa using h2,h3⟩
theorem UC {t:Nat}:∀ {ops:List Oper} {i:Nat},writer t ops i=none→∀ (q:Nat) o,ops[q]?=some o→o.dst≠some t
 | [],_,_,q,o,ho=>by simp at ho
 | o :: l,i,h,q,o',ho=>by
  have h':bB (vW o.dst (some t)) (some i) (writer t l (i+1))=none:=h;rw[bV] at h';split at h'
  ·cases h'
  ·rename_i hc
   cases q with
   | zero=>simp at ho;subst ho;intro hd;rw[hd,Uo] at hc;exact hc rfl
   | succ q=>simp at ho;exact UC h' q o' ho
theorem CJ {ms:List Nat}:∀ {es:List Nat},yH ms es=true→∀ (a b x y:Nat),a<b→es[a]?=some x→es[b]?=some y→tb (aH ms y) x=true
 | [],_,a,b,x,y,_,hx,_=>by simp at hx
 | e :: l,h,a,b,x,y,hab,hx,hy=>by
  have h':(l.all (fun f=>tb (aH ms f) e) && yH ms l)=true:=h;rw[Bool.and_eq_true,List.all_eq_true] at h';cases b with
  | zero=>omega
  | succ b =>
   simp at hy;cases a with
   | zero=>simp at hx;subst hx;exact h'.1 y (List.mem_of_getElem? hy)
   | succ a=>simp at hx;exact CJ h'.2 a b x y (by omega) hx hy
theorem afF {φ:Ph}{e:En}{a:Act}{ops:Array Oper}{o:Oper}{g:Option (Nat × Bool)}(hE:∀ d,d ∈ o.looksAt ops→V φ (iy (e d)) (a.tmps.getD d undef))(hg:guardOf ops.toList o=some g):Region.wanted o (yielded ops a.tmps)=want g e:=by
 unfold guardOf at hg;unfold Region.wanted;split at hg
 ·rename_i h0;cases hg;rw[h0];rfl
 ·rename_i j b h0
  obtain⟨og,ho,hg⟩:=aj.1 hg;obtain⟨d,hd,hg⟩:=aj.1 hg;cases hg;rw[kJ] at ho;have ho':ops[j]?=some og:=by simpa using ho
  have hv:=hE d (by unfold Oper.looksAt;rw[h0];simp[ho',hd]);rw[h0];show (yielded ops a.tmps j==some b)=BR (iy (e d)) b
  rw[Bool.eq_iff_iff,Uc,beq_iff_eq];unfold yielded;simp only[ho',Option.bind_some,hd];constructor
  ·intro h
   split at h
   ·rename_i x hx
    cases h;rw[Array.getD_eq_getD_getElem?,hx] at hv;exact Ub hv
   ·cases h
  ·intro h
   rw[h] at hv;have hv':=Cj hv;rw[Array.getD_eq_getD_getElem?] at hv';cases hx:a.tmps[d]? with
   | none=>rw[hx] at hv';cases hv'
   | some y =>
    rw[hx] at hv';simp only[Option.getD_some] at hv';subst hv';rfl
theorem UD (hN:jF P){call:Cl}(hC:iP P call){o:Oper}{f:F}(hf:comp P o.op=some f)(hcls:cls o.op=2){e:En}{s s':S}{nm:Nat}{v:Value}
  (h:f call e s nm=some (v,s')) {φ:Ph} {a:Act} {w:World} (hE:pY φ e a o.op) (hS:dK φ s w) (hdf:L (DR φ) s.ds a.defers) (K:Act→World→Prop) (Q:Exit→Act→World→Prop)
  (hK:∀ φ' v' w' df,V φ' v v'→Post φ s w φ' s' w'→L (DR φ') s'.ds df→K (({ a with defers:=df }:Act).put o.dst v') w'):o.wp P a w K Q:=by
 rcases wC hf with⟨h0,_⟩ | ⟨h0,_⟩ | ⟨_,wD | ⟨c,g,hop,wE,rfl⟩ | ⟨c,g,hop,wE,rfl⟩⟩
 ·rw[hcls] at h0;cases h0
 ·rw[hcls] at h0;cases h0
 ·obtain⟨hds,wD⟩:=wD call e s nm v s' h
  obtain⟨φ',v',w',hv,hP,hrun⟩:=wD φ a w hE hS;have key:=hK φ' v' w' a.defers hv hP (by rw[hds];exact hdf.mono fun _ _=>DR.mono hP.ext.sub);unfold Oper.wp;rcases hrun o rfl with hr | ⟨rfl,hr⟩<;>rw[hr]<;>exact key
 ·obtain⟨⟨g',as'⟩,hcl,h⟩:=aj.1 h
  rw[gW] at h;obtain⟨hds,hbd,hcall⟩:=hC g' as' s v s' h;rw[hop] at hE;obtain⟨cap',lD,hres,hL⟩:=FD wE hE hcl o.type;have jE:(execOp a.eval o).run P w=.ok (.enter g' (lD++cap')) w:=by
   simp only[execOp,hop,hres];simp[invoke,FB hN hbd]
  unfold Oper.wp;rw[jE];refine Calls.mono (hcall φ w (lD++cap') hL hS) ?_;rintro e1 w' ⟨φ',v',rfl,hv,hP⟩;exact hK φ' v' w' a.defers hv hP (by rw[hds];exact hdf.mono fun _ _=>DR.mono hP.ext.sub)
 ·obtain⟨⟨g',as'⟩,hcl,h⟩:=aj.1 h
  rw[jZ] at h;cases h;rw[hop] at hE;obtain⟨cap',lD,hres,hL⟩:=FD (c:=c) wE hE hcl o.type;have jE:(execOp a.eval o).run P w=.ok (.defer { target:=.fn (.func g') cap',args:=lD }) w:=by
   simp only[execOp,hop,hres];rfl
  unfold Oper.wp;rw[jE];exact hK φ undef w ({ target:=.fn (.func g') cap',args:=lD } :: a.defers) (V.undef φ) ⟨⟨hS.rel,hS.fr⟩,Ext.refl φ _ w,Nat.le_refl _,fun _ h0 h1=>(h1 h0).elim,fun _ hx=>.inl hx⟩ ⟨⟨cap',rfl,hL⟩,hdf⟩
noncomputable def kK (ops:Array Oper):Nat→Option Nat:=fun t=>writer t ops.toList 0
structure Ctx (P:Program) (nt:Nat) (ops:Array Oper) (ms es:List Nat) (call:Cl) (e0:En) (ak:Nat) (ds:List Dp) (aC:En) (sF:S) (Sx Jx:Nat→S):Prop where
 st:Um ops ms
 edge:∀ (i:Nat) (o:Oper),ops[i]?=some o→∀ e ∈ o.after,Region.binds .any e=true→tb (aH ms i) e.on=true
 FO:yH ms es=true
 FP:∀ e,e ∈ es ↔ ∃ o,ops[e]?=some o∧cls o.op=2
 yS:∀ d ∈ ds,∃ o,qc P nt ops ms es d o
 dat:∀ i o,ops[i]?=some o→∃ d ∈ ds,d.i=i
 FQ:∀ d ∈ ds,∀ d' ∈ ds,d.i=d'.i→d=d'
 all:∀ i,i<ops.size→∃ v,aC i=some v
 rF:Uw P nt ops ms es (kK ops) call e0 ak ds es 0 aC sF Sx Jx
def on (listed:Array Bool)(j:Nat):Bool:=listed.getD j false
noncomputable def jH (ops:Array Oper) (e0 aC:En) (listed:Array Bool):En:=fun t=>match writer t ops.toList 0 with
 | none=>e0 t
 | some j=>if on listed j=true then aC j else e0 t
structure Inv (ops:Array Oper) (nt:Nat) (ms es:List Nat) (call:Cl) (e0:En) (ak:Nat) (ds:List Dp) (aC:En) (Sx:Nat→S) (φ0:Ph) (h0:Hp) (w0:World) (listed:Array Bool) (k:Nat) (a:Act) (w:World) (φ:Ph) (h:Hp):Prop where
 sz:listed.size=ops.size
 down:∀ j,on listed j=true→∀ i,tb (aH ms j) i=true→on listed i=true
 cnt:countB (on listed) es=k
 rel:Rel φ h w
 hA:∀ x o,(Sx k).h x=some o→iZ o→h x=some o
 hB:∀ d ∈ ds,d.c=1→on listed d.i=true→k≤d.hi→∀ o,oU (kK ops) call e0 aC ak d=some o→h (ak+d.i)=some o
 wI:ak+ops.size≤(Sx k).c
 fr:∀ x,(Sx k).c≤x→φ x=none
 kept:∀ i,i<ops.size→on listed i=false→φ (ak+i)=none
 dJ:a.tmps.size=nt
 env:∀ t,V φ (iy (jH ops e0 aC listed t)) (a.tmps.getD t undef)
 je:L (DR φ) (Sx k).ds a.defers
 ext:Ext φ0 h0 w0 φ w
 new:∀ x,φ0 x=none→φ x≠none→ak≤x
 dF:∀ x,live h x→live h0 x∨φ0 x=none
end Xe
namespace Xe
variable {P:Program}
theorem K7 {acc:List Nat}:∀ {es:List Edge} {e:Edge},e ∈ es→Region.binds .any e=true→tb (iA acc es) e.on=true
 | [],e,he,_=>by cases he
 | x :: es,e,he,hb=>by
  have e1:iA acc (x :: es)=bB (Region.binds .any x) (Nat.lor (Nat.lor (Nat.shiftLeft 1 x.on) ((nth acc x.on).getD 0)) (iA acc es)) (iA acc es):=rfl;rw[e1,bV];rcases List.mem_cons.1 he with rfl | he
  ·rw[if_pos hb,j6]
   show (1 <<< e.on ||| (nth acc e.on).getD 0 ||| iA acc es).testBit e.on=true
   rw[Nat.testBit_or,Nat.testBit_or,Nat.testBit_shiftLeft];simp
  ·have ih:=K7 he hb (acc:=acc)
   split
   ·rw[j6] at ih ⊢
    show (1 <<< x.on ||| (nth acc x.on).getD 0 ||| iA acc es).testBit e.on=true
    rw[Nat.testBit_or,ih,Bool.or_true]
   ·exact ih
theorem UE {ops:Array Oper}(h:BU ops=true):∀ (i:Nat) (o:Oper),ops[i]?=some o→∀ e ∈ o.after,Region.binds .any e=true→tb (aH (bH [] (aL ops)) i) e.on=true:=by
 unfold BU at h;rw[Bool.and_eq_true] at h;obtain⟨h1,_⟩:=h;rw[List.all_eq_true] at h1;intro i o ho e he hb;have hm:(i,o) ∈ number (aL ops) 0:=by
  have:=FJ (k:=0) (l:=aL ops) (i:=i) (a:=o) (by rw[bL];simpa using ho);rwa [Nat.zero_add] at this
 have:=h1 _ hm;unfold ru at this;rw[Bool.and_eq_true,dZ] at this;simp only[decide_eq_true_eq] at this;rw[this.1];refine K7 ?_ hb;rw[bL];simpa using he
theorem oV {listed:Array Bool}{i j:Nat}(hi:i<listed.size):on (listed.setIfInBounds i true) j=(decide (j=i) || on listed j):=by
 unfold on;rw[Array.getD_eq_getD_getElem?,Array.getD_eq_getD_getElem?,Array.getElem?_setIfInBounds];by_cases h:i=j
 ·subst h;simp[hi]
 ·rw[if_neg h]
  have:decide (j=i)=false:=by simp;omega
  rw[this,Bool.false_or]
theorem yU {p:Nat→Bool}:∀ {l:List Nat},countB p l≤l.length
 | []=>Nat.le_refl _
 | a :: l=>by
  have ih:=yU (p:=p) (l:=l);show bB (p a) (Nat.succ (countB p l)) (countB p l)≤l.length+1
  rw[bV];split<;>omega
section
variable {nt ak k:Nat} {ops:Array Oper} {ms es:List Nat} {call:Cl} {e0 aC:En} {ds:List Dp} {sF:S} {Sx Jx:Nat→S} {φ0 φ:Ph} {h0 h:Hp} {w0 w:World} {listed:Array Bool} {a:Act} {i:Nat} {o:Oper} {d:Dp}
theorem K8 (C:Ctx P nt ops ms es call e0 ak ds aC sF Sx Jx)(I:Inv ops nt ms es call e0 ak ds aC Sx φ0 h0 w0 listed k a w φ h)(hi:i ∈ Region.ready .any ops listed) :
  ∃ o,ops[i]?=some o∧i<ops.size∧on listed i=false∧∀ j,tb (aH ms i) j=true→on listed j=true:=by
 unfold Region.ready at hi;rw[List.mem_filter,List.mem_range,Bool.and_eq_true] at hi;obtain⟨hlt,h1,h2⟩:=hi;have ho:ops[i]?=some ops[i]:=Array.getElem?_eq_getElem hlt;refine⟨ops[i],ho,hlt,?_,?_⟩
 ·have hl:listed[i]?=some (listed[i]'(by rw[I.sz];exact hlt)):=Array.getElem?_eq_getElem _
  unfold on;rw[Array.getD_eq_getD_getElem?,hl] at h1 ⊢;simpa using h1
 ·intro j hj
  obtain⟨e,he,hb,h3⟩:=C.st.edge i _ ho j hj;rw[ho] at h2;simp only[Option.map_some,Option.getD_some] at h2;rw[Array.all_eq_true'] at h2;have:=h2 e he;rw[hb] at this;have hl:on listed e.on=true:=by simpa[on] using this
  rcases h3 with rfl | h3
  ·exact hl
  ·exact I.down _ hl _ h3
theorem afG (I:Inv ops nt ms es call e0 ak ds aC Sx φ0 h0 w0 listed k a w φ h)(hi:on listed i=false)(hcl:∀ j,tb (aH ms i) j=true→on listed j=true)(hd:qc P nt ops ms es d o)(hdi:d.i=i):d.lo≤k∧k≤d.hi:=by
 have h1:countB (fun e=>tb (aH ms d.i) e) es≤countB (on listed) es:=countB_le fun e _ h=>hcl e (by rw[hdi] at h;exact h);have h2:countB (on listed) es≤countB (fun e=>not' (tb (aH ms e) d.i)) es:=countB_le fun e _ h=>by
  cases ht:tb (aH ms e) d.i with
  | true=>have:=I.down e h _ ht;rw[hdi,hi] at this;cases this
  | false=>rfl
 rw[I.cnt] at h1 h2;exact⟨by rw[hd.lo];exact h1,by rw[hd.hi];exact h2⟩
theorem afH (C:Ctx P nt ops ms es call e0 ak ds aC sF Sx Jx)(I:Inv ops nt ms es call e0 ak ds aC Sx φ0 h0 w0 listed k a w φ h)(ho:ops[i]?=some o)(hi:on listed i=false)(hcl:∀ j,tb (aH ms i) j=true→on listed j=true) :
  ∀ t ∈ o.looksAt ops,V φ (iy (dY (kK ops) (aH ms i) aC e0 t)) (a.tmps.getD t undef):=by
 intro t ht;have hv:=I.env t;have key:dY (kK ops) (aH ms i) aC e0 t=jH ops e0 aC listed t:=by
  rw[K3];unfold jH kK;cases hw:writer t ops.toList 0 with
  | none=>rfl
  | some j =>
   obtain⟨q,p,hq,hp,sM⟩:=yT hw;have hj:j=q:=by omega
   subst hj;have hp':ops[j]?=some p:=by simpa using hp
   have:tb (aH ms i) j=on listed j:=by
    by_cases e:i=j
    ·subst e
     rw[hi];cases hb:tb (aH ms i) i with
     | true=>exact absurd (C.st.lt i o ho i hb) (Nat.lt_irrefl _)
     | false=>rfl
    ·rcases C.st.look i j o p t ho hp' e sM ht with h1 | h1
     ·rw[h1,hcl j h1]
     ·have h2:on listed j=false:=by
       cases hb:on listed j with
       | true=>have:=I.down j hb i h1;rw[hi] at this;cases this
       | false=>rfl
      rw[h2];cases hb:tb (aH ms i) j with
      | true=>have h3:=C.st.lt i o ho j hb;have h4:=C.st.lt j p hp' i h1;omega
      | false=>rfl
   simp[this]
 rw[key];exact hv
theorem afI (hok:mJ o.op=true)(hg:∀ x,x<3→∃ n,φ x=some ⟨x,n⟩){e:En}(hE:∀ t ∈ o.looksAt ops,V φ (iy (e t)) (a.tmps.getD t undef)):pY φ e a o.op:=by
 intro x hx;unfold mJ at hok;rw[bL,List.all_eq_true] at hok;have hx':x ∈ o.op.operands.toList:=by simpa using hx
 have h0:kI φ 0 (fun _=>none) ({ a with tmps:=#[] }:Act):=⟨rfl,fun t=>V.undef φ⟩;have hk:=TK (hok x hx') h0 hg;cases x with
 | tmp t=>exact hE t (List.mem_append.2 (.inl (List.mem_filterMap.2 ⟨.tmp t,hx',rfl⟩)))
 | const v=>exact hk
 | global g=>exact hk
 | func f=>exact hk
theorem UF (C:Ctx P nt ops ms es call e0 ak ds aC sF Sx Jx)(ho:ops[i]?=some o)(hd:nP nt o.dst=true)(hsz:a.tmps.size=nt)(hls:listed.size=ops.size){v v':Value}(hv:aC i=some v)(hV:V φ v v')
  (hE:∀ t,V φ (iy (jH ops e0 aC listed t)) (a.tmps.getD t undef)) (df:List Deferred) (t:Nat):V φ (iy (jH ops e0 aC (listed.setIfInBounds i true) t)) ((({ a with defers:=df }:Act).put o.dst v').tmps.getD t undef):=by
 have hlt:i<listed.size:=by rw[hls];exact (Array.getElem?_eq_some_iff.1 ho).1
 have ho':ops.toList[i]?=some o:=by simpa using ho
 by_cases hdt:o.dst=some t
 ·have hw:writer t ops.toList 0=some i:=by
   cases hw:writer t ops.toList 0 with
   | none=>exact absurd hdt (UC hw i o ho')
   | some j =>
    obtain⟨q,p,hq,hp,sM⟩:=yT hw;have hj:j=q:=by omega
    subst hj;by_cases e:i=j
    ·rw[e]
    ·exact absurd hdt (C.st.dst i j o p t ho (by simpa using hp) e sM)
  have e1:jH ops e0 aC (listed.setIfInBounds i true) t=some v:=by
   unfold jH;rw[hw];simp[oV hlt,hv]
  rw[e1,hdt];rw[hdt] at hd;have ht:t<nt:=by simpa[nP,Nat.ble_eq,Nat.succ_le_iff] using hd
  show V φ v ((a.tmps.setIfInBounds t v').getD t undef)
  rw[Array.getD_eq_getD_getElem?,Array.getElem?_setIfInBounds_self_of_lt (by rw[hsz];exact ht)];exact hV
 ·have e1:jH ops e0 aC (listed.setIfInBounds i true) t=jH ops e0 aC listed t:=by
   unfold jH;cases hw:writer t ops.toList 0 with
   | none=>rfl
   | some j =>
    obtain⟨q,p,hq,hp,sM⟩:=yT hw;have hj:j=q:=by omega
    subst hj;have hne:j≠i:=by
     rintro rfl;rw[ho'] at hp;cases hp;exact hdt sM
    simp only[oV hlt,decide_eq_false hne,Bool.false_or]
  rw[e1];have e2:(({ a with defers:=df }:Act).put o.dst v').tmps.getD t undef=a.tmps.getD t undef:=by
   cases hdd:o.dst with
   | none=>rfl
   | some t' =>
    show (a.tmps.setIfInBounds t' v').getD t undef=_
    rw[Array.getD_eq_getD_getElem?,Array.getElem?_setIfInBounds_ne (fun h=>hdt (by rw[hdd,h])),← Array.getD_eq_getD_getElem?]
  rw[e2];exact hE t
theorem Bj (a:Act)(df:List Deferred)(d:Option Nat)(v:Value):(({ a with defers:=df }:Act).put d v).tmps.size=a.tmps.size:=by
 cases d with
 | none=>rfl
 | some d=>simp[Act.put]
theorem put_defers (a:Act)(d:Option Nat)(v:Value):(a.put d v).defers=a.defers:=by
 cases d<;>rfl
theorem K9 (hlt:i<listed.size)(La:∀ j,on listed j=true→∀ i,tb (aH ms j) i=true→on listed i=true)(hcl:∀ j,tb (aH ms i) j=true→on listed j=true) :
  ∀ j,on (listed.setIfInBounds i true) j=true→∀ x,tb (aH ms j) x=true→on (listed.setIfInBounds i true) x=true:=by
 intro j hj x hx;rw[oV hlt,Bool.or_eq_true] at hj ⊢;refine .inr ?_;rcases hj with hj | hj
 ·have hj':j=i:=by simpa using hj
  subst hj';exact hcl x hx
 ·exact La j hj x hx
theorem Lc (C:Ctx P nt ops ms es call e0 ak ds aC sF Sx Jx)(I:Inv ops nt ms es call e0 ak ds aC Sx φ0 h0 w0 listed k a w φ h)(ho:ops[i]?=some o)(hcl:∀ j,tb (aH ms i) j=true→on listed j=true)
  (jf:d ∈ ds) (hd:qc P nt ops ms es d o) (hdi:d.i=i) (hc2:d.c≠2) {φ':Ph} {h':Hp} {w':World} {v v':Value} (hv:aC i=some v) (hV:V φ' v v') (hsub:Sub φ φ') (hrel:Rel φ' h' w')
  (hA:∀ x o,(Sx k).h x=some o→iZ o→h' x=some o) (hB1:d.c=1→∀ o,oU (kK ops) call e0 aC ak d=some o→h' (ak+i)=some o) (hB2:∀ x,x≠ak+i→h' x=h x)
  (Ld:∀ x,x≠ak+i→φ' x=φ x) (Le:Ext φ0 h0 w0 φ' w') (afJ:∀ x,live h' x→live h0 x∨φ0 x=none) :
  Inv ops nt ms es call e0 ak ds aC Sx φ0 h0 w0 (listed.setIfInBounds i true) k (a.put o.dst v') w' φ' h':=by
 have hlt':i<ops.size:=(Array.getElem?_eq_some_iff.1 ho).1;have hlt:i<listed.size:=by rw[I.sz];exact hlt'
 have afK:i ∉ es:=fun hh=>by
  obtain⟨o2,h1,h2⟩:=(C.FP i).1 hh;rw[ho] at h1;cases h1;exact hc2 (by rw[hd.c];exact h2)
 refine⟨by simp[I.sz],K9 hlt I.down hcl,?_,hrel,hA,?_,I.wI,?_,?_,?_,?_,?_,Le,?_,afJ⟩
 ·rw[← I.cnt]
  have hh:∀ e ∈ es,on (listed.setIfInBounds i true) e=on listed e:=fun e he=>by
   have hne:e≠i:=by rintro rfl;exact afK he
   rw[oV hlt,decide_eq_false hne,Bool.false_or]
  exact Nat.le_antisymm (countB_le fun e he h=>by rw[← hh e he];exact h) (countB_le fun e he h=>by rw[hh e he];exact h)
 ·intro d' hd' hc hl hk o2 ho2
  by_cases e:d'.i=i
  ·have:=C.FQ d' hd' d jf (by rw[e,hdi])
   subst this;rw[e];exact hB1 hc o2 ho2
  ·rw[oV hlt,decide_eq_false e,Bool.false_or] at hl
   rw[hB2 _ (by omega)];exact I.hB d' hd' hc hl hk o2 ho2
 ·intro x hx
  have:=I.wI;rw[Ld x (by omega)];exact I.fr x hx
 ·intro j hj hl
  rw[oV hlt,Bool.or_eq_false_iff] at hl;have hne:j≠i:=by simpa using hl.1
  rw[Ld _ (by omega)];exact I.kept j hj hl.2
 ·exact (Bj a a.defers o.dst v').trans I.dJ
 ·exact UF C ho hd.yS I.dJ I.sz hv hV (fun t=>(I.env t).mono hsub) a.defers
 ·rw[put_defers]
  exact I.je.mono fun _ _=>DR.mono hsub
 ·intro x h1 h2
  by_cases e:x=ak+i
  ·omega
  ·rw[Ld x e] at h2
   exact I.new x h1 h2
end
end Xe
namespace Xe
variable {P:Program}
section
variable {nt ak k:Nat} {ops:Array Oper} {ms es:List Nat} {call:Cl} {e0 aC:En} {ds:List Dp} {sF:S} {Sx Jx:Nat→S} {φ0 φ:Ph} {h0 h:Hp} {w0 w:World} {listed:Array Bool} {a:Act} {i:Nat} {o:Oper} {d:Dp}
theorem FR (C:Ctx P nt ops ms es call e0 ak ds aC sF Sx Jx)(La:∀ j,on listed j=true→∀ i,tb (aH ms j) i=true→on listed i=true) :
  ∀ (a b x y:Nat),a<b→es[a]?=some x→es[b]?=some y→on listed y=true→on listed x=true :=
 fun a b x y hab hx hy h=>La y h x (CJ C.FO a b x y hab hx hy)
theorem FT (C:Ctx P nt ops ms es call e0 ak ds aC sF Sx Jx)(I:Inv ops nt ms es call e0 ak ds aC Sx φ0 h0 w0 listed k a w φ h)(hl:∀ d ∈ ds,d.c=1→d.hi=k→on listed d.i=true) :
  ∀ x o,(Jx k).h x=some o→iZ o→h x=some o:=by
 intro x o hx yV;have hk:k≤es.length:=by rw[← I.cnt];exact yU
 rcases (C.rF.join k (Nat.zero_le _) (by omega)).2.2 x o hx with h1 | ⟨d,hd,hc,hhi,rfl,fZ⟩
 ·exact I.hA x o h1 yV
 ·exact I.hB d hd hc (hl d hd hc hhi) (by omega) o fZ
theorem afL (C:Ctx P nt ops ms es call e0 ak ds aC sF Sx Jx)(I:Inv ops nt ms es call e0 ak ds aC Sx φ0 h0 w0 listed k a w φ h)(hi:on listed i=false)(hcl:∀ j,tb (aH ms i) j=true→on listed j=true)(hie:i ∈ es):es[k]?=some i:=by
 obtain⟨q,hq⟩:=List.getElem?_of_mem hie;have h1:=wH (FR C I.down) q i hq;rw[I.cnt,hi] at h1;have hqk:¬ q<k:=fun h=>by have:=h1.2 h;cases this
 rcases Nat.lt_or_ge k q with hlt | hge
 ·have hql:=(List.getElem?_eq_some_iff.1 hq).1
  have hx:es[k]?=some (es[k]'(by omega)):=List.getElem?_eq_getElem _;have h2:=wH (FR C I.down) k _ hx;rw[I.cnt] at h2;have:=h2.1 (hcl _ (CJ C.FO k q _ i hlt hx hq));omega
 ·rw[show k=q by omega];exact hq
theorem UG (C:Ctx P nt ops ms es call e0 ak ds aC sF Sx Jx)(hcl:∀ j,tb (aH ms i) j=true→on listed j=true)(hk:es[k]?=some i):∀ d ∈ ds,d.c=1→d.hi=k→on listed d.i=true:=by
 intro d hd _ hhi;obtain⟨o,hd'⟩:=C.yS d hd;refine hcl _ ?_;have hpre:∀ (a b x y:Nat),a<b→es[a]?=some x→es[b]?=some y→(fun e=>not' (tb (aH ms e) d.i)) y=true→(fun e=>not' (tb (aH ms e) d.i)) x=true:=by
  intro a b x y hab hx hy hn;obtain⟨ox,hox,_⟩:=(C.FP x).1 (List.mem_of_getElem? hx);obtain⟨oy,hoy,_⟩:=(C.FP y).1 (List.mem_of_getElem? hy);have h1:=wG hn;cases h2:tb (aH ms x) d.i with
  | true =>
   have:=C.st.trans y x oy ox hoy hox (CJ C.FO a b x y hab hx hy) d.i h2;rw[h1] at this;cases this
  | false=>show not' (tb (aH ms x) d.i)=true;rw[h2];rfl
 have h1:=wH hpre k i hk;rw[← hd'.hi,hhi] at h1;cases h2:tb (aH ms i) d.i with
 | true=>rfl
 | false =>
  have:=h1.1 (by show not' (tb (aH ms i) d.i)=true;rw[h2];rfl);omega
def mM (ds:List Dp)(listed:Array Bool)(ak k x:Nat):Prop:=∃ d ∈ ds,d.c=1∧on listed d.i=true∧k+1≤d.hi∧x=ak+d.i
open Classical in
theorem UH (C:Ctx P nt ops ms es call e0 ak ds aC sF Sx Jx)(I:Inv ops nt ms es call e0 ak ds aC Sx φ0 h0 w0 listed k a w φ h)(r0:Rel φ0 h0 w0)(ho:ops[i]?=some o)(hcl:∀ j,tb (aH ms i) j=true→on listed j=true)
  (hd:qc P nt ops ms es d o) (hdi:d.i=i) (jf:d ∈ ds) (hc2:d.c=2) (hk:es[k]?=some i) {φ':Ph} {w':World} {v v':Value} {df:List Deferred} (hv:aC i=some v) (hV:V φ' v v') (hP:Post φ (Jx k) w φ' (Sx (k+1)) w') (hdf:L (DR φ') (Sx (k+1)).ds df) :
  ∃ h',Inv ops nt ms es call e0 ak ds aC Sx φ0 h0 w0 (listed.setIfInBounds i true) (k+1) (({ a with defers:=df }:Act).put o.dst v') w' φ' h':=by
 have hlt':i<ops.size:=(Array.getElem?_eq_some_iff.1 ho).1;have hlt:i<listed.size:=by rw[I.sz];exact hlt'
 have hkl:k<es.length:=(List.getElem?_eq_some_iff.1 hk).1;obtain⟨jc,jd,jh⟩:=C.rF.join k (Nat.zero_le _) (by omega);have hJ:=FT C I (UG C hcl hk);have oW:∀ x,live (Jx k).h x→live h x:=fun x ⟨o,h1,h2⟩=>⟨o,hJ x o h1 h2,h2⟩;have UI:∀ x,mM ds listed ak k x→¬ live (Jx k).h x:=by
  rintro x ⟨d1,hd1,hc1,hl1,jL,rfl⟩ ⟨o2,h2,_⟩;rcases jh _ o2 h2 with h3 | ⟨d2,hd2,_,qx,he2,_⟩
  ·have:=C.rF.free k (Nat.zero_le _) (by omega) d1 hd1 hc1 (by omega)
   rw[this] at h3;cases h3
  ·have:=C.FQ d1 hd1 d2 hd2 (by omega)
   subst this;omega
 have hsub:=hP.ext.sub;refine⟨fun x=>if mM ds listed ak k x then h x else (Sx (k+1)).h x,?_⟩;have hp:∀ x o,(if mM ds listed ak k x then h x else (Sx (k+1)).h x)=some o→(mM ds listed ak k x∧h x=some o)∨(¬ mM ds listed ak k x∧(Sx (k+1)).h x=some o):=by
  intro x o hx;by_cases hh:mM ds listed ak k x
  ·rw[if_pos hh] at hx;exact .inl ⟨hh,hx⟩
  ·rw[if_neg hh] at hx;exact .inr ⟨hh,hx⟩
 have hpl:∀ x,live (fun x=>if mM ds listed ak k x then h x else (Sx (k+1)).h x) x→(mM ds listed ak k x∧live h x)∨(¬ mM ds listed ak k x∧live (Sx (k+1)).h x):=by
  rintro x ⟨o,h1,h2⟩;rcases hp x o h1 with⟨h3,h4⟩ | ⟨h3,h4⟩
  ·exact .inl ⟨h3,o,h4,h2⟩
  ·exact .inr ⟨h3,o,h4,h2⟩
 -- one stands over,one is new
 have two:∀ x y g g',mM ds listed ak k x→live h x→live (Sx (k+1)).h y→φ' x=some g→φ' y=some g'→g.b=g'.b→x=y:=by
  intro x y g g' hx hlx hly hgx jb he;obtain⟨g0,hg0⟩:=I.rel.has hlx;have e0:=hsub x g0 hg0;rw[hgx] at e0;cases e0;rcases hP.dF y hly with h1 | h1
  ·obtain⟨g1,hg1⟩:=I.rel.has (oW y h1)
   have e1:=hsub y g1 hg1;rw[jb] at e1;cases e1;exact I.rel.inj x y g g' hlx (oW y h1) hg0 hg1 he
  ·rcases hP.ext.news y g' h1 jb with h2 | ⟨z,gz,_,hz,hgz,BZ⟩
   ·have:=I.rel.bnd x g hg0;omega
   ·have hzx:=I.rel.inj z x gz g (oW z hz) hlx hgz hg0 (BZ.trans he.symm)
    subst hzx;exact absurd hz (UI z hx)
 refine⟨by simp[I.sz],K9 hlt I.down hcl,?_,⟨?_,?_,hP.stt.rel.bnd,hP.stt.rel.l8⟩,?_,?_,?_,hP.stt.fr,?_,?_,?_,?_,?_,?_,?_⟩
 ·have hpre:=FR C (K9 hlt I.down hcl)
  have h1:=(wH hpre k i hk).1 (by rw[oV hlt];simp);rcases Nat.lt_or_ge (k+1) es.length with hl | hl
  ·have hx:es[k+1]?=some (es[k+1]'hl):=List.getElem?_eq_getElem _
   have h2:=wH hpre (k+1) _ hx;have h3:=wH (FR C I.down) (k+1) _ hx;rw[I.cnt] at h3;have h4:on listed (es[k+1]'hl)=false:=by
    cases hb:on listed (es[k+1]'hl) with
    | true=>have:=h3.1 hb;omega
    | false=>rfl
   have hne:es[k+1]'hl≠i:=by
    intro he;have:=C.st.lt i o ho i (by have:=CJ C.FO k (k+1) i _ (by omega) hk hx;rwa [he] at this);omega
   rw[oV hlt,h4,decide_eq_false hne] at h2;have h5:¬ k+1<countB (on (listed.setIfInBounds i true)) es:=fun hh=>by have:=h2.2 hh;cases this
   omega
  ·have:=yU (p:=on (listed.setIfInBounds i true)) (l:=es)
   omega
 ·intro x o2 hx
  rcases hp x o2 hx with⟨h3,h4⟩ | ⟨h3,h4⟩
  ·by_cases yV:iZ o2
   ·refine (I.rel.obj x o2 h4).mono hsub fun g hg=>hP.ext.kept g.b (I.rel.bnd x g hg) ?_
    intro y gy _ hy jb he;have:=I.rel.inj y x gy g (oW y hy) ⟨o2,h4,yV⟩ jb hg he;subst this;exact UI y h3 hy
   ·cases o2<;>simp only[iZ,not_true_eq_false] at yV<;>exact trivial
  ·exact hP.stt.rel.obj x o2 h4
 ·intro x y g g' hx hy hgx jb he
  rcases hpl x hx with⟨h1,h2⟩ | ⟨h1,h2⟩<;>rcases hpl y hy with⟨h3,h4⟩ | ⟨h3,h4⟩
  ·obtain⟨gx,UJ⟩:=I.rel.has h2
   obtain⟨gy,UK⟩:=I.rel.has h4;have e1:=hsub x gx UJ;have e2:=hsub y gy UK;rw[hgx] at e1;rw[jb] at e2;cases e1;cases e2;exact I.rel.inj x y g g' h2 h4 UJ UK he
  ·exact two x y g g' h1 h2 h4 hgx jb he
  ·exact (two y x g' g h3 h4 h2 jb hgx he.symm).symm
  ·exact hP.stt.rel.inj x y g g' h2 h4 hgx jb he
 ·intro x o2 hx yV
  show (if mM ds listed ak k x then h x else (Sx (k+1)).h x)=some o2
  by_cases hh:mM ds listed ak k x
  ·obtain⟨d1,hd1,hc1,hl1,jL,rfl⟩:=hh
   have:=C.rF.free (k+1) (Nat.zero_le _) (by omega) d1 hd1 hc1 jL;rw[this] at hx;cases hx
  ·rw[if_neg hh];exact hx
 ·intro d1 hd1 hc1 hl1 jL o2 ho2
  have hne:d1.i≠i:=by
   intro e;have:=C.FQ d1 hd1 d jf (by rw[e,hdi]);subst this;omega
  rw[oV hlt,decide_eq_false hne,Bool.false_or] at hl1;show (if mM ds listed ak k (ak+d1.i) then h (ak+d1.i) else _)=some o2
  rw[if_pos ⟨d1,hd1,hc1,hl1,jL,rfl⟩];exact I.hB d1 hd1 hc1 hl1 (by omega) o2 ho2
 ·have:=hP.le
  have:=I.wI;omega
 ·intro j hj hl
  rw[oV hlt,Bool.or_eq_false_iff] at hl;by_cases h1:φ' (ak+j)=none
  ·exact h1
  ·have:=hP.new _ (I.kept j hj hl.2) h1
   have:=I.wI;omega
 ·exact (Bj a df o.dst v').trans I.dJ
 ·exact UF C ho hd.yS I.dJ I.sz hv hV (fun t=>(I.env t).mono hsub) df
 ·rw[put_defers];exact hdf
 ·exact I.ext.trans hP.ext (fun x hx=>I.dF x (oW x hx)) (fun x hx=>r0.has hx) (fun x hx=>I.rel.has (oW x hx))
 ·intro x h1 h2
  by_cases h3:φ x=none
  ·have:=hP.new x h3 h2
   have:=I.wI;omega
  ·exact I.new x h1 h3
 ·intro x hx
  rcases hpl x hx with⟨_,h2⟩ | ⟨_,h2⟩
  ·exact I.dF x h2
  ·rcases hP.dF x h2 with h3 | h3
   ·exact I.dF x (oW x h3)
   ·cases h4:φ0 x with
    | none=>exact .inr rfl
    | some g=>rw[I.ext.sub x g h4] at h3;cases h3
end
end Xe
end Go.Proofs.YtfcpglhpolpdcaaGreatDoor
