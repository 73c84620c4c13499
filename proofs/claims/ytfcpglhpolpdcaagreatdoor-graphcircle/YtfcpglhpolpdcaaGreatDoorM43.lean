/- Regions whose order is drawn: a step. -/
import Derived.Test.YtfcpglhpolpdcaaGreatDoorM42
namespace Go.Proofs.YtfcpglhpolpdcaaGreatDoor
namespace Xe
variable {P:Program}
theorem Kr {acc:List Nat}:∀ {es:List Edge} {e:Edge},e ∈ es→Region.binds .any e=true→tb (ig acc es) e.on=true
 | [],e,he,_=>by cases he
 | x :: es,e,he,hb=>by
  have e1:ig acc (x :: es)=bB (Region.binds .any x) (Nat.lor (Nat.lor (Nat.shiftLeft 1 x.on) ((nth acc x.on).getD 0)) (ig acc es)) (ig acc es):=rfl;rw[e1,bT];rcases List.mem_cons.1 he with rfl | he
  ·rw[if_pos hb,jO]
   show (1 <<< e.on ||| (nth acc e.on).getD 0 ||| ig acc es).testBit e.on=true
   rw[Nat.testBit_or,Nat.testBit_or,Nat.testBit_shiftLeft];simp
  ·have ih:=Kr he hb (acc:=acc)
   split
   ·rw[jO] at ih ⊢
    show (1 <<< x.on ||| (nth acc x.on).getD 0 ||| ig acc es).testBit e.on=true
    rw[Nat.testBit_or,ih,Bool.or_true]
   ·exact ih
theorem Tu {ops:Array Oper}(h:Bf ops=true):∀ (i:Nat) (o:Oper),ops[i]?=some o→∀ e ∈ o.after,Region.binds .any e=true→tb (aH (bF [] (aL ops)) i) e.on=true:=by
 unfold Bf at h;rw[Bool.and_eq_true] at h;obtain⟨h1,_⟩:=h;rw[List.all_eq_true] at h1;intro i o ho e he hb;have hm:(i,o) ∈ number (aL ops) 0:=by
  have:=EN (k:=0) (l:=aL ops) (i:=i) (a:=o) (by rw[bK];simpa using ho);rwa [Nat.zero_add] at this
 have:=h1 _ hm;unfold qU at this;rw[Bool.and_eq_true,dV] at this;simp only[decide_eq_true_eq] at this;rw[this.1];refine Kr ?_ hb;rw[bK];simpa using he
theorem oG {listed:Array Bool}{i j:Nat}(hi:i<listed.size):on (listed.setIfInBounds i true) j=(decide (j=i) || on listed j):=by
 unfold on;rw[Array.getD_eq_getD_getElem?,Array.getD_eq_getD_getElem?,Array.getElem?_setIfInBounds];by_cases h:i=j
 ·subst h;simp[hi]
 ·rw[if_neg h]
  have:decide (j=i)=false:=by simp;omega
  rw[this,Bool.false_or]
theorem yw {p:Nat→Bool}:∀ {l:List Nat},countB p l≤l.length
 | []=>Nat.le_refl _
 | a :: l=>by
  have ih:=yw (p:=p) (l:=l);show bB (p a) (Nat.succ (countB p l)) (countB p l)≤l.length+1
  rw[bT];split<;>omega
section
variable {nt ak k:Nat} {ops:Array Oper} {ms es:List Nat} {call:Cl} {e0 aC:En} {ds:List Dp} {sF:S} {Sx Jx:Nat→S} {φ0 φ:Ph} {h0 h:Hp} {w0 w:World} {listed:Array Bool} {a:Act} {i:Nat} {o:Oper} {d:Dp}
theorem Kt (C:Ctx P nt ops ms es call e0 ak ds aC sF Sx Jx)(I:Inv ops nt ms es call e0 ak ds aC Sx φ0 h0 w0 listed k a w φ h)(hi:i ∈ Region.ready .any ops listed) :
  ∃ o,ops[i]?=some o∧i<ops.size∧on listed i=false∧∀ j,tb (aH ms i) j=true→on listed j=true:=by
 unfold Region.ready at hi;rw[List.mem_filter,List.mem_range,Bool.and_eq_true] at hi;obtain⟨hlt,h1,h2⟩:=hi;have ho:ops[i]?=some ops[i]:=Array.getElem?_eq_getElem hlt;refine⟨ops[i],ho,hlt,?_,?_⟩
 ·have hl:listed[i]?=some (listed[i]'(by rw[I.sz];exact hlt)):=Array.getElem?_eq_getElem _
  unfold on;rw[Array.getD_eq_getD_getElem?,hl] at h1 ⊢;simpa using h1
 ·intro j hj
  obtain⟨e,he,hb,h3⟩:=C.st.edge i _ ho j hj;rw[ho] at h2;simp only[Option.map_some,Option.getD_some] at h2;rw[Array.all_eq_true'] at h2;have:=h2 e he;rw[hb] at this;have hl:on listed e.on=true:=by simpa[on] using this
  rcases h3 with rfl | h3
  ·exact hl
  ·exact I.down _ hl _ h3
theorem aeo (I:Inv ops nt ms es call e0 ak ds aC Sx φ0 h0 w0 listed k a w φ h)(hi:on listed i=false)(hcl:∀ j,tb (aH ms i) j=true→on listed j=true)(hd:pK P nt ops ms es d o)(hdi:d.i=i):d.lo≤k∧k≤d.hi:=by
 have h1:countB (fun e=>tb (aH ms d.i) e) es≤countB (on listed) es:=countB_le fun e _ h=>hcl e (by rw[hdi] at h;exact h);have h2:countB (on listed) es≤countB (fun e=>not' (tb (aH ms e) d.i)) es:=countB_le fun e _ h=>by
  cases ht:tb (aH ms e) d.i with
  | true=>have:=I.down e h _ ht;rw[hdi,hi] at this;cases this
  | false=>rfl
 rw[I.cnt] at h1 h2;exact⟨by rw[hd.lo];exact h1,by rw[hd.hi];exact h2⟩
theorem aep (C:Ctx P nt ops ms es call e0 ak ds aC sF Sx Jx)(I:Inv ops nt ms es call e0 ak ds aC Sx φ0 h0 w0 listed k a w φ h)(ho:ops[i]?=some o)(hi:on listed i=false)(hcl:∀ j,tb (aH ms i) j=true→on listed j=true) :
  ∀ t ∈ o.looksAt ops,V φ (ic (dS (ky ops) (aH ms i) aC e0 t)) (a.tmps.getD t undef):=by
 intro t ht;have hv:=I.env t;have key:dS (ky ops) (aH ms i) aC e0 t=jq ops e0 aC listed t:=by
  rw[Kk];unfold jq ky;cases hw:writer t ops.toList 0 with
  | none=>rfl
  | some j =>
   obtain⟨q,p,hq,hp,sw⟩:=yu hw;have hj:j=q:=by omega
   subst hj;have hp':ops[j]?=some p:=by simpa using hp
   have:tb (aH ms i) j=on listed j:=by
    by_cases e:i=j
    ·subst e
     rw[hi];cases hb:tb (aH ms i) i with
     | true=>exact absurd (C.st.lt i o ho i hb) (Nat.lt_irrefl _)
     | false=>rfl
    ·rcases C.st.look i j o p t ho hp' e sw ht with h1 | h1
     ·rw[h1,hcl j h1]
     ·have h2:on listed j=false:=by
       cases hb:on listed j with
       | true=>have:=I.down j hb i h1;rw[hi] at this;cases this
       | false=>rfl
      rw[h2];cases hb:tb (aH ms i) j with
      | true=>have h3:=C.st.lt i o ho j hb;have h4:=C.st.lt j p hp' i h1;omega
      | false=>rfl
   simp[this]
 rw[key];exact hv
theorem aeq (hok:mr o.op=true)(hg:∀ x,x<3→∃ n,φ x=some ⟨x,n⟩){e:En}(hE:∀ t ∈ o.looksAt ops,V φ (ic (e t)) (a.tmps.getD t undef)):pG φ e a o.op:=by
 intro x hx;unfold mr at hok;rw[bK,List.all_eq_true] at hok;have hx':x ∈ o.op.operands.toList:=by simpa using hx
 have h0:kr φ 0 (fun _=>none) ({ a with tmps:=#[] }:Act):=⟨rfl,fun t=>V.undef φ⟩;have hk:=Sg (hok x hx') h0 hg;cases x with
 | tmp t=>exact hE t (List.mem_append.2 (.inl (List.mem_filterMap.2 ⟨.tmp t,hx',rfl⟩)))
 | const v=>exact hk
 | global g=>exact hk
 | func f=>exact hk
theorem Tv (C:Ctx P nt ops ms es call e0 ak ds aC sF Sx Jx)(ho:ops[i]?=some o)(hd:nC nt o.dst=true)(hsz:a.tmps.size=nt)(hls:listed.size=ops.size){v v':Value}(hv:aC i=some v)(hV:V φ v v')
  (hE:∀ t,V φ (ic (jq ops e0 aC listed t)) (a.tmps.getD t undef)) (df:List Deferred) (t:Nat):V φ (ic (jq ops e0 aC (listed.setIfInBounds i true) t)) ((({ a with defers:=df }:Act).put o.dst v').tmps.getD t undef):=by
 have hlt:i<listed.size:=by rw[hls];exact (Array.getElem?_eq_some_iff.1 ho).1
 have ho':ops.toList[i]?=some o:=by simpa using ho
 by_cases hdt:o.dst=some t
 ·have hw:writer t ops.toList 0=some i:=by
   cases hw:writer t ops.toList 0 with
   | none=>exact absurd hdt (Tq hw i o ho')
   | some j =>
    obtain⟨q,p,hq,hp,sw⟩:=yu hw;have hj:j=q:=by omega
    subst hj;by_cases e:i=j
    ·rw[e]
    ·exact absurd hdt (C.st.dst i j o p t ho (by simpa using hp) e sw)
  have e1:jq ops e0 aC (listed.setIfInBounds i true) t=some v:=by
   unfold jq;rw[hw];simp[oG hlt,hv]
  rw[e1,hdt];rw[hdt] at hd;have ht:t<nt:=by simpa[nC,Nat.ble_eq,Nat.succ_le_iff] using hd
  show V φ v ((a.tmps.setIfInBounds t v').getD t undef)
  rw[Array.getD_eq_getD_getElem?,Array.getElem?_setIfInBounds_self_of_lt (by rw[hsz];exact ht)];exact hV
 ·have e1:jq ops e0 aC (listed.setIfInBounds i true) t=jq ops e0 aC listed t:=by
   unfold jq;cases hw:writer t ops.toList 0 with
   | none=>rfl
   | some j =>
    obtain⟨q,p,hq,hp,sw⟩:=yu hw;have hj:j=q:=by omega
    subst hj;have hne:j≠i:=by
     rintro rfl;rw[ho'] at hp;cases hp;exact hdt sw
    simp only[oG hlt,decide_eq_false hne,Bool.false_or]
  rw[e1];have e2:(({ a with defers:=df }:Act).put o.dst v').tmps.getD t undef=a.tmps.getD t undef:=by
   cases hdd:o.dst with
   | none=>rfl
   | some t' =>
    show (a.tmps.setIfInBounds t' v').getD t undef=_
    rw[Array.getD_eq_getD_getElem?,Array.getElem?_setIfInBounds_ne (fun h=>hdt (by rw[hdd,h])),← Array.getD_eq_getD_getElem?]
  rw[e2];exact hE t
theorem BR (a:Act)(df:List Deferred)(d:Option Nat)(v:Value):(({ a with defers:=df }:Act).put d v).tmps.size=a.tmps.size:=by
 cases d with
 | none=>rfl
 | some d=>simp[Act.put]
theorem put_defers (a:Act)(d:Option Nat)(v:Value):(a.put d v).defers=a.defers:=by
 cases d<;>rfl
theorem Ku (hlt:i<listed.size)(Kv:∀ j,on listed j=true→∀ i,tb (aH ms j) i=true→on listed i=true)(hcl:∀ j,tb (aH ms i) j=true→on listed j=true) :
  ∀ j,on (listed.setIfInBounds i true) j=true→∀ x,tb (aH ms j) x=true→on (listed.setIfInBounds i true) x=true:=by
 intro j hj x hx;rw[oG hlt,Bool.or_eq_true] at hj ⊢;refine .inr ?_;rcases hj with hj | hj
 ·have hj':j=i:=by simpa using hj
  subst hj';exact hcl x hx
 ·exact Kv j hj x hx
theorem Kw (C:Ctx P nt ops ms es call e0 ak ds aC sF Sx Jx)(I:Inv ops nt ms es call e0 ak ds aC Sx φ0 h0 w0 listed k a w φ h)(ho:ops[i]?=some o)(hcl:∀ j,tb (aH ms i) j=true→on listed j=true)
  (iU:d ∈ ds) (hd:pK P nt ops ms es d o) (hdi:d.i=i) (hc2:d.c≠2) {φ':Ph} {h':Hp} {w':World} {v v':Value} (hv:aC i=some v) (hV:V φ' v v') (hsub:Sub φ φ') (hrel:Rel φ' h' w')
  (hA:∀ x o,(Sx k).h x=some o→iQ o→h' x=some o) (hB1:d.c=1→∀ o,oF (ky ops) call e0 aC ak d=some o→h' (ak+i)=some o) (hB2:∀ x,x≠ak+i→h' x=h x)
  (Ky:∀ x,x≠ak+i→φ' x=φ x) (Kz:Ext φ0 h0 w0 φ' w') (aer:∀ x,live h' x→live h0 x∨φ0 x=none) :
  Inv ops nt ms es call e0 ak ds aC Sx φ0 h0 w0 (listed.setIfInBounds i true) k (a.put o.dst v') w' φ' h':=by
 have hlt':i<ops.size:=(Array.getElem?_eq_some_iff.1 ho).1;have hlt:i<listed.size:=by rw[I.sz];exact hlt'
 have aes:i ∉ es:=fun hh=>by
  obtain⟨o2,h1,h2⟩:=(C.EW i).1 hh;rw[ho] at h1;cases h1;exact hc2 (by rw[hd.c];exact h2)
 refine⟨by simp[I.sz],Ku hlt I.down hcl,?_,hrel,hA,?_,I.wz,?_,?_,?_,?_,?_,Kz,?_,aer⟩
 ·rw[← I.cnt]
  have hh:∀ e ∈ es,on (listed.setIfInBounds i true) e=on listed e:=fun e he=>by
   have hne:e≠i:=by rintro rfl;exact aes he
   rw[oG hlt,decide_eq_false hne,Bool.false_or]
  exact Nat.le_antisymm (countB_le fun e he h=>by rw[← hh e he];exact h) (countB_le fun e he h=>by rw[hh e he];exact h)
 ·intro d' hd' hc hl hk o2 ho2
  by_cases e:d'.i=i
  ·have:=C.EX d' hd' d iU (by rw[e,hdi])
   subst this;rw[e];exact hB1 hc o2 ho2
  ·rw[oG hlt,decide_eq_false e,Bool.false_or] at hl
   rw[hB2 _ (by omega)];exact I.hB d' hd' hc hl hk o2 ho2
 ·intro x hx
  have:=I.wz;rw[Ky x (by omega)];exact I.fr x hx
 ·intro j hj hl
  rw[oG hlt,Bool.or_eq_false_iff] at hl;have hne:j≠i:=by simpa using hl.1
  rw[Ky _ (by omega)];exact I.kept j hj hl.2
 ·exact (BR a a.defers o.dst v').trans I.dF
 ·exact Tv C ho hd.yt I.dF I.sz hv hV (fun t=>(I.env t).mono hsub) a.defers
 ·rw[put_defers]
  exact I.iT.mono fun _ _=>DR.mono hsub
 ·intro x h1 h2
  by_cases e:x=ak+i
  ·omega
  ·rw[Ky x e] at h2
   exact I.new x h1 h2
end
end Xe
namespace Xe
variable {P:Program}
section
variable {nt ak k:Nat} {ops:Array Oper} {ms es:List Nat} {call:Cl} {e0 aC:En} {ds:List Dp} {sF:S} {Sx Jx:Nat→S} {φ0 φ:Ph} {h0 h:Hp} {w0 w:World} {listed:Array Bool} {a:Act} {i:Nat} {o:Oper} {d:Dp}
theorem EY (C:Ctx P nt ops ms es call e0 ak ds aC sF Sx Jx)(Kv:∀ j,on listed j=true→∀ i,tb (aH ms j) i=true→on listed i=true) :
  ∀ (a b x y:Nat),a<b→es[a]?=some x→es[b]?=some y→on listed y=true→on listed x=true :=
 fun a b x y hab hx hy h=>Kv y h x (BQ C.EU a b x y hab hx hy)
theorem EZ (C:Ctx P nt ops ms es call e0 ak ds aC sF Sx Jx)(I:Inv ops nt ms es call e0 ak ds aC Sx φ0 h0 w0 listed k a w φ h)(hl:∀ d ∈ ds,d.c=1→d.hi=k→on listed d.i=true) :
  ∀ x o,(Jx k).h x=some o→iQ o→h x=some o:=by
 intro x o hx yx;have hk:k≤es.length:=by rw[← I.cnt];exact yw
 rcases (C.q9.join k (Nat.zero_le _) (by omega)).2.2 x o hx with h1 | ⟨d,hd,hc,hhi,rfl,fQ⟩
 ·exact I.hA x o h1 yx
 ·exact I.hB d hd hc (hl d hd hc hhi) (by omega) o fQ
theorem aet (C:Ctx P nt ops ms es call e0 ak ds aC sF Sx Jx)(I:Inv ops nt ms es call e0 ak ds aC Sx φ0 h0 w0 listed k a w φ h)(hi:on listed i=false)(hcl:∀ j,tb (aH ms i) j=true→on listed j=true)(hie:i ∈ es):es[k]?=some i:=by
 obtain⟨q,hq⟩:=List.getElem?_of_mem hie;have h1:=wy (EY C I.down) q i hq;rw[I.cnt,hi] at h1;have hqk:¬ q<k:=fun h=>by have:=h1.2 h;cases this
 rcases Nat.lt_or_ge k q with hlt | hge
 ·have hql:=(List.getElem?_eq_some_iff.1 hq).1
  have hx:es[k]?=some (es[k]'(by omega)):=List.getElem?_eq_getElem _;have h2:=wy (EY C I.down) k _ hx;rw[I.cnt] at h2;have:=h2.1 (hcl _ (BQ C.EU k q _ i hlt hx hq));omega
 ·rw[show k=q by omega];exact hq
theorem Tw (C:Ctx P nt ops ms es call e0 ak ds aC sF Sx Jx)(hcl:∀ j,tb (aH ms i) j=true→on listed j=true)(hk:es[k]?=some i):∀ d ∈ ds,d.c=1→d.hi=k→on listed d.i=true:=by
 intro d hd _ hhi;obtain⟨o,hd'⟩:=C.yt d hd;refine hcl _ ?_;have hpre:∀ (a b x y:Nat),a<b→es[a]?=some x→es[b]?=some y→(fun e=>not' (tb (aH ms e) d.i)) y=true→(fun e=>not' (tb (aH ms e) d.i)) x=true:=by
  intro a b x y hab hx hy hn;obtain⟨ox,hox,_⟩:=(C.EW x).1 (List.mem_of_getElem? hx);obtain⟨oy,hoy,_⟩:=(C.EW y).1 (List.mem_of_getElem? hy);have h1:=wu hn;cases h2:tb (aH ms x) d.i with
  | true =>
   have:=C.st.trans y x oy ox hoy hox (BQ C.EU a b x y hab hx hy) d.i h2;rw[h1] at this;cases this
  | false=>show not' (tb (aH ms x) d.i)=true;rw[h2];rfl
 have h1:=wy hpre k i hk;rw[← hd'.hi,hhi] at h1;cases h2:tb (aH ms i) d.i with
 | true=>rfl
 | false =>
  have:=h1.1 (by show not' (tb (aH ms i) d.i)=true;rw[h2];rfl);omega
def mE (ds:List Dp)(listed:Array Bool)(ak k x:Nat):Prop:=∃ d ∈ ds,d.c=1∧on listed d.i=true∧k+1≤d.hi∧x=ak+d.i
open Classical in
theorem Tx (C:Ctx P nt ops ms es call e0 ak ds aC sF Sx Jx)(I:Inv ops nt ms es call e0 ak ds aC Sx φ0 h0 w0 listed k a w φ h)(r0:Rel φ0 h0 w0)(ho:ops[i]?=some o)(hcl:∀ j,tb (aH ms i) j=true→on listed j=true)
  (hd:pK P nt ops ms es d o) (hdi:d.i=i) (iU:d ∈ ds) (hc2:d.c=2) (hk:es[k]?=some i) {φ':Ph} {w':World} {v v':Value} {df:List Deferred} (hv:aC i=some v) (hV:V φ' v v') (hP:Post φ (Jx k) w φ' (Sx (k+1)) w') (hdf:L (DR φ') (Sx (k+1)).ds df) :
  ∃ h',Inv ops nt ms es call e0 ak ds aC Sx φ0 h0 w0 (listed.setIfInBounds i true) (k+1) (({ a with defers:=df }:Act).put o.dst v') w' φ' h':=by
 have hlt':i<ops.size:=(Array.getElem?_eq_some_iff.1 ho).1;have hlt:i<listed.size:=by rw[I.sz];exact hlt'
 have hkl:k<es.length:=(List.getElem?_eq_some_iff.1 hk).1;obtain⟨jc,jd,jh⟩:=C.q9.join k (Nat.zero_le _) (by omega);have hJ:=EZ C I (Tw C hcl hk);have oH:∀ x,live (Jx k).h x→live h x:=fun x ⟨o,h1,h2⟩=>⟨o,hJ x o h1 h2,h2⟩;have Ty:∀ x,mE ds listed ak k x→¬ live (Jx k).h x:=by
  rintro x ⟨d1,hd1,hc1,hl1,jA,rfl⟩ ⟨o2,h2,_⟩;rcases jh _ o2 h2 with h3 | ⟨d2,hd2,_,qg,he2,_⟩
  ·have:=C.q9.free k (Nat.zero_le _) (by omega) d1 hd1 hc1 (by omega)
   rw[this] at h3;cases h3
  ·have:=C.EX d1 hd1 d2 hd2 (by omega)
   subst this;omega
 have hsub:=hP.ext.sub;refine⟨fun x=>if mE ds listed ak k x then h x else (Sx (k+1)).h x,?_⟩;have hp:∀ x o,(if mE ds listed ak k x then h x else (Sx (k+1)).h x)=some o→(mE ds listed ak k x∧h x=some o)∨(¬ mE ds listed ak k x∧(Sx (k+1)).h x=some o):=by
  intro x o hx;by_cases hh:mE ds listed ak k x
  ·rw[if_pos hh] at hx;exact .inl ⟨hh,hx⟩
  ·rw[if_neg hh] at hx;exact .inr ⟨hh,hx⟩
 have hpl:∀ x,live (fun x=>if mE ds listed ak k x then h x else (Sx (k+1)).h x) x→(mE ds listed ak k x∧live h x)∨(¬ mE ds listed ak k x∧live (Sx (k+1)).h x):=by
  rintro x ⟨o,h1,h2⟩;rcases hp x o h1 with⟨h3,h4⟩ | ⟨h3,h4⟩
  ·exact .inl ⟨h3,o,h4,h2⟩
  ·exact .inr ⟨h3,o,h4,h2⟩
 -- one stands over,one is new
 have two:∀ x y g g',mE ds listed ak k x→live h x→live (Sx (k+1)).h y→φ' x=some g→φ' y=some g'→g.b=g'.b→x=y:=by
  intro x y g g' hx hlx hly hgx iR he;obtain⟨g0,hg0⟩:=I.rel.has hlx;have e0:=hsub x g0 hg0;rw[hgx] at e0;cases e0;rcases hP.dx y hly with h1 | h1
  ·obtain⟨g1,hg1⟩:=I.rel.has (oH y h1)
   have e1:=hsub y g1 hg1;rw[iR] at e1;cases e1;exact I.rel.inj x y g g' hlx (oH y h1) hg0 hg1 he
  ·rcases hP.ext.news y g' h1 iR with h2 | ⟨z,gz,_,hz,hgz,sK⟩
   ·have:=I.rel.bnd x g hg0;omega
   ·have hzx:=I.rel.inj z x gz g (oH z hz) hlx hgz hg0 (sK.trans he.symm)
    subst hzx;exact absurd hz (Ty z hx)
 refine⟨by simp[I.sz],Ku hlt I.down hcl,?_,⟨?_,?_,hP.stt.rel.bnd,hP.stt.rel.lN⟩,?_,?_,?_,hP.stt.fr,?_,?_,?_,?_,?_,?_,?_⟩
 ·have hpre:=EY C (Ku hlt I.down hcl)
  have h1:=(wy hpre k i hk).1 (by rw[oG hlt];simp);rcases Nat.lt_or_ge (k+1) es.length with hl | hl
  ·have hx:es[k+1]?=some (es[k+1]'hl):=List.getElem?_eq_getElem _
   have h2:=wy hpre (k+1) _ hx;have h3:=wy (EY C I.down) (k+1) _ hx;rw[I.cnt] at h3;have h4:on listed (es[k+1]'hl)=false:=by
    cases hb:on listed (es[k+1]'hl) with
    | true=>have:=h3.1 hb;omega
    | false=>rfl
   have hne:es[k+1]'hl≠i:=by
    intro he;have:=C.st.lt i o ho i (by have:=BQ C.EU k (k+1) i _ (by omega) hk hx;rwa [he] at this);omega
   rw[oG hlt,h4,decide_eq_false hne] at h2;have h5:¬ k+1<countB (on (listed.setIfInBounds i true)) es:=fun hh=>by have:=h2.2 hh;cases this
   omega
  ·have:=yw (p:=on (listed.setIfInBounds i true)) (l:=es)
   omega
 ·intro x o2 hx
  rcases hp x o2 hx with⟨h3,h4⟩ | ⟨h3,h4⟩
  ·by_cases yx:iQ o2
   ·refine (I.rel.obj x o2 h4).mono hsub fun g hg=>hP.ext.kept g.b (I.rel.bnd x g hg) ?_
    intro y gy _ hy iR he;have:=I.rel.inj y x gy g (oH y hy) ⟨o2,h4,yx⟩ iR hg he;subst this;exact Ty y h3 hy
   ·cases o2<;>simp only[iQ,not_true_eq_false] at yx<;>exact trivial
  ·exact hP.stt.rel.obj x o2 h4
 ·intro x y g g' hx hy hgx iR he
  rcases hpl x hx with⟨h1,h2⟩ | ⟨h1,h2⟩<;>rcases hpl y hy with⟨h3,h4⟩ | ⟨h3,h4⟩
  ·obtain⟨gx,Tz⟩:=I.rel.has h2
   obtain⟨gy,TA⟩:=I.rel.has h4;have e1:=hsub x gx Tz;have e2:=hsub y gy TA;rw[hgx] at e1;rw[iR] at e2;cases e1;cases e2;exact I.rel.inj x y g g' h2 h4 Tz TA he
  ·exact two x y g g' h1 h2 h4 hgx iR he
  ·exact (two y x g' g h3 h4 h2 iR hgx he.symm).symm
  ·exact hP.stt.rel.inj x y g g' h2 h4 hgx iR he
 ·intro x o2 hx yx
  show (if mE ds listed ak k x then h x else (Sx (k+1)).h x)=some o2
  by_cases hh:mE ds listed ak k x
  ·obtain⟨d1,hd1,hc1,hl1,jA,rfl⟩:=hh
   have:=C.q9.free (k+1) (Nat.zero_le _) (by omega) d1 hd1 hc1 jA;rw[this] at hx;cases hx
  ·rw[if_neg hh];exact hx
 ·intro d1 hd1 hc1 hl1 jA o2 ho2
  have hne:d1.i≠i:=by
   intro e;have:=C.EX d1 hd1 d iU (by rw[e,hdi]);subst this;omega
  rw[oG hlt,decide_eq_false hne,Bool.false_or] at hl1;show (if mE ds listed ak k (ak+d1.i) then h (ak+d1.i) else _)=some o2
  rw[if_pos ⟨d1,hd1,hc1,hl1,jA,rfl⟩];exact I.hB d1 hd1 hc1 hl1 (by omega) o2 ho2
 ·have:=hP.le
  have:=I.wz;omega
 ·intro j hj hl
  rw[oG hlt,Bool.or_eq_false_iff] at hl;by_cases h1:φ' (ak+j)=none
  ·exact h1
  ·have:=hP.new _ (I.kept j hj hl.2) h1
   have:=I.wz;omega
 ·exact (BR a df o.dst v').trans I.dF
 ·exact Tv C ho hd.yt I.dF I.sz hv hV (fun t=>(I.env t).mono hsub) df
 ·rw[put_defers];exact hdf
 ·exact I.ext.trans hP.ext (fun x hx=>I.dx x (oH x hx)) (fun x hx=>r0.has hx) (fun x hx=>I.rel.has (oH x hx))
 ·intro x h1 h2
  by_cases h3:φ x=none
  ·have:=hP.new x h3 h2
   have:=I.wz;omega
  ·exact I.new x h1 h3
 ·intro x hx
  rcases hpl x hx with⟨_,h2⟩ | ⟨_,h2⟩
  ·exact I.dx x h2
  ·rcases hP.dx x h2 with h3 | h3
   ·exact I.dx x (oH x h3)
   ·cases h4:φ0 x with
    | none=>exact .inr rfl
    | some g=>rw[I.ext.sub x g h4] at h3;cases h3
end
end Xe
namespace Xe
variable {P:Program}
section
variable {nt ak k:Nat} {ops:Array Oper} {ms es:List Nat} {call:Cl} {e0 aC:En} {ds:List Dp} {sF:S} {Sx Jx:Nat→S} {φ0 φ:Ph} {h0 h:Hp} {w0 w:World} {listed:Array Bool} {a:Act} {i:Nat} {o:Oper} {d:Dp}
theorem C9 (hN:jm P)(hC:iK P call)(C:Ctx P nt ops ms es call e0 ak ds aC sF Sx Jx)(I:Inv ops nt ms es call e0 ak ds aC Sx φ0 h0 w0 listed k a w φ h)(r0:Rel φ0 h0 w0)(hi:i ∈ Region.ready .any ops listed)
  {K:Act→World→Prop} {Q:Exit→Act→World→Prop} (hK:∀ k' a' w' φ' h',Inv ops nt ms es call e0 ak ds aC Sx φ0 h0 w0 (listed.setIfInBounds i true) k' a' w' φ' h'→K a' w'):wpOp P ops Q i K a w:=by
 obtain⟨o,ho,hlt,hil,hcl⟩:=Kt C I hi;obtain⟨d,iU,hdi⟩:=C.dat i o ho;obtain⟨o',hd⟩:=C.yt d iU;have KA:o'=o:=by have:=hd.op;rw[hdi,ho] at this;cases this;rfl
 subst KA;obtain⟨hlo,hhi⟩:=aeo I hil hcl hd hdi;have hkl:k≤es.length:=by rw[← I.cnt];exact yw
 have TB:=aep C I ho hil hcl;have hm:d.m=aH ms i:=by rw[hd.m,hdi]
 have hE:=aeq hd.ok I.rel.lN TB;have hwant:=aen TB hd.g;rw[← hm] at hE hwant;unfold wpOp;rw[ho];show (if Region.wanted o' (yielded ops a.tmps)=true then _ else _)
 rw[hwant];have hc3:d.c=0∨d.c=1∨d.c=2:=by
  rw[hd.c];rcases vZ hd.f with⟨h0,_⟩ | ⟨h0,_⟩ | ⟨h0,_⟩<;>simp[h0]
 rcases hc3 with hc | hc | hc
 ·obtain⟨v,s2,hv,hev⟩:=C.q9.read k (Nat.zero_le _) (by omega) d iU hc hlo hhi
  rw[Ko] at hev;rw[hdi] at hv;have same:∀ v',V φ v v'→Inv ops nt ms es call e0 ak ds aC Sx φ0 h0 w0 (listed.setIfInBounds i true) k (a.put o'.dst v') w φ h:=fun v' hV =>
   Kw C I ho hcl iU hd hdi (by omega) hv hV (Sub.refl φ) I.rel I.hA (fun h1=>by omega) (fun _ _=>rfl) (fun _ _=>rfl) I.ext I.dx
  by_cases hw:want d.st.g (dS (ky ops) d.m aC e0)=true
  ·rw[if_pos hw] at hev ⊢
   refine .inl ?_;rcases vZ hd.f with⟨_,hR⟩ | ⟨h1,_⟩ | ⟨h1,_⟩
   ·obtain⟨_,hR⟩:=hR call _ _ _ v s2 hev
    obtain⟨v',hV,hrun⟩:=hR φ a w hE (I.rel.less I.hA);unfold Oper.wp;rw[hrun o' rfl];exact hK k _ w φ h (same v' hV)
   ·rw[← hd.c,hc] at h1;cases h1
   ·rw[← hd.c,hc] at h1;cases h1
  ·rw[if_neg hw] at hev ⊢
   cases hev;exact hK k _ w φ h (same undef (V.undef φ))
 ·obtain⟨v,s1,s2,hv,hev⟩:=C.q9.lays d iU hc (Nat.zero_le _) (by omega)
  rw[hdi] at hv;rcases Tg hd hc hev with⟨hw,_,rfl,fQ⟩ | ⟨hw,ob,yx,fQ,_,BG⟩
  ·rw[if_neg (by rw[hw];simp)]
   exact hK k _ w φ h (Kw C I ho hcl iU hd hdi (by omega) hv (V.undef φ) (Sub.refl φ) I.rel I.hA (fun _ o2 h2=>by rw[fQ] at h2;cases h2) (fun _ _=>rfl) (fun _ _=>rfl) I.ext I.dx)
  ·rw[if_pos hw]
   refine .inl ?_;have hnm:φ (ak+d.i)=none:=by rw[hdi];exact I.kept i hlt hil
   obtain⟨o2,n,v',hrun,hV,hor⟩:=BG φ a w hE hnm;unfold Oper.wp;rw[hrun o' rfl];rw[hdi] at hnm hV hor;have hsub:=ym hnm ⟨w.heap.size,n⟩;have hrel:=SC (o':=o2) I.rel hnm hor;have Kz:Ext φ h w (upd φ (ak+i) ⟨w.heap.size,n⟩) (w.alloc o2):=by
    refine⟨hsub,?_,?_,?_,⟨rfl,rfl,rfl⟩⟩
    ·show w.heap.size≤(w.heap.push o2).size
     simp
    ·intro x g h1 h2
     unfold upd at h2;split at h2
     ·cases h2;exact .inl (Nat.le_refl _)
     ·rw[h1] at h2;cases h2
    ·intro b hb' _
     show (w.heap.push o2)[b]?=_
     rw[Array.getElem?_push_lt hb'];simp[hb']
   refine hK k _ _ _ (setH h (ak+i) ob) (Kw C I ho hcl iU hd hdi (by omega) hv hV hsub hrel ?_ ?_ ?_ ?_ ?_ ?_)
   ·intro x o3 hx hi3
    rw[ik];have hne:x≠ak+i:=by
     rintro rfl;have:=C.q9.free k (Nat.zero_le _) (by omega) d iU hc hhi;rw[hdi,hx] at this;cases this
    rw[if_neg hne];exact I.hA x o3 hx hi3
   ·intro _ o3 h3
    rw[fQ] at h3;cases h3;rw[ik,if_pos rfl]
   ·intro x hx;rw[ik,if_neg hx]
   ·intro x hx;unfold upd;rw[if_neg hx]
   ·exact I.ext.trans Kz I.dx (fun x hx=>r0.has hx) (fun x hx=>I.rel.has hx)
   ·rintro x ⟨o3,h3,hi3⟩
    rw[ik] at h3;split at h3
    ·rename_i e
     subst e;refine .inr ?_;cases h4:φ0 (ak+i) with
     | none=>rfl
     | some g=>rw[I.ext.sub _ g h4] at hnm;cases hnm
    ·exact I.dx x ⟨o3,h3,hi3⟩
 ·have hie:i ∈ es:=(C.EW i).2 ⟨o',ho,by rw[← hd.c];exact hc⟩
  have hk:=aet C I hil hcl hie;obtain⟨d',hd',aev,v,hv,hev⟩:=C.q9.Tj k i hk;have:=C.EX d' hd' d iU (by rw[aev,hdi]);subst this;rw[Nat.zero_add,Ko] at hev;obtain⟨jc,jd,_⟩:=C.q9.join k (Nat.zero_le _) (by omega);have hS:dG φ (Jx k) w:=⟨I.rel.less (EZ C I (Tw C hcl hk)),fun x hx=>I.fr x (by rw[← jc];exact hx)⟩;have hdf:L (DR φ) (Jx k).ds a.defers:=by rw[jd];exact I.iT
  by_cases hw:want d'.st.g (dS (ky ops) d'.m aC e0)=true
  ·rw[if_pos hw] at hev ⊢
   refine .inl (Tt hN hC hd.f (by rw[← hd.c];exact hc) hev hE hS hdf K Q ?_);intro φ' v' w' df hV hP aew;obtain⟨h',I'⟩:=Tx C I r0 ho hcl hd hdi iU hc hk hv hV hP aew;exact hK _ _ _ _ h' I'
  ·rw[if_neg hw] at hev ⊢
   have TC:(undef,Jx k)=(v,Sx (k+1)):=Option.some.inj hev;have e1:v=undef:=(congrArg Prod.fst TC).symm;have e2:Jx k=Sx (k+1):=congrArg Prod.snd TC;have hP:Post φ (Jx k) w φ (Sx (k+1)) w:=e2 ▸ Post.refl hS;obtain⟨h',I'⟩:=Tx (df:=a.defers) C I r0 ho hcl hd hdi iU hc hk hv (by rw[e1];exact V.undef φ) hP (by rw[← e2];exact hdf);exact hK _ _ _ _ h' I'
theorem any_ok (hN:jm P)(hC:iK P call)(C:Ctx P nt ops ms es call e0 ak ds aC sF Sx Jx)(r0:Rel φ0 h0 w0){Q:Exit→Act→World→Prop}
  (hQ:∀ listed k a w φ h,Inv ops nt ms es call e0 ak ds aC Sx φ0 h0 w0 listed k a w φ h→(∀ i,i<ops.size→on listed i=true)→Q .normal a w) :
  ∀ (n:Nat) (listed:Array Bool) (k:Nat) (a:Act) (w:World) (φ:Ph) (h:Hp),listed.toList.count false≤n→Inv ops nt ms es call e0 ak ds aC Sx φ0 h0 w0 listed k a w φ h→wpAny P .any ops Q n listed a w:=by
 have fin:∀ (listed:Array Bool) (k:Nat) (a:Act) (w:World) (φ:Ph) (h:Hp),Inv ops nt ms es call e0 ak ds aC Sx φ0 h0 w0 listed k a w φ h→Region.ready .any ops listed=[]→Q .normal a w:=by
  intro listed k a w φ h I hr;refine hQ listed k a w φ h I ?_;intro i;induction i using Nat.strongRecOn with
  | _ i ih =>
   intro hlt;cases hon:on listed i with
   | true=>rfl
   | false =>
    exfalso;have ho:ops[i]?=some ops[i]:=Array.getElem?_eq_getElem hlt;have:i ∈ Region.ready .any ops listed:=by
     unfold Region.ready;rw[List.mem_filter,List.mem_range,Bool.and_eq_true];refine⟨hlt,?_,?_⟩
     ·have hl:listed[i]?=some (listed[i]'(by rw[I.sz];exact hlt)):=Array.getElem?_eq_getElem _
      unfold on at hon;rw[Array.getD_eq_getD_getElem?,hl] at hon ⊢;simpa using hon
     ·rw[ho]
      simp only[Option.map_some,Option.getD_some];rw[Array.all_eq_true'];intro e he;cases hb:Region.binds .any e with
      | false=>rfl
      | true =>
       have ht:=C.edge i _ ho e he hb;have hle:=C.st.lt i _ ho e.on ht;have:=ih e.on hle (by omega);unfold on at this;rw[this];rfl
    rw[hr] at this;cases this
 intro n;induction n with
 | zero =>
  intro listed k a w φ h hn I;have hr:Region.ready .any ops listed=[]:=by
   cases hrr:Region.ready .any ops listed with
   | nil=>rfl
   | cons i l =>
    exfalso;obtain⟨o,ho,hlt,hil,_⟩:=Kt C I (i:=i) (by rw[hrr];simp);have hmem:false ∈ listed.toList:=by
     have hl:listed[i]?=some (listed[i]'(by rw[I.sz];exact hlt)):=Array.getElem?_eq_getElem _;unfold on at hil;rw[Array.getD_eq_getD_getElem?,hl] at hil;have e:listed[i]'(by rw[I.sz];exact hlt)=false:=by simpa using hil
     have:=Array.getElem_mem (xs:=listed) (i:=i) (by rw[I.sz];exact hlt);rw[e] at this;simpa using this
    have:=List.count_pos_iff.2 hmem;omega
  exact⟨hr,fin listed k a w φ h I hr⟩
 | succ n ih =>
  intro listed k a w φ h hn I;refine⟨fin listed k a w φ h I,fun i hi=>C9 hN hC C I r0 hi ?_⟩;intro k' a' w' φ' h' I';refine ih _ k' a' w' φ' h' ?_ I';obtain⟨o,ho,hlt,hil,_⟩:=Kt C I hi;have hls:i<listed.toList.length:=by simpa[I.sz] using hlt
  have e:listed.toList[i]=false:=by
   have hl:listed[i]?=some (listed[i]'(by rw[I.sz];exact hlt)):=Array.getElem?_eq_getElem _;unfold on at hil;rw[Array.getD_eq_getD_getElem?,hl] at hil;simpa using hil
  rw[Array.toList_setIfInBounds,List.count_set hls,e];have hmem:false ∈ listed.toList:=by rw[← e];exact List.getElem_mem hls
  have:=List.count_pos_iff.2 hmem;simp only[beq_self_eq_true,if_true];have e2:(true==false)=false:=rfl;rw[e2];simp only[Bool.false_eq_true,if_false];omega
end
theorem KD {ms es:List Nat}:∀ (l:List St) (r:List Oper) (i:Nat),(sI ms es l r i).length≤r.length
 | [],[],_=>Nat.le_refl _
 | [],_ :: _,_=>Nat.zero_le _
 | _ :: _,[],_=>Nat.zero_le _
 | _ :: l,_ :: r,i=>Nat.succ_le_succ (KD l r (i+1))
theorem aex (hN:jm P)(hm:P.follows .mixedOrders=true)(call:Cl)(hC:iK P call):EK P call:=by
 intro nt ops e s r hr id φ a w hA;unfold x8 at hr;rw[aN,jN,oC] at hr;obtain⟨BS,hr⟩:=hr;obtain⟨l,hl,hr⟩:=aj.1 hr;obtain⟨⟨aC,sF⟩,hst,hr⟩:=aj.1 hr;rw[gQ,aN] at hr;obtain⟨BU,hr⟩:=hr;cases hr;obtain⟨hSt,hch⟩:=Ta BS;have E8:=Tu BS;have hlen:(aL ops).length=ops.size:=by rw[bK];simp
 rw[hlen] at hst BU;have hw:(fun t=>writer t (aL ops) 0)=ky ops:=by rw[bK];rfl
 rw[hw] at hst ⊢;generalize hms:bF [] (aL ops)=ms at *;generalize hes:mD (aL ops) 0=es at *;rw[bK] at hl hst;have wB:∀ e,e ∈ es ↔ ∃ o,ops[e]?=some o∧cls o.op=2:=by
  intro e;rw[← hes,Tp,bK];constructor
  ·rintro⟨j,o,h1,h2,h3⟩
   have:e=j:=by omega
   subst this;exact⟨o,by simpa using h2,h3⟩
  ·rintro⟨o,h1,h2⟩
   exact⟨e,o,by omega,by simpa using h1,h2⟩
 obtain⟨hd1,hd2⟩:=Km (P:=P) (nt:=nt) (ops:=ops) (ms:=ms) (es:=es) ops.toList l 0 (by simp) hl;have hdl:=KD (ms:=ms) (es:=es) l ops.toList 0;generalize hds:sI ms es l ops.toList 0=ds at *;have hget:∀ (j:Nat) (d:Dp),ds[j]?=some d→d.i=j:=by
  intro j d hj;have hjl:=(List.getElem?_eq_some_iff.1 hj).1;have hjo:j<ops.toList.length:=by omega
  obtain⟨d',h1,h2⟩:=hd2 j _ (List.getElem?_eq_getElem hjo);rw[hj] at h1;cases h1;omega
 have hat:∀ (e:Nat) (d:Dp),vN ds e=some d→d ∈ ds∧d.i=e:=by
  intro e d h;unfold vN at h;rw[kv] at h;exact⟨List.mem_of_getElem? h,hget e d h⟩
 have KE:∀ d ∈ ds,∀ d' ∈ ds,d.i=d'.i→d=d':=by
  intro d hd d' hd' he;obtain⟨j,hj⟩:=List.getElem?_of_mem hd;obtain⟨j',hj'⟩:=List.getElem?_of_mem hd';have h1:=hget j d hj;have h2:=hget j' d' hj';have:j=j':=by omega
  subst this;rw[hj] at hj';cases hj';rfl
 have hlo:∀ d ∈ ds,d.lo≤d.hi:=by
  intro d hd;obtain⟨_,o,hok⟩:=hd1 d hd;rw[hok.lo,hok.hi];refine countB_le fun e he h=>?_;obtain⟨oe,hoe,_⟩:=(wB e).1 he;cases ht:tb (aH ms e) d.i with
  | true=>have h3:=hSt.lt e oe hoe d.i ht;have h4:=hSt.lt d.i o hok.op e h;omega
  | false=>rfl
 have BV:∀ d ∈ ds,(∃ o,pK P nt ops ms es d o)∧∀ j,tb d.m j=true→j<ops.size:=by
  intro d hd;obtain⟨_,o,hok⟩:=hd1 d hd;refine⟨⟨o,hok⟩,fun j hj=>?_⟩;rw[hok.m] at hj;have h3:=hSt.lt d.i o hok.op j hj;have h4:=(Array.getElem?_eq_some_iff.1 hok.op).1;omega
 obtain⟨Sx,Jx,hS0,_,wC⟩:=Tm BV hat hlo es 0 _ _ hst (fun d _ _ h=>absurd h (Nat.not_lt_zero _));have hall:∀ i,i<ops.size→∃ v,aC i=some v:=by
  intro i hi;refine EP BU ?_ i ?_
  ·intro j hj
   rw[jO] at hj;rcases Nat.lt_or_ge j ops.size with h | h
   ·exact h
   ·have e1:Nat.sub (Nat.shiftLeft 1 ops.size) 1=2 ^ ops.size - 1:=by
     show 1 <<< ops.size - 1=_
     rw[Nat.shiftLeft_eq,Nat.one_mul]
    rw[e1,Nat.testBit_two_pow_sub_one] at hj;simpa using hj
  ·rw[jO]
   have e1:Nat.sub (Nat.shiftLeft 1 ops.size) 1=2 ^ ops.size - 1:=by
    show 1 <<< ops.size - 1=_
    rw[Nat.shiftLeft_eq,Nat.one_mul]
   rw[e1,Nat.testBit_two_pow_sub_one];simpa using hi
 have C:Ctx P nt ops ms es call e s.c ds aC sF Sx Jx:=by
  refine⟨hSt,E8,hch,wB,fun d hd=>(BV d hd).1,?_,KE,hall,wC⟩;intro i o ho;obtain⟨d,h1,h2⟩:=hd2 i o (by simpa using ho);exact⟨d,List.mem_of_getElem? h1,by omega⟩
 have h0:on (Array.replicate ops.size false)=fun _=>false:=by
  funext j
  unfold on;rw[Array.getD_eq_getD_getElem?,Array.getElem?_replicate];split<;>rfl
 have KF:∀ l:List Nat,countB (fun _=>false) l=0:=by
  intro l;induction l with
  | nil=>rfl
  | cons a l ih=>exact ih
 have aey:(Sx 0).c=s.c+ops.size:=by rw[hS0];rfl
 refine wp_region_any hm (any_ok hN hC C hA.stt.rel ?_ ops.size _ 0 a _ φ s.h ?_ ?_)
 ·intro listed k a' w' φ' h' I hon
  have hk:k=es.length:=by
   rw[← I.cnt];refine Nat.le_antisymm yw ?_;have h1:countB (fun _=>true) es≤countB (on listed) es:=countB_le fun e he _=>by
    obtain⟨o,ho,_⟩:=(wB e).1 he;exact hon e (Array.getElem?_eq_some_iff.1 ho).1
   have h2:∀ l:List Nat,countB (fun _=>true) l=l.length:=by
    intro l;induction l with
    | nil=>rfl
    | cons a l ih=>show Nat.succ (countB (fun _=>true) l)=l.length+1;rw[ih]
   rw[h2] at h1;exact h1
  have hlast:=wC.last;rw[Nat.zero_add,← hk] at hlast;have hJ:=EZ C I fun d hd _ _=>by
   obtain⟨_,o,hok⟩:=hd1 d hd;exact hon d.i (Array.getElem?_eq_some_iff.1 hok.op).1
  obtain⟨jc,jd,_⟩:=wC.join k (Nat.zero_le _) (by omega);rw[hlast] at hJ jc jd;have oH:∀ x,live sF.h x→live h' x:=fun x ⟨o,h1,h2⟩=>⟨o,hJ x o h1 h2,h2⟩;refine⟨rfl,φ',⟨⟨I.dF,fun t=>?_⟩,⟨I.rel.less hJ,fun x hx=>I.fr x (by rw[← jc];exact hx)⟩,?_⟩,⟨I.ext,?_,I.new,fun x hx=>I.dx x (oH x hx)⟩⟩
  ·have hv:=I.env t
   have:vP (ky ops) aC e t=jq ops e aC listed t:=by
    unfold vP jq ky;cases hw:writer t ops.toList 0 with
    | none=>exact sO _
    | some j =>
     obtain⟨q,p,hq,hp,_⟩:=yu hw;have hj:j=q:=by omega
     subst hj;have hp':ops[j]?=some p:=by simpa using hp
     show nA (aC j)=if on listed j=true then aC j else e t
     rw[if_pos (hon j (Array.getElem?_eq_some_iff.1 hp').1),sO]
   show V φ' (ic (vP (ky ops) aC e t)) _
   rw[this];exact hv
  ·show L (DR φ') sF.ds a'.defers
   rw[jd];exact I.iT
  ·have:=I.wz
   show s.c≤sF.c
   omega
 ·simp
 ·refine⟨by simp,?_,?_,hA.stt.rel.draws rfl,?_,?_,?_,?_,?_,hA.env.size,?_,?_,⟨Sub.refl φ,Nat.le_refl _,fun x g h1 h2=>(by rw[h1] at h2;cases h2),fun _ _ _=>rfl,⟨rfl,rfl,rfl⟩⟩,fun _ h1 h2=>absurd h1 h2,fun _ hx=>.inl hx⟩
  ·intro j hj;rw[h0] at hj;cases hj
  ·rw[h0,KF]
  ·intro x o hx _
   rw[hS0] at hx;exact hx
  ·intro d _ _ hl;rw[h0] at hl;cases hl
  ·omega
  ·intro x hx;exact hA.stt.fr x (by omega)
  ·intro j _ _;exact hA.stt.fr _ (by omega)
  ·intro t
   have hv:=hA.env.val t;have:jq ops e aC (Array.replicate ops.size false) t=e t:=by
    unfold jq;cases writer t ops.toList 0 with
    | none=>rfl
    | some j=>simp[h0]
   rw[this];exact hv
  ·rw[hS0];exact hA.iT
end Xe
end Go.Proofs.YtfcpglhpolpdcaaGreatDoor
