/- Regions whose order is drawn: a step. -/
import Derived.Test.YthffafaoobpedaaGreatDoorM39
namespace Go.Proofs.YthffafaoobpedaaGreatDoor
namespace Xe
variable {P:Program}
theorem Ig {acc:List Nat}:∀ {es:List Edge} {e:Edge},e ∈ es→Region.binds .any e=true→tb (gX acc es) e.on=true
 | [],e,he,_=>by cases he
 | x :: es,e,he,hb=>by
  have e1:gX acc (x :: es)=bB (Region.binds .any x) (Nat.lor (Nat.lor (Nat.shiftLeft 1 x.on) ((nth acc x.on).getD 0)) (gX acc es)) (gX acc es):=rfl
  rw [e1,bS]
  rcases List.mem_cons.1 he with rfl | he
  ·rw [if_pos hb,jF]
   show (1 <<< e.on ||| (nth acc e.on).getD 0 ||| gX acc es).testBit e.on=true
   rw [Nat.testBit_or,Nat.testBit_or,Nat.testBit_shiftLeft]
   simp
  ·have ih:=Ig he hb (acc:=acc)
   split
   ·rw [jF] at ih ⊢
    show (1 <<< x.on ||| (nth acc x.on).getD 0 ||| gX acc es).testBit e.on=true
    rw [Nat.testBit_or,ih,Bool.or_true]
   ·exact ih
theorem PU {ops:Array Oper}(h:zi ops=true):∀ (i:Nat) (o:Oper),ops[i]?=some o→∀ e ∈ o.after,Region.binds .any e=true→tb (aI (bI [] (aL ops)) i) e.on=true:=by
 unfold zi at h
 rw [Bool.and_eq_true] at h
 obtain ⟨h1,_⟩:=h
 rw [List.all_eq_true] at h1
 intro i o ho e he hb
 have hm:(i,o) ∈ number (aL ops) 0:=by
  have:=Cu (k:=0) (l:=aL ops) (i:=i) (a:=o) (by rw [bF];simpa using ho)
  rwa [Nat.zero_add] at this
 have:=h1 _ hm
 unfold qp at this
 rw [Bool.and_eq_true,dG] at this
 simp only [decide_eq_true_eq] at this
 rw [this.1]
 refine Ig ?_ hb
 rw [bF];simpa using he
theorem nP {listed:Array Bool}{i j:Nat}(hi:i < listed.size):on (listed.setIfInBounds i true) j=(decide (j=i) || on listed j):=by
 unfold on
 rw [Array.getD_eq_getD_getElem?,Array.getD_eq_getD_getElem?,Array.getElem?_setIfInBounds]
 by_cases h:i=j
 ·subst h;simp [hi]
 ·rw [if_neg h]
  have:decide (j=i)=false:=by simp;omega
  rw [this,Bool.false_or]
theorem wX {p:Nat→Bool}:∀ {l:List Nat},countB p l≤l.length
 | []=>Nat.le_refl _
 | a :: l=>by
  have ih:=wX (p:=p) (l:=l)
  show bB (p a) (Nat.succ (countB p l)) (countB p l)≤l.length+1
  rw [bS]
  split <;> omega
section
variable {nt ax k:Nat} {ops:Array Oper} {ms es:List Nat} {call:Cl} {e0 aF:En} {ds:List Dp} {sF:S} {Sx Jx:Nat→S} {φ0 φ:Ph} {h0 h:Hp} {w0 w:World} {listed:Array Bool} {a:Act} {i:Nat} {o:Oper} {d:Dp}
theorem Ih (C:Ctx P nt ops ms es call e0 ax ds aF sF Sx Jx)(I:Inv ops nt ms es call e0 ax ds aF Sx φ0 h0 w0 listed k a w φ h)(hi:i ∈ Region.ready .any ops listed) :
  ∃ o,ops[i]?=some o∧i < ops.size∧on listed i=false∧∀ j,tb (aI ms i) j=true→on listed j=true:=by
 unfold Region.ready at hi
 rw [List.mem_filter,List.mem_range,Bool.and_eq_true] at hi
 obtain ⟨hlt,h1,h2⟩:=hi
 have ho:ops[i]?=some ops[i]:=Array.getElem?_eq_getElem hlt
 refine ⟨ops[i],ho,hlt,?_,?_⟩
 ·have hl:listed[i]?=some (listed[i]'(by rw [I.sz];exact hlt)):=Array.getElem?_eq_getElem _
  unfold on
  rw [Array.getD_eq_getD_getElem?,hl] at h1 ⊢
  simpa using h1
 ·intro j hj
  obtain ⟨e,he,hb,h3⟩:=C.st.edge i _ ho j hj
  rw [ho] at h2
  simp only [Option.map_some,Option.getD_some] at h2
  rw [Array.all_eq_true'] at h2
  have:=h2 e he
  rw [hb] at this
  have hl:on listed e.on=true:=by simpa [on] using this
  rcases h3 with rfl | h3
  ·exact hl
  ·exact I.down _ hl _ h3
theorem abj (I:Inv ops nt ms es call e0 ax ds aF Sx φ0 h0 w0 listed k a w φ h)(hi:on listed i=false)(hcl:∀ j,tb (aI ms i) j=true→on listed j=true)(hd:oN P nt ops ms es d o)(hdi:d.i=i):d.lo≤k∧k≤d.hi:=by
 have h1:countB (fun e=>tb (aI ms d.i) e) es≤countB (on listed) es:=countB_le fun e _ h=>hcl e (by rw [hdi] at h;exact h)
 have h2:countB (on listed) es≤countB (fun e=>not' (tb (aI ms e) d.i)) es:=countB_le fun e _ h=>by
  cases ht:tb (aI ms e) d.i with
  | true=>have:=I.down e h _ ht;rw [hdi,hi] at this;cases this
  | false=>rfl
 rw [I.cnt] at h1 h2
 exact ⟨by rw [hd.lo];exact h1,by rw [hd.hi];exact h2⟩
theorem abk (C:Ctx P nt ops ms es call e0 ax ds aF sF Sx Jx)(I:Inv ops nt ms es call e0 ax ds aF Sx φ0 h0 w0 listed k a w φ h)(ho:ops[i]?=some o)(hi:on listed i=false)(hcl:∀ j,tb (aI ms i) j=true→on listed j=true) :
  ∀ t ∈ o.looksAt ops,V φ (gW (dK (jZ ops) (aI ms i) aF e0 t)) (a.tmps.getD t undef):=by
 intro t ht
 have hv:=I.env t
 have key:dK (jZ ops) (aI ms i) aF e0 t=jf ops e0 aF listed t:=by
  rw [Ia]
  unfold jf jZ
  cases hw:writer t ops.toList 0 with
  | none=>rfl
  | some j =>
   obtain ⟨q,p,hq,hp,zQ⟩:=wW hw
   have hj:j=q:=by omega
   subst hj
   have hp':ops[j]?=some p:=by simpa using hp
   have:tb (aI ms i) j=on listed j:=by
    by_cases e:i=j
    ·subst e
     rw [hi]
     cases hb:tb (aI ms i) i with
     | true=>exact absurd (C.st.lt i o ho i hb) (Nat.lt_irrefl _)
     | false=>rfl
    ·rcases C.st.look i j o p t ho hp' e zQ ht with h1 | h1
     ·rw [h1,hcl j h1]
     ·have h2:on listed j=false:=by
       cases hb:on listed j with
       | true=>have:=I.down j hb i h1;rw [hi] at this;cases this
       | false=>rfl
      rw [h2]
      cases hb:tb (aI ms i) j with
      | true=>have h3:=C.st.lt i o ho j hb;have h4:=C.st.lt j p hp' i h1;omega
      | false=>rfl
   simp [this]
 rw [key];exact hv
theorem abl (hok:lL o.op=true)(hg:∀ x,x < 3→∃ n,φ x=some ⟨x,n⟩){e:En}(hE:∀ t ∈ o.looksAt ops,V φ (gW (e t)) (a.tmps.getD t undef)):oK φ e a o.op:=by
 intro x hx
 unfold lL at hok
 rw [bF,List.all_eq_true] at hok
 have hx':x ∈ o.op.operands.toList:=by simpa using hx
 have h0:jX φ 0 (fun _=>none) ({ a with tmps:=#[] }:Act):=⟨rfl,fun t=>V.undef φ⟩
 have hk:=OZ (hok x hx') h0 hg
 cases x with
 | tmp t=>exact hE t (List.mem_append.2 (.inl (List.mem_filterMap.2 ⟨.tmp t,hx',rfl⟩)))
 | const v=>exact hk
 | global g=>exact hk
 | func f=>exact hk
theorem PV (C:Ctx P nt ops ms es call e0 ax ds aF sF Sx Jx)(ho:ops[i]?=some o)(hd:mK nt o.dst=true)(hsz:a.tmps.size=nt)(hls:listed.size=ops.size){v v':Value}(hv:aF i=some v)(hV:V φ v v')
  (hE:∀ t,V φ (gW (jf ops e0 aF listed t)) (a.tmps.getD t undef)) (df:List Deferred) (t:Nat):V φ (gW (jf ops e0 aF (listed.setIfInBounds i true) t)) ((({ a with defers:=df }:Act).put o.dst v').tmps.getD t undef):=by
 have hlt:i < listed.size:=by rw [hls];exact (Array.getElem?_eq_some_iff.1 ho).1
 have ho':ops.toList[i]?=some o:=by simpa using ho
 by_cases hdt:o.dst=some t
 ·have hw:writer t ops.toList 0=some i:=by
   cases hw:writer t ops.toList 0 with
   | none=>exact absurd hdt (PS hw i o ho')
   | some j =>
    obtain ⟨q,p,hq,hp,zQ⟩:=wW hw
    have hj:j=q:=by omega
    subst hj
    by_cases e:i=j
    ·rw [e]
    ·exact absurd hdt (C.st.dst i j o p t ho (by simpa using hp) e zQ)
  have e1:jf ops e0 aF (listed.setIfInBounds i true) t=some v:=by
   unfold jf
   rw [hw]
   simp [nP hlt,hv]
  rw [e1,hdt]
  rw [hdt] at hd
  have ht:t < nt:=by simpa [mK,Nat.ble_eq,Nat.succ_le_iff] using hd
  show V φ v ((a.tmps.setIfInBounds t v').getD t undef)
  rw [Array.getD_eq_getD_getElem?,Array.getElem?_setIfInBounds_self_of_lt (by rw [hsz];exact ht)]
  exact hV
 ·have e1:jf ops e0 aF (listed.setIfInBounds i true) t=jf ops e0 aF listed t:=by
   unfold jf
   cases hw:writer t ops.toList 0 with
   | none=>rfl
   | some j =>
    obtain ⟨q,p,hq,hp,zQ⟩:=wW hw
    have hj:j=q:=by omega
    subst hj
    have hne:j≠i:=by
     rintro rfl
     rw [ho'] at hp;cases hp
     exact hdt zQ
    simp only [nP hlt,decide_eq_false hne,Bool.false_or]
  rw [e1]
  have e2:(({ a with defers:=df }:Act).put o.dst v').tmps.getD t undef=a.tmps.getD t undef:=by
   cases hdd:o.dst with
   | none=>rfl
   | some t' =>
    show (a.tmps.setIfInBounds t' v').getD t undef=_
    rw [Array.getD_eq_getD_getElem?,Array.getElem?_setIfInBounds_ne (fun h=>hdt (by rw [hdd,h])),← Array.getD_eq_getD_getElem?]
  rw [e2]
  exact hE t
theorem PW (a:Act)(df:List Deferred)(d:Option Nat)(v:Value):(({ a with defers:=df }:Act).put d v).tmps.size=a.tmps.size:=by
 cases d with
 | none=>rfl
 | some d=>simp [Act.put]
theorem put_defers (a:Act)(d:Option Nat)(v:Value):(a.put d v).defers=a.defers:=by
 cases d <;> rfl
theorem Ii (hlt:i < listed.size)(Ij:∀ j,on listed j=true→∀ i,tb (aI ms j) i=true→on listed i=true)(hcl:∀ j,tb (aI ms i) j=true→on listed j=true) :
  ∀ j,on (listed.setIfInBounds i true) j=true→∀ x,tb (aI ms j) x=true→on (listed.setIfInBounds i true) x=true:=by
 intro j hj x hx
 rw [nP hlt,Bool.or_eq_true] at hj ⊢
 refine .inr ?_
 rcases hj with hj | hj
 ·have hj':j=i:=by simpa using hj
  subst hj'
  exact hcl x hx
 ·exact Ij j hj x hx
theorem Ik (C:Ctx P nt ops ms es call e0 ax ds aF sF Sx Jx)(I:Inv ops nt ms es call e0 ax ds aF Sx φ0 h0 w0 listed k a w φ h)(ho:ops[i]?=some o)(hcl:∀ j,tb (aI ms i) j=true→on listed j=true)
  (iP:d ∈ ds) (hd:oN P nt ops ms es d o) (hdi:d.i=i) (hc2:d.c≠2) {φ':Ph} {h':Hp} {w':World} {v v':Value} (hv:aF i=some v) (hV:V φ' v v') (hsub:Sub φ φ') (hrel:Rel φ' h' w')
  (hA:∀ x o,(Sx k).h x=some o→iM o→h' x=some o) (hB1:d.c=1→∀ o,nO (jZ ops) call e0 aF ax d=some o→h' (ax+i)=some o) (hB2:∀ x,x≠ax+i→h' x=h x)
  (Il:∀ x,x≠ax+i→φ' x=φ x) (Im:Ext φ0 h0 w0 φ' w') (abm:∀ x,live h' x→live h0 x∨φ0 x=none) :
  Inv ops nt ms es call e0 ax ds aF Sx φ0 h0 w0 (listed.setIfInBounds i true) k (a.put o.dst v') w' φ' h':=by
 have hlt':i < ops.size:=(Array.getElem?_eq_some_iff.1 ho).1
 have hlt:i < listed.size:=by rw [I.sz];exact hlt'
 have abn:i ∉ es:=fun hh=>by
  obtain ⟨o2,h1,h2⟩:=(C.CE i).1 hh
  rw [ho] at h1;cases h1
  exact hc2 (by rw [hd.c];exact h2)
 refine ⟨by simp [I.sz],Ii hlt I.down hcl,?_,hrel,hA,?_,I.uM,?_,?_,?_,?_,?_,Im,?_,abm⟩
 ·rw [← I.cnt]
  have hh:∀ e ∈ es,on (listed.setIfInBounds i true) e=on listed e:=fun e he=>by
   have hne:e≠i:=by rintro rfl;exact abn he
   rw [nP hlt,decide_eq_false hne,Bool.false_or]
  exact Nat.le_antisymm (countB_le fun e he h=>by rw [← hh e he];exact h) (countB_le fun e he h=>by rw [hh e he];exact h)
 ·intro d' hd' hc hl hk o2 ho2
  by_cases e:d'.i=i
  ·have:=C.CF d' hd' d iP (by rw [e,hdi])
   subst this
   rw [e]
   exact hB1 hc o2 ho2
  ·rw [nP hlt,decide_eq_false e,Bool.false_or] at hl
   rw [hB2 _ (by omega)]
   exact I.hB d' hd' hc hl hk o2 ho2
 ·intro x hx
  have:=I.uM
  rw [Il x (by omega)]
  exact I.fr x hx
 ·intro j hj hl
  rw [nP hlt,Bool.or_eq_false_iff] at hl
  have hne:j≠i:=by simpa using hl.1
  rw [Il _ (by omega)]
  exact I.kept j hj hl.2
 ·exact (PW a a.defers o.dst v').trans I.dz
 ·exact PV C ho hd.wV I.dz I.sz hv hV (fun t=>(I.env t).mono hsub) a.defers
 ·rw [put_defers]
  exact I.iO.mono fun _ _=>DR.mono hsub
 ·intro x h1 h2
  by_cases e:x=ax+i
  ·omega
  ·rw [Il x e] at h2
   exact I.new x h1 h2
end
end Xe
namespace Xe
variable {P:Program}
section
variable {nt ax k:Nat} {ops:Array Oper} {ms es:List Nat} {call:Cl} {e0 aF:En} {ds:List Dp} {sF:S} {Sx Jx:Nat→S} {φ0 φ:Ph} {h0 h:Hp} {w0 w:World} {listed:Array Bool} {a:Act} {i:Nat} {o:Oper} {d:Dp}
theorem CG (C:Ctx P nt ops ms es call e0 ax ds aF sF Sx Jx)(Ij:∀ j,on listed j=true→∀ i,tb (aI ms j) i=true→on listed i=true) :
  ∀ (a b x y:Nat),a < b→es[a]?=some x→es[b]?=some y→on listed y=true→on listed x=true :=
 fun a b x y hab hx hy h=>Ij y h x (zP C.CB a b x y hab hx hy)
theorem CJ (C:Ctx P nt ops ms es call e0 ax ds aF sF Sx Jx)(I:Inv ops nt ms es call e0 ax ds aF Sx φ0 h0 w0 listed k a w φ h)(hl:∀ d ∈ ds,d.c=1→d.hi=k→on listed d.i=true) :
  ∀ x o,(Jx k).h x=some o→iM o→h x=some o:=by
 intro x o hx wY
 have hk:k≤es.length:=by rw [← I.cnt];exact wX
 rcases (C.qE.join k (Nat.zero_le _) (by omega)).2.2 x o hx with h1 | ⟨d,hd,hc,hhi,rfl,gZ⟩
 ·exact I.hA x o h1 wY
 ·exact I.hB d hd hc (hl d hd hc hhi) (by omega) o gZ
theorem abo (C:Ctx P nt ops ms es call e0 ax ds aF sF Sx Jx)(I:Inv ops nt ms es call e0 ax ds aF Sx φ0 h0 w0 listed k a w φ h)(hi:on listed i=false)(hcl:∀ j,tb (aI ms i) j=true→on listed j=true)(hie:i ∈ es):es[k]?=some i:=by
 obtain ⟨q,hq⟩:=List.getElem?_of_mem hie
 have h1:=uL (CG C I.down) q i hq
 rw [I.cnt,hi] at h1
 have hqk:¬ q < k:=fun h=>by have:=h1.2 h;cases this
 rcases Nat.lt_or_ge k q with hlt | hge
 ·have hql:=(List.getElem?_eq_some_iff.1 hq).1
  have hx:es[k]?=some (es[k]'(by omega)):=List.getElem?_eq_getElem _
  have h2:=uL (CG C I.down) k _ hx
  rw [I.cnt] at h2
  have:=h2.1 (hcl _ (zP C.CB k q _ i hlt hx hq))
  omega
 ·rw [show k=q by omega];exact hq
theorem PX (C:Ctx P nt ops ms es call e0 ax ds aF sF Sx Jx)(hcl:∀ j,tb (aI ms i) j=true→on listed j=true)(hk:es[k]?=some i):∀ d ∈ ds,d.c=1→d.hi=k→on listed d.i=true:=by
 intro d hd _ hhi
 obtain ⟨o,hd'⟩:=C.wV d hd
 refine hcl _ ?_
 have hpre:∀ (a b x y:Nat),a < b→es[a]?=some x→es[b]?=some y→(fun e=>not' (tb (aI ms e) d.i)) y=true→(fun e=>not' (tb (aI ms e) d.i)) x=true:=by
  intro a b x y hab hx hy hn
  obtain ⟨ox,hox,_⟩:=(C.CE x).1 (List.mem_of_getElem? hx)
  obtain ⟨oy,hoy,_⟩:=(C.CE y).1 (List.mem_of_getElem? hy)
  have h1:=uK hn
  cases h2:tb (aI ms x) d.i with
  | true =>
   have:=C.st.trans y x oy ox hoy hox (zP C.CB a b x y hab hx hy) d.i h2
   rw [h1] at this;cases this
  | false=>show not' (tb (aI ms x) d.i)=true;rw [h2];rfl
 have h1:=uL hpre k i hk
 rw [← hd'.hi,hhi] at h1
 cases h2:tb (aI ms i) d.i with
 | true=>rfl
 | false =>
  have:=h1.1 (by show not' (tb (aI ms i) d.i)=true;rw [h2];rfl)
  omega
def lN (ds:List Dp)(listed:Array Bool)(ax k x:Nat):Prop:=∃ d ∈ ds,d.c=1∧on listed d.i=true∧k+1≤d.hi∧x=ax+d.i
open Classical in
theorem PY (C:Ctx P nt ops ms es call e0 ax ds aF sF Sx Jx)(I:Inv ops nt ms es call e0 ax ds aF Sx φ0 h0 w0 listed k a w φ h)(r0:Rel φ0 h0 w0)(ho:ops[i]?=some o)(hcl:∀ j,tb (aI ms i) j=true→on listed j=true)
  (hd:oN P nt ops ms es d o) (hdi:d.i=i) (iP:d ∈ ds) (hc2:d.c=2) (hk:es[k]?=some i) {φ':Ph} {w':World} {v v':Value} {df:List Deferred} (hv:aF i=some v) (hV:V φ' v v') (hP:Post φ (Jx k) w φ' (Sx (k+1)) w') (hdf:L (DR φ') (Sx (k+1)).ds df) :
  ∃ h',Inv ops nt ms es call e0 ax ds aF Sx φ0 h0 w0 (listed.setIfInBounds i true) (k+1) (({ a with defers:=df }:Act).put o.dst v') w' φ' h':=by
 have hlt':i < ops.size:=(Array.getElem?_eq_some_iff.1 ho).1
 have hlt:i < listed.size:=by rw [I.sz];exact hlt'
 have hkl:k < es.length:=(List.getElem?_eq_some_iff.1 hk).1
 obtain ⟨jc,jd,jh⟩:=C.qE.join k (Nat.zero_le _) (by omega)
 have hJ:=CJ C I (PX C hcl hk)
 have nQ:∀ x,live (Jx k).h x→live h x:=fun x ⟨o,h1,h2⟩=>⟨o,hJ x o h1 h2,h2⟩
 have PZ:∀ x,lN ds listed ax k x→¬ live (Jx k).h x:=by
  rintro x ⟨d1,hd1,hc1,hl1,jk,rfl⟩ ⟨o2,h2,_⟩
  rcases jh _ o2 h2 with h3 | ⟨d2,hd2,_,pg,he2,_⟩
  ·have:=C.qE.free k (Nat.zero_le _) (by omega) d1 hd1 hc1 (by omega)
   rw [this] at h3;cases h3
  ·have:=C.CF d1 hd1 d2 hd2 (by omega)
   subst this;omega
 have hsub:=hP.ext.sub
 refine ⟨fun x=>if lN ds listed ax k x then h x else (Sx (k+1)).h x,?_⟩
 have hp:∀ x o,(if lN ds listed ax k x then h x else (Sx (k+1)).h x)=some o→(lN ds listed ax k x∧h x=some o)∨(¬ lN ds listed ax k x∧(Sx (k+1)).h x=some o):=by
  intro x o hx
  by_cases hh:lN ds listed ax k x
  ·rw [if_pos hh] at hx;exact .inl ⟨hh,hx⟩
  ·rw [if_neg hh] at hx;exact .inr ⟨hh,hx⟩
 have hpl:∀ x,live (fun x=>if lN ds listed ax k x then h x else (Sx (k+1)).h x) x→(lN ds listed ax k x∧live h x)∨(¬ lN ds listed ax k x∧live (Sx (k+1)).h x):=by
  rintro x ⟨o,h1,h2⟩
  rcases hp x o h1 with ⟨h3,h4⟩ | ⟨h3,h4⟩
  ·exact .inl ⟨h3,o,h4,h2⟩
  ·exact .inr ⟨h3,o,h4,h2⟩
 -- one stands over,one is new
 have two:∀ x y g g',lN ds listed ax k x→live h x→live (Sx (k+1)).h y→φ' x=some g→φ' y=some g'→g.b=g'.b→x=y:=by
  intro x y g g' hx hlx hly hgx iN he
  obtain ⟨g0,hg0⟩:=I.rel.has hlx
  have e0:=hsub x g0 hg0
  rw [hgx] at e0;cases e0
  rcases hP.dn y hly with h1 | h1
  ·obtain ⟨g1,hg1⟩:=I.rel.has (nQ y h1)
   have e1:=hsub y g1 hg1
   rw [iN] at e1;cases e1
   exact I.rel.inj x y g g' hlx (nQ y h1) hg0 hg1 he
  ·rcases hP.ext.news y g' h1 iN with h2 | ⟨z,gz,_,hz,hgz,zl⟩
   ·have:=I.rel.bnd x g hg0;omega
   ·have hzx:=I.rel.inj z x gz g (nQ z hz) hlx hgz hg0 (zl.trans he.symm)
    subst hzx
    exact absurd hz (PZ z hx)
 refine ⟨by simp [I.sz],Ii hlt I.down hcl,?_,⟨?_,?_,hP.stt.rel.bnd,hP.stt.rel.kV⟩,?_,?_,?_,hP.stt.fr,?_,?_,?_,?_,?_,?_,?_⟩
 ·have hpre:=CG C (Ii hlt I.down hcl)
  have h1:=(uL hpre k i hk).1 (by rw [nP hlt];simp)
  rcases Nat.lt_or_ge (k+1) es.length with hl | hl
  ·have hx:es[k+1]?=some (es[k+1]'hl):=List.getElem?_eq_getElem _
   have h2:=uL hpre (k+1) _ hx
   have h3:=uL (CG C I.down) (k+1) _ hx
   rw [I.cnt] at h3
   have h4:on listed (es[k+1]'hl)=false:=by
    cases hb:on listed (es[k+1]'hl) with
    | true=>have:=h3.1 hb;omega
    | false=>rfl
   have hne:es[k+1]'hl≠i:=by
    intro he
    have:=C.st.lt i o ho i (by have:=zP C.CB k (k+1) i _ (by omega) hk hx;rwa [he] at this)
    omega
   rw [nP hlt,h4,decide_eq_false hne] at h2
   have h5:¬ k+1 < countB (on (listed.setIfInBounds i true)) es:=fun hh=>by have:=h2.2 hh;cases this
   omega
  ·have:=wX (p:=on (listed.setIfInBounds i true)) (l:=es)
   omega
 ·intro x o2 hx
  rcases hp x o2 hx with ⟨h3,h4⟩ | ⟨h3,h4⟩
  ·by_cases wY:iM o2
   ·refine (I.rel.obj x o2 h4).mono hsub fun g hg=>hP.ext.kept g.b (I.rel.bnd x g hg) ?_
    intro y gy _ hy iN he
    have:=I.rel.inj y x gy g (nQ y hy) ⟨o2,h4,wY⟩ iN hg he
    subst this
    exact PZ y h3 hy
   ·cases o2 <;> simp only [iM,not_true_eq_false] at wY <;> exact trivial
  ·exact hP.stt.rel.obj x o2 h4
 ·intro x y g g' hx hy hgx iN he
  rcases hpl x hx with ⟨h1,h2⟩ | ⟨h1,h2⟩ <;> rcases hpl y hy with ⟨h3,h4⟩ | ⟨h3,h4⟩
  ·obtain ⟨gx,P8⟩:=I.rel.has h2
   obtain ⟨gy,P9⟩:=I.rel.has h4
   have e1:=hsub x gx P8
   have e2:=hsub y gy P9
   rw [hgx] at e1;rw [iN] at e2
   cases e1;cases e2
   exact I.rel.inj x y g g' h2 h4 P8 P9 he
  ·exact two x y g g' h1 h2 h4 hgx iN he
  ·exact (two y x g' g h3 h4 h2 iN hgx he.symm).symm
  ·exact hP.stt.rel.inj x y g g' h2 h4 hgx iN he
 ·intro x o2 hx wY
  show (if lN ds listed ax k x then h x else (Sx (k+1)).h x)=some o2
  by_cases hh:lN ds listed ax k x
  ·obtain ⟨d1,hd1,hc1,hl1,jk,rfl⟩:=hh
   have:=C.qE.free (k+1) (Nat.zero_le _) (by omega) d1 hd1 hc1 jk
   rw [this] at hx;cases hx
  ·rw [if_neg hh];exact hx
 ·intro d1 hd1 hc1 hl1 jk o2 ho2
  have hne:d1.i≠i:=by
   intro e
   have:=C.CF d1 hd1 d iP (by rw [e,hdi])
   subst this;omega
  rw [nP hlt,decide_eq_false hne,Bool.false_or] at hl1
  show (if lN ds listed ax k (ax+d1.i) then h (ax+d1.i) else _)=some o2
  rw [if_pos ⟨d1,hd1,hc1,hl1,jk,rfl⟩]
  exact I.hB d1 hd1 hc1 hl1 (by omega) o2 ho2
 ·have:=hP.le
  have:=I.uM
  omega
 ·intro j hj hl
  rw [nP hlt,Bool.or_eq_false_iff] at hl
  by_cases h1:φ' (ax+j)=none
  ·exact h1
  ·have:=hP.new _ (I.kept j hj hl.2) h1
   have:=I.uM
   omega
 ·exact (PW a df o.dst v').trans I.dz
 ·exact PV C ho hd.wV I.dz I.sz hv hV (fun t=>(I.env t).mono hsub) df
 ·rw [put_defers];exact hdf
 ·exact I.ext.trans hP.ext (fun x hx=>I.dn x (nQ x hx)) (fun x hx=>r0.has hx) (fun x hx=>I.rel.has (nQ x hx))
 ·intro x h1 h2
  by_cases h3:φ x=none
  ·have:=hP.new x h3 h2
   have:=I.uM
   omega
  ·exact I.new x h1 h3
 ·intro x hx
  rcases hpl x hx with ⟨_,h2⟩ | ⟨_,h2⟩
  ·exact I.dn x h2
  ·rcases hP.dn x h2 with h3 | h3
   ·exact I.dn x (nQ x h3)
   ·cases h4:φ0 x with
    | none=>exact .inr rfl
    | some g=>rw [I.ext.sub x g h4] at h3;cases h3
end
end Xe
namespace Xe
variable {P:Program}
section
variable {nt ax k:Nat} {ops:Array Oper} {ms es:List Nat} {call:Cl} {e0 aF:En} {ds:List Dp} {sF:S} {Sx Jx:Nat→S} {φ0 φ:Ph} {h0 h:Hp} {w0 w:World} {listed:Array Bool} {a:Act} {i:Nat} {o:Oper} {d:Dp}
theorem AU (hN:jb P)(hC:iG P call)(C:Ctx P nt ops ms es call e0 ax ds aF sF Sx Jx)(I:Inv ops nt ms es call e0 ax ds aF Sx φ0 h0 w0 listed k a w φ h)(r0:Rel φ0 h0 w0)(hi:i ∈ Region.ready .any ops listed)
  {K:Act→World→Prop} {Q:Exit→Act→World→Prop} (hK:∀ k' a' w' φ' h',Inv ops nt ms es call e0 ax ds aF Sx φ0 h0 w0 (listed.setIfInBounds i true) k' a' w' φ' h'→K a' w'):wpOp P ops Q i K a w:=by
 obtain ⟨o,ho,hlt,hil,hcl⟩:=Ih C I hi
 obtain ⟨d,iP,hdi⟩:=C.dat i o ho
 obtain ⟨o',hd⟩:=C.wV d iP
 have Io:o'=o:=by have:=hd.op;rw [hdi,ho] at this;cases this;rfl
 subst Io
 obtain ⟨hlo,hhi⟩:=abj I hil hcl hd hdi
 have hkl:k≤es.length:=by rw [← I.cnt];exact wX
 have Qa:=abk C I ho hil hcl
 have hm:d.m=aI ms i:=by rw [hd.m,hdi]
 have hE:=abl hd.ok I.rel.kV Qa
 have hwant:=abh Qa hd.g
 rw [← hm] at hE hwant
 unfold wpOp
 rw [ho]
 show (if Region.wanted o' (yielded ops a.tmps)=true then _ else _)
 rw [hwant]
 have hc3:d.c=0∨d.c=1∨d.c=2:=by
  rw [hd.c]
  rcases uG hd.f with ⟨h0,_⟩ | ⟨h0,_⟩ | ⟨h0,_⟩ <;> simp [h0]
 rcases hc3 with hc | hc | hc
 ·obtain ⟨v,s2,hv,hev⟩:=C.qE.read k (Nat.zero_le _) (by omega) d iP hc hlo hhi
  rw [Ie] at hev
  rw [hdi] at hv
  have same:∀ v',V φ v v'→Inv ops nt ms es call e0 ax ds aF Sx φ0 h0 w0 (listed.setIfInBounds i true) k (a.put o'.dst v') w φ h:=fun v' hV =>
   Ik C I ho hcl iP hd hdi (by omega) hv hV (Sub.refl φ) I.rel I.hA (fun h1=>by omega) (fun _ _=>rfl) (fun _ _=>rfl) I.ext I.dn
  by_cases hw:want d.st.g (dK (jZ ops) d.m aF e0)=true
  ·rw [if_pos hw] at hev ⊢
   refine .inl ?_
   rcases uG hd.f with ⟨_,hR⟩ | ⟨h1,_⟩ | ⟨h1,_⟩
   ·obtain ⟨_,hR⟩:=hR call _ _ _ v s2 hev
    obtain ⟨v',hV,hrun⟩:=hR φ a w hE (I.rel.less I.hA)
    unfold Oper.wp
    rw [hrun o' rfl]
    exact hK k _ w φ h (same v' hV)
   ·rw [← hd.c,hc] at h1;cases h1
   ·rw [← hd.c,hc] at h1;cases h1
  ·rw [if_neg hw] at hev ⊢
   cases hev
   exact hK k _ w φ h (same undef (V.undef φ))
 ·obtain ⟨v,s1,s2,hv,hev⟩:=C.qE.lays d iP hc (Nat.zero_le _) (by omega)
  rw [hdi] at hv
  rcases PK hd hc hev with ⟨hw,_,rfl,gZ⟩ | ⟨hw,ob,wY,gZ,_,zH⟩
  ·rw [if_neg (by rw [hw];simp)]
   exact hK k _ w φ h (Ik C I ho hcl iP hd hdi (by omega) hv (V.undef φ) (Sub.refl φ) I.rel I.hA (fun _ o2 h2=>by rw [gZ] at h2;cases h2) (fun _ _=>rfl) (fun _ _=>rfl) I.ext I.dn)
  ·rw [if_pos hw]
   refine .inl ?_
   have hnm:φ (ax+d.i)=none:=by rw [hdi];exact I.kept i hlt hil
   obtain ⟨o2,n,v',hrun,hV,hor⟩:=zH φ a w hE hnm
   unfold Oper.wp
   rw [hrun o' rfl]
   rw [hdi] at hnm hV hor
   have hsub:=wT hnm ⟨w.heap.size,n⟩
   have hrel:=Pg (o':=o2) I.rel hnm hor
   have Im:Ext φ h w (upd φ (ax+i) ⟨w.heap.size,n⟩) (w.alloc o2):=by
    refine ⟨hsub,?_,?_,?_,⟨rfl,rfl,rfl⟩⟩
    ·show w.heap.size≤(w.heap.push o2).size
     simp
    ·intro x g h1 h2
     unfold upd at h2
     split at h2
     ·cases h2;exact .inl (Nat.le_refl _)
     ·rw [h1] at h2;cases h2
    ·intro b hb' _
     show (w.heap.push o2)[b]?=_
     rw [Array.getElem?_push_lt hb'];simp [hb']
   refine hK k _ _ _ (setH h (ax+i) ob) (Ik C I ho hcl iP hd hdi (by omega) hv hV hsub hrel ?_ ?_ ?_ ?_ ?_ ?_)
   ·intro x o3 hx hi3
    rw [gY]
    have hne:x≠ax+i:=by
     rintro rfl
     have:=C.qE.free k (Nat.zero_le _) (by omega) d iP hc hhi
     rw [hdi,hx] at this;cases this
    rw [if_neg hne]
    exact I.hA x o3 hx hi3
   ·intro _ o3 h3
    rw [gZ] at h3;cases h3
    rw [gY,if_pos rfl]
   ·intro x hx;rw [gY,if_neg hx]
   ·intro x hx;unfold upd;rw [if_neg hx]
   ·exact I.ext.trans Im I.dn (fun x hx=>r0.has hx) (fun x hx=>I.rel.has hx)
   ·rintro x ⟨o3,h3,hi3⟩
    rw [gY] at h3
    split at h3
    ·rename_i e
     subst e
     refine .inr ?_
     cases h4:φ0 (ax+i) with
     | none=>rfl
     | some g=>rw [I.ext.sub _ g h4] at hnm;cases hnm
    ·exact I.dn x ⟨o3,h3,hi3⟩
 ·have hie:i ∈ es:=(C.CE i).2 ⟨o',ho,by rw [← hd.c];exact hc⟩
  have hk:=abo C I hil hcl hie
  obtain ⟨d',hd',abq,v,hv,hev⟩:=C.qE.PM k i hk
  have:=C.CF d' hd' d iP (by rw [abq,hdi])
  subst this
  rw [Nat.zero_add,Ie] at hev
  obtain ⟨jc,jd,_⟩:=C.qE.join k (Nat.zero_le _) (by omega)
  have hS:gB φ (Jx k) w:=⟨I.rel.less (CJ C I (PX C hcl hk)),fun x hx=>I.fr x (by rw [← jc];exact hx)⟩
  have hdf:L (DR φ) (Jx k).ds a.defers:=by rw [jd];exact I.iO
  by_cases hw:want d'.st.g (dK (jZ ops) d'.m aF e0)=true
  ·rw [if_pos hw] at hev ⊢
   refine .inl (PT hN hC hd.f (by rw [← hd.c];exact hc) hev hE hS hdf K Q ?_)
   intro φ' v' w' df hV hP abr
   obtain ⟨h',I'⟩:=PY C I r0 ho hcl hd hdi iP hc hk hv hV hP abr
   exact hK _ _ _ _ h' I'
  ·rw [if_neg hw] at hev ⊢
   have Qb:(undef,Jx k)=(v,Sx (k+1)):=Option.some.inj hev
   have e1:v=undef:=(congrArg Prod.fst Qb).symm
   have e2:Jx k=Sx (k+1):=congrArg Prod.snd Qb
   have hP:Post φ (Jx k) w φ (Sx (k+1)) w:=e2 ▸ Post.refl hS
   obtain ⟨h',I'⟩:=PY (df:=a.defers) C I r0 ho hcl hd hdi iP hc hk hv (by rw [e1];exact V.undef φ) hP (by rw [← e2];exact hdf)
   exact hK _ _ _ _ h' I'
theorem any_ok (hN:jb P)(hC:iG P call)(C:Ctx P nt ops ms es call e0 ax ds aF sF Sx Jx)(r0:Rel φ0 h0 w0){Q:Exit→Act→World→Prop}
  (hQ:∀ listed k a w φ h,Inv ops nt ms es call e0 ax ds aF Sx φ0 h0 w0 listed k a w φ h→(∀ i,i < ops.size→on listed i=true)→Q .normal a w) :
  ∀ (n:Nat) (listed:Array Bool) (k:Nat) (a:Act) (w:World) (φ:Ph) (h:Hp),listed.toList.count false≤n→Inv ops nt ms es call e0 ax ds aF Sx φ0 h0 w0 listed k a w φ h→wpAny P .any ops Q n listed a w:=by
 have fin:∀ (listed:Array Bool) (k:Nat) (a:Act) (w:World) (φ:Ph) (h:Hp),Inv ops nt ms es call e0 ax ds aF Sx φ0 h0 w0 listed k a w φ h→Region.ready .any ops listed=[]→Q .normal a w:=by
  intro listed k a w φ h I hr
  refine hQ listed k a w φ h I ?_
  intro i
  induction i using Nat.strongRecOn with
  | _ i ih =>
   intro hlt
   cases hon:on listed i with
   | true=>rfl
   | false =>
    exfalso
    have ho:ops[i]?=some ops[i]:=Array.getElem?_eq_getElem hlt
    have:i ∈ Region.ready .any ops listed:=by
     unfold Region.ready
     rw [List.mem_filter,List.mem_range,Bool.and_eq_true]
     refine ⟨hlt,?_,?_⟩
     ·have hl:listed[i]?=some (listed[i]'(by rw [I.sz];exact hlt)):=Array.getElem?_eq_getElem _
      unfold on at hon
      rw [Array.getD_eq_getD_getElem?,hl] at hon ⊢
      simpa using hon
     ·rw [ho]
      simp only [Option.map_some,Option.getD_some]
      rw [Array.all_eq_true']
      intro e he
      cases hb:Region.binds .any e with
      | false=>rfl
      | true =>
       have ht:=C.edge i _ ho e he hb
       have hle:=C.st.lt i _ ho e.on ht
       have:=ih e.on hle (by omega)
       unfold on at this
       rw [this];rfl
    rw [hr] at this;cases this
 intro n
 induction n with
 | zero =>
  intro listed k a w φ h hn I
  have hr:Region.ready .any ops listed=[]:=by
   cases hrr:Region.ready .any ops listed with
   | nil=>rfl
   | cons i l =>
    exfalso
    obtain ⟨o,ho,hlt,hil,_⟩:=Ih C I (i:=i) (by rw [hrr];simp)
    have hmem:false ∈ listed.toList:=by
     have hl:listed[i]?=some (listed[i]'(by rw [I.sz];exact hlt)):=Array.getElem?_eq_getElem _
     unfold on at hil
     rw [Array.getD_eq_getD_getElem?,hl] at hil
     have e:listed[i]'(by rw [I.sz];exact hlt)=false:=by simpa using hil
     have:=Array.getElem_mem (xs:=listed) (i:=i) (by rw [I.sz];exact hlt)
     rw [e] at this
     simpa using this
    have:=List.count_pos_iff.2 hmem
    omega
  exact ⟨hr,fin listed k a w φ h I hr⟩
 | succ n ih =>
  intro listed k a w φ h hn I
  refine ⟨fin listed k a w φ h I,fun i hi=>AU hN hC C I r0 hi ?_⟩
  intro k' a' w' φ' h' I'
  refine ih _ k' a' w' φ' h' ?_ I'
  obtain ⟨o,ho,hlt,hil,_⟩:=Ih C I hi
  have hls:i < listed.toList.length:=by simpa [I.sz] using hlt
  have e:listed.toList[i]=false:=by
   have hl:listed[i]?=some (listed[i]'(by rw [I.sz];exact hlt)):=Array.getElem?_eq_getElem _
   unfold on at hil
   rw [Array.getD_eq_getD_getElem?,hl] at hil
   simpa using hil
  rw [Array.toList_setIfInBounds,List.count_set hls,e]
  have hmem:false ∈ listed.toList:=by rw [← e];exact List.getElem_mem hls
  have:=List.count_pos_iff.2 hmem
  simp only [beq_self_eq_true,if_true]
  have e2:(true == false)=false:=rfl
  rw [e2]
  simp only [Bool.false_eq_true,if_false]
  omega
end
theorem Ip {ms es:List Nat}:∀ (l:List St) (r:List Oper) (i:Nat),(ry ms es l r i).length≤r.length
 | [],[],_=>Nat.le_refl _
 | [],_ :: _,_=>Nat.zero_le _
 | _ :: _,[],_=>Nat.zero_le _
 | _ :: l,_ :: r,i=>Nat.succ_le_succ (Ip l r (i+1))
theorem abt (hN:jb P)(hm:P.follows .mixedOrders=true)(call:Cl)(hC:iG P call):Cr P call:=by
 intro nt ops e s r hr id φ a w hA
 unfold wL at hr
 rw [aN,jE,nN] at hr
 obtain ⟨zR,hr⟩:=hr
 obtain ⟨l,hl,hr⟩:=ai.1 hr
 obtain ⟨⟨aF,sF⟩,hst,hr⟩:=ai.1 hr
 rw [gD,aN] at hr
 obtain ⟨zS,hr⟩:=hr
 cases hr
 obtain ⟨hSt,hch⟩:=Pz zR
 have CL:=PU zR
 have hlen:(aL ops).length=ops.size:=by rw [bF];simp
 rw [hlen] at hst zS
 have hw:(fun t=>writer t (aL ops) 0)=jZ ops:=by rw [bF];rfl
 rw [hw] at hst ⊢
 generalize hms:bI [] (aL ops)=ms at *
 generalize hes:lM (aL ops) 0=es at *
 rw [bF] at hl hst
 have uN:∀ e,e ∈ es ↔ ∃ o,ops[e]?=some o∧cls o.op=2:=by
  intro e
  rw [← hes,PQ,bF]
  constructor
  ·rintro ⟨j,o,h1,h2,h3⟩
   have:e=j:=by omega
   subst this
   exact ⟨o,by simpa using h2,h3⟩
  ·rintro ⟨o,h1,h2⟩
   exact ⟨e,o,by omega,by simpa using h1,h2⟩
 obtain ⟨hd1,hd2⟩:=Ic (P:=P) (nt:=nt) (ops:=ops) (ms:=ms) (es:=es) ops.toList l 0 (by simp) hl
 have hdl:=Ip (ms:=ms) (es:=es) l ops.toList 0
 generalize hds:ry ms es l ops.toList 0=ds at *
 have hget:∀ (j:Nat) (d:Dp),ds[j]?=some d→d.i=j:=by
  intro j d hj
  have hjl:=(List.getElem?_eq_some_iff.1 hj).1
  have hjo:j < ops.toList.length:=by omega
  obtain ⟨d',h1,h2⟩:=hd2 j _ (List.getElem?_eq_getElem hjo)
  rw [hj] at h1;cases h1
  omega
 have hat:∀ (e:Nat) (d:Dp),uq ds e=some d→d ∈ ds∧d.i=e:=by
  intro e d h
  unfold uq at h
  rw [jY] at h
  exact ⟨List.mem_of_getElem? h,hget e d h⟩
 have Iq:∀ d ∈ ds,∀ d' ∈ ds,d.i=d'.i→d=d':=by
  intro d hd d' hd' he
  obtain ⟨j,hj⟩:=List.getElem?_of_mem hd
  obtain ⟨j',hj'⟩:=List.getElem?_of_mem hd'
  have h1:=hget j d hj
  have h2:=hget j' d' hj'
  have:j=j':=by omega
  subst this
  rw [hj] at hj';cases hj';rfl
 have hlo:∀ d ∈ ds,d.lo≤d.hi:=by
  intro d hd
  obtain ⟨_,o,hok⟩:=hd1 d hd
  rw [hok.lo,hok.hi]
  refine countB_le fun e he h=>?_
  obtain ⟨oe,hoe,_⟩:=(uN e).1 he
  cases ht:tb (aI ms e) d.i with
  | true=>have h3:=hSt.lt e oe hoe d.i ht;have h4:=hSt.lt d.i o hok.op e h;omega
  | false=>rfl
 have zT:∀ d ∈ ds,(∃ o,oN P nt ops ms es d o)∧∀ j,tb d.m j=true→j < ops.size:=by
  intro d hd
  obtain ⟨_,o,hok⟩:=hd1 d hd
  refine ⟨⟨o,hok⟩,fun j hj=>?_⟩
  rw [hok.m] at hj
  have h3:=hSt.lt d.i o hok.op j hj
  have h4:=(Array.getElem?_eq_some_iff.1 hok.op).1
  omega
 obtain ⟨Sx,Jx,hS0,_,uO⟩:=PN zT hat hlo es 0 _ _ hst (fun d _ _ h=>absurd h (Nat.not_lt_zero _))
 have hall:∀ i,i < ops.size→∃ v,aF i=some v:=by
  intro i hi
  refine Cw zS ?_ i ?_
  ·intro j hj
   rw [jF] at hj
   rcases Nat.lt_or_ge j ops.size with h | h
   ·exact h
   ·have e1:Nat.sub (Nat.shiftLeft 1 ops.size) 1=2 ^ ops.size - 1:=by
     show 1 <<< ops.size - 1=_
     rw [Nat.shiftLeft_eq,Nat.one_mul]
    rw [e1,Nat.testBit_two_pow_sub_one] at hj
    simpa using hj
  ·rw [jF]
   have e1:Nat.sub (Nat.shiftLeft 1 ops.size) 1=2 ^ ops.size - 1:=by
    show 1 <<< ops.size - 1=_
    rw [Nat.shiftLeft_eq,Nat.one_mul]
   rw [e1,Nat.testBit_two_pow_sub_one]
   simpa using hi
 have C:Ctx P nt ops ms es call e s.c ds aF sF Sx Jx:=by
  refine ⟨hSt,CL,hch,uN,fun d hd=>(zT d hd).1,?_,Iq,hall,uO⟩
  intro i o ho
  obtain ⟨d,h1,h2⟩:=hd2 i o (by simpa using ho)
  exact ⟨d,List.mem_of_getElem? h1,by omega⟩
 have h0:on (Array.replicate ops.size false)=fun _=>false:=by
  funext j
  unfold on
  rw [Array.getD_eq_getD_getElem?,Array.getElem?_replicate]
  split <;> rfl
 have Ir:∀ l:List Nat,countB (fun _=>false) l=0:=by
  intro l
  induction l with
  | nil=>rfl
  | cons a l ih=>exact ih
 have abu:(Sx 0).c=s.c+ops.size:=by rw [hS0];rfl
 refine wp_region_any hm (any_ok hN hC C hA.stt.rel ?_ ops.size _ 0 a _ φ s.h ?_ ?_)
 ·intro listed k a' w' φ' h' I hon
  have hk:k=es.length:=by
   rw [← I.cnt]
   refine Nat.le_antisymm wX ?_
   have h1:countB (fun _=>true) es≤countB (on listed) es:=countB_le fun e he _=>by
    obtain ⟨o,ho,_⟩:=(uN e).1 he
    exact hon e (Array.getElem?_eq_some_iff.1 ho).1
   have h2:∀ l:List Nat,countB (fun _=>true) l=l.length:=by
    intro l
    induction l with
    | nil=>rfl
    | cons a l ih=>show Nat.succ (countB (fun _=>true) l)=l.length+1;rw [ih]
   rw [h2] at h1;exact h1
  have hlast:=uO.last
  rw [Nat.zero_add,← hk] at hlast
  have hJ:=CJ C I fun d hd _ _=>by
   obtain ⟨_,o,hok⟩:=hd1 d hd
   exact hon d.i (Array.getElem?_eq_some_iff.1 hok.op).1
  obtain ⟨jc,jd,_⟩:=uO.join k (Nat.zero_le _) (by omega)
  rw [hlast] at hJ jc jd
  have nQ:∀ x,live sF.h x→live h' x:=fun x ⟨o,h1,h2⟩=>⟨o,hJ x o h1 h2,h2⟩
  refine ⟨rfl,φ',⟨⟨I.dz,fun t=>?_⟩,⟨I.rel.less hJ,fun x hx=>I.fr x (by rw [← jc];exact hx)⟩,?_⟩,⟨I.ext,?_,I.new,fun x hx=>I.dn x (nQ x hx)⟩⟩
  ·have hv:=I.env t
   have:uw (jZ ops) aF e t=jf ops e aF listed t:=by
    unfold uw jf jZ
    cases hw:writer t ops.toList 0 with
    | none=>exact rC _
    | some j =>
     obtain ⟨q,p,hq,hp,_⟩:=wW hw
     have hj:j=q:=by omega
     subst hj
     have hp':ops[j]?=some p:=by simpa using hp
     show mI (aF j)=if on listed j=true then aF j else e t
     rw [if_pos (hon j (Array.getElem?_eq_some_iff.1 hp').1),rC]
   show V φ' (gW (uw (jZ ops) aF e t)) _
   rw [this];exact hv
  ·show L (DR φ') sF.ds a'.defers
   rw [jd];exact I.iO
  ·have:=I.uM
   show s.c≤sF.c
   omega
 ·simp
 ·refine ⟨by simp,?_,?_,hA.stt.rel.draws rfl,?_,?_,?_,?_,?_,hA.env.size,?_,?_,⟨Sub.refl φ,Nat.le_refl _,fun x g h1 h2=>(by rw [h1] at h2;cases h2),fun _ _ _=>rfl,⟨rfl,rfl,rfl⟩⟩,fun _ h1 h2=>absurd h1 h2,fun _ hx=>.inl hx⟩
  ·intro j hj;rw [h0] at hj;cases hj
  ·rw [h0,Ir]
  ·intro x o hx _
   rw [hS0] at hx;exact hx
  ·intro d _ _ hl;rw [h0] at hl;cases hl
  ·omega
  ·intro x hx;exact hA.stt.fr x (by omega)
  ·intro j _ _;exact hA.stt.fr _ (by omega)
  ·intro t
   have hv:=hA.env.val t
   have:jf ops e aF (Array.replicate ops.size false) t=e t:=by
    unfold jf
    cases writer t ops.toList 0 with
    | none=>rfl
    | some j=>simp [h0]
   rw [this];exact hv
  ·rw [hS0];exact hA.iO
end Xe
end Go.Proofs.YthffafaoobpedaaGreatDoor
