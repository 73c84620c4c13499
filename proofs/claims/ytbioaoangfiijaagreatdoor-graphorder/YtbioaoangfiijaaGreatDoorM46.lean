/- Regions whose order is drawn: a step. -/
import Derived.Test.YtbioaoangfiijaaGreatDoorM45
namespace Go.Proofs.YtbioaoangfiijaaGreatDoor
namespace Xe
variable {P:Program}
theorem edgeM_of {acc:List Nat}:∀ {es:List Edge} {e:Edge},e ∈ es → Region.binds .any e = true → tb (edgeM acc es) e.on = true
 | [],e,he,_ => by cases he
 | x :: es,e,he,hb => by
  have e1:edgeM acc (x :: es) = bB (Region.binds .any x) (Nat.lor (Nat.lor (Nat.shiftLeft 1 x.on) ((nth acc x.on).getD 0)) (edgeM acc es)) (edgeM acc es):=rfl
  rw [e1,bB_ite]
  rcases List.mem_cons.1 he with rfl | he
  ·rw [if_pos hb,tb_eq]
   show (1 <<< e.on ||| (nth acc e.on).getD 0 ||| edgeM acc es).testBit e.on = true
   rw [Nat.testBit_or,Nat.testBit_or,Nat.testBit_shiftLeft]
   simp
  ·have ih:=edgeM_of he hb (acc:=acc)
   split
   ·rw [tb_eq] at ih ⊢
    show (1 <<< x.on ||| (nth acc x.on).getD 0 ||| edgeM acc es).testBit e.on = true
    rw [Nat.testBit_or,ih,Bool.or_true]
   ·exact ih
theorem drawOk_edge {ops:Array Oper} (h:drawOk ops = true):∀ (i:Nat) (o:Oper),ops[i]? = some o → ∀ e ∈ o.after,Region.binds .any e = true → tb (mAt (masksFrom [] (aL ops)) i) e.on = true:=by
 unfold drawOk at h
 rw [Bool.and_eq_true] at h
 obtain ⟨h1,_⟩:=h
 rw [List.all_eq_true] at h1
 intro i o ho e he hb
 have hm:(i,o) ∈ number (aL ops) 0:=by
  have:=number_mem (k:=0) (l:=aL ops) (i:=i) (a:=o) (by rw [aL_eq]; simpa using ho)
  rwa [Nat.zero_add] at this
 have:=h1 _ hm
 unfold oneOk at this
 rw [Bool.and_eq_true,beq_dec] at this
 simp only [decide_eq_true_eq] at this
 rw [this.1]
 refine edgeM_of ?_ hb
 rw [aL_eq]; simpa using he
theorem on_set {listed:Array Bool} {i j:Nat} (hi:i < listed.size):on (listed.setIfInBounds i true) j = (decide (j = i) || on listed j):=by
 unfold on
 rw [Array.getD_eq_getD_getElem?,Array.getD_eq_getD_getElem?,Array.getElem?_setIfInBounds]
 by_cases h:i = j
 ·subst h; simp [hi]
 ·rw [if_neg h]
  have:decide (j = i) = false:=by simp; omega
  rw [this,Bool.false_or]
theorem countB_len {p:Nat → Bool}:∀ {l:List Nat},countB p l ≤ l.length
 | [] => Nat.le_refl _
 | a :: l => by
  have ih:=countB_len (p:=p) (l:=l)
  show bB (p a) (Nat.succ (countB p l)) (countB p l) ≤ l.length + 1
  rw [bB_ite]
  split <;> omega
section
variable {nt nm0 k:Nat} {ops:Array Oper} {ms es:List Nat} {call:Cl} {e0 vsF:En} {ds:List Dp} {sF:S} {Sx Jx:Nat → S} {φ0 φ:Ph} {h0 h:Hp} {w0 w:World} {listed:Array Bool} {a:Act} {i:Nat} {o:Oper} {d:Dp}
theorem ready_of (C:Ctx P nt ops ms es call e0 nm0 ds vsF sF Sx Jx) (I:Inv ops nt ms es call e0 nm0 ds vsF Sx φ0 h0 w0 listed k a w φ h) (hi:i ∈ Region.ready .any ops listed) :
  ∃ o,ops[i]? = some o ∧ i < ops.size ∧ on listed i = false ∧ ∀ j,tb (mAt ms i) j = true → on listed j = true:=by
 unfold Region.ready at hi
 rw [List.mem_filter,List.mem_range,Bool.and_eq_true] at hi
 obtain ⟨hlt,h1,h2⟩:=hi
 have ho:ops[i]? = some ops[i]:=Array.getElem?_eq_getElem hlt
 refine ⟨ops[i],ho,hlt,?_,?_⟩
 ·have hl:listed[i]? = some (listed[i]'(by rw [I.sz]; exact hlt)):=Array.getElem?_eq_getElem _
  unfold on
  rw [Array.getD_eq_getD_getElem?,hl] at h1 ⊢
  simpa using h1
 ·intro j hj
  obtain ⟨e,he,hb,h3⟩:=C.st.edge i _ ho j hj
  rw [ho] at h2
  simp only [Option.map_some,Option.getD_some] at h2
  rw [Array.all_eq_true'] at h2
  have:=h2 e he
  rw [hb] at this
  have hl:on listed e.on = true:=by simpa [on] using this
  rcases h3 with rfl | h3
  ·exact hl
  ·exact I.down _ hl _ h3
theorem lo_hi (I:Inv ops nt ms es call e0 nm0 ds vsF Sx φ0 h0 w0 listed k a w φ h) (hi:on listed i = false) (hcl:∀ j,tb (mAt ms i) j = true → on listed j = true) (hd:DpOk P nt ops ms es d o) (hdi:d.i = i):d.lo ≤ k ∧ k ≤ d.hi:=by
 have h1:countB (fun e => tb (mAt ms d.i) e) es ≤ countB (on listed) es:=countB_le fun e _ h => hcl e (by rw [hdi] at h; exact h)
 have h2:countB (on listed) es ≤ countB (fun e => not' (tb (mAt ms e) d.i)) es:=countB_le fun e _ h => by
  cases ht:tb (mAt ms e) d.i with
  | true => have:=I.down e h _ ht; rw [hdi,hi] at this; cases this
  | false => rfl
 rw [I.cnt] at h1 h2
 exact ⟨by rw [hd.lo]; exact h1,by rw [hd.hi]; exact h2⟩
theorem env_look (C:Ctx P nt ops ms es call e0 nm0 ds vsF sF Sx Jx) (I:Inv ops nt ms es call e0 nm0 ds vsF Sx φ0 h0 w0 listed k a w φ h) (ho:ops[i]? = some o) (hi:on listed i = false) (hcl:∀ j,tb (mAt ms i) j = true → on listed j = true) :
  ∀ t ∈ o.looksAt ops,V φ (getE (envD (wrO ops) (mAt ms i) vsF e0 t)) (a.tmps.getD t undef):=by
 intro t ht
 have hv:=I.env t
 have key:envD (wrO ops) (mAt ms i) vsF e0 t = envL ops e0 vsF listed t:=by
  rw [envD_get]
  unfold envL wrO
  cases hw:writer t ops.toList 0 with
  | none => rfl
  | some j =>
   obtain ⟨q,p,hq,hp,hpd⟩:=writer_some hw
   have hj:j = q:=by omega
   subst hj
   have hp':ops[j]? = some p:=by simpa using hp
   have:tb (mAt ms i) j = on listed j:=by
    by_cases e:i = j
    ·subst e
     rw [hi]
     cases hb:tb (mAt ms i) i with
     | true => exact absurd (C.st.lt i o ho i hb) (Nat.lt_irrefl _)
     | false => rfl
    ·rcases C.st.look i j o p t ho hp' e hpd ht with h1 | h1
     ·rw [h1,hcl j h1]
     ·have h2:on listed j = false:=by
       cases hb:on listed j with
       | true => have:=I.down j hb i h1; rw [hi] at this; cases this
       | false => rfl
      rw [h2]
      cases hb:tb (mAt ms i) j with
      | true => have h3:=C.st.lt i o ho j hb; have h4:=C.st.lt j p hp' i h1; omega
      | false => rfl
   simp [this]
 rw [key]; exact hv
theorem evR_look (hok:okOp o.op = true) (hg:∀ x,x < 3 → ∃ n,φ x = some ⟨x,n⟩) {e:En} (hE:∀ t ∈ o.looksAt ops,V φ (getE (e t)) (a.tmps.getD t undef)):EvR φ e a o.op:=by
 intro x hx
 unfold okOp at hok
 rw [aL_eq,List.all_eq_true] at hok
 have hx':x ∈ o.op.operands.toList:=by simpa using hx
 have h0:EnvR φ 0 (fun _ => none) ({ a with tmps:=#[] }:Act):=⟨rfl,fun t => V.undef φ⟩
 have hk:=okX_V (hok x hx') h0 hg
 cases x with
 | tmp t => exact hE t (List.mem_append.2 (.inl (List.mem_filterMap.2 ⟨.tmp t,hx',rfl⟩)))
 | const v => exact hk
 | global g => exact hk
 | func f => exact hk
theorem env_put (C:Ctx P nt ops ms es call e0 nm0 ds vsF sF Sx Jx) (ho:ops[i]? = some o) (hd:dstOk nt o.dst = true) (hsz:a.tmps.size = nt) (hls:listed.size = ops.size) {v v':Value} (hv:vsF i = some v) (hV:V φ v v')
  (hE:∀ t,V φ (getE (envL ops e0 vsF listed t)) (a.tmps.getD t undef)) (df:List Deferred) (t:Nat):V φ (getE (envL ops e0 vsF (listed.setIfInBounds i true) t)) ((({ a with defers:=df }:Act).put o.dst v').tmps.getD t undef):=by
 have hlt:i < listed.size:=by rw [hls]; exact (Array.getElem?_eq_some_iff.1 ho).1
 have ho':ops.toList[i]? = some o:=by simpa using ho
 by_cases hdt:o.dst = some t
 ·have hw:writer t ops.toList 0 = some i:=by
   cases hw:writer t ops.toList 0 with
   | none => exact absurd hdt (writer_none hw i o ho')
   | some j =>
    obtain ⟨q,p,hq,hp,hpd⟩:=writer_some hw
    have hj:j = q:=by omega
    subst hj
    by_cases e:i = j
    ·rw [e]
    ·exact absurd hdt (C.st.dst i j o p t ho (by simpa using hp) e hpd)
  have e1:envL ops e0 vsF (listed.setIfInBounds i true) t = some v:=by
   unfold envL
   rw [hw]
   simp [on_set hlt,hv]
  rw [e1,hdt]
  rw [hdt] at hd
  have ht:t < nt:=by simpa [dstOk,Nat.ble_eq,Nat.succ_le_iff] using hd
  show V φ v ((a.tmps.setIfInBounds t v').getD t undef)
  rw [Array.getD_eq_getD_getElem?,Array.getElem?_setIfInBounds_self_of_lt (by rw [hsz]; exact ht)]
  exact hV
 ·have e1:envL ops e0 vsF (listed.setIfInBounds i true) t = envL ops e0 vsF listed t:=by
   unfold envL
   cases hw:writer t ops.toList 0 with
   | none => rfl
   | some j =>
    obtain ⟨q,p,hq,hp,hpd⟩:=writer_some hw
    have hj:j = q:=by omega
    subst hj
    have hne:j ≠ i:=by
     rintro rfl
     rw [ho'] at hp; cases hp
     exact hdt hpd
    simp only [on_set hlt,decide_eq_false hne,Bool.false_or]
  rw [e1]
  have e2:(({ a with defers:=df }:Act).put o.dst v').tmps.getD t undef = a.tmps.getD t undef:=by
   cases hdd:o.dst with
   | none => rfl
   | some t' =>
    show (a.tmps.setIfInBounds t' v').getD t undef = _
    rw [Array.getD_eq_getD_getElem?,Array.getElem?_setIfInBounds_ne (fun h => hdt (by rw [hdd,h])),← Array.getD_eq_getD_getElem?]
  rw [e2]
  exact hE t
theorem put_size (a:Act) (df:List Deferred) (d:Option Nat) (v:Value):(({ a with defers:=df }:Act).put d v).tmps.size = a.tmps.size:=by
 cases d with
 | none => rfl
 | some d => simp [Act.put]
theorem put_defers (a:Act) (d:Option Nat) (v:Value):(a.put d v).defers = a.defers:=by
 cases d <;> rfl
theorem down_set (hlt:i < listed.size) (hdown:∀ j,on listed j = true → ∀ i,tb (mAt ms j) i = true → on listed i = true) (hcl:∀ j,tb (mAt ms i) j = true → on listed j = true) :
  ∀ j,on (listed.setIfInBounds i true) j = true → ∀ x,tb (mAt ms j) x = true → on (listed.setIfInBounds i true) x = true:=by
 intro j hj x hx
 rw [on_set hlt,Bool.or_eq_true] at hj ⊢
 refine .inr ?_
 rcases hj with hj | hj
 ·have hj':j = i:=by simpa using hj
  subst hj'
  exact hcl x hx
 ·exact hdown j hj x hx
theorem inv_same (C:Ctx P nt ops ms es call e0 nm0 ds vsF sF Sx Jx) (I:Inv ops nt ms es call e0 nm0 ds vsF Sx φ0 h0 w0 listed k a w φ h) (ho:ops[i]? = some o) (hcl:∀ j,tb (mAt ms i) j = true → on listed j = true)
  (hdm:d ∈ ds) (hd:DpOk P nt ops ms es d o) (hdi:d.i = i) (hc2:d.c ≠ 2) {φ':Ph} {h':Hp} {w':World} {v v':Value} (hv:vsF i = some v) (hV:V φ' v v') (hsub:Sub φ φ') (hrel:Rel φ' h' w')
  (hA:∀ x o,(Sx k).h x = some o → isO o → h' x = some o) (hB1:d.c = 1 → ∀ o,obF (wrO ops) call e0 vsF nm0 d = some o → h' (nm0 + i) = some o) (hB2:∀ x,x ≠ nm0 + i → h' x = h x)
  (hph:∀ x,x ≠ nm0 + i → φ' x = φ x) (hext:Ext φ0 h0 w0 φ' w') (hliv:∀ x,live h' x → live h0 x ∨ φ0 x = none) :
  Inv ops nt ms es call e0 nm0 ds vsF Sx φ0 h0 w0 (listed.setIfInBounds i true) k (a.put o.dst v') w' φ' h':=by
 have hlt':i < ops.size:=(Array.getElem?_eq_some_iff.1 ho).1
 have hlt:i < listed.size:=by rw [I.sz]; exact hlt'
 have hnes:i ∉ es:=fun hh => by
  obtain ⟨o2,h1,h2⟩:=(C.esm i).1 hh
  rw [ho] at h1; cases h1
  exact hc2 (by rw [hd.c]; exact h2)
 refine ⟨by simp [I.sz],down_set hlt I.down hcl,?_,hrel,hA,?_,I.cle,?_,?_,?_,?_,?_,hext,?_,hliv⟩
 ·rw [← I.cnt]
  have hh:∀ e ∈ es,on (listed.setIfInBounds i true) e = on listed e:=fun e he => by
   have hne:e ≠ i:=by rintro rfl; exact hnes he
   rw [on_set hlt,decide_eq_false hne,Bool.false_or]
  exact Nat.le_antisymm (countB_le fun e he h => by rw [← hh e he]; exact h) (countB_le fun e he h => by rw [hh e he]; exact h)
 ·intro d' hd' hc hl hk o2 ho2
  by_cases e:d'.i = i
  ·have:=C.uni d' hd' d hdm (by rw [e,hdi])
   subst this
   rw [e]
   exact hB1 hc o2 ho2
  ·rw [on_set hlt,decide_eq_false e,Bool.false_or] at hl
   rw [hB2 _ (by omega)]
   exact I.hB d' hd' hc hl hk o2 ho2
 ·intro x hx
  have:=I.cle
  rw [hph x (by omega)]
  exact I.fr x hx
 ·intro j hj hl
  rw [on_set hlt,Bool.or_eq_false_iff] at hl
  have hne:j ≠ i:=by simpa using hl.1
  rw [hph _ (by omega)]
  exact I.kept j hj hl.2
 ·exact (put_size a a.defers o.dst v').trans I.tsz
 ·exact env_put C ho hd.dok I.tsz I.sz hv hV (fun t => (I.env t).mono hsub) a.defers
 ·rw [put_defers]
  exact I.dfs.mono fun _ _ => DR.mono hsub
 ·intro x h1 h2
  by_cases e:x = nm0 + i
  ·omega
  ·rw [hph x e] at h2
   exact I.new x h1 h2
end
end Xe
namespace Xe
variable {P:Program}
section
variable {nt nm0 k:Nat} {ops:Array Oper} {ms es:List Nat} {call:Cl} {e0 vsF:En} {ds:List Dp} {sF:S} {Sx Jx:Nat → S} {φ0 φ:Ph} {h0 h:Hp} {w0 w:World} {listed:Array Bool} {a:Act} {i:Nat} {o:Oper} {d:Dp}
theorem pre_of (C:Ctx P nt ops ms es call e0 nm0 ds vsF sF Sx Jx) (hdown:∀ j,on listed j = true → ∀ i,tb (mAt ms j) i = true → on listed i = true) :
  ∀ (a b x y:Nat),a < b → es[a]? = some x → es[b]? = some y → on listed y = true → on listed x = true :=
 fun a b x y hab hx hy h => hdown y h x (chain_at C.ches a b x y hab hx hy)
theorem join_sub (C:Ctx P nt ops ms es call e0 nm0 ds vsF sF Sx Jx) (I:Inv ops nt ms es call e0 nm0 ds vsF Sx φ0 h0 w0 listed k a w φ h) (hl:∀ d ∈ ds,d.c = 1 → d.hi = k → on listed d.i = true) :
  ∀ x o,(Jx k).h x = some o → isO o → h x = some o:=by
 intro x o hx hio
 have hk:k ≤ es.length:=by rw [← I.cnt]; exact countB_len
 rcases (C.stg.join k (Nat.zero_le _) (by omega)).2.2 x o hx with h1 | ⟨d,hd,hc,hhi,rfl,hob⟩
 ·exact I.hA x o h1 hio
 ·exact I.hB d hd hc (hl d hd hc hhi) (by omega) o hob
theorem at_k (C:Ctx P nt ops ms es call e0 nm0 ds vsF sF Sx Jx) (I:Inv ops nt ms es call e0 nm0 ds vsF Sx φ0 h0 w0 listed k a w φ h) (hi:on listed i = false) (hcl:∀ j,tb (mAt ms i) j = true → on listed j = true) (hie:i ∈ es):es[k]? = some i:=by
 obtain ⟨q,hq⟩:=List.getElem?_of_mem hie
 have h1:=countB_prefix (pre_of C I.down) q i hq
 rw [I.cnt,hi] at h1
 have hqk:¬ q < k:=fun h => by have:=h1.2 h; cases this
 rcases Nat.lt_or_ge k q with hlt | hge
 ·have hql:=(List.getElem?_eq_some_iff.1 hq).1
  have hx:es[k]? = some (es[k]'(by omega)):=List.getElem?_eq_getElem _
  have h2:=countB_prefix (pre_of C I.down) k _ hx
  rw [I.cnt] at h2
  have:=h2.1 (hcl _ (chain_at C.ches k q _ i hlt hx hq))
  omega
 ·rw [show k = q by omega]; exact hq
theorem join_listed (C:Ctx P nt ops ms es call e0 nm0 ds vsF sF Sx Jx) (hcl:∀ j,tb (mAt ms i) j = true → on listed j = true) (hk:es[k]? = some i):∀ d ∈ ds,d.c = 1 → d.hi = k → on listed d.i = true:=by
 intro d hd _ hhi
 obtain ⟨o,hd'⟩:=C.dok d hd
 refine hcl _ ?_
 have hpre:∀ (a b x y:Nat),a < b → es[a]? = some x → es[b]? = some y → (fun e => not' (tb (mAt ms e) d.i)) y = true → (fun e => not' (tb (mAt ms e) d.i)) x = true:=by
  intro a b x y hab hx hy hn
  obtain ⟨ox,hox,_⟩:=(C.esm x).1 (List.mem_of_getElem? hx)
  obtain ⟨oy,hoy,_⟩:=(C.esm y).1 (List.mem_of_getElem? hy)
  have h1:=not_true' hn
  cases h2:tb (mAt ms x) d.i with
  | true =>
   have:=C.st.trans y x oy ox hoy hox (chain_at C.ches a b x y hab hx hy) d.i h2
   rw [h1] at this; cases this
  | false => show not' (tb (mAt ms x) d.i) = true; rw [h2]; rfl
 have h1:=countB_prefix hpre k i hk
 rw [← hd'.hi,hhi] at h1
 cases h2:tb (mAt ms i) d.i with
 | true => rfl
 | false =>
  have:=h1.1 (by show not' (tb (mAt ms i) d.i) = true; rw [h2]; rfl)
  omega
def Pend (ds:List Dp) (listed:Array Bool) (nm0 k x:Nat):Prop:=∃ d ∈ ds,d.c = 1 ∧ on listed d.i = true ∧ k + 1 ≤ d.hi ∧ x = nm0 + d.i
open Classical in
theorem inv_eff (C:Ctx P nt ops ms es call e0 nm0 ds vsF sF Sx Jx) (I:Inv ops nt ms es call e0 nm0 ds vsF Sx φ0 h0 w0 listed k a w φ h) (r0:Rel φ0 h0 w0) (ho:ops[i]? = some o) (hcl:∀ j,tb (mAt ms i) j = true → on listed j = true)
  (hd:DpOk P nt ops ms es d o) (hdi:d.i = i) (hdm:d ∈ ds) (hc2:d.c = 2) (hk:es[k]? = some i) {φ':Ph} {w':World} {v v':Value} {df:List Deferred} (hv:vsF i = some v) (hV:V φ' v v') (hP:Post φ (Jx k) w φ' (Sx (k + 1)) w') (hdf:L (DR φ') (Sx (k + 1)).ds df) :
  ∃ h',Inv ops nt ms es call e0 nm0 ds vsF Sx φ0 h0 w0 (listed.setIfInBounds i true) (k + 1) (({ a with defers:=df }:Act).put o.dst v') w' φ' h':=by
 have hlt':i < ops.size:=(Array.getElem?_eq_some_iff.1 ho).1
 have hlt:i < listed.size:=by rw [I.sz]; exact hlt'
 have hkl:k < es.length:=(List.getElem?_eq_some_iff.1 hk).1
 obtain ⟨jc,jd,jh⟩:=C.stg.join k (Nat.zero_le _) (by omega)
 have hJ:=join_sub C I (join_listed C hcl hk)
 have hJl:∀ x,live (Jx k).h x → live h x:=fun x ⟨o,h1,h2⟩ => ⟨o,hJ x o h1 h2,h2⟩
 have pdead:∀ x,Pend ds listed nm0 k x → ¬ live (Jx k).h x:=by
  rintro x ⟨d1,hd1,hc1,hl1,hh1,rfl⟩ ⟨o2,h2,_⟩
  rcases jh _ o2 h2 with h3 | ⟨d2,hd2,_,hh2,he2,_⟩
  ·have:=C.stg.free k (Nat.zero_le _) (by omega) d1 hd1 hc1 (by omega)
   rw [this] at h3; cases h3
  ·have:=C.uni d1 hd1 d2 hd2 (by omega)
   subst this; omega
 have hsub:=hP.ext.sub
 refine ⟨fun x => if Pend ds listed nm0 k x then h x else (Sx (k + 1)).h x,?_⟩
 have hp:∀ x o,(if Pend ds listed nm0 k x then h x else (Sx (k + 1)).h x) = some o → (Pend ds listed nm0 k x ∧ h x = some o) ∨ (¬ Pend ds listed nm0 k x ∧ (Sx (k + 1)).h x = some o):=by
  intro x o hx
  by_cases hh:Pend ds listed nm0 k x
  ·rw [if_pos hh] at hx; exact .inl ⟨hh,hx⟩
  ·rw [if_neg hh] at hx; exact .inr ⟨hh,hx⟩
 have hpl:∀ x,live (fun x => if Pend ds listed nm0 k x then h x else (Sx (k + 1)).h x) x → (Pend ds listed nm0 k x ∧ live h x) ∨ (¬ Pend ds listed nm0 k x ∧ live (Sx (k + 1)).h x):=by
  rintro x ⟨o,h1,h2⟩
  rcases hp x o h1 with ⟨h3,h4⟩ | ⟨h3,h4⟩
  ·exact .inl ⟨h3,o,h4,h2⟩
  ·exact .inr ⟨h3,o,h4,h2⟩
 -- one stands over,one is new
 have two:∀ x y g g',Pend ds listed nm0 k x → live h x → live (Sx (k + 1)).h y → φ' x = some g → φ' y = some g' → g.b = g'.b → x = y:=by
  intro x y g g' hx hlx hly hgx hgy he
  obtain ⟨g0,hg0⟩:=I.rel.has hlx
  have e0:=hsub x g0 hg0
  rw [hgx] at e0; cases e0
  rcases hP.liv y hly with h1 | h1
  ·obtain ⟨g1,hg1⟩:=I.rel.has (hJl y h1)
   have e1:=hsub y g1 hg1
   rw [hgy] at e1; cases e1
   exact I.rel.inj x y g g' hlx (hJl y h1) hg0 hg1 he
  ·rcases hP.ext.news y g' h1 hgy with h2 | ⟨z,gz,_,hz,hgz,hez⟩
   ·have:=I.rel.bnd x g hg0; omega
   ·have hzx:=I.rel.inj z x gz g (hJl z hz) hlx hgz hg0 (hez.trans he.symm)
    subst hzx
    exact absurd hz (pdead z hx)
 refine ⟨by simp [I.sz],down_set hlt I.down hcl,?_,⟨?_,?_,hP.stt.rel.bnd,hP.stt.rel.glo⟩,?_,?_,?_,hP.stt.fr,?_,?_,?_,?_,?_,?_,?_⟩
 ·have hpre:=pre_of C (down_set hlt I.down hcl)
  have h1:=(countB_prefix hpre k i hk).1 (by rw [on_set hlt]; simp)
  rcases Nat.lt_or_ge (k + 1) es.length with hl | hl
  ·have hx:es[k + 1]? = some (es[k + 1]'hl):=List.getElem?_eq_getElem _
   have h2:=countB_prefix hpre (k + 1) _ hx
   have h3:=countB_prefix (pre_of C I.down) (k + 1) _ hx
   rw [I.cnt] at h3
   have h4:on listed (es[k + 1]'hl) = false:=by
    cases hb:on listed (es[k + 1]'hl) with
    | true => have:=h3.1 hb; omega
    | false => rfl
   have hne:es[k + 1]'hl ≠ i:=by
    intro he
    have:=C.st.lt i o ho i (by have:=chain_at C.ches k (k + 1) i _ (by omega) hk hx; rwa [he] at this)
    omega
   rw [on_set hlt,h4,decide_eq_false hne] at h2
   have h5:¬ k + 1 < countB (on (listed.setIfInBounds i true)) es:=fun hh => by have:=h2.2 hh; cases this
   omega
  ·have:=countB_len (p:=on (listed.setIfInBounds i true)) (l:=es)
   omega
 ·intro x o2 hx
  rcases hp x o2 hx with ⟨h3,h4⟩ | ⟨h3,h4⟩
  ·by_cases hio:isO o2
   ·refine (I.rel.obj x o2 h4).mono hsub fun g hg => hP.ext.kept g.b (I.rel.bnd x g hg) ?_
    intro y gy _ hy hgy he
    have:=I.rel.inj y x gy g (hJl y hy) ⟨o2,h4,hio⟩ hgy hg he
    subst this
    exact pdead y h3 hy
   ·cases o2 <;> simp only [isO,not_true_eq_false] at hio <;> exact trivial
  ·exact hP.stt.rel.obj x o2 h4
 ·intro x y g g' hx hy hgx hgy he
  rcases hpl x hx with ⟨h1,h2⟩ | ⟨h1,h2⟩ <;> rcases hpl y hy with ⟨h3,h4⟩ | ⟨h3,h4⟩
  ·obtain ⟨gx,hgx0⟩:=I.rel.has h2
   obtain ⟨gy,hgy0⟩:=I.rel.has h4
   have e1:=hsub x gx hgx0
   have e2:=hsub y gy hgy0
   rw [hgx] at e1; rw [hgy] at e2
   cases e1; cases e2
   exact I.rel.inj x y g g' h2 h4 hgx0 hgy0 he
  ·exact two x y g g' h1 h2 h4 hgx hgy he
  ·exact (two y x g' g h3 h4 h2 hgy hgx he.symm).symm
  ·exact hP.stt.rel.inj x y g g' h2 h4 hgx hgy he
 ·intro x o2 hx hio
  show (if Pend ds listed nm0 k x then h x else (Sx (k + 1)).h x) = some o2
  by_cases hh:Pend ds listed nm0 k x
  ·obtain ⟨d1,hd1,hc1,hl1,hh1,rfl⟩:=hh
   have:=C.stg.free (k + 1) (Nat.zero_le _) (by omega) d1 hd1 hc1 hh1
   rw [this] at hx; cases hx
  ·rw [if_neg hh]; exact hx
 ·intro d1 hd1 hc1 hl1 hh1 o2 ho2
  have hne:d1.i ≠ i:=by
   intro e
   have:=C.uni d1 hd1 d hdm (by rw [e,hdi])
   subst this; omega
  rw [on_set hlt,decide_eq_false hne,Bool.false_or] at hl1
  show (if Pend ds listed nm0 k (nm0 + d1.i) then h (nm0 + d1.i) else _) = some o2
  rw [if_pos ⟨d1,hd1,hc1,hl1,hh1,rfl⟩]
  exact I.hB d1 hd1 hc1 hl1 (by omega) o2 ho2
 ·have:=hP.le
  have:=I.cle
  omega
 ·intro j hj hl
  rw [on_set hlt,Bool.or_eq_false_iff] at hl
  by_cases h1:φ' (nm0 + j) = none
  ·exact h1
  ·have:=hP.new _ (I.kept j hj hl.2) h1
   have:=I.cle
   omega
 ·exact (put_size a df o.dst v').trans I.tsz
 ·exact env_put C ho hd.dok I.tsz I.sz hv hV (fun t => (I.env t).mono hsub) df
 ·rw [put_defers]; exact hdf
 ·exact I.ext.trans hP.ext (fun x hx => I.liv x (hJl x hx)) (fun x hx => r0.has hx) (fun x hx => I.rel.has (hJl x hx))
 ·intro x h1 h2
  by_cases h3:φ x = none
  ·have:=hP.new x h3 h2
   have:=I.cle
   omega
  ·exact I.new x h1 h3
 ·intro x hx
  rcases hpl x hx with ⟨_,h2⟩ | ⟨_,h2⟩
  ·exact I.liv x h2
  ·rcases hP.liv x h2 with h3 | h3
   ·exact I.liv x (hJl x h3)
   ·cases h4:φ0 x with
    | none => exact .inr rfl
    | some g => rw [I.ext.sub x g h4] at h3; cases h3
end
end Xe
end Go.Proofs.YtbioaoangfiijaaGreatDoor
