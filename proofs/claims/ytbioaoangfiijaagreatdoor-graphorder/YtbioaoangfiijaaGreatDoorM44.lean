/- Regions whose order is drawn: whom operations stand behind. -/
import Derived.Test.YtbioaoangfiijaaGreatDoorM43
namespace Go.Proofs.YtbioaoangfiijaaGreatDoor
namespace Xe
variable {P:Program}
theorem tb_eq (m k:Nat):tb m k = m.testBit k:=by
 unfold tb
 rw [beq_dec]
 have:Nat.land (Nat.shiftRight m k) 1 = (m >>> k) % 2:=Nat.and_one_is_mod _
 rw [this,Nat.testBit_eq_decide_div_mod_eq,Nat.shiftRight_eq_div_pow]
theorem not_true' {b:Bool} (h:not' b = true):b = false:=by cases b <;> simp_all [not',bB]
theorem edgeM_tb {acc:List Nat}:∀ {es:List Edge} {k:Nat},tb (edgeM acc es) k = true → ∃ e ∈ es,Region.binds .any e = true ∧ (e.on = k ∨ tb (mAt acc e.on) k = true)
 | [],k,h => by rw [tb_eq] at h; have h':Nat.testBit 0 k = true:=h; simp at h'
 | e :: es,k,h => by
  have h':tb (bB (Region.binds .any e) (Nat.lor (Nat.lor (Nat.shiftLeft 1 e.on) ((nth acc e.on).getD 0)) (edgeM acc es)) (edgeM acc es)) k = true:=h
  rw [bB_ite] at h'
  split at h'
  ·rename_i hb
   rw [tb_eq] at h'
   have h2:(1 <<< e.on ||| (nth acc e.on).getD 0 ||| edgeM acc es).testBit k = true:=h'
   rw [Nat.testBit_or,Nat.testBit_or,Bool.or_eq_true,Bool.or_eq_true] at h2
   rcases h2 with (h2 | h2) | h2
   ·refine ⟨e,by simp,hb,.inl ?_⟩
    rw [Nat.testBit_shiftLeft] at h2
    simp only [Bool.and_eq_true,decide_eq_true_eq] at h2
    have:=h2.2
    rw [Nat.testBit_one_eq_true_iff_self_eq_zero] at this
    omega
   ·exact ⟨e,by simp,hb,.inr (by rw [tb_eq]; exact h2)⟩
   ·obtain ⟨e',he,h3⟩:=edgeM_tb (es:=es) (by rw [tb_eq]; exact h2)
    exact ⟨e',by simp [he],h3⟩
  ·obtain ⟨e',he,h3⟩:=edgeM_tb (es:=es) h'
   exact ⟨e',by simp [he],h3⟩
theorem number_mem {α:Type}:∀ {l:List α} {k i:Nat} {a:α},l[i]? = some a → (k + i,a) ∈ number l k
 | [],_,_,_,h => by simp at h
 | b :: l,k,0,a,h => by simp at h; subst h; simp [number]
 | b :: l,k,i + 1,a,h => by
  simp at h
  have:=number_mem (k:=k + 1) h
  simp only [number,List.mem_cons]
  refine .inr ?_
  rw [show k + (i + 1) = k + 1 + i by omega]
  exact this
structure DSt (ops:Array Oper) (ms:List Nat):Prop where
 edge:∀ (i:Nat) (o:Oper),ops[i]? = some o → ∀ k,tb (mAt ms i) k = true → ∃ e ∈ o.after,Region.binds .any e = true ∧ (e.on = k ∨ tb (mAt ms e.on) k = true)
 lt:∀ (i:Nat) (o:Oper),ops[i]? = some o → ∀ k,tb (mAt ms i) k = true → k < i
 trans:∀ (i j:Nat) (o p:Oper),ops[i]? = some o → ops[j]? = some p → tb (mAt ms i) j = true → ∀ k,tb (mAt ms j) k = true → tb (mAt ms i) k = true
 dst:∀ (i j:Nat) (o p:Oper) (d:Nat),ops[i]? = some o → ops[j]? = some p → i ≠ j → p.dst = some d → o.dst ≠ some d
 look:∀ (i j:Nat) (o p:Oper) (d:Nat),ops[i]? = some o → ops[j]? = some p → i ≠ j → p.dst = some d → d ∈ o.looksAt ops → tb (mAt ms i) j = true ∨ tb (mAt ms j) i = true
theorem eqN_self (d:Nat):eqN (some d) (some d) = true:=by show Nat.beq d d = true; simp
theorem drawOk_st {ops:Array Oper} (h:drawOk ops = true):DSt ops (masksFrom [] (aL ops)) ∧ chainOk (masksFrom [] (aL ops)) (effs (aL ops) 0) = true:=by
 unfold drawOk at h
 rw [Bool.and_eq_true,Bool.and_eq_true] at h
 obtain ⟨h1,h2,h3⟩:=h
 generalize masksFrom [] (aL ops) = ms at *
 rw [List.all_eq_true] at h1
 unfold allPairs at h2
 rw [List.all_eq_true] at h2
 have hmem:∀ (i:Nat) (o:Oper),ops[i]? = some o → (i,o) ∈ number (aL ops) 0:=by
  intro i o ho
  have:=number_mem (k:=0) (l:=aL ops) (i:=i) (a:=o) (by rw [aL_eq]; simpa using ho)
  rwa [Nat.zero_add] at this
 have one:∀ (i:Nat) (o:Oper),ops[i]? = some o → mAt ms i = edgeM ms (aL o.after) ∧ mAt ms i < 2 ^ i:=by
  intro i o ho
  have:=h1 _ (hmem i o ho)
  unfold oneOk at this
  rw [Bool.and_eq_true,beq_dec,ble_dec] at this
  simp only [decide_eq_true_eq] at this
  refine ⟨this.1,?_⟩
  have h4:=this.2
  rw [show Nat.shiftLeft 1 i = 1 <<< i from rfl,Nat.shiftLeft_eq,Nat.one_mul] at h4
  omega
 have two:∀ (i j:Nat) (o p:Oper),ops[i]? = some o → ops[j]? = some p → i ≠ j → dstSeen ops ms i j o p = true ∧ (tb (mAt ms i) j = true → mAt ms j &&& mAt ms i = mAt ms j):=by
  intro i j o p ho hp hne
  have:=h2 _ (hmem i o ho)
  rw [List.all_eq_true] at this
  have:=this _ (hmem j p hp)
  unfold pairOk at this
  simp only at this
  rw [Bool.or_eq_true,beq_dec] at this
  rcases this with h | h
  ·exact absurd (by simpa using h) hne
  ·rw [Bool.and_eq_true,Bool.or_eq_true,beq_dec] at h
   refine ⟨h.1,fun ht => ?_⟩
   rcases h.2 with h4 | h4
   ·rw [not_true' h4] at ht; cases ht
   ·simpa using h4
 refine ⟨⟨?_,?_,?_,?_,?_⟩,h3⟩
 ·intro i o ho k hk
  rw [(one i o ho).1,aL_eq] at hk
  obtain ⟨e,he,h4⟩:=edgeM_tb hk
  exact ⟨e,by simpa using he,h4⟩
 ·intro i o ho k hk
  rw [tb_eq] at hk
  rcases Nat.lt_or_ge k i with h | h
  ·exact h
  ·have:=Nat.testBit_lt_two_pow (Nat.lt_of_lt_of_le (one i o ho).2 (Nat.pow_le_pow_right (by omega) h))
   rw [this] at hk; cases hk
 ·intro i j o p ho hp hij k hk
  by_cases hne:i = j
  ·subst hne; exact hk
  ·have h5:=(two i j o p ho hp hne).2 hij
   rw [tb_eq] at hk ⊢
   rw [← h5,Nat.testBit_and,Bool.and_eq_true] at hk
   exact hk.2
 ·intro i j o p d ho hp hne hd hd'
  have h5:=(two i j o p ho hp hne).1
  unfold dstSeen at h5
  rw [hd] at h5
  simp only [Bool.and_eq_true] at h5
  have:=not_true' h5.1
  rw [hd',eqN_self] at this; cases this
 ·intro i j o p d ho hp hne hd hl
  have h5:=(two i j o p ho hp hne).1
  unfold dstSeen at h5
  rw [hd] at h5
  simp only [Bool.and_eq_true,Bool.or_eq_true] at h5
  rcases h5.2 with h6 | h6
  ·have:=not_true' h6
   rw [List.any_eq_false] at this
   have:=this d hl
   rw [beq_dec] at this; simp at this
  ·exact h6
theorem countB_le {p q:Nat → Bool}:∀ {l:List Nat},(∀ e ∈ l,p e = true → q e = true) → countB p l ≤ countB q l
 | [],_ => Nat.le_refl _
 | a :: l,h => by
  have ih:=countB_le (l:=l) (p:=p) (q:=q) fun e he => h e (by simp [he])
  show bB (p a) (Nat.succ (countB p l)) (countB p l) ≤ bB (q a) (Nat.succ (countB q l)) (countB q l)
  rw [bB_ite,bB_ite]
  split
  ·rename_i hp
   rw [if_pos (h a (by simp) hp)]
   exact Nat.succ_le_succ ih
  ·split
   ·exact Nat.le_succ_of_le ih
   ·exact ih
theorem countB_prefix {p:Nat → Bool}:∀ {l:List Nat},(∀ (a b x y:Nat),a < b → l[a]? = some x → l[b]? = some y → p y = true → p x = true) → ∀ (i x:Nat),l[i]? = some x → (p x = true ↔ i < countB p l)
 | [],_,i,x,hx => by simp at hx
 | c :: l,h,i,x,hx => by
  have ih:=countB_prefix (l:=l) (p:=p) fun a b x y hab hxa hyb => h (a + 1) (b + 1) x y (by omega) (by simpa using hxa) (by simpa using hyb)
  have e1:countB p (c :: l) = bB (p c) (Nat.succ (countB p l)) (countB p l):=rfl
  rw [e1,bB_ite]
  have hzero:p c ≠ true → countB p l = 0:=by
   intro hc
   have:∀ e ∈ l,p e = true → False:=by
    intro e he hp
    obtain ⟨j,hj⟩:=List.getElem?_of_mem he
    exact hc (h 0 (j + 1) c e (by omega) rfl (by simpa using hj) hp)
   have:=countB_le (l:=l) (p:=p) (q:=fun _ => false) fun e he hp => (this e he hp).elim
   have h0:∀ l:List Nat,countB (fun _ => false) l = 0:=by
    intro l
    induction l with
    | nil => rfl
    | cons a l ih => exact ih
   rw [h0] at this; omega
  cases i with
  | zero =>
   simp at hx; subst hx
   by_cases hc:p c = true
   ·simp [hc]
   ·rw [if_neg hc,hzero hc]; simp [hc]
  | succ i =>
   simp at hx
   rw [ih i x hx]
   by_cases hc:p c = true
   ·rw [if_pos hc]; omega
   ·rw [if_neg hc,hzero hc]; omega
end Xe
namespace Xe
variable {P:Program}
theorem reb_eq {α:Type} (x:Option α):reb x = x:=by cases x <;> rfl
theorem dB_eq {γ:Type} (d:Dp) (f:Nat → St → Nat → Nat → Nat → Nat → γ):dB d f = f d.i d.st d.m d.c d.lo d.hi:=by cases d; rfl
theorem all2_eq {p:Value → Value → Bool} (hp:∀ a b,p a b = true → a = b):∀ {l m:List Value},all2 p l m = true → l = m
 | [],[],_ => rfl
 | a :: l,b :: m,h => by
  have h':bB (p a b) (all2 p l m) false = true:=h
  rw [bB_ite] at h'
  split at h'
  ·rename_i hab; rw [hp a b hab,all2_eq hp h']
  ·cases h'
 | [],_ :: _,h => by cases h
 | _ :: _,[],h => by cases h
theorem eqA_eq {a b:Option Addr} (h:eqA a b = true):a = b:=by
 cases a with
 | none => cases b with
  | none => rfl
  | some b => cases h
 | some a => cases b with
  | none => cases h
  | some b =>
   have h':(Nat.beq a.block b.block && (Nat.beq a.off b.off && (a.spot.isNone && b.spot.isNone))) = true:=h
   simp only [Bool.and_eq_true,Option.isNone_iff_eq_none] at h'
   obtain ⟨h1,h2,h3,h4⟩:=h'
   cases a; cases b
   simp only at h1 h2 h3 h4
   rw [Nat.eq_of_beq_eq_true h1,Nat.eq_of_beq_eq_true h2,h3,h4]
theorem eqN_eq {a b:Option Nat} (h:eqN a b = true):a = b:=by
 cases a <;> cases b <;> first | rfl | cases h | skip
 rw [Nat.eq_of_beq_eq_true h]
theorem eq0_eq {x y:Value} (h:eq0 x y = true):x = y:=by
 unfold eq0 at h
 split at h
 ·rename_i a b
  cases a <;> cases b <;> simp_all [bB,not']
 ·rename_i k a l b
  rw [Bool.and_eq_true,kno_eq,eqI_eq] at h
  obtain ⟨rfl,h⟩:=h
  have:a = b:=by simpa using h
  rw [this]
 ·rename_i a b
  rw [bytesEq_eq,sL_eq,sL_eq] at h
  have:a.data.toList = b.data.toList:=by simpa using h
  rw [ByteArray.ext (Array.toList_inj.1 this)]
 ·rename_i a b; rw [eqA_eq h]
 ·rename_i a n c b m d
  simp only [Bool.and_eq_true] at h
  rw [eqA_eq h.1,Nat.eq_of_beq_eq_true h.2.1,Nat.eq_of_beq_eq_true h.2.2]
 ·rename_i a b; rw [eqN_eq h]
 ·rfl
 ·cases h
theorem eq1_eq {x y:Value} (h:eq1 x y = true):x = y:=by
 unfold eq1 at h
 rw [Bool.or_eq_true] at h
 rcases h with h | h
 ·exact eq0_eq h
 ·split at h
  ·rename_i f a b g c d
   simp only [Bool.and_eq_true,aL_eq] at h
   have h1:=Nat.eq_of_beq_eq_true h.1
   have h2:=all2_eq (fun _ _ => eq0_eq) h.2.1
   have h3:=all2_eq (fun _ _ => eq0_eq) h.2.2
   rw [h1,Array.toList_inj.1 h2,Array.toList_inj.1 h3]
  ·cases h
theorem eq2_eq {x y:Value} (h:eq2 x y = true):x = y:=by
 unfold eq2 at h
 rw [Bool.or_eq_true] at h
 rcases h with h | h
 ·exact eq1_eq h
 ·split at h
  ·rename_i a b
   rw [aL_eq,aL_eq] at h
   rw [Array.toList_inj.1 (all2_eq (fun _ _ => eq1_eq) h)]
  ·cases h
theorem eqV_eq {x y:Value} (h:eqV x y = true):x = y:=by
 unfold eqV at h
 rw [Bool.or_eq_true] at h
 rcases h with h | h
 ·exact eq2_eq h
 ·split at h
  ·rename_i a b
   rw [aL_eq,aL_eq] at h
   rw [Array.toList_inj.1 (all2_eq (fun _ _ => eq2_eq) h)]
  ·cases h
def SubV (vs vs':En):Prop:=∀ i v,vs i = some v → vs' i = some v
theorem SubV.refl (vs:En):SubV vs vs:=fun _ _ h => h
theorem SubV.trans {a b c:En} (h:SubV a b) (h':SubV b c):SubV a c:=fun i v hv => h' i v (h i v hv)
theorem SubV.set {vs:En} {i:Nat} {v:Value} (h:vs i = none):SubV vs (setE vs i v):=by
 intro j u hj
 rw [setE_get]
 split
 ·rename_i e; subst e; rw [h] at hj; cases hj
 ·exact hj
def SeenP (m:Nat) (vs:En):Prop:=∀ j,tb m j = true → ∃ v,vs j = some v
theorem SeenP.mono {m:Nat} {vs vs':En} (h:SubV vs vs') (hs:SeenP m vs):SeenP m vs':=fun j hj => (hs j hj).elim fun v hv => ⟨v,h j v hv⟩
theorem seen_P {n m:Nat} {vs:En} (h:seen n m vs = true) (hb:∀ j,tb m j = true → j < n):SeenP m vs:=by
 intro j hj
 unfold seen at h
 rw [List.all_eq_true] at h
 have:=h j (List.mem_range.2 (hb j hj))
 rw [Bool.or_eq_true] at this
 rcases this with h1 | h1
 ·rw [not_true' h1] at hj; cases hj
 ·exact Option.isSome_iff_exists.1 h1
theorem envD_get (wr:Nat → Option Nat) (m:Nat) (vs e0:En) (t:Nat):envD wr m vs e0 t = match wr t with
  | none => e0 t
  | some j => if tb m j = true then vs j else e0 t:=by
 unfold envD
 cases wr t with
 | none => exact reb_eq _
 | some j =>
  show bB (tb m j) (reb (vs j)) (reb (e0 t)) = _
  rw [bB_ite,reb_eq,reb_eq]
theorem envD_sub {wr:Nat → Option Nat} {m:Nat} {vs vs' e0:En} (hs:SeenP m vs) (h:SubV vs vs'):envD wr m vs e0 = envD wr m vs' e0:=by
 funext t
 rw [envD_get,envD_get]
 split
 ·rfl
 ·rename_i j _
  split
  ·rename_i hj
   obtain ⟨v,hv⟩:=hs j hj
   rw [hv,h j v hv]
  ·rfl
section
variable {n nm0:Nat} {wr:Nat → Option Nat} {call:Cl} {e0:En}
theorem addS_ok {k:Nat} {s:S}:∀ (l:List Dp) (vs vs':En),addS n wr call e0 nm0 k s l vs = some vs' → (∀ d ∈ l,∀ j,tb d.m j = true → j < n) →
  SubV vs vs' ∧ ∀ d ∈ l,d.c ≠ 2 → d.lo = k → SeenP d.m vs' ∧ ∃ v s2,vs' d.i = some v ∧ evalD call d.st (envD wr d.m vs' e0) s (nm0 + d.i) = some (v,s2)
 | [],vs,vs',h,_ => by
  have h':some vs = some vs':=h
  cases h'
  exact ⟨SubV.refl _,fun d hd => by cases hd⟩
 | d :: l,vs,vs',h,hb => by
  have h':(dB d fun i t m c lo _ => bB (Nat.beq c 2) (addS n wr call e0 nm0 k s l vs) (bB (Nat.beq lo k)
   (guardB (seen n m vs) (guardB ((vs i).isNone) (bindS (evalD call t (envD wr m vs e0) s (Nat.add nm0 i)) fun v _ => addS n wr call e0 nm0 k s l (setE vs i v))))
   (addS n wr call e0 nm0 k s l vs))) = some vs':=h
  rw [dB_eq,bB_ite,beq_dec] at h'
  split at h'
  ·rename_i hc
   have hc':d.c = 2:=by simpa using hc
   obtain ⟨h1,h2⟩:=addS_ok l vs vs' h' fun d hd => hb d (by simp [hd])
   refine ⟨h1,fun d' hd' hc2 hlo => ?_⟩
   rcases List.mem_cons.1 hd' with rfl | hd'
   ·exact absurd hc' hc2
   ·exact h2 d' hd' hc2 hlo
  ·rw [bB_ite,beq_dec] at h'
   split at h'
   ·rw [guardB_some,guardB_some] at h'
    obtain ⟨hs,hn,h'⟩:=h'
    obtain ⟨⟨v,s2⟩,hv,h'⟩:=oB_some.1 h'
    rw [pB_mk] at h'
    have hn':vs d.i = none:=by simpa using hn
    have hsub:SubV vs (setE vs d.i v):=SubV.set hn'
    obtain ⟨h1,h2⟩:=addS_ok l _ vs' h' fun d hd => hb d (by simp [hd])
    refine ⟨hsub.trans h1,fun d' hd' hc2 hlo => ?_⟩
    rcases List.mem_cons.1 hd' with rfl | hd'
    ·have hsP:=seen_P hs (hb d' (by simp))
     refine ⟨hsP.mono (hsub.trans h1),v,s2,h1 _ _ (by rw [setE_get,if_pos rfl]),?_⟩
     rw [← envD_sub hsP (hsub.trans h1)]
     exact hv
    ·exact h2 d' hd' hc2 hlo
   ·rename_i hlo0
    obtain ⟨h1,h2⟩:=addS_ok l vs vs' h' fun d hd => hb d (by simp [hd])
    refine ⟨h1,fun d' hd' hc2 hlo => ?_⟩
    rcases List.mem_cons.1 hd' with rfl | hd'
    ·exact absurd (by simpa using hlo) (by simpa using hlo0)
    ·exact h2 d' hd' hc2 hlo
theorem chkS_ok {vs:En} {k:Nat} {s:S}:∀ (l:List Dp),chkS wr call e0 vs nm0 k s l = true → ∀ d ∈ l,
  (d.c = 0 → d.lo < k → k ≤ d.hi → ∃ s2,evalD call d.st (envD wr d.m vs e0) s (nm0 + d.i) = some (getE (vs d.i),s2)) ∧ (d.c = 1 → k ≤ d.hi → s.h (nm0 + d.i) = none)
 | [],_,d,hd => by cases hd
 | d :: l,h,d',hd' => by
  have h':(dB d fun i t m c lo hi => bB (bB (Nat.beq c 0 && (Nat.ble (Nat.succ lo) k && Nat.ble k hi)) (chkR wr call e0 vs nm0 s i t m) (bB (Nat.beq c 1 && Nat.ble k hi) (s.h (Nat.add nm0 i)).isNone true)) (chkS wr call e0 vs nm0 k s l) false) = true:=h
  rw [dB_eq,bB_ite] at h'
  split at h'
  ·rename_i hc
   rcases List.mem_cons.1 hd' with rfl | hd'
   ·rw [bB_ite,beq_dec,ble_dec,ble_dec] at hc
    constructor
    ·intro h0 h1 h2
     rw [if_pos (by simp [h0,h2]; omega)] at hc
     unfold chkR at hc
     cases he:evalD call d'.st (envD wr d'.m vs e0) s (Nat.add nm0 d'.i) with
     | none => rw [he] at hc; cases hc
     | some p =>
      rw [he] at hc
      obtain ⟨v,s2⟩:=p
      have hc':eqV v (getE (vs d'.i)) = true:=hc
      exact ⟨s2,by rw [← eqV_eq hc']⟩
    ·intro h0 h2
     rw [if_neg (by simp [h0]),bB_ite,beq_dec,if_pos (by simp [h0,h2])] at hc
     simpa using hc
   ·exact chkS_ok l h' d' hd'
  ·cases h'
end
end Xe
end Go.Proofs.YtbioaoangfiijaaGreatDoor
