/- Regions whose order is drawn: whom operations stand behind. -/
import Derived.Test.YtfcpglhpolpdcaaGreatDoorM44
namespace Go.Proofs.YtfcpglhpolpdcaaGreatDoor
namespace Xe
variable {P:Program}
theorem j6 (m k:Nat):tb m k=m.testBit k:=by
 unfold tb;rw[dZ];have:Nat.land (Nat.shiftRight m k) 1=(m >>> k) % 2:=Nat.and_one_is_mod _;rw[this,Nat.testBit_eq_decide_div_mod_eq,Nat.shiftRight_eq_div_pow]
theorem wG {b:Bool}(h:not' b=true):b=false:=by cases b<;>simp_all [not',bB]
theorem Cz {acc:List Nat}:∀ {es:List Edge} {k:Nat},tb (iA acc es) k=true→∃ e ∈ es,Region.binds .any e=true∧(e.on=k∨tb (aH acc e.on) k=true)
 | [],k,h=>by rw[j6] at h;have h':Nat.testBit 0 k=true:=h;simp at h'
 | e :: es,k,h=>by
  have h':tb (bB (Region.binds .any e) (Nat.lor (Nat.lor (Nat.shiftLeft 1 e.on) ((nth acc e.on).getD 0)) (iA acc es)) (iA acc es)) k=true:=h;rw[bV] at h';split at h'
  ·rename_i hb
   rw[j6] at h';have h2:(1 <<< e.on ||| (nth acc e.on).getD 0 ||| iA acc es).testBit k=true:=h';rw[Nat.testBit_or,Nat.testBit_or,Bool.or_eq_true,Bool.or_eq_true] at h2;rcases h2 with (h2 | h2) | h2
   ·refine⟨e,by simp,hb,.inl ?_⟩
    rw[Nat.testBit_shiftLeft] at h2;simp only[Bool.and_eq_true,decide_eq_true_eq] at h2;have:=h2.2;rw[Nat.testBit_one_eq_true_iff_self_eq_zero] at this;omega
   ·exact⟨e,by simp,hb,.inr (by rw[j6];exact h2)⟩
   ·obtain⟨e',he,h3⟩:=Cz (es:=es) (by rw[j6];exact h2)
    exact⟨e',by simp[he],h3⟩
  ·obtain⟨e',he,h3⟩:=Cz (es:=es) h'
   exact⟨e',by simp[he],h3⟩
theorem FJ {α:Type}:∀ {l:List α} {k i:Nat} {a:α},l[i]?=some a→(k+i,a) ∈ number l k
 | [],_,_,_,h=>by simp at h
 | b :: l,k,0,a,h=>by simp at h;subst h;simp[number]
 | b :: l,k,i+1,a,h=>by
  simp at h;have:=FJ (k:=k+1) h;simp only[number,List.mem_cons];refine .inr ?_;rw[show k+(i+1)=k+1+i by omega];exact this
structure Um (ops:Array Oper) (ms:List Nat):Prop where
 edge:∀ (i:Nat) (o:Oper),ops[i]?=some o→∀ k,tb (aH ms i) k=true→∃ e ∈ o.after,Region.binds .any e=true∧(e.on=k∨tb (aH ms e.on) k=true)
 lt:∀ (i:Nat) (o:Oper),ops[i]?=some o→∀ k,tb (aH ms i) k=true→k<i
 trans:∀ (i j:Nat) (o p:Oper),ops[i]?=some o→ops[j]?=some p→tb (aH ms i) j=true→∀ k,tb (aH ms j) k=true→tb (aH ms i) k=true
 dst:∀ (i j:Nat) (o p:Oper) (d:Nat),ops[i]?=some o→ops[j]?=some p→i≠j→p.dst=some d→o.dst≠some d
 look:∀ (i j:Nat) (o p:Oper) (d:Nat),ops[i]?=some o→ops[j]?=some p→i≠j→p.dst=some d→d ∈ o.looksAt ops→tb (aH ms i) j=true∨tb (aH ms j) i=true
theorem Uo (d:Nat):vW (some d) (some d)=true:=by show Nat.beq d d=true;simp
theorem Uq {ops:Array Oper}(h:BU ops=true):Um ops (bH [] (aL ops))∧yH (bH [] (aL ops)) (mK (aL ops) 0)=true:=by
 unfold BU at h;rw[Bool.and_eq_true,Bool.and_eq_true] at h;obtain⟨h1,h2,h3⟩:=h;generalize bH [] (aL ops)=ms at *;rw[List.all_eq_true] at h1;unfold Tp at h2;rw[List.all_eq_true] at h2;have hmem:∀ (i:Nat) (o:Oper),ops[i]?=some o→(i,o) ∈ number (aL ops) 0:=by
  intro i o ho;have:=FJ (k:=0) (l:=aL ops) (i:=i) (a:=o) (by rw[bL];simpa using ho);rwa [Nat.zero_add] at this
 have one:∀ (i:Nat) (o:Oper),ops[i]?=some o→aH ms i=iA ms (aL o.after)∧aH ms i<2 ^ i:=by
  intro i o ho;have:=h1 _ (hmem i o ho);unfold ru at this;rw[Bool.and_eq_true,dZ,ed] at this;simp only[decide_eq_true_eq] at this;refine⟨this.1,?_⟩;have h4:=this.2;rw[show Nat.shiftLeft 1 i=1 <<< i from rfl,Nat.shiftLeft_eq,Nat.one_mul] at h4;omega
 have two:∀ (i j:Nat) (o p:Oper),ops[i]?=some o→ops[j]?=some p→i≠j→Fb ops ms i j o p=true∧(tb (aH ms i) j=true→aH ms j &&& aH ms i=aH ms j):=by
  intro i j o p ho hp hne;have:=h2 _ (hmem i o ho);rw[List.all_eq_true] at this;have:=this _ (hmem j p hp);unfold Tn at this;simp only at this;rw[Bool.or_eq_true,dZ] at this;rcases this with h | h
  ·exact absurd (by simpa using h) hne
  ·rw[Bool.and_eq_true,Bool.or_eq_true,dZ] at h
   refine⟨h.1,fun ht=>?_⟩;rcases h.2 with h4 | h4
   ·rw[wG h4] at ht;cases ht
   ·simpa using h4
 refine⟨⟨?_,?_,?_,?_,?_⟩,h3⟩
 ·intro i o ho k hk
  rw[(one i o ho).1,bL] at hk;obtain⟨e,he,h4⟩:=Cz hk;exact⟨e,by simpa using he,h4⟩
 ·intro i o ho k hk
  rw[j6] at hk;rcases Nat.lt_or_ge k i with h | h
  ·exact h
  ·have:=Nat.testBit_lt_two_pow (Nat.lt_of_lt_of_le (one i o ho).2 (Nat.pow_le_pow_right (by omega) h))
   rw[this] at hk;cases hk
 ·intro i j o p ho hp hij k hk
  by_cases hne:i=j
  ·subst hne;exact hk
  ·have h5:=(two i j o p ho hp hne).2 hij
   rw[j6] at hk ⊢;rw[← h5,Nat.testBit_and,Bool.and_eq_true] at hk;exact hk.2
 ·intro i j o p d ho hp hne hd hd'
  have h5:=(two i j o p ho hp hne).1;unfold Fb at h5;rw[hd] at h5;simp only[Bool.and_eq_true] at h5;have:=wG h5.1;rw[hd',Uo] at this;cases this
 ·intro i j o p d ho hp hne hd hl
  have h5:=(two i j o p ho hp hne).1;unfold Fb at h5;rw[hd] at h5;simp only[Bool.and_eq_true,Bool.or_eq_true] at h5;rcases h5.2 with h6 | h6
  ·have:=wG h6
   rw[List.any_eq_false] at this;have:=this d hl;rw[dZ] at this;simp at this
  ·exact h6
theorem countB_le {p q:Nat→Bool}:∀ {l:List Nat},(∀ e ∈ l,p e=true→q e=true)→countB p l≤countB q l
 | [],_=>Nat.le_refl _
 | a :: l,h=>by
  have ih:=countB_le (l:=l) (p:=p) (q:=q) fun e he=>h e (by simp[he]);show bB (p a) (Nat.succ (countB p l)) (countB p l)≤bB (q a) (Nat.succ (countB q l)) (countB q l)
  rw[bV,bV];split
  ·rename_i hp
   rw[if_pos (h a (by simp) hp)];exact Nat.succ_le_succ ih
  ·split
   ·exact Nat.le_succ_of_le ih
   ·exact ih
theorem wH {p:Nat→Bool}:∀ {l:List Nat},(∀ (a b x y:Nat),a<b→l[a]?=some x→l[b]?=some y→p y=true→p x=true)→∀ (i x:Nat),l[i]?=some x→(p x=true ↔ i<countB p l)
 | [],_,i,x,hx=>by simp at hx
 | c :: l,h,i,x,hx=>by
  have ih:=wH (l:=l) (p:=p) fun a b x y hab hxa hyb=>h (a+1) (b+1) x y (by omega) (by simpa using hxa) (by simpa using hyb);have e1:countB p (c :: l)=bB (p c) (Nat.succ (countB p l)) (countB p l):=rfl;rw[e1,bV];have hzero:p c≠true→countB p l=0:=by
   intro hc;have:∀ e ∈ l,p e=true→False:=by
    intro e he hp;obtain⟨j,hj⟩:=List.getElem?_of_mem he;exact hc (h 0 (j+1) c e (by omega) rfl (by simpa using hj) hp)
   have:=countB_le (l:=l) (p:=p) (q:=fun _=>false) fun e he hp=>(this e he hp).elim;have h0:∀ l:List Nat,countB (fun _=>false) l=0:=by
    intro l;induction l with
    | nil=>rfl
    | cons a l ih=>exact ih
   rw[h0] at this;omega
  cases i with
  | zero =>
   simp at hx;subst hx;by_cases hc:p c=true
   ·simp[hc]
   ·rw[if_neg hc,hzero hc];simp[hc]
  | succ i =>
   simp at hx;rw[ih i x hx];by_cases hc:p c=true
   ·rw[if_pos hc];omega
   ·rw[if_neg hc,hzero hc];omega
end Xe
namespace Xe
variable {P:Program}
theorem tu {α:Type}(x:Option α):nO x=x:=by cases x<;>rfl
theorem FK {γ:Type}(d:Dp)(f:Nat→St→Nat→Nat→Nat→Nat→γ):dB d f=f d.i d.st d.m d.c d.lo d.hi:=by cases d;rfl
theorem yR {p:Value→Value→Bool}(hp:∀ a b,p a b=true→a=b):∀ {l m:List Value},all2 p l m=true→l=m
 | [],[],_=>rfl
 | a :: l,b :: m,h=>by
  have h':bB (p a b) (all2 p l m) false=true:=h;rw[bV] at h';split at h'
  ·rename_i hab;rw[hp a b hab,yR hp h']
  ·cases h'
 | [],_ :: _,h=>by cases h
 | _ :: _,[],h=>by cases h
theorem Ur {a b:Option Addr}(h:Ke a b=true):a=b:=by
 cases a with
 | none=>cases b with
  | none=>rfl
  | some b=>cases h
 | some a=>cases b with
  | none=>cases h
  | some b =>
   have h':(Nat.beq a.block b.block && (Nat.beq a.off b.off && (a.spot.isNone && b.spot.isNone)))=true:=h;simp only[Bool.and_eq_true,Option.isNone_iff_eq_none] at h';obtain⟨h1,h2,h3,h4⟩:=h';cases a;cases b;simp only at h1 h2 h3 h4;rw[Nat.eq_of_beq_eq_true h1,Nat.eq_of_beq_eq_true h2,h3,h4]
theorem Us {a b:Option Nat}(h:vW a b=true):a=b:=by
 cases a<;>cases b<;>first | rfl | cases h | skip
 rw[Nat.eq_of_beq_eq_true h]
theorem KZ {x y:Value}(h:BS x y=true):x=y:=by
 unfold BS at h;split at h
 ·rename_i a b
  cases a<;>cases b<;>simp_all [bB,not']
 ·rename_i k a l b
  rw[Bool.and_eq_true,Ko,Km] at h;obtain⟨rfl,h⟩:=h;have:a=b:=by simpa using h
  rw[this]
 ·rename_i a b
  rw[Fp,rA,rA] at h;have:a.data.toList=b.data.toList:=by simpa using h
  rw[ByteArray.ext (Array.toList_inj.1 this)]
 ·rename_i a b;rw[Ur h]
 ·rename_i a n c b m d
  simp only[Bool.and_eq_true] at h;rw[Ur h.1,Nat.eq_of_beq_eq_true h.2.1,Nat.eq_of_beq_eq_true h.2.2]
 ·rename_i a b;rw[Us h]
 ·rfl
 ·cases h
theorem CB {x y:Value}(h:rq x y=true):x=y:=by
 unfold rq at h;rw[Bool.or_eq_true] at h;rcases h with h | h
 ·exact KZ h
 ·split at h
  ·rename_i f a b g c d
   simp only[Bool.and_eq_true,bL] at h;have h1:=Nat.eq_of_beq_eq_true h.1;have h2:=yR (fun _ _=>KZ) h.2.1;have h3:=yR (fun _ _=>KZ) h.2.2;rw[h1,Array.toList_inj.1 h2,Array.toList_inj.1 h3]
  ·cases h
theorem Ut {x y:Value}(h:E9 x y=true):x=y:=by
 unfold E9 at h;rw[Bool.or_eq_true] at h;rcases h with h | h
 ·exact CB h
 ·split at h
  ·rename_i a b
   rw[bL,bL] at h;rw[Array.toList_inj.1 (yR (fun _ _=>CB) h)]
  ·cases h
theorem afB {x y:Value}(h:Fa x y=true):x=y:=by
 unfold Fa at h;rw[Bool.or_eq_true] at h;rcases h with h | h
 ·exact Ut h
 ·split at h
  ·rename_i a b
   rw[bL,bL] at h;rw[Array.toList_inj.1 (yR (fun _ _=>Ut) h)]
  ·cases h
def jG (vs vs':En):Prop:=∀ i v,vs i=some v→vs' i=some v
theorem jG.refl (vs:En):jG vs vs:=fun _ _ h=>h
theorem jG.trans {a b c:En}(h:jG a b)(h':jG b c):jG a c:=fun i v hv=>h' i v (h i v hv)
theorem jG.set {vs:En}{i:Nat}{v:Value}(h:vs i=none):jG vs (dU vs i v):=by
 intro j u hj;rw[Ca];split
 ·rename_i e;subst e;rw[h] at hj;cases hj
 ·exact hj
def rE (m:Nat)(vs:En):Prop:=∀ j,tb m j=true→∃ v,vs j=some v
theorem rE.mono {m:Nat}{vs vs':En}(h:jG vs vs')(hs:rE m vs):rE m vs':=fun j hj=>(hs j hj).elim fun v hv=>⟨v,h j v hv⟩
theorem FL {n m:Nat}{vs:En}(h:seen n m vs=true)(hb:∀ j,tb m j=true→j<n):rE m vs:=by
 intro j hj;unfold seen at h;rw[List.all_eq_true] at h;have:=h j (List.mem_range.2 (hb j hj));rw[Bool.or_eq_true] at this;rcases this with h1 | h1
 ·rw[wG h1] at hj;cases hj
 ·exact Option.isSome_iff_exists.1 h1
theorem K3 (wr:Nat→Option Nat)(m:Nat)(vs e0:En)(t:Nat):dY wr m vs e0 t=match wr t with
  | none=>e0 t
  | some j=>if tb m j=true then vs j else e0 t:=by
 unfold dY;cases wr t with
 | none=>exact tu _
 | some j =>
  show bB (tb m j) (nO (vs j)) (nO (e0 t))=_
  rw[bV,tu,tu]
theorem Uu {wr:Nat→Option Nat}{m:Nat}{vs vs' e0:En}(hs:rE m vs)(h:jG vs vs'):dY wr m vs e0=dY wr m vs' e0:=by
 funext t
 rw[K3,K3];split
 ·rfl
 ·rename_i j _
  split
  ·rename_i hj
   obtain⟨v,hv⟩:=hs j hj;rw[hv,h j v hv]
  ·rfl
section
variable {n ak:Nat} {wr:Nat→Option Nat} {call:Cl} {e0:En}
theorem CE {k:Nat}{s:S}:∀ (l:List Dp) (vs vs':En),oN n wr call e0 ak k s l vs=some vs'→(∀ d ∈ l,∀ j,tb d.m j=true→j<n) →
  jG vs vs'∧∀ d ∈ l,d.c≠2→d.lo=k→rE d.m vs'∧∃ v s2,vs' d.i=some v∧kH call d.st (dY wr d.m vs' e0) s (ak+d.i)=some (v,s2)
 | [],vs,vs',h,_=>by
  have h':some vs=some vs':=h;cases h';exact⟨jG.refl _,fun d hd=>by cases hd⟩
 | d :: l,vs,vs',h,hb=>by
  have h':(dB d fun i t m c lo _=>bB (Nat.beq c 2) (oN n wr call e0 ak k s l vs) (bB (Nat.beq lo k)
   (aO (seen n m vs) (aO ((vs i).isNone) (l7 (kH call t (dY wr m vs e0) s (Nat.add ak i)) fun v _=>oN n wr call e0 ak k s l (dU vs i v))))
   (oN n wr call e0 ak k s l vs)))=some vs':=h
  rw[FK,bV,dZ] at h';split at h'
  ·rename_i hc
   have hc':d.c=2:=by simpa using hc
   obtain⟨h1,h2⟩:=CE l vs vs' h' fun d hd=>hb d (by simp[hd]);refine⟨h1,fun d' hd' hc2 hlo=>?_⟩;rcases List.mem_cons.1 hd' with rfl | hd'
   ·exact absurd hc' hc2
   ·exact h2 d' hd' hc2 hlo
  ·rw[bV,dZ] at h'
   split at h'
   ·rw[aN,aN] at h'
    obtain⟨hs,hn,h'⟩:=h';obtain⟨⟨v,s2⟩,hv,h'⟩:=aj.1 h';rw[gW] at h';have hn':vs d.i=none:=by simpa using hn
    have hsub:jG vs (dU vs d.i v):=jG.set hn';obtain⟨h1,h2⟩:=CE l _ vs' h' fun d hd=>hb d (by simp[hd]);refine⟨hsub.trans h1,fun d' hd' hc2 hlo=>?_⟩;rcases List.mem_cons.1 hd' with rfl | hd'
    ·have hsP:=FL hs (hb d' (by simp))
     refine⟨hsP.mono (hsub.trans h1),v,s2,h1 _ _ (by rw[Ca,if_pos rfl]),?_⟩;rw[← Uu hsP (hsub.trans h1)];exact hv
    ·exact h2 d' hd' hc2 hlo
   ·rename_i hlo0
    obtain⟨h1,h2⟩:=CE l vs vs' h' fun d hd=>hb d (by simp[hd]);refine⟨h1,fun d' hd' hc2 hlo=>?_⟩;rcases List.mem_cons.1 hd' with rfl | hd'
    ·exact absurd (by simpa using hlo) (by simpa using hlo0)
    ·exact h2 d' hd' hc2 hlo
theorem K4 {vs:En}{k:Nat}{s:S}:∀ (l:List Dp),vX wr call e0 vs ak k s l=true→∀ d ∈ l,
  (d.c=0→d.lo<k→k≤d.hi→∃ s2,kH call d.st (dY wr d.m vs e0) s (ak+d.i)=some (iy (vs d.i),s2))∧(d.c=1→k≤d.hi→s.h (ak+d.i)=none)
 | [],_,d,hd=>by cases hd
 | d :: l,h,d',hd'=>by
  have h':(dB d fun i t m c lo hi=>bB (bB (Nat.beq c 0 && (Nat.ble (Nat.succ lo) k && Nat.ble k hi)) (Kg wr call e0 vs ak s i t m) (bB (Nat.beq c 1 && Nat.ble k hi) (s.h (Nat.add ak i)).isNone true)) (vX wr call e0 vs ak k s l) false)=true:=h;rw[FK,bV] at h';split at h'
  ·rename_i hc
   rcases List.mem_cons.1 hd' with rfl | hd'
   ·rw[bV,dZ,ed,ed] at hc
    constructor
    ·intro h0 h1 h2
     rw[if_pos (by simp[h0,h2];omega)] at hc;unfold Kg at hc;cases he:kH call d'.st (dY wr d'.m vs e0) s (Nat.add ak d'.i) with
     | none=>rw[he] at hc;cases hc
     | some p =>
      rw[he] at hc;obtain⟨v,s2⟩:=p;have hc':Fa v (iy (vs d'.i))=true:=hc;exact⟨s2,by rw[← afB hc']⟩
    ·intro h0 h2
     rw[if_neg (by simp[h0]),bV,dZ,if_pos (by simp[h0,h2])] at hc;simpa using hc
   ·exact K4 l h' d' hd'
  ·cases h'
end
end Xe
namespace Xe
variable {P:Program}
structure qc (P:Program) (nt:Nat) (ops:Array Oper) (ms es:List Nat) (d:Dp) (o:Oper):Prop where
 op:ops[d.i]?=some o
 f:comp P o.op=some d.st.f
 ok:mJ o.op=true
 dst:d.st.d=o.dst
 yS:nP nt o.dst=true
 g:guardOf ops.toList o=some d.st.g
 m:d.m=aH ms d.i
 c:d.c=cls o.op
 lo:d.lo=countB (fun e=>tb (aH ms d.i) e) es
 hi:d.hi=countB (fun e=>not' (tb (aH ms e) d.i)) es
theorem K5 {nt:Nat}{ops:Array Oper}{ms es:List Nat}:∀ (rest:List Oper) (l:List St) (i:Nat),ops.toList.drop i=rest→vV P nt ops.toList rest=some l →
  (∀ d ∈ sV ms es l rest i,i≤d.i∧∃ o,qc P nt ops ms es d o)∧∀ (j:Nat) (o:Oper),rest[j]?=some o→∃ d,(sV ms es l rest i)[j]?=some d∧d.i=i+j
 | [],l,i,_,hl=>by
  have hl':some []=some l:=hl;cases hl';exact⟨fun d hd=>(by cases hd),fun j o hj=>(by simp at hj)⟩
 | o :: rest,l,i,hdr,hl=>by
  have hl':(aO (mJ o.op) <| aO (nP nt o.dst) (oB (guardOf ops.toList o) fun g=>oB (comp P o.op) fun f=>oB (vV P nt ops.toList rest) fun r=>some ((⟨g,o.dst,f⟩:St) :: r)))=some l:=hl;rw[aN,aN] at hl';obtain⟨hok,hd,hl'⟩:=hl';obtain⟨g,hg,hl'⟩:=aj.1 hl';obtain⟨f,hf,hl'⟩:=aj.1 hl';obtain⟨r,hrr,hl'⟩:=aj.1 hl';cases hl';have hoi:ops[i]?=some o:=by
   have:(ops.toList.drop i)[0]?=some o:=by rw[hdr];rfl
   rw[List.getElem?_drop] at this;simpa using this
  have hdr':ops.toList.drop (i+1)=rest:=by
   have:(ops.toList.drop i).drop 1=rest:=by rw[hdr];rfl
   rwa [List.drop_drop] at this
  obtain⟨h1,h2⟩:=K5 rest r (i+1) hdr' hrr;refine⟨fun d hd'=>?_,fun j o' hj=>?_⟩
  ·rcases List.mem_cons.1 hd' with rfl | hd'
   ·exact⟨Nat.le_refl _,o,hoi,hf,hok,rfl,hd,hg,rfl,rfl,rfl,rfl⟩
   ·obtain⟨h3,h4⟩:=h1 d hd'
    exact⟨by omega,h4⟩
  ·cases j with
   | zero=>exact⟨_,rfl,rfl⟩
   | succ j =>
    simp at hj;obtain⟨d,h3,h4⟩:=h2 j o' hj;exact⟨d,by simpa[sV] using h3,by omega⟩
section
variable {nt ak:Nat} {ops:Array Oper} {ms es0:List Nat} {wr:Nat→Option Nat} {call:Cl} {e0:En}
noncomputable def oU (wr:Nat→Option Nat) (call:Cl) (e0 vs:En) (ak:Nat) (d:Dp):Option Obj :=
 if d.c=1∧want d.st.g (dY wr d.m vs e0)=true then oB (d.st.f call (dY wr d.m vs e0) ⟨0,fun _=>none,[]⟩ (ak+d.i)) fun p=>p.2.h (ak+d.i) else none
theorem afC {γ:Type}(t:St)(k:Option (Nat × Bool)→Option Nat→F→γ):tB t k=k t.g t.d t.f:=by cases t;rfl
theorem K6 (t:St)(e:En)(s:S)(nm:Nat):kH call t e s nm=if want t.g e=true then t.f call e s nm else some (undef,s):=by
 unfold kH;rw[afC,bV]
theorem Uv {d:Dp}{o:Oper}(hd:qc P nt ops ms es0 d o)(hc:d.c=1){vs:En}{s s':S}{v:Value}(h:kH call d.st (dY wr d.m vs e0) s (ak+d.i)=some (v,s')) :
  (want d.st.g (dY wr d.m vs e0)=false∧s'=s∧v=undef∧oU wr call e0 vs ak d=none) ∨
  (want d.st.g (dY wr d.m vs e0)=true∧∃ ob,iZ ob∧oU wr call e0 vs ak d=some ob∧s'=⟨s.c,setH s.h (ak+d.i) ob,s.ds⟩ ∧
   ∀ (φ:Ph) (a:Act) (w:World),pY φ (dY wr d.m vs e0) a o.op→φ (ak+d.i)=none→∃ o' n v',(∀ o2:Oper,o2.op=o.op→(execOp a.eval o2).run P w=.ok (.value v') (w.alloc o')) ∧
    V (upd φ (ak+d.i) ⟨w.heap.size,n⟩) v v'∧∀ w':World,w'.heap[w.heap.size]?=some o'→OR (upd φ (ak+d.i) ⟨w.heap.size,n⟩) w' (ak+d.i) ob):=by
 rw[K6] at h;by_cases hw:want d.st.g (dY wr d.m vs e0)=true
 ·rw[if_pos hw] at h
  rcases wC hd.f with⟨h0,_⟩ | ⟨_,hA⟩ | ⟨h0,_⟩
  ·rw[← hd.c,hc] at h0;cases h0
  ·obtain⟨ob,hi,hall,Cv⟩:=hA call _ s _ v s' h
   have e1:=hall call s;rw[h] at e1;cases e1;refine .inr ⟨hw,ob,hi,?_,rfl,Cv⟩;unfold oU;rw[if_pos ⟨hc,hw⟩,hall call];show setH (fun _=>none) (ak+d.i) ob (ak+d.i)=some ob
   rw[iC,if_pos rfl]
  ·rw[← hd.c,hc] at h0;cases h0
 ·rw[if_neg hw] at h
  cases h;refine .inl ⟨by simpa using hw,rfl,rfl,?_⟩;unfold oU;rw[if_neg (fun h=>hw h.2)]
theorem FM {vs:En}{k:Nat}:∀ (l:List Dp) (s s':S),ry wr call e0 vs ak k l s=some s'→(∀ d ∈ l,∃ o,qc P nt ops ms es0 d o) →
  s'.c=s.c∧s'.ds=s.ds∧∀ x o,s'.h x=some o→s.h x=some o∨∃ d ∈ l,d.c=1∧d.hi=k∧x=ak+d.i∧oU wr call e0 vs ak d=some o
 | [],s,s',h,_=>by
  have h':some s=some s':=h;cases h';exact⟨rfl,rfl,fun x o hx=>.inl hx⟩
 | d :: l,s,s',h,hl=>by
  have h':(dB d fun i t m c _ hi=>bB (Nat.beq c 1 && Nat.beq hi k) (l7 (kH call t (dY wr m vs e0) s (Nat.add ak i)) fun _ s'=>ry wr call e0 vs ak k l s') (ry wr call e0 vs ak k l s))=some s':=h;rw[FK,bV,dZ,dZ] at h';split at h'
  ·rename_i hc
   have hc':d.c=1∧d.hi=k:=by simpa using hc
   obtain⟨⟨v,s1⟩,hv,h'⟩:=aj.1 h';rw[gW] at h';obtain⟨o,hd⟩:=hl d (by simp);obtain⟨h1,h2,h3⟩:=FM l s1 s' h' fun d hd=>hl d (by simp[hd]);rcases Uv hd hc'.1 hv with⟨_,rfl,_,_⟩ | ⟨_,ob,_,fZ,rfl,_⟩
   ·refine⟨h1,h2,fun x o hx=>?_⟩
    rcases h3 x o hx with h | ⟨d',hd',h⟩
    ·exact .inl h
    ·exact .inr ⟨d',by simp[hd'],h⟩
   ·refine⟨h1,h2,fun x o hx=>?_⟩
    rcases h3 x o hx with h | ⟨d',hd',h⟩
    ·have h':setH s.h (ak+d.i) ob x=some o:=h
     rw[iC] at h';split at h'
     ·rename_i e;cases h';exact .inr ⟨d,by simp,hc'.1,hc'.2,e,fZ⟩
     ·exact .inl h'
    ·exact .inr ⟨d',by simp[hd'],h⟩
  ·obtain⟨h1,h2,h3⟩:=FM l s s' h' fun d hd=>hl d (by simp[hd])
   refine⟨h1,h2,fun x o hx=>?_⟩;rcases h3 x o hx with h | ⟨d',hd',h⟩
   ·exact .inl h
   ·exact .inr ⟨d',by simp[hd'],h⟩
structure Uw (P:Program) (nt:Nat) (ops:Array Oper) (ms es0:List Nat) (wr:Nat→Option Nat) (call:Cl) (e0:En) (ak:Nat) (ds:List Dp) (es:List Nat) (k:Nat) (aC:En) (sF:S) (Sx Jx:Nat→S):Prop where
 last:Jx (k+es.length)=sF
 read:∀ j,k≤j→j≤k+es.length→∀ d ∈ ds,d.c=0→d.lo≤j→j≤d.hi→∃ v s2,aC d.i=some v∧kH call d.st (dY wr d.m aC e0) (Sx j) (ak+d.i)=some (v,s2)
 free:∀ j,k≤j→j≤k+es.length→∀ d ∈ ds,d.c=1→j≤d.hi→(Sx j).h (ak+d.i)=none
 join:∀ j,k≤j→j≤k+es.length→(Jx j).c=(Sx j).c∧(Jx j).ds=(Sx j).ds∧∀ x o,(Jx j).h x=some o→(Sx j).h x=some o∨∃ d ∈ ds,d.c=1∧d.hi=j∧x=ak+d.i∧oU wr call e0 aC ak d=some o
 lays:∀ d ∈ ds,d.c=1→k≤d.lo→d.lo≤k+es.length→∃ v s1 s2,aC d.i=some v∧kH call d.st (dY wr d.m aC e0) s1 (ak+d.i)=some (v,s2)
 Ux:∀ q e,es[q]?=some e→∃ d ∈ ds,d.i=e∧∃ v,aC e=some v∧kH call d.st (dY wr d.m aC e0) (Jx (k+q)) (ak+e)=some (v,Sx (k+q+1))
theorem Uy {n:Nat}{ds:List Dp}{aC:En}{sF:S}(hds:∀ d ∈ ds,(∃ o,qc P nt ops ms es0 d o)∧∀ j,tb d.m j=true→j<n)(hat:∀ e d,vY ds e=some d→d ∈ ds∧d.i=e)(hlo:∀ d ∈ ds,d.lo≤d.hi) :
  ∀ (es:List Nat) (k:Nat) (vs:En) (s:S),stages n wr call e0 ak ds es k vs s=some (aC,sF)→(∀ d ∈ ds,d.c≠2→d.lo<k→rE d.m vs∧∃ v,vs d.i=some v) →
   ∃ Sx Jx:Nat→S,Sx k=s∧jG vs aC∧Uw P nt ops ms es0 wr call e0 ak ds es k aC sF Sx Jx:=by
 intro es;induction es with
 | nil =>
  intro k vs s h hI;have h':(oB (oN n wr call e0 ak k s ds vs) fun vs=>aO (vX wr call e0 vs ak k s ds) (oB (ry wr call e0 vs ak k ds s) fun s=>some (vs,s)))=some (aC,sF):=h;obtain⟨vs1,h1,h'⟩:=aj.1 h';rw[aN] at h';obtain⟨h2,h'⟩:=h';obtain⟨s1,h3,h'⟩:=aj.1 h';cases h';obtain⟨a1,a2⟩:=CE ds vs aC h1 fun d hd=>(hds d hd).2;have c1:=K4 ds h2;have j1:=FM ds s sF h3 fun d hd=>(hds d hd).1;refine⟨fun _=>s,fun _=>sF,rfl,a1,rfl,?_,?_,?_,?_,?_⟩
  ·intro j hj1 hj2 d hd hc hlo hhi
   have hjk:j=k:=by simp at hj2;omega
   subst hjk;rcases Nat.lt_or_ge d.lo j with hl | hl
   ·obtain⟨s2,hs2⟩:=(c1 d hd).1 hc hl hhi
    obtain⟨_,v,hv⟩:=hI d hd (by omega) hl;have hv':=a1 _ _ hv;rw[hv'] at hs2;exact⟨v,s2,hv',hs2⟩
   ·obtain⟨_,v,s2,hv,he⟩:=a2 d hd (by omega) (by omega)
    exact⟨v,s2,hv,he⟩
  ·intro j hj1 hj2 d hd hc hhi
   have hjk:j=k:=by simp at hj2;omega
   subst hjk;exact (c1 d hd).2 hc hhi
  ·intro j hj1 hj2
   have hjk:j=k:=by simp at hj2;omega
   subst hjk;exact j1
  ·intro d hd hc h5 h6
   obtain⟨_,v,s2,hv,he⟩:=a2 d hd (by omega) (by simp at h6;omega);exact⟨v,s,s2,hv,he⟩
  ·intro q e he;simp at he
 | cons e es ih =>
  intro k vs s h hI;have h':(oB (oN n wr call e0 ak k s ds vs) fun vs=>aO (vX wr call e0 vs ak k s ds) (oB (ry wr call e0 vs ak k ds s) fun s=>oB (vY ds e) fun d=>dB d fun _ t m _ _ _ =>
   aO (seen n m vs) (aO ((vs e).isNone) (l7 (kH call t (dY wr m vs e0) s (Nat.add ak e)) fun v s'=>stages n wr call e0 ak ds es (Nat.succ k) (dU vs e v) s'))))=some (aC,sF):=h
  obtain⟨vs1,h1,h'⟩:=aj.1 h';rw[aN] at h';obtain⟨h2,h'⟩:=h';obtain⟨s1,h3,h'⟩:=aj.1 h';obtain⟨de,hde,h'⟩:=aj.1 h';rw[FK,aN,aN] at h';obtain⟨h4,h5,h'⟩:=h';obtain⟨⟨v,s2⟩,h6,h'⟩:=aj.1 h';rw[gW] at h';obtain⟨jf,hdi⟩:=hat e de hde;obtain⟨a1,a2⟩:=CE ds vs vs1 h1 fun d hd=>(hds d hd).2;have c1:=K4 ds h2;have hn:vs1 e=none:=by simpa using h5
  have CF:jG vs1 (dU vs1 e v):=jG.set hn;obtain⟨Sx,Jx,hS0,hsub2,hst⟩:=ih (k+1) (dU vs1 e v) s2 h' (by
   intro d hd hc hlo;rcases Nat.lt_or_ge d.lo k with hl | hl
   ·obtain⟨p1,u,p2⟩:=hI d hd hc hl
    exact⟨p1.mono (a1.trans CF),u,CF _ _ (a1 _ _ p2)⟩
   ·obtain⟨p1,u,_,p2,_⟩:=a2 d hd hc (by omega)
    exact⟨p1.mono CF,u,CF _ _ p2⟩)
  have CG:jG vs1 aC:=CF.trans hsub2;have FN:∀ d:Dp,rE d.m vs1→dY wr d.m vs1 e0=dY wr d.m aC e0:=fun d hd=>Uu hd CG;have Uz:∀ d ∈ ds,d.c≠2→d.lo≤k→rE d.m vs1∧∃ u,vs1 d.i=some u:=by
   intro d hd hc hlo;rcases Nat.lt_or_ge d.lo k with hl | hl
   ·obtain⟨p1,u,p2⟩:=hI d hd hc hl
    exact⟨p1.mono a1,u,a1 _ _ p2⟩
   ·obtain⟨p1,u,_,p2,_⟩:=a2 d hd hc (by omega)
    exact⟨p1,u,p2⟩
  have j0:=FM ds s s1 h3 fun d hd=>(hds d hd).1;have afD:∀ d ∈ ds,d.c=1→d.lo≤k→oU wr call e0 vs1 ak d=oU wr call e0 aC ak d:=by
   intro d hd hc hlo;unfold oU;rw[FN d (Uz d hd (by omega) hlo).1]
  have afE:∀ d ∈ ds,d.hi=k→d.c=1→d.lo≤k:=fun d hd h _=>h ▸ hlo d hd;refine⟨fun j=>if j=k then s else Sx j,fun j=>if j=k then s1 else Jx j,by simp,a1.trans CG,?_,?_,?_,?_,?_,?_⟩
  ·have:=hst.last
   simp only[List.length_cons];rw[if_neg (by omega),← this];congr 1;omega
  ·intro j hj1 hj2 d hd hc hlo hhi
   simp only[List.length_cons] at hj2;by_cases hjk:j=k
   ·subst hjk
    rw[if_pos rfl];obtain⟨p1,u,p2⟩:=Uz d hd (by omega) hlo;rw[← FN d p1];rcases Nat.lt_or_ge d.lo j with hl | hl
    ·obtain⟨s3,hs3⟩:=(c1 d hd).1 hc hl hhi
     rw[p2] at hs3;exact⟨u,s3,CG _ _ p2,hs3⟩
    ·obtain⟨_,u',s3,hv,he⟩:=a2 d hd (by omega) (by omega)
     exact⟨u',s3,CG _ _ hv,he⟩
   ·rw[if_neg hjk]
    exact hst.read j (by omega) (by omega) d hd hc hlo hhi
  ·intro j hj1 hj2 d hd hc hhi
   simp only[List.length_cons] at hj2;by_cases hjk:j=k
   ·subst hjk
    rw[if_pos rfl];exact (c1 d hd).2 hc hhi
   ·rw[if_neg hjk]
    exact hst.free j (by omega) (by omega) d hd hc hhi
  ·intro j hj1 hj2
   simp only[List.length_cons] at hj2;by_cases hjk:j=k
   ·subst hjk
    rw[if_pos rfl,if_pos rfl];refine⟨j0.1,j0.2.1,fun x o hx=>?_⟩;rcases j0.2.2 x o hx with hh | ⟨d,hd,p1,p2,p3,p4⟩
    ·exact .inl hh
    ·exact .inr ⟨d,hd,p1,p2,p3,by rw[← afD d hd p1 (afE d hd p2 p1)];exact p4⟩
   ·rw[if_neg hjk,if_neg hjk]
    exact hst.join j (by omega) (by omega)
  ·intro d hd hc h7 h8
   simp only[List.length_cons] at h8;rcases Nat.lt_or_ge k d.lo with hl | hl
   ·exact hst.lays d hd hc (by omega) (by omega)
   ·obtain⟨p1,u,s3,hv,he⟩:=a2 d hd (by omega) (by omega)
    rw[FN d p1] at he;exact⟨u,s,s3,CG _ _ hv,he⟩
  ·intro q e' he'
   cases q with
   | zero =>
    simp at he';subst he';refine⟨de,jf,hdi,v,hsub2 _ _ (by rw[Ca,if_pos rfl]),?_⟩;have hsP:=FL h4 (hds de jf).2;rw[← FN de hsP];simp only[Nat.add_zero];rw[if_pos trivial,if_neg (by omega),hS0];exact h6
   | succ q =>
    simp at he';obtain⟨d,hd,p1,u,p2,p3⟩:=hst.Ux q e' he';refine⟨d,hd,p1,u,p2,?_⟩;rw[if_neg (by omega),if_neg (by omega)];rw[show k+(q+1)=k+1+q by omega];exact p3
end
end Xe
end Go.Proofs.YtfcpglhpolpdcaaGreatDoor
