/- Regions whose order is drawn: what our machine has looked at,stage by stage. -/
import Derived.Test.YtfcpglhpolpdcaaGreatDoorM41
namespace Go.Proofs.YtfcpglhpolpdcaaGreatDoor
namespace Xe
variable {P:Program}
theorem sO {α:Type}(x:Option α):nA x=x:=by cases x<;>rfl
theorem EO {γ:Type}(d:Dp)(f:Nat→St→Nat→Nat→Nat→Nat→γ):dB d f=f d.i d.st d.m d.c d.lo d.hi:=by cases d;rfl
theorem yo {p:Value→Value→Bool}(hp:∀ a b,p a b=true→a=b):∀ {l m:List Value},all2 p l m=true→l=m
 | [],[],_=>rfl
 | a :: l,b :: m,h=>by
  have h':bB (p a b) (all2 p l m) false=true:=h;rw[bT] at h';split at h'
  ·rename_i hab;rw[hp a b hab,yo hp h']
  ·cases h'
 | [],_ :: _,h=>by cases h
 | _ :: _,[],h=>by cases h
theorem Tc {a b:Option Addr}(h:JD a b=true):a=b:=by
 cases a with
 | none=>cases b with
  | none=>rfl
  | some b=>cases h
 | some a=>cases b with
  | none=>cases h
  | some b =>
   have h':(Nat.beq a.block b.block && (Nat.beq a.off b.off && (a.spot.isNone && b.spot.isNone)))=true:=h;simp only[Bool.and_eq_true,Option.isNone_iff_eq_none] at h';obtain⟨h1,h2,h3,h4⟩:=h';cases a;cases b;simp only at h1 h2 h3 h4;rw[Nat.eq_of_beq_eq_true h1,Nat.eq_of_beq_eq_true h2,h3,h4]
theorem Td {a b:Option Nat}(h:vL a b=true):a=b:=by
 cases a<;>cases b<;>first | rfl | cases h | skip
 rw[Nat.eq_of_beq_eq_true h]
theorem Kj {x y:Value}(h:Be x y=true):x=y:=by
 unfold Be at h;split at h
 ·rename_i a b
  cases a<;>cases b<;>simp_all [bB,not']
 ·rename_i k a l b
  rw[Bool.and_eq_true,JL,JK] at h;obtain⟨rfl,h⟩:=h;have:a=b:=by simpa using h
  rw[this]
 ·rename_i a b
  rw[Ey,qX,qX] at h;have:a.data.toList=b.data.toList:=by simpa using h
  rw[ByteArray.ext (Array.toList_inj.1 this)]
 ·rename_i a b;rw[Tc h]
 ·rename_i a n c b m d
  simp only[Bool.and_eq_true] at h;rw[Tc h.1,Nat.eq_of_beq_eq_true h.2.1,Nat.eq_of_beq_eq_true h.2.2]
 ·rename_i a b;rw[Td h]
 ·rfl
 ·cases h
theorem BK {x y:Value}(h:qR x y=true):x=y:=by
 unfold qR at h;rw[Bool.or_eq_true] at h;rcases h with h | h
 ·exact Kj h
 ·split at h
  ·rename_i f a b g c d
   simp only[Bool.and_eq_true,bK] at h;have h1:=Nat.eq_of_beq_eq_true h.1;have h2:=yo (fun _ _=>Kj) h.2.1;have h3:=yo (fun _ _=>Kj) h.2.2;rw[h1,Array.toList_inj.1 h2,Array.toList_inj.1 h3]
  ·cases h
theorem Te {x y:Value}(h:Em x y=true):x=y:=by
 unfold Em at h;rw[Bool.or_eq_true] at h;rcases h with h | h
 ·exact BK h
 ·split at h
  ·rename_i a b
   rw[bK,bK] at h;rw[Array.toList_inj.1 (yo (fun _ _=>BK) h)]
  ·cases h
theorem aej {x y:Value}(h:Eo x y=true):x=y:=by
 unfold Eo at h;rw[Bool.or_eq_true] at h;rcases h with h | h
 ·exact Te h
 ·split at h
  ·rename_i a b
   rw[bK,bK] at h;rw[Array.toList_inj.1 (yo (fun _ _=>Te) h)]
  ·cases h
def jo (vs vs':En):Prop:=∀ i v,vs i=some v→vs' i=some v
theorem jo.refl (vs:En):jo vs vs:=fun _ _ h=>h
theorem jo.trans {a b c:En}(h:jo a b)(h':jo b c):jo a c:=fun i v hv=>h' i v (h i v hv)
theorem jo.set {vs:En}{i:Nat}{v:Value}(h:vs i=none):jo vs (dE vs i v):=by
 intro j u hj;rw[Bh];split
 ·rename_i e;subst e;rw[h] at hj;cases hj
 ·exact hj
def q8 (m:Nat)(vs:En):Prop:=∀ j,tb m j=true→∃ v,vs j=some v
theorem q8.mono {m:Nat}{vs vs':En}(h:jo vs vs')(hs:q8 m vs):q8 m vs':=fun j hj=>(hs j hj).elim fun v hv=>⟨v,h j v hv⟩
theorem EP {n m:Nat}{vs:En}(h:seen n m vs=true)(hb:∀ j,tb m j=true→j<n):q8 m vs:=by
 intro j hj;unfold seen at h;rw[List.all_eq_true] at h;have:=h j (List.mem_range.2 (hb j hj));rw[Bool.or_eq_true] at this;rcases this with h1 | h1
 ·rw[wu h1] at hj;cases hj
 ·exact Option.isSome_iff_exists.1 h1
theorem Kk (wr:Nat→Option Nat)(m:Nat)(vs e0:En)(t:Nat):dS wr m vs e0 t=match wr t with
  | none=>e0 t
  | some j=>if tb m j=true then vs j else e0 t:=by
 unfold dS;cases wr t with
 | none=>exact sO _
 | some j =>
  show bB (tb m j) (nA (vs j)) (nA (e0 t))=_
  rw[bT,sO,sO]
theorem Tf {wr:Nat→Option Nat}{m:Nat}{vs vs' e0:En}(hs:q8 m vs)(h:jo vs vs'):dS wr m vs e0=dS wr m vs' e0:=by
 funext t
 rw[Kk,Kk];split
 ·rfl
 ·rename_i j _
  split
  ·rename_i hj
   obtain⟨v,hv⟩:=hs j hj;rw[hv,h j v hv]
  ·rfl
section
variable {n ak:Nat} {wr:Nat→Option Nat} {call:Cl} {e0:En}
theorem BM {k:Nat}{s:S}:∀ (l:List Dp) (vs vs':En),ow n wr call e0 ak k s l vs=some vs'→(∀ d ∈ l,∀ j,tb d.m j=true→j<n) →
  jo vs vs'∧∀ d ∈ l,d.c≠2→d.lo=k→q8 d.m vs'∧∃ v s2,vs' d.i=some v∧ko call d.st (dS wr d.m vs' e0) s (ak+d.i)=some (v,s2)
 | [],vs,vs',h,_=>by
  have h':some vs=some vs':=h;cases h';exact⟨jo.refl _,fun d hd=>by cases hd⟩
 | d :: l,vs,vs',h,hb=>by
  have h':(dB d fun i t m c lo _=>bB (Nat.beq c 2) (ow n wr call e0 ak k s l vs) (bB (Nat.beq lo k)
   (aO (seen n m vs) (aO ((vs i).isNone) (lM (ko call t (dS wr m vs e0) s (Nat.add ak i)) fun v _=>ow n wr call e0 ak k s l (dE vs i v))))
   (ow n wr call e0 ak k s l vs)))=some vs':=h
  rw[EO,bT,dV] at h';split at h'
  ·rename_i hc
   have hc':d.c=2:=by simpa using hc
   obtain⟨h1,h2⟩:=BM l vs vs' h' fun d hd=>hb d (by simp[hd]);refine⟨h1,fun d' hd' hc2 hlo=>?_⟩;rcases List.mem_cons.1 hd' with rfl | hd'
   ·exact absurd hc' hc2
   ·exact h2 d' hd' hc2 hlo
  ·rw[bT,dV] at h'
   split at h'
   ·rw[aN,aN] at h'
    obtain⟨hs,hn,h'⟩:=h';obtain⟨⟨v,s2⟩,hv,h'⟩:=aj.1 h';rw[gQ] at h';have hn':vs d.i=none:=by simpa using hn
    have hsub:jo vs (dE vs d.i v):=jo.set hn';obtain⟨h1,h2⟩:=BM l _ vs' h' fun d hd=>hb d (by simp[hd]);refine⟨hsub.trans h1,fun d' hd' hc2 hlo=>?_⟩;rcases List.mem_cons.1 hd' with rfl | hd'
    ·have hsP:=EP hs (hb d' (by simp))
     refine⟨hsP.mono (hsub.trans h1),v,s2,h1 _ _ (by rw[Bh,if_pos rfl]),?_⟩;rw[← Tf hsP (hsub.trans h1)];exact hv
    ·exact h2 d' hd' hc2 hlo
   ·rename_i hlo0
    obtain⟨h1,h2⟩:=BM l vs vs' h' fun d hd=>hb d (by simp[hd]);refine⟨h1,fun d' hd' hc2 hlo=>?_⟩;rcases List.mem_cons.1 hd' with rfl | hd'
    ·exact absurd (by simpa using hlo) (by simpa using hlo0)
    ·exact h2 d' hd' hc2 hlo
theorem Kl {vs:En}{k:Nat}{s:S}:∀ (l:List Dp),vM wr call e0 vs ak k s l=true→∀ d ∈ l,
  (d.c=0→d.lo<k→k≤d.hi→∃ s2,ko call d.st (dS wr d.m vs e0) s (ak+d.i)=some (ic (vs d.i),s2))∧(d.c=1→k≤d.hi→s.h (ak+d.i)=none)
 | [],_,d,hd=>by cases hd
 | d :: l,h,d',hd'=>by
  have h':(dB d fun i t m c lo hi=>bB (bB (Nat.beq c 0 && (Nat.ble (Nat.succ lo) k && Nat.ble k hi)) (JE wr call e0 vs ak s i t m) (bB (Nat.beq c 1 && Nat.ble k hi) (s.h (Nat.add ak i)).isNone true)) (vM wr call e0 vs ak k s l) false)=true:=h;rw[EO,bT] at h';split at h'
  ·rename_i hc
   rcases List.mem_cons.1 hd' with rfl | hd'
   ·rw[bT,dV,dW,dW] at hc
    constructor
    ·intro h0 h1 h2
     rw[if_pos (by simp[h0,h2];omega)] at hc;unfold JE at hc;cases he:ko call d'.st (dS wr d'.m vs e0) s (Nat.add ak d'.i) with
     | none=>rw[he] at hc;cases hc
     | some p =>
      rw[he] at hc;obtain⟨v,s2⟩:=p;have hc':Eo v (ic (vs d'.i))=true:=hc;exact⟨s2,by rw[← aej hc']⟩
    ·intro h0 h2
     rw[if_neg (by simp[h0]),bT,dV,if_pos (by simp[h0,h2])] at hc;simpa using hc
   ·exact Kl l h' d' hd'
  ·cases h'
end
end Xe
namespace Xe
variable {P:Program}
structure pK (P:Program) (nt:Nat) (ops:Array Oper) (ms es:List Nat) (d:Dp) (o:Oper):Prop where
 op:ops[d.i]?=some o
 f:comp P o.op=some d.st.f
 ok:mr o.op=true
 dst:d.st.d=o.dst
 yt:nC nt o.dst=true
 g:guardOf ops.toList o=some d.st.g
 m:d.m=aH ms d.i
 c:d.c=cls o.op
 lo:d.lo=countB (fun e=>tb (aH ms d.i) e) es
 hi:d.hi=countB (fun e=>not' (tb (aH ms e) d.i)) es
theorem Km {nt:Nat}{ops:Array Oper}{ms es:List Nat}:∀ (rest:List Oper) (l:List St) (i:Nat),ops.toList.drop i=rest→vK P nt ops.toList rest=some l →
  (∀ d ∈ sI ms es l rest i,i≤d.i∧∃ o,pK P nt ops ms es d o)∧∀ (j:Nat) (o:Oper),rest[j]?=some o→∃ d,(sI ms es l rest i)[j]?=some d∧d.i=i+j
 | [],l,i,_,hl=>by
  have hl':some []=some l:=hl;cases hl';exact⟨fun d hd=>(by cases hd),fun j o hj=>(by simp at hj)⟩
 | o :: rest,l,i,hdr,hl=>by
  have hl':(aO (mr o.op) <| aO (nC nt o.dst) (oB (guardOf ops.toList o) fun g=>oB (comp P o.op) fun f=>oB (vK P nt ops.toList rest) fun r=>some ((⟨g,o.dst,f⟩:St) :: r)))=some l:=hl;rw[aN,aN] at hl';obtain⟨hok,hd,hl'⟩:=hl';obtain⟨g,hg,hl'⟩:=aj.1 hl';obtain⟨f,hf,hl'⟩:=aj.1 hl';obtain⟨r,hrr,hl'⟩:=aj.1 hl';cases hl';have hoi:ops[i]?=some o:=by
   have:(ops.toList.drop i)[0]?=some o:=by rw[hdr];rfl
   rw[List.getElem?_drop] at this;simpa using this
  have hdr':ops.toList.drop (i+1)=rest:=by
   have:(ops.toList.drop i).drop 1=rest:=by rw[hdr];rfl
   rwa [List.drop_drop] at this
  obtain⟨h1,h2⟩:=Km rest r (i+1) hdr' hrr;refine⟨fun d hd'=>?_,fun j o' hj=>?_⟩
  ·rcases List.mem_cons.1 hd' with rfl | hd'
   ·exact⟨Nat.le_refl _,o,hoi,hf,hok,rfl,hd,hg,rfl,rfl,rfl,rfl⟩
   ·obtain⟨h3,h4⟩:=h1 d hd'
    exact⟨by omega,h4⟩
  ·cases j with
   | zero=>exact⟨_,rfl,rfl⟩
   | succ j =>
    simp at hj;obtain⟨d,h3,h4⟩:=h2 j o' hj;exact⟨d,by simpa[sI] using h3,by omega⟩
section
variable {nt ak:Nat} {ops:Array Oper} {ms es0:List Nat} {wr:Nat→Option Nat} {call:Cl} {e0:En}
noncomputable def oF (wr:Nat→Option Nat) (call:Cl) (e0 vs:En) (ak:Nat) (d:Dp):Option Obj :=
 if d.c=1∧want d.st.g (dS wr d.m vs e0)=true then oB (d.st.f call (dS wr d.m vs e0) ⟨0,fun _=>none,[]⟩ (ak+d.i)) fun p=>p.2.h (ak+d.i) else none
theorem aek {γ:Type}(t:St)(k:Option (Nat × Bool)→Option Nat→F→γ):tB t k=k t.g t.d t.f:=by cases t;rfl
theorem Ko (t:St)(e:En)(s:S)(nm:Nat):ko call t e s nm=if want t.g e=true then t.f call e s nm else some (undef,s):=by
 unfold ko;rw[aek,bT]
theorem Tg {d:Dp}{o:Oper}(hd:pK P nt ops ms es0 d o)(hc:d.c=1){vs:En}{s s':S}{v:Value}(h:ko call d.st (dS wr d.m vs e0) s (ak+d.i)=some (v,s')) :
  (want d.st.g (dS wr d.m vs e0)=false∧s'=s∧v=undef∧oF wr call e0 vs ak d=none) ∨
  (want d.st.g (dS wr d.m vs e0)=true∧∃ ob,iQ ob∧oF wr call e0 vs ak d=some ob∧s'=⟨s.c,setH s.h (ak+d.i) ob,s.ds⟩ ∧
   ∀ (φ:Ph) (a:Act) (w:World),pG φ (dS wr d.m vs e0) a o.op→φ (ak+d.i)=none→∃ o' n v',(∀ o2:Oper,o2.op=o.op→(execOp a.eval o2).run P w=.ok (.value v') (w.alloc o')) ∧
    V (upd φ (ak+d.i) ⟨w.heap.size,n⟩) v v'∧∀ w':World,w'.heap[w.heap.size]?=some o'→OR (upd φ (ak+d.i) ⟨w.heap.size,n⟩) w' (ak+d.i) ob):=by
 rw[Ko] at h;by_cases hw:want d.st.g (dS wr d.m vs e0)=true
 ·rw[if_pos hw] at h
  rcases vZ hd.f with⟨h0,_⟩ | ⟨_,hA⟩ | ⟨h0,_⟩
  ·rw[← hd.c,hc] at h0;cases h0
  ·obtain⟨ob,hi,hall,BG⟩:=hA call _ s _ v s' h
   have e1:=hall call s;rw[h] at e1;cases e1;refine .inr ⟨hw,ob,hi,?_,rfl,BG⟩;unfold oF;rw[if_pos ⟨hc,hw⟩,hall call];show setH (fun _=>none) (ak+d.i) ob (ak+d.i)=some ob
   rw[ik,if_pos rfl]
  ·rw[← hd.c,hc] at h0;cases h0
 ·rw[if_neg hw] at h
  cases h;refine .inl ⟨by simpa using hw,rfl,rfl,?_⟩;unfold oF;rw[if_neg (fun h=>hw h.2)]
theorem ES {vs:En}{k:Nat}:∀ (l:List Dp) (s s':S),qV wr call e0 vs ak k l s=some s'→(∀ d ∈ l,∃ o,pK P nt ops ms es0 d o) →
  s'.c=s.c∧s'.ds=s.ds∧∀ x o,s'.h x=some o→s.h x=some o∨∃ d ∈ l,d.c=1∧d.hi=k∧x=ak+d.i∧oF wr call e0 vs ak d=some o
 | [],s,s',h,_=>by
  have h':some s=some s':=h;cases h';exact⟨rfl,rfl,fun x o hx=>.inl hx⟩
 | d :: l,s,s',h,hl=>by
  have h':(dB d fun i t m c _ hi=>bB (Nat.beq c 1 && Nat.beq hi k) (lM (ko call t (dS wr m vs e0) s (Nat.add ak i)) fun _ s'=>qV wr call e0 vs ak k l s') (qV wr call e0 vs ak k l s))=some s':=h;rw[EO,bT,dV,dV] at h';split at h'
  ·rename_i hc
   have hc':d.c=1∧d.hi=k:=by simpa using hc
   obtain⟨⟨v,s1⟩,hv,h'⟩:=aj.1 h';rw[gQ] at h';obtain⟨o,hd⟩:=hl d (by simp);obtain⟨h1,h2,h3⟩:=ES l s1 s' h' fun d hd=>hl d (by simp[hd]);rcases Tg hd hc'.1 hv with⟨_,rfl,_,_⟩ | ⟨_,ob,_,fQ,rfl,_⟩
   ·refine⟨h1,h2,fun x o hx=>?_⟩
    rcases h3 x o hx with h | ⟨d',hd',h⟩
    ·exact .inl h
    ·exact .inr ⟨d',by simp[hd'],h⟩
   ·refine⟨h1,h2,fun x o hx=>?_⟩
    rcases h3 x o hx with h | ⟨d',hd',h⟩
    ·have h':setH s.h (ak+d.i) ob x=some o:=h
     rw[ik] at h';split at h'
     ·rename_i e;cases h';exact .inr ⟨d,by simp,hc'.1,hc'.2,e,fQ⟩
     ·exact .inl h'
    ·exact .inr ⟨d',by simp[hd'],h⟩
  ·obtain⟨h1,h2,h3⟩:=ES l s s' h' fun d hd=>hl d (by simp[hd])
   refine⟨h1,h2,fun x o hx=>?_⟩;rcases h3 x o hx with h | ⟨d',hd',h⟩
   ·exact .inl h
   ·exact .inr ⟨d',by simp[hd'],h⟩
structure Ti (P:Program) (nt:Nat) (ops:Array Oper) (ms es0:List Nat) (wr:Nat→Option Nat) (call:Cl) (e0:En) (ak:Nat) (ds:List Dp) (es:List Nat) (k:Nat) (aC:En) (sF:S) (Sx Jx:Nat→S):Prop where
 last:Jx (k+es.length)=sF
 read:∀ j,k≤j→j≤k+es.length→∀ d ∈ ds,d.c=0→d.lo≤j→j≤d.hi→∃ v s2,aC d.i=some v∧ko call d.st (dS wr d.m aC e0) (Sx j) (ak+d.i)=some (v,s2)
 free:∀ j,k≤j→j≤k+es.length→∀ d ∈ ds,d.c=1→j≤d.hi→(Sx j).h (ak+d.i)=none
 join:∀ j,k≤j→j≤k+es.length→(Jx j).c=(Sx j).c∧(Jx j).ds=(Sx j).ds∧∀ x o,(Jx j).h x=some o→(Sx j).h x=some o∨∃ d ∈ ds,d.c=1∧d.hi=j∧x=ak+d.i∧oF wr call e0 aC ak d=some o
 lays:∀ d ∈ ds,d.c=1→k≤d.lo→d.lo≤k+es.length→∃ v s1 s2,aC d.i=some v∧ko call d.st (dS wr d.m aC e0) s1 (ak+d.i)=some (v,s2)
 Tj:∀ q e,es[q]?=some e→∃ d ∈ ds,d.i=e∧∃ v,aC e=some v∧ko call d.st (dS wr d.m aC e0) (Jx (k+q)) (ak+e)=some (v,Sx (k+q+1))
theorem Tm {n:Nat}{ds:List Dp}{aC:En}{sF:S}(hds:∀ d ∈ ds,(∃ o,pK P nt ops ms es0 d o)∧∀ j,tb d.m j=true→j<n)(hat:∀ e d,vN ds e=some d→d ∈ ds∧d.i=e)(hlo:∀ d ∈ ds,d.lo≤d.hi) :
  ∀ (es:List Nat) (k:Nat) (vs:En) (s:S),stages n wr call e0 ak ds es k vs s=some (aC,sF)→(∀ d ∈ ds,d.c≠2→d.lo<k→q8 d.m vs∧∃ v,vs d.i=some v) →
   ∃ Sx Jx:Nat→S,Sx k=s∧jo vs aC∧Ti P nt ops ms es0 wr call e0 ak ds es k aC sF Sx Jx:=by
 intro es;induction es with
 | nil =>
  intro k vs s h hI;have h':(oB (ow n wr call e0 ak k s ds vs) fun vs=>aO (vM wr call e0 vs ak k s ds) (oB (qV wr call e0 vs ak k ds s) fun s=>some (vs,s)))=some (aC,sF):=h;obtain⟨vs1,h1,h'⟩:=aj.1 h';rw[aN] at h';obtain⟨h2,h'⟩:=h';obtain⟨s1,h3,h'⟩:=aj.1 h';cases h';obtain⟨a1,a2⟩:=BM ds vs aC h1 fun d hd=>(hds d hd).2;have c1:=Kl ds h2;have j1:=ES ds s sF h3 fun d hd=>(hds d hd).1;refine⟨fun _=>s,fun _=>sF,rfl,a1,rfl,?_,?_,?_,?_,?_⟩
  ·intro j hj1 hj2 d hd hc hlo hhi
   have hjk:j=k:=by simp at hj2;omega
   subst hjk;rcases Nat.lt_or_ge d.lo j with hl | hl
   ·obtain⟨s2,hs2⟩:=(c1 d hd).1 hc hl hhi
    obtain⟨_,v,hv⟩:=hI d hd (by omega) hl;have hv':=a1 _ _ hv;rw[hv'] at hs2;exact⟨v,s2,hv',hs2⟩
   ·obtain⟨_,v,s2,hv,he⟩:=a2 d hd (by omega) (by omega)
    exact⟨v,s2,hv,he⟩
  ·intro j hj1 hj2 d hd hc hhi
   have hjk:j=k:=by simp at hj2;omega
   subst hjk;exact (c1 d hd).2 hc hhi
  ·intro j hj1 hj2
   have hjk:j=k:=by simp at hj2;omega
   subst hjk;exact j1
  ·intro d hd hc h5 h6
   obtain⟨_,v,s2,hv,he⟩:=a2 d hd (by omega) (by simp at h6;omega);exact⟨v,s,s2,hv,he⟩
  ·intro q e he;simp at he
 | cons e es ih =>
  intro k vs s h hI;have h':(oB (ow n wr call e0 ak k s ds vs) fun vs=>aO (vM wr call e0 vs ak k s ds) (oB (qV wr call e0 vs ak k ds s) fun s=>oB (vN ds e) fun d=>dB d fun _ t m _ _ _ =>
   aO (seen n m vs) (aO ((vs e).isNone) (lM (ko call t (dS wr m vs e0) s (Nat.add ak e)) fun v s'=>stages n wr call e0 ak ds es (Nat.succ k) (dE vs e v) s'))))=some (aC,sF):=h
  obtain⟨vs1,h1,h'⟩:=aj.1 h';rw[aN] at h';obtain⟨h2,h'⟩:=h';obtain⟨s1,h3,h'⟩:=aj.1 h';obtain⟨de,hde,h'⟩:=aj.1 h';rw[EO,aN,aN] at h';obtain⟨h4,h5,h'⟩:=h';obtain⟨⟨v,s2⟩,h6,h'⟩:=aj.1 h';rw[gQ] at h';obtain⟨iU,hdi⟩:=hat e de hde;obtain⟨a1,a2⟩:=BM ds vs vs1 h1 fun d hd=>(hds d hd).2;have c1:=Kl ds h2;have hn:vs1 e=none:=by simpa using h5
  have BN:jo vs1 (dE vs1 e v):=jo.set hn;obtain⟨Sx,Jx,hS0,hsub2,hst⟩:=ih (k+1) (dE vs1 e v) s2 h' (by
   intro d hd hc hlo;rcases Nat.lt_or_ge d.lo k with hl | hl
   ·obtain⟨p1,u,p2⟩:=hI d hd hc hl
    exact⟨p1.mono (a1.trans BN),u,BN _ _ (a1 _ _ p2)⟩
   ·obtain⟨p1,u,_,p2,_⟩:=a2 d hd hc (by omega)
    exact⟨p1.mono BN,u,BN _ _ p2⟩)
  have BP:jo vs1 aC:=BN.trans hsub2;have ET:∀ d:Dp,q8 d.m vs1→dS wr d.m vs1 e0=dS wr d.m aC e0:=fun d hd=>Tf hd BP;have Tn:∀ d ∈ ds,d.c≠2→d.lo≤k→q8 d.m vs1∧∃ u,vs1 d.i=some u:=by
   intro d hd hc hlo;rcases Nat.lt_or_ge d.lo k with hl | hl
   ·obtain⟨p1,u,p2⟩:=hI d hd hc hl
    exact⟨p1.mono a1,u,a1 _ _ p2⟩
   ·obtain⟨p1,u,_,p2,_⟩:=a2 d hd hc (by omega)
    exact⟨p1,u,p2⟩
  have j0:=ES ds s s1 h3 fun d hd=>(hds d hd).1;have ael:∀ d ∈ ds,d.c=1→d.lo≤k→oF wr call e0 vs1 ak d=oF wr call e0 aC ak d:=by
   intro d hd hc hlo;unfold oF;rw[ET d (Tn d hd (by omega) hlo).1]
  have aem:∀ d ∈ ds,d.hi=k→d.c=1→d.lo≤k:=fun d hd h _=>h ▸ hlo d hd;refine⟨fun j=>if j=k then s else Sx j,fun j=>if j=k then s1 else Jx j,by simp,a1.trans BP,?_,?_,?_,?_,?_,?_⟩
  ·have:=hst.last
   simp only[List.length_cons];rw[if_neg (by omega),← this];congr 1;omega
  ·intro j hj1 hj2 d hd hc hlo hhi
   simp only[List.length_cons] at hj2;by_cases hjk:j=k
   ·subst hjk
    rw[if_pos rfl];obtain⟨p1,u,p2⟩:=Tn d hd (by omega) hlo;rw[← ET d p1];rcases Nat.lt_or_ge d.lo j with hl | hl
    ·obtain⟨s3,hs3⟩:=(c1 d hd).1 hc hl hhi
     rw[p2] at hs3;exact⟨u,s3,BP _ _ p2,hs3⟩
    ·obtain⟨_,u',s3,hv,he⟩:=a2 d hd (by omega) (by omega)
     exact⟨u',s3,BP _ _ hv,he⟩
   ·rw[if_neg hjk]
    exact hst.read j (by omega) (by omega) d hd hc hlo hhi
  ·intro j hj1 hj2 d hd hc hhi
   simp only[List.length_cons] at hj2;by_cases hjk:j=k
   ·subst hjk
    rw[if_pos rfl];exact (c1 d hd).2 hc hhi
   ·rw[if_neg hjk]
    exact hst.free j (by omega) (by omega) d hd hc hhi
  ·intro j hj1 hj2
   simp only[List.length_cons] at hj2;by_cases hjk:j=k
   ·subst hjk
    rw[if_pos rfl,if_pos rfl];refine⟨j0.1,j0.2.1,fun x o hx=>?_⟩;rcases j0.2.2 x o hx with hh | ⟨d,hd,p1,p2,p3,p4⟩
    ·exact .inl hh
    ·exact .inr ⟨d,hd,p1,p2,p3,by rw[← ael d hd p1 (aem d hd p2 p1)];exact p4⟩
   ·rw[if_neg hjk,if_neg hjk]
    exact hst.join j (by omega) (by omega)
  ·intro d hd hc h7 h8
   simp only[List.length_cons] at h8;rcases Nat.lt_or_ge k d.lo with hl | hl
   ·exact hst.lays d hd hc (by omega) (by omega)
   ·obtain⟨p1,u,s3,hv,he⟩:=a2 d hd (by omega) (by omega)
    rw[ET d p1] at he;exact⟨u,s,s3,BP _ _ hv,he⟩
  ·intro q e' he'
   cases q with
   | zero =>
    simp at he';subst he';refine⟨de,iU,hdi,v,hsub2 _ _ (by rw[Bh,if_pos rfl]),?_⟩;have hsP:=EP h4 (hds de iU).2;rw[← ET de hsP];simp only[Nat.add_zero];rw[if_pos trivial,if_neg (by omega),hS0];exact h6
   | succ q =>
    simp at he';obtain⟨d,hd,p1,u,p2,p3⟩:=hst.Tj q e' he';refine⟨d,hd,p1,u,p2,?_⟩;rw[if_neg (by omega),if_neg (by omega)];rw[show k+(q+1)=k+1+q by omega];exact p3
end
end Xe
namespace Xe
variable {P:Program}
theorem Tp {ops:List Oper}:∀ {i e:Nat},e ∈ mD ops i ↔ ∃ j o,e=i+j∧ops[j]?=some o∧cls o.op=2:=by
 induction ops with
 | nil=>intro i e;simp[mD]
 | cons o l ih =>
  intro i e;have e1:mD (o :: l) i=bB (Nat.beq (cls o.op) 2) (i :: mD l (i+1)) (mD l (i+1)):=rfl;rw[e1,bT,dV];constructor
  ·intro h
   split at h
   ·rename_i hc
    rcases List.mem_cons.1 h with rfl | h
    ·exact⟨0,o,by omega,rfl,by simpa using hc⟩
    ·obtain⟨j,o',h1,h2,h3⟩:=ih.1 h
     exact⟨j+1,o',by omega,by simpa using h2,h3⟩
   ·obtain⟨j,o',h1,h2,h3⟩:=ih.1 h
    exact⟨j+1,o',by omega,by simpa using h2,h3⟩
  ·rintro⟨j,o',h1,h2,h3⟩
   cases j with
   | zero =>
    simp at h2;subst h2;rw[if_pos (by simpa using h3)];simp;omega
   | succ j =>
    simp at h2;have:=ih.2 ⟨j,o',(by omega:e=i+1+j),h2,h3⟩;split
    ·exact List.mem_cons_of_mem _ this
    ·exact this
theorem yu {t:Nat}:∀ {ops:List Oper} {i j:Nat},writer t ops i=some j→∃ q o,j=i+q∧ops[q]?=some o∧o.dst=some t
 | [],_,_,h=>by cases h
 | o :: l,i,j,h=>by
  have h':bB (vL o.dst (some t)) (some i) (writer t l (i+1))=some j:=h;rw[bT] at h';split at h'
  ·rename_i hc;cases h';exact⟨0,o,rfl,rfl,Td hc⟩
  ·obtain⟨q,o',h1,h2,h3⟩:=yu h'
   exact⟨q+1,o',by omega,by simpa using h2,h3⟩
theorem Tq {t:Nat}:∀ {ops:List Oper} {i:Nat},writer t ops i=none→∀ (q:Nat) o,ops[q]?=some o→o.dst≠some t
 | [],_,_,q,o,ho=>by simp at ho
 | o :: l,i,h,q,o',ho=>by
  have h':bB (vL o.dst (some t)) (some i) (writer t l (i+1))=none:=h;rw[bT] at h';split at h'
  ·cases h'
  ·rename_i hc
   cases q with
   | zero=>simp at ho;subst ho;intro hd;rw[hd,S9] at hc;exact hc rfl
   | succ q=>simp at ho;exact Tq h' q o' ho
theorem BQ {ms:List Nat}:∀ {es:List Nat},xZ ms es=true→∀ (a b x y:Nat),a<b→es[a]?=some x→es[b]?=some y→tb (aH ms y) x=true
 | [],_,a,b,x,y,_,hx,_=>by simp at hx
 | e :: l,h,a,b,x,y,hab,hx,hy=>by
  have h':(l.all (fun f=>tb (aH ms f) e) && xZ ms l)=true:=h;rw[Bool.and_eq_true,List.all_eq_true] at h';cases b with
  | zero=>omega
  | succ b =>
   simp at hy;cases a with
   | zero=>simp at hx;subst hx;exact h'.1 y (List.mem_of_getElem? hy)
   | succ a=>simp at hx;exact BQ h'.2 a b x y (by omega) hx hy
theorem aen {φ:Ph}{e:En}{a:Act}{ops:Array Oper}{o:Oper}{g:Option (Nat × Bool)}(hE:∀ d,d ∈ o.looksAt ops→V φ (ic (e d)) (a.tmps.getD d undef))(hg:guardOf ops.toList o=some g):Region.wanted o (yielded ops a.tmps)=want g e:=by
 unfold guardOf at hg;unfold Region.wanted;split at hg
 ·rename_i h0;cases hg;rw[h0];rfl
 ·rename_i j b h0
  obtain⟨og,ho,hg⟩:=aj.1 hg;obtain⟨d,hd,hg⟩:=aj.1 hg;cases hg;rw[kv] at ho;have ho':ops[j]?=some og:=by simpa using ho
  have hv:=hE d (by unfold Oper.looksAt;rw[h0];simp[ho',hd]);rw[h0];show (yielded ops a.tmps j==some b)=Bd (ic (e d)) b
  rw[Bool.eq_iff_iff,SF,beq_iff_eq];unfold yielded;simp only[ho',Option.bind_some,hd];constructor
  ·intro h
   split at h
   ·rename_i x hx
    cases h;rw[Array.getD_eq_getD_getElem?,hx] at hv;exact SE hv
   ·cases h
  ·intro h
   rw[h] at hv;have hv':=Bt hv;rw[Array.getD_eq_getD_getElem?] at hv';cases hx:a.tmps[d]? with
   | none=>rw[hx] at hv';cases hv'
   | some y =>
    rw[hx] at hv';simp only[Option.getD_some] at hv';subst hv';rfl
theorem Tt (hN:jm P){call:Cl}(hC:iK P call){o:Oper}{f:F}(hf:comp P o.op=some f)(hcls:cls o.op=2){e:En}{s s':S}{nm:Nat}{v:Value}
  (h:f call e s nm=some (v,s')) {φ:Ph} {a:Act} {w:World} (hE:pG φ e a o.op) (hS:dG φ s w) (hdf:L (DR φ) s.ds a.defers) (K:Act→World→Prop) (Q:Exit→Act→World→Prop)
  (hK:∀ φ' v' w' df,V φ' v v'→Post φ s w φ' s' w'→L (DR φ') s'.ds df→K (({ a with defers:=df }:Act).put o.dst v') w'):o.wp P a w K Q:=by
 rcases vZ hf with⟨h0,_⟩ | ⟨h0,_⟩ | ⟨_,wh | ⟨c,g,hop,wm,rfl⟩ | ⟨c,g,hop,wm,rfl⟩⟩
 ·rw[hcls] at h0;cases h0
 ·rw[hcls] at h0;cases h0
 ·obtain⟨hds,wh⟩:=wh call e s nm v s' h
  obtain⟨φ',v',w',hv,hP,hrun⟩:=wh φ a w hE hS;have key:=hK φ' v' w' a.defers hv hP (by rw[hds];exact hdf.mono fun _ _=>DR.mono hP.ext.sub);unfold Oper.wp;rcases hrun o rfl with hr | ⟨rfl,hr⟩<;>rw[hr]<;>exact key
 ·obtain⟨⟨g',as'⟩,hcl,h⟩:=aj.1 h
  rw[gQ] at h;obtain⟨hds,hbd,hcall⟩:=hC g' as' s v s' h;rw[hop] at hE;obtain⟨cap',kV,hres,hL⟩:=EJ wm hE hcl o.type;have jl:(execOp a.eval o).run P w=.ok (.enter g' (kV++cap')) w:=by
   simp only[execOp,hop,hres];simp[invoke,EI hN hbd]
  unfold Oper.wp;rw[jl];refine Calls.mono (hcall φ w (kV++cap') hL hS) ?_;rintro e1 w' ⟨φ',v',rfl,hv,hP⟩;exact hK φ' v' w' a.defers hv hP (by rw[hds];exact hdf.mono fun _ _=>DR.mono hP.ext.sub)
 ·obtain⟨⟨g',as'⟩,hcl,h⟩:=aj.1 h
  rw[jN] at h;cases h;rw[hop] at hE;obtain⟨cap',kV,hres,hL⟩:=EJ (c:=c) wm hE hcl o.type;have jl:(execOp a.eval o).run P w=.ok (.defer { target:=.fn (.func g') cap',args:=kV }) w:=by
   simp only[execOp,hop,hres];rfl
  unfold Oper.wp;rw[jl];exact hK φ undef w ({ target:=.fn (.func g') cap',args:=kV } :: a.defers) (V.undef φ) ⟨⟨hS.rel,hS.fr⟩,Ext.refl φ _ w,Nat.le_refl _,fun _ h0 h1=>(h1 h0).elim,fun _ hx=>.inl hx⟩ ⟨⟨cap',rfl,hL⟩,hdf⟩
noncomputable def ky (ops:Array Oper):Nat→Option Nat:=fun t=>writer t ops.toList 0
structure Ctx (P:Program) (nt:Nat) (ops:Array Oper) (ms es:List Nat) (call:Cl) (e0:En) (ak:Nat) (ds:List Dp) (aC:En) (sF:S) (Sx Jx:Nat→S):Prop where
 st:SY ops ms
 edge:∀ (i:Nat) (o:Oper),ops[i]?=some o→∀ e ∈ o.after,Region.binds .any e=true→tb (aH ms i) e.on=true
 EU:xZ ms es=true
 EW:∀ e,e ∈ es ↔ ∃ o,ops[e]?=some o∧cls o.op=2
 yt:∀ d ∈ ds,∃ o,pK P nt ops ms es d o
 dat:∀ i o,ops[i]?=some o→∃ d ∈ ds,d.i=i
 EX:∀ d ∈ ds,∀ d' ∈ ds,d.i=d'.i→d=d'
 all:∀ i,i<ops.size→∃ v,aC i=some v
 q9:Ti P nt ops ms es (ky ops) call e0 ak ds es 0 aC sF Sx Jx
def on (listed:Array Bool)(j:Nat):Bool:=listed.getD j false
noncomputable def jq (ops:Array Oper) (e0 aC:En) (listed:Array Bool):En:=fun t=>match writer t ops.toList 0 with
 | none=>e0 t
 | some j=>if on listed j=true then aC j else e0 t
structure Inv (ops:Array Oper) (nt:Nat) (ms es:List Nat) (call:Cl) (e0:En) (ak:Nat) (ds:List Dp) (aC:En) (Sx:Nat→S) (φ0:Ph) (h0:Hp) (w0:World) (listed:Array Bool) (k:Nat) (a:Act) (w:World) (φ:Ph) (h:Hp):Prop where
 sz:listed.size=ops.size
 down:∀ j,on listed j=true→∀ i,tb (aH ms j) i=true→on listed i=true
 cnt:countB (on listed) es=k
 rel:Rel φ h w
 hA:∀ x o,(Sx k).h x=some o→iQ o→h x=some o
 hB:∀ d ∈ ds,d.c=1→on listed d.i=true→k≤d.hi→∀ o,oF (ky ops) call e0 aC ak d=some o→h (ak+d.i)=some o
 wz:ak+ops.size≤(Sx k).c
 fr:∀ x,(Sx k).c≤x→φ x=none
 kept:∀ i,i<ops.size→on listed i=false→φ (ak+i)=none
 dF:a.tmps.size=nt
 env:∀ t,V φ (ic (jq ops e0 aC listed t)) (a.tmps.getD t undef)
 iT:L (DR φ) (Sx k).ds a.defers
 ext:Ext φ0 h0 w0 φ w
 new:∀ x,φ0 x=none→φ x≠none→ak≤x
 dx:∀ x,live h x→live h0 x∨φ0 x=none
end Xe
end Go.Proofs.YtfcpglhpolpdcaaGreatDoor
