/- Whose boxes are,plainly. -/
import Derived.Test.YtfcpglhpolpdcaaGreatDoorM21
namespace Go.Proofs.YtfcpglhpolpdcaaGreatDoor
open Go.RowKit
namespace Vf
def comes (m:Md)(i:Nat)(q:Lk):Bool:=decide (1≤cnt q (ik m 61 (i:Int) []))
def tc (m:Md)(q:Lk)(k:Nat):Nat:=(List.range k).countP (fun (i:Nat)=>is m 4 (i:Int) && comes m i q)
theorem O8 (m:Md)(q:Lk)(k:Nat):tc m q (k+1)=tc m q k+if (is m 4 (k:Int) && comes m k q)=true then 1 else 0:=by
 unfold tc;rw[List.range_succ,List.countP_append,List.countP_singleton]
theorem ZL (m:Md)(q:Lk)(k:Nat):tc m q k≤k:=by
 have:=List.countP_le_length (p:=fun (i:Nat)=>is m 4 (i:Int) && comes m i q) (l:=List.range k);rw[List.length_range] at this;exact this
def lU (m:Md)(n:Nat):Int:=if 1<tc m (26,(n:Int)) m.units.length∨1<tc m (27,(n:Int)) m.units.length then 8 else 0
def xM (m:Md):Int × Nat:=cK (lU m) (List.range m.boxes.length) 0
theorem ZM:fA []=60:=by
 unfold fA;rw[List.countP_eq_length.2 (fun k _=>by simp[cnt,idx]),ZJ]
end Vf
def dN (w:World)(T:Nat)(f:Lk→Int):Prop:=∃ l,eF w T l∧Vf.Wl l∧∀ q,Vf.cnt q l=f q
theorem dN.keep {w w':World}{T:Nat}{f:Lk→Int}(h:dN w T f)(hk:w'.heap[T]?=w.heap[T]?):dN w' T f:=by
 obtain⟨l,h1,h2⟩:=h;exact⟨l,hk.trans h1,h2⟩
theorem dN.lt {w:World}{T:Nat}{f:Lk→Int}(h:dN w T f):T<w.heap.size:=by
 obtain⟨l,h1,_⟩:=h;exact lt_of_block h1
def told (G:LL)(seen:List Nat)(q:Lk):Int:=if Vf.idx q G ∈ seen then 1 else 0
theorem ZN {G:LL}(hG:Vf.Wl G){seen:List Nat}{i:Nat}{p:Lk × Int}(hp:G[i]?=some p)(hi:i ∉ seen)(q:Lk):told G (seen++[i]) q=told G seen q+if q=p.1 then 1 else 0:=by
 have hm:p ∈ G:=List.mem_of_getElem? hp;have hx:=Vf.uJ hG.nodup hm
 -- the key's first place is this one
 have hix:Vf.idx p.1 G=i:=by
  obtain⟨v,hv⟩:=Vf.rV hx.2;have hlt:=(List.getElem?_eq_some_iff.1 hp).1;have h1:(G.map (·.1))[Vf.idx p.1 G]?=some p.1:=by rw[List.getElem?_map,hv];rfl
  have h2:(G.map (·.1))[i]?=some p.1:=by rw[List.getElem?_map,hp];rfl
  exact (List.getElem?_inj (by simpa using hx.2) hG.nodup).1 (h1.trans h2.symm)
 unfold told;by_cases hq:q=p.1
 ·subst hq
  rw[hix,if_pos (by simp),if_neg hi,if_pos rfl];rfl
 ·rw[if_neg hq]
  have:Vf.idx q G≠i:=fun e=>by
   have hlt:=(List.getElem?_eq_some_iff.1 hp).1;obtain⟨v,hv⟩:=Vf.rV (k:=q) (l:=G) (by omega);rw[e,hp] at hv;cases hv;exact hq rfl
  simp[this]
theorem ZO {G:LL}(hG:Vf.Wl G){seen:List Nat}(h:∀ i,i<G.length→i ∈ seen)(h':∀ i ∈ seen,i<G.length)(q:Lk):told G seen q=if (decide (1≤Vf.cnt q G))=true then 1 else 0:=by
 unfold told;by_cases hc:Vf.idx q G<G.length
 ·rw[if_pos (h _ hc),if_pos (by simpa using (Vf.OV hG).1 hc)]
 ·rw[if_neg (fun hm=>hc (h' _ hm)),if_neg (by simpa using fun hc'=>hc ((Vf.OV hG).2 hc'))]
end Go.Proofs.YtfcpglhpolpdcaaGreatDoor
namespace Go.Proofs.YtfcpglhpolpdcaaGreatDoor
namespace Vf
def pE (c:Ins):Prop:=c.op=23∨c.op=26∨c.op=27∨c.op=29
structure Cl (m:Md) (l l':LL):Prop where
 mono:∀ q,1≤cnt q l→1≤cnt q l'
 done:∀ op a,op=23∨op=29→¬ 1≤cnt (op,a) l→1≤cnt (op,a) l'→∀ c ∈ (unit m a).code,pE c→1≤cnt (c.op,c.a) l'
theorem Cl.refl (m:Md)(l:LL):Cl m l l:=⟨fun _ h=>h,fun _ _ _ hn hy=>absurd hy hn⟩
theorem Cl.trans {m:Md}{l l1 l2:LL}(h:Cl m l l1)(k:Cl m l1 l2):Cl m l l2:=⟨fun q hq=>k.mono q (h.mono q hq),fun op a ho hn hy c hc hk=>by
 by_cases h1:1≤cnt (op,a) l1
 ·exact k.mono _ (h.done op a ho hn h1 c hc hk)
 ·exact k.done op a ho h1 hy c hc hk⟩
theorem Ii {l:LL}(hl:Wl l)(k:Lk):1≤cnt k (bump k l):=by
 rw[rW,if_pos rfl];have:=xL hl k;omega
theorem Ij {l:LL}(hl:Wl l)(k q:Lk)(h:1≤cnt q l):1≤cnt q (bump k l):=by
 rw[rW];split
 ·have:=xL hl k;omega
 ·exact h
theorem DL {l:LL}{k q:Lk}(h:1≤cnt q (bump k l))(hn:¬ 1≤cnt q l):q=k:=by
 rw[rW] at h;split at h
 ·assumption
 ·exact absurd h hn
theorem O9 {m:Md}{u:Un}{c:Ins}(hf:bE m u c=0)(h:c.op=23∨c.op=29):∃ kd,kd≠4∧is m kd c.a=true:=by
 obtain⟨_,_,hrg⟩:=qi hf;rcases h with h | h
 ·refine⟨2,by decide,?_⟩
  rw[← hrg];unfold ranged;rw[if_neg (by omega),if_neg (by omega),if_neg (by omega),if_pos h]
 ·refine⟨3,by decide,?_⟩
  rw[← hrg];unfold ranged;rw[if_neg (by omega),if_neg (by omega),if_neg (by omega),if_neg (by omega),if_pos h]
theorem ZP {m:Md}{u:Un}{c:Ins}(hR:Rt m)(hf:bE m u c=0)(h:c.op=23∨c.op=29):(c.op,c.a) ∈ univ:=by
 obtain⟨kd,_,hi⟩:=O9 hf h;obtain⟨x,h3,_,h4⟩:=kN hi;have:=(List.getElem?_eq_some_iff.1 h3).1;have h5:=hR.units;obtain⟨k,hk⟩:∃ k:Nat,c.a=k:=⟨c.a.toNat,by omega⟩;rw[hk];exact OZ h (by omega)
theorem ZQ {m:Md}{u:Un}{c:Ins}{f:Nat}{l:LL}(hR:Rt m)(hf:bE m u c=0)(hl:Wl l)(hm:fA l≤f)
  (ih:∀ n l,Wl l→fA l+1≤f→Cl m l (ik m f n l)∧∀ c ∈ (unit m n).code,pE c→1≤cnt (c.op,c.a) (ik m f n l)):Cl m l (nA (ik m f) c l)∧(pE c→1≤cnt (c.op,c.a) (nA (ik m f) c l)):=by
 unfold nA;by_cases h1:c.op=26∨c.op=27
 ·rw[if_pos h1]
  refine⟨⟨fun q hq=>Ij hl _ q hq,fun op a ho hn hy=>?_⟩,fun _=>Ii hl _⟩;have e:=DL hy hn;simp only[Prod.mk.injEq] at e;omega
 ·rw[if_neg h1]
  by_cases h2:c.op=23∨c.op=29
  ·rw[if_pos h2]
   by_cases h0:cnt (c.op,c.a) l=0
   ·rw[if_pos h0]
    have hn:=O1 hl (ZP hR hf h2) h0;obtain⟨hC,hB⟩:=ih c.a (bump (c.op,c.a) l) (hl.bump _) (by omega);refine⟨⟨fun q hq=>hC.mono q (Ij hl _ q hq),fun op a ho hno hy=>?_⟩,fun _=>hC.mono _ (Ii hl _)⟩;by_cases hb:1≤cnt (op,a) (bump (c.op,c.a) l)
    ·have e:=DL hb hno
     simp only[Prod.mk.injEq] at e;rw[e.2];exact hB
    ·exact hC.done op a ho hb hy
   ·rw[if_neg h0]
    have hp:1≤cnt (c.op,c.a) l:=by have:=xL hl (c.op,c.a);omega
    refine⟨⟨fun q hq=>Ij hl _ q hq,fun op a ho hno hy=>?_⟩,fun _=>Ii hl _⟩;have e:=DL hy hno;rw[e] at hno;exact absurd hp hno
  ·rw[if_neg h2]
   refine⟨Cl.refl m l,fun hk=>?_⟩;unfold pE at hk;omega
theorem Pb {m:Md}{u:Un}{f:Nat}(hR:Rt m)(ih:∀ n l,Wl l→fA l+1≤f→Cl m l (ik m f n l)∧∀ c ∈ (unit m n).code,pE c→1≤cnt (c.op,c.a) (ik m f n l)):∀ (cs:List Ins) (l:LL),(∀ c ∈ cs,bE m u c=0)→Wl l→fA l≤f→Cl m l (oD (ik m f) cs l)∧∀ c ∈ cs,pE c→1≤cnt (c.op,c.a) (oD (ik m f) cs l)
 | [],l,_,_,_=>⟨Cl.refl m l,fun c hc=>by cases hc⟩
 | c :: cs,l,hf,hl,hm=>by
  have h1:=ZQ hR (hf c List.mem_cons_self) hl hm ih;have hg:=O3 hR.units (hf c List.mem_cons_self) hl (O7 hR f);have h2:=Pb hR ih cs (nA (ik m f) c l) (fun c hc=>hf c (List.mem_cons_of_mem _ hc)) hg.wl (Nat.le_trans hg.fA hm);have e:oD (ik m f) (c :: cs) l=oD (ik m f) cs (nA (ik m f) c l):=rfl;rw[e];refine⟨h1.1.trans h2.1,fun c' hc' hk=>?_⟩;rcases List.mem_cons.1 hc' with rfl | h3
  ·exact h2.1.mono _ (h1.2 hk)
  ·exact h2.2 c' h3 hk
theorem Pd {m:Md}(hR:Rt m):∀ (f:Nat) (n:Int) (l:LL),Wl l→fA l+1≤f→Cl m l (ik m f n l)∧∀ c ∈ (unit m n).code,pE c→1≤cnt (c.op,c.a) (ik m f n l)
 | 0,_,_,_,h=>by omega
 | f+1,n,l,hl,h=>Pb (u:=unit m n) hR (Pd hR f) (unit m n).code l (O6 hR n).2 hl (by omega)
inductive Reach (m:Md):Int→Int→Prop
 | here (n:Int):Reach m n n
 | step {n k:Int} {c:Ins}:Reach m n k→c ∈ (unit m k).code→c.op=23∨c.op=29→Reach m n c.a
theorem Reach.head {m:Md}{n k:Int}{c:Ins}(hc:c ∈ (unit m n).code)(ho:c.op=23∨c.op=29)(h:Reach m c.a k):Reach m n k:=by
 induction h with
 | here=>exact .step (.here n) hc ho
 | step _ h2 h3 ih=>exact .step ih h2 h3
theorem Pe {m:Md}(q:Lk):∀ (f:Nat) (n:Int) (l:LL),1≤cnt q (ik m f n l)→1≤cnt q l∨∃ k,Reach m n k∧∃ c ∈ (unit m k).code,(c.op,c.a)=q
 | 0,_,_,h=>.inl h
 | f+1,n,l,h=>by
  have key:∀ (cs:List Ins) (l:LL),(∀ c ∈ cs,c ∈ (unit m n).code)→1≤cnt q (oD (ik m f) cs l)→1≤cnt q l∨∃ k,Reach m n k∧∃ c ∈ (unit m k).code,(c.op,c.a)=q:=by
   intro cs;induction cs with
   | nil=>intro l _ h;exact .inl h
   | cons c cs ih =>
    intro l hcs h;have hc:=hcs c List.mem_cons_self;rcases ih (nA (ik m f) c l) (fun c hc=>hcs c (List.mem_cons_of_mem _ hc)) h with h1 | h1
    ·have hb:1≤cnt q (bump (c.op,c.a) l)→1≤cnt q l∨∃ k,Reach m n k∧∃ c ∈ (unit m k).code,(c.op,c.a)=q:=fun hb=>by
      by_cases hq:1≤cnt q l
      ·exact .inl hq
      ·exact .inr ⟨n,.here n,c,hc,(DL hb hq).symm⟩
     unfold nA at h1;split at h1
     ·exact hb h1
     ·split at h1
      ·rename_i h2
       split at h1
       ·rcases Pe q f c.a _ h1 with h3 | ⟨k,h3,h4⟩
        ·exact hb h3
        ·exact .inr ⟨k,Reach.head hc h2 h3,h4⟩
       ·exact hb h1
      ·exact .inl h1
    ·exact .inr h1
  exact key _ l (fun c hc=>hc) h
theorem Pf {m:Md}(hR:Rt m)(i:Nat){q:Lk}(hq:q.1=26∨q.1=27):comes m i q=true ↔ ∃ k,Reach m (i:Int) k∧∃ c ∈ (unit m k).code,(c.op,c.a)=q:=by
 unfold comes;rw[decide_eq_true_iff];constructor
 ·intro h
  rcases Pe q 61 (i:Int) [] h with h1 | h1
  ·exfalso
   simp[cnt,idx] at h1
  ·exact h1
 ·rintro⟨k,hk,c,hc,rfl⟩
  obtain⟨hC,hB⟩:=Pd hR 61 (i:Int) [] Wl.nil (by rw[ZM];omega);have all:∀ k,Reach m (i:Int) k→∀ c ∈ (unit m k).code,pE c→1≤cnt (c.op,c.a) (ik m 61 (i:Int) []):=by
   intro k hk;induction hk with
   | here=>exact hB
   | step _ h2 h3 ih =>
    refine hC.done _ _ h3 (by simp[cnt,idx]) (ih _ h2 ?_);unfold pE;omega
  exact all k hk c hc (by unfold pE;simp at hq;omega)
end Vf
namespace Vf
def qJ (c:Ins):Prop:=c.op=26∨c.op=27
def pF (c:Ins):Prop:=c.op=23∨c.op=29
structure fQ (m:Md) (n i j:Nat) (R:List Nat) (ts:List Lk) (f:Int→Int):Prop where
 nodup:R.Nodup
 lt:∀ a ∈ R,a<m.units.length
 reach:∀ a ∈ R,Reach m (n:Int) (a:Int)
 head:n ∈ R
 met:∀ a:Nat,0≤f a∧f a≤1+4000 * i+j∧(1≤f a ↔ a ∈ R)
 done:∀ (p k x:Nat) (c:Ins),R[p]?=some k→(unit m (k:Int)).code[x]?=some c→(p<i∨p=i∧x<j)→(pF c→∃ a ∈ R,c.a=(a:Int))∧(qJ c→(c.op,c.a) ∈ ts)
 told:∀ q ∈ ts,(q.1=26∨q.1=27)∧∃ k ∈ R,∃ c ∈ (unit m (k:Int)).code,(c.op,c.a)=q
 few:ts.length≤4000 * i+j
theorem fQ.start {m:Md}{n:Nat}(hn:n<m.units.length):fQ m n 0 0 [n] [] (fun a=>if a=(n:Int) then 1 else 0) where
 nodup:=by simp
 lt:=fun a ha=>by simp at ha;omega
 reach:=fun a ha=>by simp at ha;subst ha;exact .here _
 head:=by simp
 met:=fun a=>by
  by_cases h:a=n
  ·subst h;simp
  ·have e:¬ (a:Int)=(n:Int):=by omega
   simp[h,e]
 done:=fun p k x c _ _ h=>by omega
 told:=fun q hq=>by cases hq
 few:=by simp
theorem fQ.len {m:Md}{n i j:Nat}{R:List Nat}{ts:List Lk}{f:Int→Int}(h:fQ m n i j R ts f):R.length≤m.units.length:=by
 have:=List.Nodup.length_le_of_subset (l₂:=List.range m.units.length) h.nodup (fun a ha=>List.mem_range.2 (h.lt a ha));simpa using this
theorem fQ.Pg {m:Md}{n i j k:Nat}{R:List Nat}{ts:List Lk}{f:Int→Int}{c:Ins}(h:fQ m n i j R ts f)(hk:R[i]?=some k)(hc:(unit m (k:Int)).code[j]?=some c)(ho:qJ c):fQ m n i (j+1) R (ts++[(c.op,c.a)]) f where
 nodup:=h.nodup
 lt:=h.lt
 reach:=h.reach
 head:=h.head
 met:=fun a=>by obtain⟨h1,h2,h3⟩:=h.met a;exact⟨h1,by omega,h3⟩
 done:=fun p k' x c' hp hx ho'=>by
  by_cases e:p=i∧x=j
  ·obtain⟨rfl,rfl⟩:=e
   rw[hk] at hp;cases hp;rw[hc] at hx;cases hx;refine⟨fun h1=>?_,fun _=>by simp⟩;unfold pF at h1;unfold qJ at ho;omega
  ·obtain⟨d1,d2⟩:=h.done p k' x c' hp hx (by omega)
   exact⟨d1,fun t=>List.mem_append_left _ (d2 t)⟩
 told:=fun q hq=>by
  rcases List.mem_append.1 hq with h1 | h1
  ·exact h.told q h1
  ·simp at h1
   subst h1;exact⟨ho,k,List.mem_of_getElem? hk,c,List.mem_of_getElem? hc,rfl⟩
 few:=by have:=h.few;simp;omega
theorem fQ.quiet {m:Md}{n i j k:Nat}{R:List Nat}{ts:List Lk}{f:Int→Int}{c:Ins}(h:fQ m n i j R ts f)(hk:R[i]?=some k)(hc:(unit m (k:Int)).code[j]?=some c)(ho:¬ qJ c)(ho2:¬ pF c):fQ m n i (j+1) R ts f where
 nodup:=h.nodup
 lt:=h.lt
 reach:=h.reach
 head:=h.head
 met:=fun a=>by obtain⟨h1,h2,h3⟩:=h.met a;exact⟨h1,by omega,h3⟩
 done:=fun p k' x c' hp hx ho'=>by
  by_cases e:p=i∧x=j
  ·obtain⟨rfl,rfl⟩:=e
   rw[hk] at hp;cases hp;rw[hc] at hx;cases hx;exact⟨fun h1=>absurd h1 ho2,fun h1=>absurd h1 ho⟩
  ·exact h.done p k' x c' hp hx (by omega)
 told:=h.told
 few:=by have:=h.few;omega
theorem fQ.old {m:Md}{n i j k a:Nat}{R:List Nat}{ts:List Lk}{f:Int→Int}{c:Ins}(h:fQ m n i j R ts f)(hk:R[i]?=some k)(hc:(unit m (k:Int)).code[j]?=some c)(ho:pF c)(ha:c.a=(a:Int))(hR:a ∈ R):fQ m n i (j+1) R ts (fun q=>if q=(a:Int) then f a+1 else f q) where
 nodup:=h.nodup
 lt:=h.lt
 reach:=h.reach
 head:=h.head
 met:=fun b=>by
  obtain⟨h1,h2,h3⟩:=h.met a;obtain⟨g1,g2,g3⟩:=h.met b;by_cases e:b=a
  ·subst e
   simp only[if_pos];exact⟨by omega,by omega,fun _=>hR,fun _=>by omega⟩
  ·have e':¬ (b:Int)=(a:Int):=by omega
   simp only[if_neg e'];exact⟨g1,by omega,g3⟩
 done:=fun p k' x c' hp hx ho'=>by
  by_cases e:p=i∧x=j
  ·obtain⟨rfl,rfl⟩:=e
   rw[hk] at hp;cases hp;rw[hc] at hx;cases hx;refine⟨fun _=>⟨a,hR,ha⟩,fun h1=>?_⟩;unfold pF at ho;unfold qJ at h1;omega
  ·exact h.done p k' x c' hp hx (by omega)
 told:=h.told
 few:=by have:=h.few;omega
theorem fQ.new {m:Md}{n i j k a:Nat}{R:List Nat}{ts:List Lk}{f:Int→Int}{c:Ins}(h:fQ m n i j R ts f)(hk:R[i]?=some k)(hc:(unit m (k:Int)).code[j]?=some c)(ho:pF c)(ha:c.a=(a:Int))(hm:a<m.units.length)(hR:a ∉ R):fQ m n i (j+1) (R++[a]) ts (fun q=>if q=(a:Int) then f a+1 else f q) where
 nodup:=by
  rw[List.nodup_append];exact⟨h.nodup,by simp,fun x hx y hy=>by simp at hy;subst hy;exact fun e=>hR (e ▸ hx)⟩
 lt:=fun b hb=>by
  rcases List.mem_append.1 hb with h1 | h1
  ·exact h.lt b h1
  ·simp at h1;omega
 reach:=fun b hb=>by
  rcases List.mem_append.1 hb with h1 | h1
  ·exact h.reach b h1
  ·simp at h1
   subst h1;rw[← ha];exact .step (h.reach k (List.mem_of_getElem? hk)) (List.mem_of_getElem? hc) ho
 head:=List.mem_append_left _ h.head
 met:=fun b=>by
  obtain⟨h1,h2,h3⟩:=h.met a;obtain⟨g1,g2,g3⟩:=h.met b;by_cases e:b=a
  ·subst e
   simp only[if_pos];exact⟨by omega,by omega,fun _=>by simp,fun _=>by omega⟩
  ·have e':¬ (b:Int)=(a:Int):=by omega
   simp only[if_neg e'];exact⟨g1,by omega,by rw[g3];simp[e]⟩
 done:=fun p k' x c' hp hx ho'=>by
  have hi:i<R.length:=(List.getElem?_eq_some_iff.1 hk).1;rw[List.getElem?_append_left (by omega)] at hp;by_cases e:p=i∧x=j
  ·obtain⟨rfl,rfl⟩:=e
   rw[hk] at hp;cases hp;rw[hc] at hx;cases hx;refine⟨fun _=>⟨a,by simp,ha⟩,fun h1=>?_⟩;unfold pF at ho;unfold qJ at h1;omega
  ·obtain⟨d1,d2⟩:=h.done p k' x c' hp hx (by omega)
   exact⟨fun t=>by obtain⟨b,hb,he⟩:=d1 t;exact⟨b,List.mem_append_left _ hb,he⟩,d2⟩
 told:=fun q hq=>by
  obtain⟨t1,k',t2,t3⟩:=h.told q hq;exact⟨t1,k',List.mem_append_left _ t2,t3⟩
 few:=by have:=h.few;omega
theorem fQ.next {m:Md}{n i j k:Nat}{R:List Nat}{ts:List Lk}{f:Int→Int}(h:fQ m n i j R ts f)(hk:R[i]?=some k)(hj:j=(unit m (k:Int)).code.length)(h4:j≤4000):fQ m n (i+1) 0 R ts f where
 nodup:=h.nodup
 lt:=h.lt
 reach:=h.reach
 head:=h.head
 met:=fun a=>by obtain⟨h1,h2,h3⟩:=h.met a;exact⟨h1,by omega,h3⟩
 done:=fun p k' x c' hp hx ho'=>by
  refine h.done p k' x c' hp hx ?_;by_cases e:p=i
  ·subst e
   rw[hk] at hp;cases hp;have:=(List.getElem?_eq_some_iff.1 hx).1;omega
  ·omega
 told:=h.told
 few:=by have:=h.few;omega
theorem fQ.all {m:Md}(hR:Rt m){n i:Nat}{R:List Nat}{ts:List Lk}{f:Int→Int}(h:fQ m n i 0 R ts f)(hi:R.length≤i)(q:Lk):q ∈ ts ↔ (q.1=26∨q.1=27)∧comes m n q=true:=by
 have hc:∀ k,Reach m (n:Int) k→∃ a ∈ R,k=(a:Int):=by
  intro k hk;induction hk with
  | here=>exact⟨n,h.head,rfl⟩
  | step _ h2 h3 ih =>
   obtain⟨a,ha,rfl⟩:=ih;obtain⟨p,hp⟩:=List.getElem?_of_mem ha;obtain⟨x,hx⟩:=List.getElem?_of_mem h2;exact (h.done p a x _ hp hx (.inl (by have:=(List.getElem?_eq_some_iff.1 hp).1;omega))).1 h3
 constructor
 ·intro hq
  obtain⟨t1,k,t2,t3⟩:=h.told q hq;exact⟨t1,(Pf hR n t1).2 ⟨k,h.reach k t2,t3⟩⟩
 ·rintro⟨h1,h2⟩
  obtain⟨k,hk,c,hc',rfl⟩:=(Pf hR n h1).1 h2;obtain⟨a,ha,rfl⟩:=hc k hk;obtain⟨p,hp⟩:=List.getElem?_of_mem ha;obtain⟨x,hx⟩:=List.getElem?_of_mem hc';exact (h.done p a x _ hp hx (.inl (by have:=(List.getElem?_eq_some_iff.1 hp).1;omega))).2 h1
end Vf
end Go.Proofs.YtfcpglhpolpdcaaGreatDoor
