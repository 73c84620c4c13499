/- What is gathered from a unit on is what one comes to from there,plainly . -/
import Derived.Test.YthffafaoobpedaaGreatDoorM21
import Derived.Test.YthffafaoobpedaaGreatDoorM1
import Derived.MapKept
import Derived.ArgAppend
namespace Go.Proofs.YthffafaoobpedaaGreatDoor
namespace Vf
def ou (c:Ins):Prop:=c.op=23∨c.op=26∨c.op=27∨c.op=29
structure Cl (m:Md) (l l':LL):Prop where
 mono:∀ q,1≤cnt q l→1≤cnt q l'
 done:∀ op a,op=23∨op=29→¬ 1≤cnt (op,a) l→1≤cnt (op,a) l'→∀ c ∈ (unit m a).code,ou c→1≤cnt (c.op,c.a) l'
theorem Cl.refl (m:Md)(l:LL):Cl m l l:=⟨fun _ h=>h,fun _ _ _ hn hy=>absurd hy hn⟩
theorem Cl.trans {m:Md}{l l1 l2:LL}(h:Cl m l l1)(k:Cl m l1 l2):Cl m l l2:=⟨fun q hq=>k.mono q (h.mono q hq),fun op a ho hn hy c hc hk=>by
 by_cases h1:1≤cnt (op,a) l1
 ·exact k.mono _ (h.done op a ho hn h1 c hc hk)
 ·exact k.done op a ho h1 hy c hc hk⟩
theorem EM {l:LL}(hl:Wl l)(k:Lk):1≤cnt k (bump k l):=by
 rw [qQ,if_pos rfl]
 have:=vL hl k
 omega
theorem EN {l:LL}(hl:Wl l)(k q:Lk)(h:1≤cnt q l):1≤cnt q (bump k l):=by
 rw [qQ]
 split
 ·have:=vL hl k;omega
 ·exact h
theorem A9 {l:LL}{k q:Lk}(h:1≤cnt q (bump k l))(hn:¬ 1≤cnt q l):q=k:=by
 rw [qQ] at h
 split at h
 ·assumption
 ·exact absurd h hn
theorem LY {m:Md}{u:Un}{c:Ins}(hf:bD m u c=0)(h:c.op=23∨c.op=29):∃ kd,kd≠4∧is m kd c.a=true:=by
 obtain ⟨_,_,hrg⟩:=oZ hf
 rcases h with h | h
 ·refine ⟨2,by decide,?_⟩
  rw [← hrg]
  unfold ranged
  rw [if_neg (by omega),if_neg (by omega),if_neg (by omega),if_pos h]
 ·refine ⟨3,by decide,?_⟩
  rw [← hrg]
  unfold ranged
  rw [if_neg (by omega),if_neg (by omega),if_neg (by omega),if_neg (by omega),if_pos h]
theorem VZ {m:Md}{u:Un}{c:Ins}(hR:Rt m)(hf:bD m u c=0)(h:c.op=23∨c.op=29):(c.op,c.a) ∈ univ:=by
 obtain ⟨kd,_,hi⟩:=LY hf h
 obtain ⟨x,h3,_,h4⟩:=kg hi
 have:=(List.getElem?_eq_some_iff.1 h3).1
 have h5:=hR.units
 obtain ⟨k,hk⟩:∃ k:Nat,c.a=k:=⟨c.a.toNat,by omega⟩
 rw [hk]
 exact LJ h (by omega)
theorem V3 {m:Md}{u:Un}{c:Ins}{f:Nat}{l:LL}(hR:Rt m)(hf:bD m u c=0)(hl:Wl l)(hm:eQ l≤f)
  (ih:∀ n l,Wl l→eQ l+1≤f→Cl m l (gU m f n l)∧∀ c ∈ (unit m n).code,ou c→1≤cnt (c.op,c.a) (gU m f n l)):Cl m l (mh (gU m f) c l)∧(ou c→1≤cnt (c.op,c.a) (mh (gU m f) c l)):=by
 unfold mh
 by_cases h1:c.op=26∨c.op=27
 ·rw [if_pos h1]
  refine ⟨⟨fun q hq=>EN hl _ q hq,fun op a ho hn hy=>?_⟩,fun _=>EM hl _⟩
  have e:=A9 hy hn
  simp only [Prod.mk.injEq] at e
  omega
 ·rw [if_neg h1]
  by_cases h2:c.op=23∨c.op=29
  ·rw [if_pos h2]
   by_cases h0:cnt (c.op,c.a) l=0
   ·rw [if_pos h0]
    have hn:=LM hl (VZ hR hf h2) h0
    obtain ⟨hC,hB⟩:=ih c.a (bump (c.op,c.a) l) (hl.bump _) (by omega)
    refine ⟨⟨fun q hq=>hC.mono q (EN hl _ q hq),fun op a ho hno hy=>?_⟩,fun _=>hC.mono _ (EM hl _)⟩
    by_cases hb:1≤cnt (op,a) (bump (c.op,c.a) l)
    ·have e:=A9 hb hno
     simp only [Prod.mk.injEq] at e
     rw [e.2]
     exact hB
    ·exact hC.done op a ho hb hy
   ·rw [if_neg h0]
    have hp:1≤cnt (c.op,c.a) l:=by have:=vL hl (c.op,c.a);omega
    refine ⟨⟨fun q hq=>EN hl _ q hq,fun op a ho hno hy=>?_⟩,fun _=>EM hl _⟩
    have e:=A9 hy hno
    rw [e] at hno
    exact absurd hp hno
  ·rw [if_neg h2]
   refine ⟨Cl.refl m l,fun hk=>?_⟩
   unfold ou at hk
   omega
theorem LZ {m:Md}{u:Un}{f:Nat}(hR:Rt m)(ih:∀ n l,Wl l→eQ l+1≤f→Cl m l (gU m f n l)∧∀ c ∈ (unit m n).code,ou c→1≤cnt (c.op,c.a) (gU m f n l)):∀ (cs:List Ins) (l:LL),(∀ c ∈ cs,bD m u c=0)→Wl l→eQ l≤f→Cl m l (nA (gU m f) cs l)∧∀ c ∈ cs,ou c→1≤cnt (c.op,c.a) (nA (gU m f) cs l)
 | [],l,_,_,_=>⟨Cl.refl m l,fun c hc=>by cases hc⟩
 | c :: cs,l,hf,hl,hm=>by
  have h1:=V3 hR (hf c List.mem_cons_self) hl hm ih
  have hg:=LP hR.units (hf c List.mem_cons_self) hl (LW hR f)
  have h2:=LZ hR ih cs (mh (gU m f) c l) (fun c hc=>hf c (List.mem_cons_of_mem _ hc)) hg.wl (Nat.le_trans hg.eQ hm)
  have e:nA (gU m f) (c :: cs) l=nA (gU m f) cs (mh (gU m f) c l):=rfl
  rw [e]
  refine ⟨h1.1.trans h2.1,fun c' hc' hk=>?_⟩
  rcases List.mem_cons.1 hc' with rfl | h3
  ·exact h2.1.mono _ (h1.2 hk)
  ·exact h2.2 c' h3 hk
theorem L8 {m:Md}(hR:Rt m):∀ (f:Nat) (n:Int) (l:LL),Wl l→eQ l+1≤f→Cl m l (gU m f n l)∧∀ c ∈ (unit m n).code,ou c→1≤cnt (c.op,c.a) (gU m f n l)
 | 0,_,_,_,h=>by omega
 | f+1,n,l,hl,h=>LZ (u:=unit m n) hR (L8 hR f) (unit m n).code l (LV hR n).2 hl (by omega)
inductive Reach (m:Md):Int→Int→Prop
 | here (n:Int):Reach m n n
 | step {n k:Int} {c:Ins}:Reach m n k→c ∈ (unit m k).code→c.op=23∨c.op=29→Reach m n c.a
theorem Reach.head {m:Md}{n k:Int}{c:Ins}(hc:c ∈ (unit m n).code)(ho:c.op=23∨c.op=29)(h:Reach m c.a k):Reach m n k:=by
 induction h with
 | here=>exact .step (.here n) hc ho
 | step _ h2 h3 ih=>exact .step ih h2 h3
theorem L9 {m:Md}(q:Lk):∀ (f:Nat) (n:Int) (l:LL),1≤cnt q (gU m f n l)→1≤cnt q l∨∃ k,Reach m n k∧∃ c ∈ (unit m k).code,(c.op,c.a)=q
 | 0,_,_,h=>.inl h
 | f+1,n,l,h=>by
  have key:∀ (cs:List Ins) (l:LL),(∀ c ∈ cs,c ∈ (unit m n).code)→1≤cnt q (nA (gU m f) cs l)→1≤cnt q l∨∃ k,Reach m n k∧∃ c ∈ (unit m k).code,(c.op,c.a)=q:=by
   intro cs
   induction cs with
   | nil=>intro l _ h;exact .inl h
   | cons c cs ih =>
    intro l hcs h
    have hc:=hcs c List.mem_cons_self
    rcases ih (mh (gU m f) c l) (fun c hc=>hcs c (List.mem_cons_of_mem _ hc)) h with h1 | h1
    ·have hb:1≤cnt q (bump (c.op,c.a) l)→1≤cnt q l∨∃ k,Reach m n k∧∃ c ∈ (unit m k).code,(c.op,c.a)=q:=fun hb=>by
      by_cases hq:1≤cnt q l
      ·exact .inl hq
      ·exact .inr ⟨n,.here n,c,hc,(A9 hb hq).symm⟩
     unfold mh at h1
     split at h1
     ·exact hb h1
     ·split at h1
      ·rename_i h2
       split at h1
       ·rcases L9 q f c.a _ h1 with h3 | ⟨k,h3,h4⟩
        ·exact hb h3
        ·exact .inr ⟨k,Reach.head hc h2 h3,h4⟩
       ·exact hb h1
      ·exact .inl h1
    ·exact .inr h1
  exact key _ l (fun c hc=>hc) h
theorem Ma {m:Md}(hR:Rt m)(i:Nat){q:Lk}(hq:q.1=26∨q.1=27):comes m i q=true ↔ ∃ k,Reach m (i:Int) k∧∃ c ∈ (unit m k).code,(c.op,c.a)=q:=by
 unfold comes
 rw [decide_eq_true_iff]
 constructor
 ·intro h
  rcases L9 q 61 (i:Int) [] h with h1 | h1
  ·exfalso
   simp [cnt,idx] at h1
  ·exact h1
 ·rintro ⟨k,hk,c,hc,rfl⟩
  obtain ⟨hC,hB⟩:=L8 hR 61 (i:Int) [] Wl.nil (by rw [VW];omega)
  have all:∀ k,Reach m (i:Int) k→∀ c ∈ (unit m k).code,ou c→1≤cnt (c.op,c.a) (gU m 61 (i:Int) []):=by
   intro k hk
   induction hk with
   | here=>exact hB
   | step _ h2 h3 ih =>
    refine hC.done _ _ h3 (by simp [cnt,idx]) (ih _ h2 ?_)
    unfold ou
    omega
  exact all k hk c hc (by unfold ou;simp at hq;omega)
end Vf
namespace Vf
def pY (c:Ins):Prop:=c.op=26∨c.op=27
def ow (c:Ins):Prop:=c.op=23∨c.op=29
structure fI (m:Md) (n i j:Nat) (R:List Nat) (ts:List Lk) (f:Int→Int):Prop where
 nodup:R.Nodup
 lt:∀ a ∈ R,a < m.units.length
 reach:∀ a ∈ R,Reach m (n:Int) (a:Int)
 head:n ∈ R
 met:∀ a:Nat,0≤f a∧f a≤1+4000 * i+j∧(1≤f a ↔ a ∈ R)
 done:∀ (p k x:Nat) (c:Ins),R[p]?=some k→(unit m (k:Int)).code[x]?=some c→(p < i∨p=i∧x < j)→(ow c→∃ a ∈ R,c.a=(a:Int))∧(pY c→(c.op,c.a) ∈ ts)
 told:∀ q ∈ ts,(q.1=26∨q.1=27)∧∃ k ∈ R,∃ c ∈ (unit m (k:Int)).code,(c.op,c.a)=q
 few:ts.length≤4000 * i+j
theorem fI.start {m:Md}{n:Nat}(hn:n < m.units.length):fI m n 0 0 [n] [] (fun a=>if a=(n:Int) then 1 else 0) where
 nodup:=by simp
 lt:=fun a ha=>by simp at ha;omega
 reach:=fun a ha=>by simp at ha;subst ha;exact .here _
 head:=by simp
 met:=fun a=>by
  by_cases h:a=n
  ·subst h;simp
  ·have e:¬ (a:Int)=(n:Int):=by omega
   simp [h,e]
 done:=fun p k x c _ _ h=>by omega
 told:=fun q hq=>by cases hq
 few:=by simp
theorem fI.len {m:Md}{n i j:Nat}{R:List Nat}{ts:List Lk}{f:Int→Int}(h:fI m n i j R ts f):R.length≤m.units.length:=by
 have:=List.Nodup.length_le_of_subset (l₂:=List.range m.units.length) h.nodup (fun a ha=>List.mem_range.2 (h.lt a ha))
 simpa using this
theorem fI.Mc {m:Md}{n i j k:Nat}{R:List Nat}{ts:List Lk}{f:Int→Int}{c:Ins}(h:fI m n i j R ts f)(hk:R[i]?=some k)(hc:(unit m (k:Int)).code[j]?=some c)(ho:pY c):fI m n i (j+1) R (ts ++ [(c.op,c.a)]) f where
 nodup:=h.nodup
 lt:=h.lt
 reach:=h.reach
 head:=h.head
 met:=fun a=>by obtain ⟨h1,h2,h3⟩:=h.met a;exact ⟨h1,by omega,h3⟩
 done:=fun p k' x c' hp hx ho'=>by
  by_cases e:p=i∧x=j
  ·obtain ⟨rfl,rfl⟩:=e
   rw [hk] at hp
   cases hp
   rw [hc] at hx
   cases hx
   refine ⟨fun h1=>?_,fun _=>by simp⟩
   unfold ow at h1
   unfold pY at ho
   omega
  ·obtain ⟨d1,d2⟩:=h.done p k' x c' hp hx (by omega)
   exact ⟨d1,fun t=>List.mem_append_left _ (d2 t)⟩
 told:=fun q hq=>by
  rcases List.mem_append.1 hq with h1 | h1
  ·exact h.told q h1
  ·simp at h1
   subst h1
   exact ⟨ho,k,List.mem_of_getElem? hk,c,List.mem_of_getElem? hc,rfl⟩
 few:=by have:=h.few;simp;omega
theorem fI.quiet {m:Md}{n i j k:Nat}{R:List Nat}{ts:List Lk}{f:Int→Int}{c:Ins}(h:fI m n i j R ts f)(hk:R[i]?=some k)(hc:(unit m (k:Int)).code[j]?=some c)(ho:¬ pY c)(ho2:¬ ow c):fI m n i (j+1) R ts f where
 nodup:=h.nodup
 lt:=h.lt
 reach:=h.reach
 head:=h.head
 met:=fun a=>by obtain ⟨h1,h2,h3⟩:=h.met a;exact ⟨h1,by omega,h3⟩
 done:=fun p k' x c' hp hx ho'=>by
  by_cases e:p=i∧x=j
  ·obtain ⟨rfl,rfl⟩:=e
   rw [hk] at hp
   cases hp
   rw [hc] at hx
   cases hx
   exact ⟨fun h1=>absurd h1 ho2,fun h1=>absurd h1 ho⟩
  ·exact h.done p k' x c' hp hx (by omega)
 told:=h.told
 few:=by have:=h.few;omega
theorem fI.old {m:Md}{n i j k a:Nat}{R:List Nat}{ts:List Lk}{f:Int→Int}{c:Ins}(h:fI m n i j R ts f)(hk:R[i]?=some k)(hc:(unit m (k:Int)).code[j]?=some c)(ho:ow c)(ha:c.a=(a:Int))(hR:a ∈ R):fI m n i (j+1) R ts (fun q=>if q=(a:Int) then f a+1 else f q) where
 nodup:=h.nodup
 lt:=h.lt
 reach:=h.reach
 head:=h.head
 met:=fun b=>by
  obtain ⟨h1,h2,h3⟩:=h.met a
  obtain ⟨g1,g2,g3⟩:=h.met b
  by_cases e:b=a
  ·subst e
   simp only [if_pos]
   exact ⟨by omega,by omega,fun _=>hR,fun _=>by omega⟩
  ·have e':¬ (b:Int)=(a:Int):=by omega
   simp only [if_neg e']
   exact ⟨g1,by omega,g3⟩
 done:=fun p k' x c' hp hx ho'=>by
  by_cases e:p=i∧x=j
  ·obtain ⟨rfl,rfl⟩:=e
   rw [hk] at hp
   cases hp
   rw [hc] at hx
   cases hx
   refine ⟨fun _=>⟨a,hR,ha⟩,fun h1=>?_⟩
   unfold ow at ho
   unfold pY at h1
   omega
  ·exact h.done p k' x c' hp hx (by omega)
 told:=h.told
 few:=by have:=h.few;omega
theorem fI.new {m:Md}{n i j k a:Nat}{R:List Nat}{ts:List Lk}{f:Int→Int}{c:Ins}(h:fI m n i j R ts f)(hk:R[i]?=some k)(hc:(unit m (k:Int)).code[j]?=some c)(ho:ow c)(ha:c.a=(a:Int))(hm:a < m.units.length)(hR:a ∉ R):fI m n i (j+1) (R ++ [a]) ts (fun q=>if q=(a:Int) then f a+1 else f q) where
 nodup:=by
  rw [List.nodup_append]
  exact ⟨h.nodup,by simp,fun x hx y hy=>by simp at hy;subst hy;exact fun e=>hR (e ▸ hx)⟩
 lt:=fun b hb=>by
  rcases List.mem_append.1 hb with h1 | h1
  ·exact h.lt b h1
  ·simp at h1;omega
 reach:=fun b hb=>by
  rcases List.mem_append.1 hb with h1 | h1
  ·exact h.reach b h1
  ·simp at h1
   subst h1
   rw [← ha]
   exact .step (h.reach k (List.mem_of_getElem? hk)) (List.mem_of_getElem? hc) ho
 head:=List.mem_append_left _ h.head
 met:=fun b=>by
  obtain ⟨h1,h2,h3⟩:=h.met a
  obtain ⟨g1,g2,g3⟩:=h.met b
  by_cases e:b=a
  ·subst e
   simp only [if_pos]
   exact ⟨by omega,by omega,fun _=>by simp,fun _=>by omega⟩
  ·have e':¬ (b:Int)=(a:Int):=by omega
   simp only [if_neg e']
   exact ⟨g1,by omega,by rw [g3];simp [e]⟩
 done:=fun p k' x c' hp hx ho'=>by
  have hi:i < R.length:=(List.getElem?_eq_some_iff.1 hk).1
  rw [List.getElem?_append_left (by omega)] at hp
  by_cases e:p=i∧x=j
  ·obtain ⟨rfl,rfl⟩:=e
   rw [hk] at hp
   cases hp
   rw [hc] at hx
   cases hx
   refine ⟨fun _=>⟨a,by simp,ha⟩,fun h1=>?_⟩
   unfold ow at ho
   unfold pY at h1
   omega
  ·obtain ⟨d1,d2⟩:=h.done p k' x c' hp hx (by omega)
   exact ⟨fun t=>by obtain ⟨b,hb,he⟩:=d1 t;exact ⟨b,List.mem_append_left _ hb,he⟩,d2⟩
 told:=fun q hq=>by
  obtain ⟨t1,k',t2,t3⟩:=h.told q hq
  exact ⟨t1,k',List.mem_append_left _ t2,t3⟩
 few:=by have:=h.few;omega
theorem fI.next {m:Md}{n i j k:Nat}{R:List Nat}{ts:List Lk}{f:Int→Int}(h:fI m n i j R ts f)(hk:R[i]?=some k)(hj:j=(unit m (k:Int)).code.length)(h4:j≤4000):fI m n (i+1) 0 R ts f where
 nodup:=h.nodup
 lt:=h.lt
 reach:=h.reach
 head:=h.head
 met:=fun a=>by obtain ⟨h1,h2,h3⟩:=h.met a;exact ⟨h1,by omega,h3⟩
 done:=fun p k' x c' hp hx ho'=>by
  refine h.done p k' x c' hp hx ?_
  by_cases e:p=i
  ·subst e
   rw [hk] at hp
   cases hp
   have:=(List.getElem?_eq_some_iff.1 hx).1
   omega
  ·omega
 told:=h.told
 few:=by have:=h.few;omega
theorem fI.all {m:Md}(hR:Rt m){n i:Nat}{R:List Nat}{ts:List Lk}{f:Int→Int}(h:fI m n i 0 R ts f)(hi:R.length≤i)(q:Lk):q ∈ ts ↔ (q.1=26∨q.1=27)∧comes m n q=true:=by
 have hc:∀ k,Reach m (n:Int) k→∃ a ∈ R,k=(a:Int):=by
  intro k hk
  induction hk with
  | here=>exact ⟨n,h.head,rfl⟩
  | step _ h2 h3 ih =>
   obtain ⟨a,ha,rfl⟩:=ih
   obtain ⟨p,hp⟩:=List.getElem?_of_mem ha
   obtain ⟨x,hx⟩:=List.getElem?_of_mem h2
   exact (h.done p a x _ hp hx (.inl (by have:=(List.getElem?_eq_some_iff.1 hp).1;omega))).1 h3
 constructor
 ·intro hq
  obtain ⟨t1,k,t2,t3⟩:=h.told q hq
  exact ⟨t1,(Ma hR n t1).2 ⟨k,h.reach k t2,t3⟩⟩
 ·rintro ⟨h1,h2⟩
  obtain ⟨k,hk,c,hc',rfl⟩:=(Ma hR n h1).1 h2
  obtain ⟨a,ha,rfl⟩:=hc k hk
  obtain ⟨p,hp⟩:=List.getElem?_of_mem ha
  obtain ⟨x,hx⟩:=List.getElem?_of_mem hc'
  exact (h.done p a x _ hp hx (.inl (by have:=(List.getElem?_eq_some_iff.1 hp).1;omega))).2 h1
end Vf
end Go.Proofs.YthffafaoobpedaaGreatDoor
namespace Go.Proofs.YthffafaoobpedaaGreatDoor
open Go.RowKit
theorem Tryz.info3:(Tryz.prog.info? 3).map (fun i=>(i.zero,i.size,i.bytes))=some (some (.int .i64 0),1,8):=by kernel_rfl
abbrev gV (l:List MapEntry) (k:Nat) (i:Nat):Option (Option (Nat × Value)):=Instr.findNow (.int .i64) (.int .i64 (k:Int)) l i
def Keyed' (l:List MapEntry):Prop:=∀ e ∈ l,∃ j:Nat,e.key=.int .i64 (j:Int)
theorem p8 {e:MapEntry}{l:List MapEntry}{j k i:Nat}(he:e.key=.int .i64 (j:Int)):gV (e :: l) k i=if k=j then some (some (i,e.val)) else gV l k (i+1):=by
 unfold gV
 rw [Instr.findNow,he]
 by_cases h:k=j
 ·subst h;simp [Instr.sameNow]
 ·have:((k:Int) == (j:Int))=false:=by simp;omega
  simp [Instr.sameNow,this,h]
theorem Ba {e:MapEntry}{j k:Nat}(he:e.key=.int .i64 (j:Int)):∀ (l:List MapEntry) (i:Nat),Keyed' l→gV (l ++ [e]) k i=match gV l k i with | some none=>if k=j then some (some (i+l.length,e.val)) else some none | x=>x
 | [],i,_=>by
  rw [List.nil_append,p8 he]
  rfl
 | a :: l,i,h=>by
  obtain ⟨ja,ha⟩:=h a List.mem_cons_self
  rw [List.cons_append,p8 ha,p8 ha]
  by_cases hk:k=ja
  ·rw [if_pos hk,if_pos hk]
  ·rw [if_neg hk,if_neg hk,Ba he l (i+1) (fun x hx=>h x (List.mem_cons_of_mem _ hx))]
   rw [show i+1+l.length=i+(a :: l).length by simp;omega]
theorem Bb {k:Nat}:∀ (l:List MapEntry) (i p:Nat) (v:Value),Keyed' l→gV l k i=some (some (p,v))→∃ j e,p=i+j∧l[j]?=some e∧e.key=.int .i64 (k:Int)∧e.val=v
 | [],i,p,v,_,h=>by cases h
 | a :: l,i,p,v,hK,h=>by
  obtain ⟨ja,ha⟩:=hK a List.mem_cons_self
  rw [p8 ha] at h
  by_cases hk:k=ja
  ·rw [if_pos hk] at h
   cases h
   exact ⟨0,a,rfl,rfl,by rw [ha,hk],rfl⟩
  ·rw [if_neg hk] at h
   obtain ⟨j,e,h1,h2,h3,h4⟩:=Bb l (i+1) p v (fun x hx=>hK x (List.mem_cons_of_mem _ hx)) h
   exact ⟨j+1,e,by omega,h2,h3,h4⟩
theorem EO {k:Nat}{v:Value}:∀ (l:List MapEntry) (i j:Nat) (v0:Value),Keyed' l→gV l k i=some (some (i+j,v0))→∀ k',gV (l.modify j (fun e=>{ e with key:=.int .i64 (k:Int),val:=v })) k' i=if k'=k then some (some (i+j,v)) else gV l k' i
 | [],i,j,v0,_,h,_=>by cases h
 | a :: l,i,j,v0,hK,h,k'=>by
  obtain ⟨ja,ha⟩:=hK a List.mem_cons_self
  rw [p8 ha] at h
  by_cases hk:k=ja
  ·rw [if_pos hk] at h
   obtain rfl:j=0:=by simp at h;omega
   rw [List.modify_cons,if_pos rfl,p8 (j:=k) rfl,p8 ha]
   subst hk
   by_cases h':k'=k
   ·rw [if_pos h',if_pos h'];rfl
   ·rw [if_neg h',if_neg h',if_neg h']
  ·rw [if_neg hk] at h
   obtain ⟨j',e,h1,h2,h3,h4⟩:=Bb l (i+1) _ v0 (fun x hx=>hK x (List.mem_cons_of_mem _ hx)) h
   obtain ⟨q,rfl⟩:∃ q,j=q+1:=⟨j - 1,by omega⟩
   rw [List.modify_cons,if_neg (by omega),p8 ha,p8 ha]
   have:=EO (v:=v) l (i+1) q v0 (fun x hx=>hK x (List.mem_cons_of_mem _ hx)) (by rw [h];congr 3;omega) k'
   rw [show q+1 - 1=q by omega,this]
   by_cases h':k'=ja
   ·rw [if_pos h',if_neg (by omega),if_pos h']
   ·rw [if_neg h',if_neg h',show i+1+q=i+(q+1) by omega]
theorem Keyed'.push {l:List MapEntry}(h:Keyed' l)(e:MapEntry){j:Nat}(he:e.key=.int .i64 (j:Int)):Keyed' (l ++ [e]):=fun x hx=>by
 rcases List.mem_append.1 hx with h1 | h1
 ·exact h x h1
 ·simp at h1;subst h1;exact ⟨j,he⟩
theorem Keyed'.modify {k:Nat}{v:Value}:∀ {l:List MapEntry} (_:Keyed' l) (j:Nat),Keyed' (l.modify j (fun e=>{ e with key:=.int .i64 (k:Int),val:=v }))
 | [],_,j=>by intro x hx;cases j <;> simp at hx
 | a :: l,h,0=>by
  intro x hx
  rw [List.modify_cons,if_pos rfl] at hx
  rcases List.mem_cons.1 hx with rfl | h1
  ·exact ⟨k,rfl⟩
  ·exact h x (List.mem_cons_of_mem _ h1)
 | a :: l,h,j+1=>by
  intro x hx
  rw [List.modify_cons,if_neg (by omega)] at hx
  rcases List.mem_cons.1 hx with rfl | h1
  ·exact h _ List.mem_cons_self
  ·exact Keyed'.modify (fun y hy=>h y (List.mem_cons_of_mem _ hy)) j x h1
abbrev nC (k:Vf.Kn) (top:Option Addr):Value:=.agg #[.pointer top,.int .i64 (k.st.length:Int),aj k.fl.a,aj k.fl.b,aj k.fl.c,aj k.fl.d]
def eT (w:World)(M:Nat)(come:Nat→Option Vf.Kn):Prop :=
 ∃ es cl,w.heap[M]?=some (.map es cl)∧Keyed' es.toList∧∀ k:Nat,(come k=none→gV es.toList k 0=some none)∧∀ kn,come k=some kn→∃ i top,gV es.toList k 0=some (some (i,nC kn top))∧dW w top kn.st
theorem eT.keep {w w':World}{M:Nat}{come:Nat→Option Vf.Kn}(h:eT w M come)(hM:w'.heap[M]?=w.heap[M]?)(hk:∀ (b:Nat) (cs:Array Value),w.heap[b]?=some (Obj.cells cs 286 (0,0))→w'.heap[b]?=some (Obj.cells cs 286 (0,0))):eT w' M come:=by
 obtain ⟨es,cl,h1,h2,h3⟩:=h
 refine ⟨es,cl,hM.trans h1,h2,fun k=>⟨(h3 k).1,fun kn hkn=>?_⟩⟩
 obtain ⟨i,top,h4,h5⟩:=(h3 k).2 kn hkn
 exact ⟨i,top,h4,h5.keep hk⟩
theorem eT.lt {w:World}{M:Nat}{come:Nat→Option Vf.Kn}(h:eT w M come):M < w.heap.size:=by
 obtain ⟨es,cl,h1,_⟩:=h
 exact lt_of_block h1
theorem eT.new (w:World):eT (w.alloc (.map #[] 0)) w.heap.size (fun _=>none) :=
 ⟨#[],0,heap_alloc_new w _,fun _ h=>(by cases h),fun _=>⟨fun _=>rfl,fun _ h=>(by cases h)⟩⟩
theorem p9 {w:World}{k:Nat}(b:Bool):(Instr.checkKey b 10000 3 (.int .i64 (k:Int))).run Tryz.prog w=.ok () w:=MapKept.run_checkKey (n:=9999) Tryz.underlying3 (by simp [MapKept.IsKey]) b
theorem Me {w:World}{M k:Nat}{come:Nat→Option Vf.Kn}{kn:Vf.Kn}(h:eT w M come)(hk:come k=some kn):∃ top,dW w top kn.st∧(Instr.lookup 129 (.map (some M)) (.int .i64 (k:Int)) false).run Tryz.prog w=.ok (nC kn top) w∧(Instr.lookup 129 (.map (some M)) (.int .i64 (k:Int)) true).run Tryz.prog w=.ok (.tuple #[nC kn top,.bool true]) w:=by
 obtain ⟨es,cl,h1,h2,h3⟩:=h
 obtain ⟨i,top,hf,hs⟩:=(h3 k).2 kn hk
 have hg:(getObj M).run Tryz.prog w=.ok (.map es cl) w:=MapKept.run_getObj_map h1
 have hu:=run_underlying (w:=w) Tryz.underlying129
 have hkk:=MapKept.run_findKey (P:=Tryz.prog) (w:=w) (kt:=3) Tryz.underlying3 hf
 refine ⟨top,hs,?_,?_⟩
 ·simp [Instr.lookup,hu,hg,p9,hkk]
 ·simp [Instr.lookup,hu,hg,p9,hkk]
theorem V4 {w:World}{M k:Nat}{come:Nat→Option Vf.Kn}(h:eT w M come)(hk:come k=none):(Instr.lookup 129 (.map (some M)) (.int .i64 (k:Int)) true).run Tryz.prog w=.ok (.tuple #[nC ⟨[],Vf.Fl.none⟩ none,.bool false]) w:=by
 obtain ⟨es,cl,h1,h2,h3⟩:=h
 have hf:=(h3 k).1 hk
 have hg:(getObj M).run Tryz.prog w=.ok (.map es cl) w:=MapKept.run_getObj_map h1
 have hu:=run_underlying (w:=w) Tryz.underlying129
 have hkk:=MapKept.run_findKey (P:=Tryz.prog) (w:=w) (kt:=3) Tryz.underlying3 hf
 have hzv:(zeroValue 137).run Tryz.prog w=.ok (nC ⟨[],Vf.Fl.none⟩ none) w:=by kernel_rfl
 simp [Instr.lookup,hu,hg,p9,hkk,hzv]
theorem V5 {w:World}{M k:Nat}{come:Nat→Option Vf.Kn}{kn:Vf.Kn}{top:Option Addr}(h:eT w M come)(hs:dW w top kn.st) :
  ∃ w',(Instr.mapUpdate 129 (.map (some M)) (.int .i64 (k:Int)) (nC kn top)).run Tryz.prog w=.ok () w'∧eT w' M (fun i=>if i=k then some kn else come i)∧w.grownBy w' (some M):=by
 have hM:=h.lt
 obtain ⟨es,cl,h1,h2,h3⟩:=h
 have hg:(getObj M).run Tryz.prog w=.ok (.map es cl) w:=MapKept.run_getObj_map h1
 have hu:=run_underlying (w:=w) Tryz.underlying129
 have fin:∀ es' cl',Keyed' es'.toList→(∀ j:Nat,gV es'.toList j 0=if j=k then some (some ((gV es.toList k 0 |>.getD none).map (·.1) |>.getD es.size,nC kn top)) else gV es.toList j 0) →
   eT { w with heap:=w.heap.setIfInBounds M (.map es' cl') } M (fun i=>if i=k then some kn else come i)∧w.grownBy { w with heap:=w.heap.setIfInBounds M (.map es' cl') } (some M):=by
  intro es' cl' hK hF
  obtain ⟨m1,m2⟩:=MapKept.heap_set (o':=.map es' cl') h1
  have kp:∀ (b:Nat) (cs:Array Value),w.heap[b]?=some (Obj.cells cs 286 (0,0))→(w.heap.setIfInBounds M (.map es' cl'))[b]?=some (Obj.cells cs 286 (0,0)):=fun b cs hb=>(m2 b (fun e=>by subst e;rw [h1] at hb;cases hb)).trans hb
  refine ⟨⟨es',cl',m1,hK,fun j=>⟨fun hj=>?_,fun kj hj=>?_⟩⟩,⟨rfl,rfl,rfl,by simp,fun b _ hne=>m2 b (fun e=>hne (by rw [e]))⟩⟩
  ·dsimp only at hj
   by_cases hjk:j=k
   ·rw [if_pos hjk] at hj;cases hj
   ·rw [if_neg hjk] at hj
    rw [hF j,if_neg hjk]
    exact (h3 j).1 hj
  ·dsimp only at hj
   by_cases hjk:j=k
   ·rw [if_pos hjk] at hj
    cases hj
    exact ⟨_,top,by rw [hF j,if_pos hjk],hs.keep kp⟩
   ·rw [if_neg hjk] at hj
    obtain ⟨i,dh,h4,h5⟩:=(h3 j).2 kj hj
    exact ⟨i,dh,by rw [hF j,if_neg hjk];exact h4,h5.keep kp⟩
 cases hc:come k with
 | none =>
  have hf:=(h3 k).1 hc
  have hkk:=MapKept.run_findKey (P:=Tryz.prog) (w:=w) (kt:=3) Tryz.underlying3 hf
  have hset:=MapKept.run_setObj_map (P:=Tryz.prog) (.map (es.push { key:=.int .i64 (k:Int),val:=nC kn top,born:=cl }) (cl+1)) h1
  refine ⟨_,by simp [Instr.mapUpdate,hu,hg,p9,hkk,hset];rfl,fin _ _ (by rw [Array.toList_push];exact h2.push _ (j:=k) rfl) (fun j=>?_)⟩
  rw [Array.toList_push,Ba (j:=k) rfl _ _ h2]
  by_cases hjk:j=k
  ·subst hjk
   rw [hf]
   simp
  ·rw [if_neg hjk]
   cases hfj:gV es.toList j 0 with
   | none=>simp [hjk]
   | some x=>cases x with
    | none=>simp [hjk]
    | some y=>simp [hjk]
 | some Mf =>
  obtain ⟨i,Mg,hf,_⟩:=(h3 k).2 Mf hc
  have hkk:=MapKept.run_findKey (P:=Tryz.prog) (w:=w) (kt:=3) Tryz.underlying3 hf
  obtain ⟨j0,e0,hj0,he0,EP,hev⟩:=Bb es.toList 0 i _ h2 hf
  obtain rfl:i=j0:=by omega
  have hes:es[i]?=some e0:=by simpa using he0
  have hst:=MapKept.run_keyThatStays (P:=Tryz.prog) (w:=w) (d:=.int .i64) (k:=.int .i64 (k:Int)) (by simp [MapKept.IsKey])
  have hset:=MapKept.run_setObj_map (P:=Tryz.prog) (.map (es.modify i fun e=>{ e with key:=.int .i64 (k:Int),val:=nC kn top }) cl) h1
  refine ⟨_,by simp [Instr.mapUpdate,hu,hg,p9,hkk,hes,EP,hst,hset];rfl,fin _ _ (by rw [Array.toList_modify];exact h2.modify i) (fun j=>?_)⟩
  rw [Array.toList_modify,EO es.toList 0 i (nC Mf Mg) h2 (by rw [hf];simp) j,hf]
  simp
end Go.Proofs.YthffafaoobpedaaGreatDoor
