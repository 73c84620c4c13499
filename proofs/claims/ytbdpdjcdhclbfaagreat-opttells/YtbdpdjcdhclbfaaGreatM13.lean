/- What is gathered from a unit on is what one comes to from there,plainly . -/
import Derived.Test.YtbdpdjcdhclbfaaGreatM12
import Derived.Test.YtbdpdjcdhclbfaaGreatM3
import Derived.Test.YtbdpdjcdhclbfaaGreatM8
import Derived.Maps.RangeWalk
import Derived.LaidEql
set_option maxRecDepth 100000
set_option maxHeartbeats 2000000
namespace Go.Proofs.YtbdpdjcdhclbfaaGreat
namespace Vf
def AA (c:Ins):Prop:=c.op=23∨c.op=26∨c.op=27∨c.op=29
structure Cl (m:Md) (l l':LL):Prop where
 mono:∀ q,1≤cnt q l→1≤cnt q l'
 done:∀ op a,op=23∨op=29→¬ 1≤cnt (op,a) l→1≤cnt (op,a) l'→∀ c ∈ (unit m a).code,AA c→1≤cnt (c.op,c.a) l'
theorem Cl.refl (m:Md)(l:LL):Cl m l l:=⟨fun _ h=>h,fun _ _ _ hn hy=>absurd hy hn⟩
theorem Cl.trans {m:Md}{l l1 l2:LL}(h:Cl m l l1)(k:Cl m l1 l2):Cl m l l2:=⟨fun q hq=>k.mono q (h.mono q hq),fun op a ho hn hy c hc hk=>by
 by_cases h1:1≤cnt (op,a) l1
 ·exact k.mono _ (h.done op a ho hn h1 c hc hk)
 ·exact k.done op a ho h1 hy c hc hk⟩
theorem L8 {l:LL}(hl:Wl l)(k:Lk):1≤cnt k (bump k l):=by
 rw[D9,if_pos rfl];have:=F9 hl k;omega
theorem L9 {l:LL}(hl:Wl l)(k q:Lk)(h:1≤cnt q l):1≤cnt q (bump k l):=by
 rw[D9];split
 ·have:=F9 hl k;omega
 ·exact h
theorem JM {l:LL}{k q:Lk}(h:1≤cnt q (bump k l))(hn:¬ 1≤cnt q l):q=k:=by
 rw[D9] at h;split at h
 ·assumption
 ·exact absurd h hn
theorem Hm {m:Md}{u:Un}{c:Ins}(hf:aA m u c=0)(h:c.op=23∨c.op=29):∃ kd,kd≠4∧is m kd c.a=true:=by
 obtain⟨_,_,hrg⟩:=yj hf;rcases h with h | h
 ·refine⟨2,by decide,?_⟩
  rw[← hrg];unfold ranged;rw[if_neg (by omega),if_neg (by omega),if_neg (by omega),if_pos h]
 ·refine⟨3,by decide,?_⟩
  rw[← hrg];unfold ranged;rw[if_neg (by omega),if_neg (by omega),if_neg (by omega),if_neg (by omega),if_pos h]
theorem XQ {m:Md}{u:Un}{c:Ins}(hR:Rt m)(hf:aA m u c=0)(h:c.op=23∨c.op=29):(c.op,c.a) ∈ univ:=by
 obtain⟨kd,_,hi⟩:=Hm hf h;obtain⟨x,h3,_,h4⟩:=yh hi;have:=(List.getElem?_eq_some_iff.1 h3).1;have h5:=hR.units;obtain⟨k,hk⟩:∃ k:Nat,c.a=k:=⟨c.a.toNat,by omega⟩;rw[hk];exact Qy h (by omega)
theorem XR {m:Md}{u:Un}{c:Ins}{f:Nat}{l:LL}(hR:Rt m)(hf:aA m u c=0)(hl:Wl l)(hm:uu l≤f)
  (ih:∀ n l,Wl l→uu l+1≤f→Cl m l (tq m f n l)∧∀ c ∈ (unit m n).code,AA c→1≤cnt (c.op,c.a) (tq m f n l)):Cl m l (wZ (tq m f) c l)∧(AA c→1≤cnt (c.op,c.a) (wZ (tq m f) c l)):=by
 unfold wZ;by_cases h1:c.op=26∨c.op=27
 ·rw[if_pos h1]
  refine⟨⟨fun q hq=>L9 hl _ q hq,fun op a ho hn hy=>?_⟩,fun _=>L8 hl _⟩;have e:=JM hy hn;simp only[Prod.mk.injEq] at e;omega
 ·rw[if_neg h1]
  by_cases h2:c.op=23∨c.op=29
  ·rw[if_pos h2]
   by_cases h0:cnt (c.op,c.a) l=0
   ·rw[if_pos h0]
    have hn:=QA hl (XQ hR hf h2) h0;obtain⟨hC,hB⟩:=ih c.a (bump (c.op,c.a) l) (hl.bump _) (by omega);refine⟨⟨fun q hq=>hC.mono q (L9 hl _ q hq),fun op a ho hno hy=>?_⟩,fun _=>hC.mono _ (L8 hl _)⟩;by_cases hb:1≤cnt (op,a) (bump (c.op,c.a) l)
    ·have e:=JM hb hno
     simp only[Prod.mk.injEq] at e;rw[e.2];exact hB
    ·exact hC.done op a ho hb hy
   ·rw[if_neg h0]
    have hp:1≤cnt (c.op,c.a) l:=by have:=F9 hl (c.op,c.a);omega
    refine⟨⟨fun q hq=>L9 hl _ q hq,fun op a ho hno hy=>?_⟩,fun _=>L8 hl _⟩;have e:=JM hy hno;rw[e] at hno;exact absurd hp hno
  ·rw[if_neg h2]
   refine⟨Cl.refl m l,fun hk=>?_⟩;unfold AA at hk;omega
theorem QF {m:Md}{u:Un}{f:Nat}(hR:Rt m)(ih:∀ n l,Wl l→uu l+1≤f→Cl m l (tq m f n l)∧∀ c ∈ (unit m n).code,AA c→1≤cnt (c.op,c.a) (tq m f n l)):∀ (cs:List Ins) (l:LL),(∀ c ∈ cs,aA m u c=0)→Wl l→uu l≤f→Cl m l (wP (tq m f) cs l)∧∀ c ∈ cs,AA c→1≤cnt (c.op,c.a) (wP (tq m f) cs l)
 | [],l,_,_,_=>⟨Cl.refl m l,fun c hc=>by cases hc⟩
 | c :: cs,l,hf,hl,hm=>by
  have h1:=XR hR (hf c List.mem_cons_self) hl hm ih;have hg:=QB hR.units (hf c List.mem_cons_self) hl (QE hR f);have h2:=QF hR ih cs (wZ (tq m f) c l) (fun c hc=>hf c (List.mem_cons_of_mem _ hc)) hg.wl (Nat.le_trans hg.uu hm);have e:wP (tq m f) (c :: cs) l=wP (tq m f) cs (wZ (tq m f) c l):=rfl;rw[e];refine⟨h1.1.trans h2.1,fun c' hc' hk=>?_⟩;rcases List.mem_cons.1 hc' with rfl | h3
  ·exact h2.1.mono _ (h1.2 hk)
  ·exact h2.2 c' h3 hk
theorem QG {m:Md}(hR:Rt m):∀ (f:Nat) (n:Int) (l:LL),Wl l→uu l+1≤f→Cl m l (tq m f n l)∧∀ c ∈ (unit m n).code,AA c→1≤cnt (c.op,c.a) (tq m f n l)
 | 0,_,_,_,h=>by omega
 | f+1,n,l,hl,h=>QF (u:=unit m n) hR (QG hR f) (unit m n).code l (JL hR n).2 hl (by omega)
inductive Reach (m:Md):Int→Int→Prop
 | here (n:Int):Reach m n n
 | step {n k:Int} {c:Ins}:Reach m n k→c ∈ (unit m k).code→c.op=23∨c.op=29→Reach m n c.a
theorem Reach.head {m:Md}{n k:Int}{c:Ins}(hc:c ∈ (unit m n).code)(ho:c.op=23∨c.op=29)(h:Reach m c.a k):Reach m n k:=by
 induction h with
 | here=>exact .step (.here n) hc ho
 | step _ h2 h3 ih=>exact .step ih h2 h3
theorem QH {m:Md}(q:Lk):∀ (f:Nat) (n:Int) (l:LL),1≤cnt q (tq m f n l)→1≤cnt q l∨∃ k,Reach m n k∧∃ c ∈ (unit m k).code,(c.op,c.a)=q
 | 0,_,_,h=>.inl h
 | f+1,n,l,h=>by
  have key:∀ (cs:List Ins) (l:LL),(∀ c ∈ cs,c ∈ (unit m n).code)→1≤cnt q (wP (tq m f) cs l)→1≤cnt q l∨∃ k,Reach m n k∧∃ c ∈ (unit m k).code,(c.op,c.a)=q:=by
   intro cs;induction cs with
   | nil=>intro l _ h;exact .inl h
   | cons c cs ih =>
    intro l hcs h;have hc:=hcs c List.mem_cons_self;rcases ih (wZ (tq m f) c l) (fun c hc=>hcs c (List.mem_cons_of_mem _ hc)) h with h1 | h1
    ·have hb:1≤cnt q (bump (c.op,c.a) l)→1≤cnt q l∨∃ k,Reach m n k∧∃ c ∈ (unit m k).code,(c.op,c.a)=q:=fun hb=>by
      by_cases hq:1≤cnt q l
      ·exact .inl hq
      ·exact .inr ⟨n,.here n,c,hc,(JM hb hq).symm⟩
     unfold wZ at h1;split at h1
     ·exact hb h1
     ·split at h1
      ·rename_i h2
       split at h1
       ·rcases QH q f c.a _ h1 with h3 | ⟨k,h3,h4⟩
        ·exact hb h3
        ·exact .inr ⟨k,Reach.head hc h2 h3,h4⟩
       ·exact hb h1
      ·exact .inl h1
    ·exact .inr h1
  exact key _ l (fun c hc=>hc) h
theorem Ma {m:Md}(hR:Rt m)(i:Nat){q:Lk}(hq:q.1=26∨q.1=27):comes m i q=true ↔ ∃ k,Reach m (i:Int) k∧∃ c ∈ (unit m k).code,(c.op,c.a)=q:=by
 unfold comes;rw[decide_eq_true_iff];constructor
 ·intro h
  rcases QH q 61 (i:Int) [] h with h1 | h1
  ·exfalso
   simp[cnt,idx] at h1
  ·exact h1
 ·rintro⟨k,hk,c,hc,rfl⟩
  obtain⟨hC,hB⟩:=QG hR 61 (i:Int) [] Wl.nil (by rw[XN];omega);have all:∀ k,Reach m (i:Int) k→∀ c ∈ (unit m k).code,AA c→1≤cnt (c.op,c.a) (tq m 61 (i:Int) []):=by
   intro k hk;induction hk with
   | here=>exact hB
   | step _ h2 h3 ih =>
    refine hC.done _ _ h3 (by simp[cnt,idx]) (ih _ h2 ?_);unfold AA;omega
  exact all k hk c hc (by unfold AA;simp at hq;omega)
end Vf
namespace Vf
def BS (c:Ins):Prop:=c.op=26∨c.op=27
def AB (c:Ins):Prop:=c.op=23∨c.op=29
structure uK (m:Md) (n i j:Nat) (R:List Nat) (ts:List Lk) (f:Int→Int):Prop where
 nodup:R.Nodup
 lt:∀ a ∈ R,a<m.units.length
 reach:∀ a ∈ R,Reach m (n:Int) (a:Int)
 head:n ∈ R
 met:∀ a:Nat,0≤f a∧f a≤1+4000 * i+j∧(1≤f a ↔ a ∈ R)
 done:∀ (p k x:Nat) (c:Ins),R[p]?=some k→(unit m (k:Int)).code[x]?=some c→(p<i∨p=i∧x<j)→(AB c→∃ a ∈ R,c.a=(a:Int))∧(BS c→(c.op,c.a) ∈ ts)
 told:∀ q ∈ ts,(q.1=26∨q.1=27)∧∃ k ∈ R,∃ c ∈ (unit m (k:Int)).code,(c.op,c.a)=q
 few:ts.length≤4000 * i+j
theorem uK.start {m:Md}{n:Nat}(hn:n<m.units.length):uK m n 0 0 [n] [] (fun a=>if a=(n:Int) then 1 else 0) where
 nodup:=by simp
 lt:=fun a ha=>by simp at ha;omega
 reach:=fun a ha=>by simp at ha;subst ha;exact .here _
 head:=by simp
 met:=fun a=>by
  by_cases h:a=n
  ·subst h;simp
  ·have e:¬ (a:Int)=(n:Int):=by omega
   simp[h,e]
 done:=fun p k x c _ _ h=>by omega
 told:=fun q hq=>by cases hq
 few:=by simp
theorem uK.len {m:Md}{n i j:Nat}{R:List Nat}{ts:List Lk}{f:Int→Int}(h:uK m n i j R ts f):R.length≤m.units.length:=by
 have:=List.Nodup.length_le_of_subset (l₂:=List.range m.units.length) h.nodup (fun a ha=>List.mem_range.2 (h.lt a ha));simpa using this
theorem uK.QI {m:Md}{n i j k:Nat}{R:List Nat}{ts:List Lk}{f:Int→Int}{c:Ins}(h:uK m n i j R ts f)(hk:R[i]?=some k)(hc:(unit m (k:Int)).code[j]?=some c)(ho:BS c):uK m n i (j+1) R (ts++[(c.op,c.a)]) f where
 nodup:=h.nodup
 lt:=h.lt
 reach:=h.reach
 head:=h.head
 met:=fun a=>by obtain⟨h1,h2,h3⟩:=h.met a;exact⟨h1,by omega,h3⟩
 done:=fun p k' x c' hp hx ho'=>by
  by_cases e:p=i∧x=j
  ·obtain⟨rfl,rfl⟩:=e
   rw[hk] at hp;cases hp;rw[hc] at hx;cases hx;refine⟨fun h1=>?_,fun _=>by simp⟩;unfold AB at h1;unfold BS at ho;omega
  ·obtain⟨d1,d2⟩:=h.done p k' x c' hp hx (by omega)
   exact⟨d1,fun t=>List.mem_append_left _ (d2 t)⟩
 told:=fun q hq=>by
  rcases List.mem_append.1 hq with h1 | h1
  ·exact h.told q h1
  ·simp at h1
   subst h1;exact⟨ho,k,List.mem_of_getElem? hk,c,List.mem_of_getElem? hc,rfl⟩
 few:=by have:=h.few;simp;omega
theorem uK.quiet {m:Md}{n i j k:Nat}{R:List Nat}{ts:List Lk}{f:Int→Int}{c:Ins}(h:uK m n i j R ts f)(hk:R[i]?=some k)(hc:(unit m (k:Int)).code[j]?=some c)(ho:¬ BS c)(ho2:¬ AB c):uK m n i (j+1) R ts f where
 nodup:=h.nodup
 lt:=h.lt
 reach:=h.reach
 head:=h.head
 met:=fun a=>by obtain⟨h1,h2,h3⟩:=h.met a;exact⟨h1,by omega,h3⟩
 done:=fun p k' x c' hp hx ho'=>by
  by_cases e:p=i∧x=j
  ·obtain⟨rfl,rfl⟩:=e
   rw[hk] at hp;cases hp;rw[hc] at hx;cases hx;exact⟨fun h1=>absurd h1 ho2,fun h1=>absurd h1 ho⟩
  ·exact h.done p k' x c' hp hx (by omega)
 told:=h.told
 few:=by have:=h.few;omega
theorem uK.old {m:Md}{n i j k a:Nat}{R:List Nat}{ts:List Lk}{f:Int→Int}{c:Ins}(h:uK m n i j R ts f)(hk:R[i]?=some k)(hc:(unit m (k:Int)).code[j]?=some c)(ho:AB c)(ha:c.a=(a:Int))(hR:a ∈ R):uK m n i (j+1) R ts (fun q=>if q=(a:Int) then f a+1 else f q) where
 nodup:=h.nodup
 lt:=h.lt
 reach:=h.reach
 head:=h.head
 met:=fun b=>by
  obtain⟨h1,h2,h3⟩:=h.met a;obtain⟨g1,g2,g3⟩:=h.met b;by_cases e:b=a
  ·subst e
   simp only[if_pos];exact⟨by omega,by omega,fun _=>hR,fun _=>by omega⟩
  ·have e':¬ (b:Int)=(a:Int):=by omega
   simp only[if_neg e'];exact⟨g1,by omega,g3⟩
 done:=fun p k' x c' hp hx ho'=>by
  by_cases e:p=i∧x=j
  ·obtain⟨rfl,rfl⟩:=e
   rw[hk] at hp;cases hp;rw[hc] at hx;cases hx;refine⟨fun _=>⟨a,hR,ha⟩,fun h1=>?_⟩;unfold AB at ho;unfold BS at h1;omega
  ·exact h.done p k' x c' hp hx (by omega)
 told:=h.told
 few:=by have:=h.few;omega
theorem uK.new {m:Md}{n i j k a:Nat}{R:List Nat}{ts:List Lk}{f:Int→Int}{c:Ins}(h:uK m n i j R ts f)(hk:R[i]?=some k)(hc:(unit m (k:Int)).code[j]?=some c)(ho:AB c)(ha:c.a=(a:Int))(hm:a<m.units.length)(hR:a ∉ R):uK m n i (j+1) (R++[a]) ts (fun q=>if q=(a:Int) then f a+1 else f q) where
 nodup:=by
  rw[List.nodup_append];exact⟨h.nodup,by simp,fun x hx y hy=>by simp at hy;subst hy;exact fun e=>hR (e ▸ hx)⟩
 lt:=fun b hb=>by
  rcases List.mem_append.1 hb with h1 | h1
  ·exact h.lt b h1
  ·simp at h1;omega
 reach:=fun b hb=>by
  rcases List.mem_append.1 hb with h1 | h1
  ·exact h.reach b h1
  ·simp at h1
   subst h1;rw[← ha];exact .step (h.reach k (List.mem_of_getElem? hk)) (List.mem_of_getElem? hc) ho
 head:=List.mem_append_left _ h.head
 met:=fun b=>by
  obtain⟨h1,h2,h3⟩:=h.met a;obtain⟨g1,g2,g3⟩:=h.met b;by_cases e:b=a
  ·subst e
   simp only[if_pos];exact⟨by omega,by omega,fun _=>by simp,fun _=>by omega⟩
  ·have e':¬ (b:Int)=(a:Int):=by omega
   simp only[if_neg e'];exact⟨g1,by omega,by rw[g3];simp[e]⟩
 done:=fun p k' x c' hp hx ho'=>by
  have hi:i<R.length:=(List.getElem?_eq_some_iff.1 hk).1;rw[List.getElem?_append_left (by omega)] at hp;by_cases e:p=i∧x=j
  ·obtain⟨rfl,rfl⟩:=e
   rw[hk] at hp;cases hp;rw[hc] at hx;cases hx;refine⟨fun _=>⟨a,by simp,ha⟩,fun h1=>?_⟩;unfold AB at ho;unfold BS at h1;omega
  ·obtain⟨d1,d2⟩:=h.done p k' x c' hp hx (by omega)
   exact⟨fun t=>by obtain⟨b,hb,he⟩:=d1 t;exact⟨b,List.mem_append_left _ hb,he⟩,d2⟩
 told:=fun q hq=>by
  obtain⟨t1,k',t2,t3⟩:=h.told q hq;exact⟨t1,k',List.mem_append_left _ t2,t3⟩
 few:=by have:=h.few;omega
theorem uK.next {m:Md}{n i j k:Nat}{R:List Nat}{ts:List Lk}{f:Int→Int}(h:uK m n i j R ts f)(hk:R[i]?=some k)(hj:j=(unit m (k:Int)).code.length)(h4:j≤4000):uK m n (i+1) 0 R ts f where
 nodup:=h.nodup
 lt:=h.lt
 reach:=h.reach
 head:=h.head
 met:=fun a=>by obtain⟨h1,h2,h3⟩:=h.met a;exact⟨h1,by omega,h3⟩
 done:=fun p k' x c' hp hx ho'=>by
  refine h.done p k' x c' hp hx ?_;by_cases e:p=i
  ·subst e
   rw[hk] at hp;cases hp;have:=(List.getElem?_eq_some_iff.1 hx).1;omega
  ·omega
 told:=h.told
 few:=by have:=h.few;omega
theorem uK.all {m:Md}(hR:Rt m){n i:Nat}{R:List Nat}{ts:List Lk}{f:Int→Int}(h:uK m n i 0 R ts f)(hi:R.length≤i)(q:Lk):q ∈ ts ↔ (q.1=26∨q.1=27)∧comes m n q=true:=by
 have hc:∀ k,Reach m (n:Int) k→∃ a ∈ R,k=(a:Int):=by
  intro k hk;induction hk with
  | here=>exact⟨n,h.head,rfl⟩
  | step _ h2 h3 ih =>
   obtain⟨a,ha,rfl⟩:=ih;obtain⟨p,hp⟩:=List.getElem?_of_mem ha;obtain⟨x,hx⟩:=List.getElem?_of_mem h2;exact (h.done p a x _ hp hx (.inl (by have:=(List.getElem?_eq_some_iff.1 hp).1;omega))).1 h3
 constructor
 ·intro hq
  obtain⟨t1,k,t2,t3⟩:=h.told q hq;exact⟨t1,(Ma hR n t1).2 ⟨k,h.reach k t2,t3⟩⟩
 ·rintro⟨h1,h2⟩
  obtain⟨k,hk,c,hc',rfl⟩:=(Ma hR n h1).1 h2;obtain⟨a,ha,rfl⟩:=hc k hk;obtain⟨p,hp⟩:=List.getElem?_of_mem ha;obtain⟨x,hx⟩:=List.getElem?_of_mem hc';exact (h.done p a x _ hp hx (.inl (by have:=(List.getElem?_eq_some_iff.1 hp).1;omega))).2 h1
end Vf
end Go.Proofs.YtbdpdjcdhclbfaaGreat
namespace Go.Proofs.YtbdpdjcdhclbfaaGreat
open Go.RowKit
abbrev JN (l:List Nat):List Value:=l.map (fun (x:Nat)=>Value.int .i64 (x:Int))
def QR (w:World)(B:Nat)(v:Value)(ws:List Nat):Prop :=
 (v=.slice none 0 0∧ws=[])∨∃ g off cap cs,v=.slice (some ⟨g,off,none⟩) ws.length cap∧B≤g∧w.heap[g]?=some (.cells (List.toArray cs) 3 (0,0))∧off+cap≤cs.length∧ws.length≤cap∧∀ (i x:Nat),ws[i]?=some x→cs[off+i]?=some (Value.int .i64 (x:Int))
theorem QR.nil (w:World)(B:Nat):QR w B (.slice none 0 0) []:=.inl ⟨rfl,rfl⟩
theorem JO {w:World}{B n:Nat}{v:Value}{ws:List Nat}(h:w.ownsRow B 3 1 v n (JN ws)):QR w B v ws:=by
 have hl:ws.length=n:=by have:=h.1;simpa using this
 subst hl;rcases h.2 with⟨rfl,h0⟩ | ⟨g,cap,cur,rfl,hg,hh,h1,h2,h3,h4⟩
 ·exact .inl ⟨rfl,List.eq_nil_of_length_eq_zero h0⟩
 ·refine .inr ⟨g,0,cap,cur.toList,rfl,hg,hh,by simp;omega,h1,fun i x hx=>?_⟩
  have:(JN ws)[i]?=some (.int .i64 (x:Int)):=by simp[hx]
  rw[← h4,List.getElem?_take] at this;split at this
  ·simpa using this
  ·simp at this
theorem QR.keep {w w':World}{B:Nat}{v:Value}{ws:List Nat}(h:QR w B v ws)(hk:∀ k,v.ownBlock=some k→w'.heap[k]?=w.heap[k]?):QR w' B v ws:=by
 rcases h with h | ⟨g,off,cap,cs,rfl,hB,hh,r⟩
 ·exact .inl h
 ·exact .inr ⟨g,off,cap,cs,rfl,hB,(hk g rfl).trans hh,r⟩
theorem QR.lt {w:World}{B:Nat}{v:Value}{ws:List Nat}(h:QR w B v ws)(k:Nat)(hk:v.ownBlock=some k):B≤k∧k<w.heap.size:=by
 rcases h with⟨rfl,_⟩ | ⟨g,off,cap,cs,rfl,hB,hh,r⟩
 ·simp[Value.ownBlock] at hk
 ·simp only[Value.ownBlock,Option.some.injEq] at hk
  subst hk;exact⟨hB,lt_of_block hh⟩
theorem QR.alloc {w:World}{B:Nat}{v:Value}{ws:List Nat}(h:QR w B v ws)(o:Obj):QR (w.alloc o) B v ws:=h.keep (fun k hk=>Below.heap_alloc _ _ _ (h.lt k hk).2)
theorem QR.ty {w:World}{B k:Nat}{v:Value}{ws:List Nat}{o:Obj}(h:QR w B v ws)(hk:w.heap[k]?=some o)(ht:∀ cs fr,o≠.cells cs 3 fr):v.ownBlock≠some k:=by
 rcases h with⟨rfl,_⟩ | ⟨g,off,cap,cs',rfl,hB,hh,r⟩
 ·simp[Value.ownBlock]
 ·intro e1
  simp only[Value.ownBlock,Option.some.injEq] at e1;subst e1;rw[hh] at hk;simp at hk;exact ht _ _ hk.symm
theorem QR.form {w:World}{B:Nat}{v:Value}{ws:List Nat}(h:QR w B v ws):∃ a c,v=.slice a ws.length c:=by
 rcases h with⟨rfl,rfl⟩ | ⟨g,off,cap,cs,rfl,_⟩
 ·exact⟨_,_,rfl⟩
 ·exact⟨_,_,rfl⟩
theorem QR.pop {w:World}{B:Nat}{v:Value}{x:Nat}{ws:List Nat}(h:QR w B v (x :: ws)) :
  ∃ g off cap,v=.slice (some ⟨g,off,none⟩) (ws.length+1) cap∧ws.length+1≤cap∧w.cell? ⟨g,off,none⟩=some (.int .i64 (x:Int)) ∧
   (cap=1→QR w B (.slice (some ⟨g,off,none⟩) 0 0) ws)∧(cap≠1→QR w B (.slice (some ⟨g,off+1,none⟩) ws.length (cap - 1)) ws):=by
 rcases h with⟨_,h⟩ | ⟨g,off,cap,cs,rfl,hB,hh,h1,h2,h3⟩
 ·simp at h
 ·simp only[List.length_cons] at h2
  refine⟨g,off,cap,rfl,h2,?_,fun hc=>?_,fun hc=>?_⟩
  ·have:=h3 0 x rfl
   simp[World.cell?,hh];simpa using this
  ·have hw:ws=[]:=List.eq_nil_of_length_eq_zero (by omega)
   subst hw;exact .inr ⟨g,off,0,cs,rfl,hB,hh,by omega,Nat.le_refl _,fun i x hx=>by simp at hx⟩
  ·refine .inr ⟨g,off+1,cap - 1,cs,rfl,hB,hh,by omega,by omega,fun i y hy=>?_⟩
   have:=h3 (i+1) y (by simpa using hy);rw[show off+1+i=off+(i+1) by omega];exact this
theorem QJ {w w':World}{r:Option Nat}(h:w.grownBy w' none):w.grownBy w' r:=⟨h.os,h.tape,h.output,h.size,fun k hk _=>h.block k hk (by simp)⟩
theorem JP {w:World}{B C e size n:Nat}{v:Value}{xs:List Value}(h:w.ownsRow C e size v n xs)(hB:B≤C):w.ownsRow B e size v n xs:=by
 refine⟨h.1,?_⟩;rcases h.2 with h2 | ⟨g,cap,cur,hv,hg,r⟩
 ·exact .inl h2
 ·exact .inr ⟨g,cap,cur,hv,Nat.le_trans hB hg,r⟩
theorem JQ (g off j:Nat):(⟨g,off,none⟩:Addr).add j=⟨g,off+j,none⟩:=by
 unfold Addr.add;split
 ·subst_vars;rfl
 ·rfl
theorem JR (x:Nat):∀ u ∈ [Value.int .i64 (x:Int)],u.oneCell'=true:=by intro u hu;simp at hu;subst hu;rfl
theorem Ho {w:World}{g:Nat}{cs:List Value}{t:TypeId}{fr:Nat × Nat}(h:w.heap[g]?=some (.cells (List.toArray cs) t fr))(i:Nat)(v:Value):(w.setCell ⟨g,i,none⟩ v).heap[g]?=some (.cells (List.toArray (cs.set i v)) t fr):=by
 simp only[World.setCell,Array.getElem?_modify,if_true,h,Option.map_some];simp
theorem XT (w:World)(B:Nat)(ty:TypeId)(v:Value)(ws:List Nat)(x:Nat)(h:QR w B v ws)(a:Addr)(hnews:∀ j u,[Value.int .i64 (x:Int)][j]?=some u→w.cell? (a.add j)=some u)(hn:ws.length≤100000000)(hB:B≤w.heap.size) :
  ∃ v' w',(Builtin.append_ #[37,37] ty #[v,.slice (some a) 1 1]).run Tryz.prog w=.ok v' w'∧QR w' B v' (ws++[x])∧w.grownBy w' v.ownBlock:=by
 obtain⟨i0,hi,hz0,hz1,hz2⟩:=info_parts Tryz.info3;rcases h with⟨rfl,rfl⟩ | ⟨g,off,cap,cs,rfl,hBg,hh,h1,h2,h3⟩
 ·obtain⟨v',w',hr,ho,hg,_⟩:=run_append_own (P:=Tryz.prog) w B 37 ty 3 i0 _ 1 8 Tryz.underlying37 hi hz0 hz1 hz2 rfl (by decide) (.slice none 0 0) 0 [] (World.ownsRow_nil _ _ _ _) a 1 1 [.int .i64 (x:Int)] rfl hnews (JR x) (by unfold maxLen;omega) (by omega) hB
  exact⟨v',w',hr,JO (ws:=[x]) ho,hg⟩
 ·by_cases hroom:ws.length+1≤cap
  ·have hlt:off+ws.length<cs.length:=by omega
   have hr:=run_append_room_cells (P:=Tryz.prog) w 37 ty 3 i0 Tryz.underlying37 hi g off ws.length cap a 1 1 [.int .i64 (x:Int)] (by rw[hz1];rfl) hnews (JR x) hroom
    (fun j hj=>by
     have hj0:j=0:=by simpa using hj
     subst hj0;rw[hz1];simp[World.cell?,hh,hlt])
    (fun j hj=>by simp[World.frozen?,hh])
   rw[hz1,Nat.mul_one] at hr;refine⟨_,_,hr,.inr ⟨g,off,cap,cs.set (off+ws.length) (.int .i64 (x:Int)),by simp,hBg,Ho hh _ _,by simpa using h1,by simpa using hroom,fun i y hy=>?_⟩,⟨rfl,rfl,rfl,by simp[World.setCells,World.setCell],fun k hk hne=>?_⟩⟩
   ·by_cases hi':i<ws.length
    ·rw[List.getElem?_append_left hi'] at hy
     rw[List.getElem?_set_ne (by omega)];exact h3 i y hy
    ·have hi2:i=ws.length:=by
      have:=(List.getElem?_eq_some_iff.1 hy).1;simp at this;omega
     subst hi2;simp at hy;subst hy;rw[List.getElem?_set_self hlt]
   ·exact Below.heap_setCell w ⟨g,off+ws.length,none⟩ _ k (fun e=>hne (by rw[e];rfl))
  ·obtain⟨v',w',hr,ho,hg⟩:=run_append_arg_grows (P:=Tryz.prog) w 37 ty 3 i0 _ 1 8 Tryz.underlying37 hi hz0 hz1 hz2 rfl (by decide) ⟨g,off,none⟩ ws.length cap (JN ws) (by simp) (fun j u hu=>by
     rw[JQ];rw[List.getElem?_map] at hu;obtain⟨y,hy,rfl⟩:=Option.map_eq_some_iff.1 hu;simp[World.cell?,hh,h3 j y hy]) a 1 1 [.int .i64 (x:Int)] rfl hnews (by omega) (by unfold maxLen;omega) (by omega)
   exact⟨v',w',hr,JO (ws:=ws++[x]) (JP (by simpa using ho) hB),QJ hg⟩
theorem Mc {w:World}{ops:Array Oper}{rest:List Oper}{o:Oper}{a:Act}{Q:Exit→Act→World→Prop}(hgd:o.guard=none)(s x:Operand)
  (ho:o.op=.call { callee:=.builtin .append,args:=#[s,x],argTypes:=#[37,37] })
  (B:Nat) (v:Value) (ws:List Nat) (y:Nat) (hs:a.eval s=v) (h:QR w B v ws) (ad:Addr) (hx:a.eval x=.slice (some ad) 1 1) (hnews:∀ j u,[Value.int .i64 (y:Int)][j]?=some u→w.cell? (ad.add j)=some u)
  (hn:ws.length≤100000000) (hB:B≤w.heap.size)
  (hK:∀ v' w',QR w' B v' (ws++[y])→w.grownBy w' v.ownBlock→wpList Tryz.prog ops Q rest (a.put o.dst v') w'):wpList Tryz.prog ops Q (o :: rest) a w:=by
 refine wpList_plain hgd fun K hK2=>?_;obtain⟨v',w',hr,h2,h3⟩:=XT w B o.type v ws y h ad hnews hn hB;unfold Oper.wp;simp[execOp,ho,resolve,invoke,builtin,hs,hx,hr,Result.andThen];exact hK2 _ _ (hK v' w' h2 h3)
abbrev QK (st:List Int) (top:Option Addr):Value:=.agg #[.pointer top,.int .i64 (st.length:Int)]
theorem QL {w:World}:∀ {s t:List Int} {a:Option Addr},uf w a s→uf w a t→s=t
 | [],[],_,_,_=>rfl
 | [],_ :: _,_,h1,⟨b,_,e,_⟩=>by rw[show _=none from h1] at e;cases e
 | _ :: _,[],_,⟨b,_,e,_⟩,h2=>by rw[show _=none from h2] at e;cases e
 | x :: s,y :: t,_,⟨b,p,e,hb,hr⟩,⟨b',p',e',hb',hr'⟩=>by
  rw[e] at e';cases e';rw[hb] at hb';simp at hb';obtain⟨rfl,rfl⟩:=hb';rw[QL hr hr']
def XU (b:Bool)(w:World)(k:Nat)(v v':Value)(W:World):Prop :=
 w.grownBy W none∧∃ p q s t,v=.pointer p∧v'=.pointer q∧uf W p s∧uf W q t∧s.length=k∧t.length=k∧b=decide (s=t)
theorem uf.Me {w w':World}{a:Option Addr}{st:List Int}(h:uf w a st)(hg:w.grownBy w' none):uf w' a st:=h.keep fun b _ hb=>(hg.block b (lt_of_block hb) (by simp)).trans hb
theorem EX {w w':World}(h:w.grownBy w' none):w.grownBy w'.drew none:=⟨h.os,h.tape,h.output,h.size,h.block⟩
theorem XV {w w':World}(h:w.grownBy w' none)(n:Nat):w.grownBy (w'.drewN n) none:=⟨h.os,h.tape,h.output,h.size,h.block⟩
theorem yP {w w':World}(h:w.grownBy w' none)(o:Obj):w.grownBy (w'.alloc o) none :=
 ⟨h.os,h.tape,h.output,by have:=h.size;simp;omega,fun k hk hne=>(Below.heap_alloc _ _ _ (by have:=h.size;omega)).trans (h.block k hk hne)⟩
theorem QM {w:World}{b:Nat}{t:Int}{below:Option Addr}(h:w.heap[b]?=some (.cells #[.int .i64 t,.pointer below] 148 (0,0))):w.cell? ⟨b,0,none⟩=some (.int .i64 t)∧w.cell? ⟨b,1,none⟩=some (.pointer below):=by simp[World.cell?,h]
theorem Tryz.QN:(Tryz.prog.info? 148).map (·.size)=some 2:=by kernel_rfl
theorem XW (p:Option Addr)(w:World):(binOp .neq 70 (.pointer p) (.pointer p)).run Tryz.prog w=.ok (.bool false) w:=by
 obtain⟨j,hj,hj2⟩:=Option.map_eq_some_iff.1 Tryz.QN;have h:∀ d:Nat,(Op.equalIn (d+1) 70 (.pointer p) (.pointer p)).run Tryz.prog w=.ok true w:=fun d=>by
  cases p with
  | none=>simp[Op.equalIn,run_underlying Tryz.underlying70]
  | some a=>simp[Op.equalIn,run_underlying Tryz.underlying70,sizeOf,typeInfo,hj,run_sameAddr_same]
 simp only[binOp];simp[Op.equal,Op.maxDepth,h 9999]
theorem XX {b c:Nat}{cb cc:Array Value}{tb tc:TypeId}(w:World)(hne:b≠c)(hb:w.heap[b]?=some (.cells cb tb (0,0)))(hc:w.heap[c]?=some (.cells cc tc (0,0))):(binOp .neq 70 (.pointer (some ⟨b,0,none⟩)) (.pointer (some ⟨c,0,none⟩))).run Tryz.prog w=.ok (.bool true) w:=by
 obtain⟨j,hj,hj2⟩:=Option.map_eq_some_iff.1 Tryz.QN;have h1:=run_sameAddr_other (P:=Tryz.prog) w (a:=⟨b,0,none⟩) (b:=⟨c,0,none⟩) (by intro e;cases e;exact hne rfl) hb hc;have h:∀ d:Nat,(Op.equalIn (d+1) 70 (.pointer (some ⟨b,0,none⟩)) (.pointer (some ⟨c,0,none⟩))).run Tryz.prog w=.ok false w:=fun d=>by
  simp[Op.equalIn,run_underlying Tryz.underlying70,sizeOf,typeInfo,hj,hj2,h1]
 simp only[binOp];simp[Op.equal,Op.maxDepth,h 9999]
theorem Mf (s t:List Int)(p q:Option Addr)(w:World)(hs:Hid (uf w p s))(ht:Hid (uf w q t))(b:Bool)(hb:Hid (b=decide (s=t))) :
  Calls Tryz.prog 100 #[QK s p,QK t q] w fun e w'=>e=.returned (.bool b)∧w.grownBy w' none:=by
 by_cases hlen:s.length=t.length
 ·have e0:((s.length:Int) != (t.length:Int))=false:=by simp;omega
  have HL:=hide hlen;clear hlen;go_enter Tryz.func100,Tryz.ntmps100
  go_wp2
  go_quiet (fail)
  go_wp2
  go_loopg [5,6] s.length (fun k v v' wr=>XU b w k v v' wr)
  case atStart =>
   have hg:w.grownBy ((w.alloc (.cells #[.pointer p,.int .i64 (s.length:Int)] 72)).alloc (.cells #[.pointer q,.int .i64 (t.length:Int)] 72)) none:=yP (yP (World.grownBy.refl _ _) _) _;refine⟨?_,p,q,s,t,rfl,rfl,?_,?_,rfl,HL.out.symm,hb.out⟩
   ·exact⟨rfl,rfl,rfl,hg.size,hg.block⟩
   ·exact hs.out.keep fun b _ hb=>(hg.block b (lt_of_block hb) (by simp)).trans hb
   ·exact ht.out.keep fun b _ hb=>(hg.block b (lt_of_block hb) (by simp)).trans hb
  case round =>
   obtain⟨hg,p1,q1,s1,t1,rfl,rfl,hs1,ht1,hl1,hl2,hb1⟩:=hrel;have HG:=hide hg;have HB1:=hide hb1;clear hg hb1 e0;by_cases hpq:p1=q1
   ·subst hpq
    have HT:Hid (b=true):=by unfold Hid;rw[HB1.out,QL hs1 ht1];simp
    have hnq:=XW p1 wr;clear hs1 ht1 hl1 hl2;go_wp2
    go_ret
    rw[HT.out];exact⟨rfl,HG.out⟩
   ·cases s1 with
    | nil =>
     exfalso;obtain rfl:t1=[]:=List.eq_nil_of_length_eq_zero (by rw[hl2,← hl1];rfl);exact hpq ((show p1=none from hs1).trans (show q1=none from ht1).symm)
    | cons x s2 =>
     cases t1 with
     | nil=>exfalso;simp at hl1 hl2;omega
     | cons y t2 =>
      obtain⟨bp,lp,rfl,hbp,hsp⟩:=hs1;obtain⟨bq,lq,rfl,hbq,QO⟩:=ht1;have hnq:=XX wr (fun e=>hpq (by rw[e])) hbp hbq;obtain⟨p0,p1⟩:=QM hbp;obtain⟨q0,q1⟩:=QM hbq;have sK:=hide hsp;have XY:=hide QO;have BG:Hid (s2.length+1=gk∧t2.length+1=gk):=⟨by simpa using hl1,by simpa using hl2⟩;clear hbp hbq hsp QO hpq hl1 hl2;by_cases hxy:x=y
      ·have e1:(x != y)=false:=by simpa using hxy
       have HB2:Hid (b=decide (s2=t2)):=by unfold Hid;rw[HB1.out,hxy];simp
       clear hxy HB1;go_wp2
       go_quiet (fail)
       go_wp2
       go_quiet (fail)
       go_wp2
       go_roundg s2.length
       case measure=>have:=BG.out;omega
       case rel =>
        refine⟨⟨HG.out.os,HG.out.tape,HG.out.output,HG.out.size,HG.out.block⟩,lp,lq,s2,t2,rfl,rfl,sK.out.keep fun _ _ h=>h,XY.out.keep fun _ _ h=>h,rfl,by have:=BG.out;omega,HB2.out⟩
      ·have e1:(x != y)=true:=by simpa using hxy
       have HB2:Hid (b=false):=by unfold Hid;rw[HB1.out];simp[hxy]
       clear hxy HB1;go_wp2
       go_quiet (fail)
       go_wp2
       go_ret
       rw[HB2.out];exact⟨rfl,⟨HG.out.os,HG.out.tape,HG.out.output,HG.out.size,HG.out.block⟩⟩
 ·have e0:((s.length:Int) != (t.length:Int))=true:=by simp;omega
  have HB:Hid (b=false):=by unfold Hid;rw[hb.out];simp;intro e;exact hlen (by rw[e])
  go_enter Tryz.func100,Tryz.ntmps100
  go_wp2
  go_ret
  rw[HB.out];exact⟨rfl,⟨rfl,rfl,rfl,by simp;omega,fun k hk _=>(Below.heap_alloc _ _ _ (by simp;omega)).trans (Below.heap_alloc _ _ _ hk)⟩⟩
abbrev Ea (f:Vf.Fl):Value:=.agg #[ah f.a,ah f.b,ah f.c,ah f.d]
abbrev zX (f:Vf.Fl):Obj:=.cells #[ah f.a,ah f.b,ah f.c,ah f.d] 75 (0,0)
def mix (f g:Vf.Fl)(k:Nat):Vf.Fl:=⟨if 0<k then f.a &&& g.a else f.a,if 1<k then f.b &&& g.b else f.b,if 2<k then f.c &&& g.c else f.c,if 3<k then f.d &&& g.d else f.d⟩
structure XZ (f g:Vf.Fl) (w:World) (k:Nat) (W:World):Prop where
 le:k≤4
 l:W.heap[w.heap.size]?=some (zX (mix f g k))
 o:W.heap[w.heap.size+1]?=some (zX g)
 z:W.heap[w.heap.size+2]?=some (zX Vf.Fl.none)
 grown:w.grownBy W none
theorem xA {w:World}{N:Nat}{f:Vf.Fl}(h:w.heap[N]?=some (zX f)):w.cell? ⟨N,0,none⟩=some (ah f.a)∧w.cell? ⟨N,1,none⟩=some (ah f.b)∧w.cell? ⟨N,2,none⟩=some (ah f.c)∧w.cell? ⟨N,3,none⟩=some (ah f.d)∧w.frozen? ⟨N,0,none⟩=false∧w.frozen? ⟨N,1,none⟩=false∧w.frozen? ⟨N,2,none⟩=false∧w.frozen? ⟨N,3,none⟩=false:=by
 simp[World.cell?,World.frozen?,h]
theorem JS (x y:BitVec 64):bits .and .u64 (x.toNat:Int) (y.toNat:Int)=((x &&& y).toNat:Int):=by
 have h1:=x.isLt;have h2:=y.isLt;rw[u64_and_nat x.toNat y.toNat (by omega) (by omega),BitVec.toNat_and]
theorem zz {w w':World}{N:Nat}(h:w.grownBy w' none)(hN:w.heap.size≤N)(o:Nat)(v:Value):w.grownBy (w'.setCell ⟨N,o,none⟩ v) none :=
 ⟨h.os,h.tape,h.output,by have:=h.size;simp[World.setCell];omega,fun k hk hne=>by
  rw[Below.heap_setCell _ ⟨N,o,none⟩ _ _ (by show k≠N;omega)];exact h.block k hk hne⟩
theorem X0 (w:World)(a b c:Obj):(((w.alloc a).alloc b).alloc c).heap[w.heap.size+2]?=some c:=by
 have e:((w.alloc a).alloc b).heap.size=w.heap.size+2:=by simp
 rw[← e];exact heap_alloc_new _ _
theorem QP (f g:Vf.Fl)(w:World) :
  Calls Tryz.prog 101 #[Ea f,Ea g] w fun e w'=>e=.returned (Ea (f.both g))∧w.grownBy w' none:=by
 go_enter Tryz.func101,Tryz.ntmps101
 go_wp2
 go_loopw [6] (fun v wr=>∃ k:Nat,v=.int .i64 k∧XZ f g w k wr) (fun v _=>4 - (intOf v).toNat)
 case atStart=>exact⟨0,rfl,by omega,(Below.heap_alloc _ _ _ (by simp;omega)).trans ((Below.heap_alloc _ _ _ (by simp)).trans (heap_alloc_new _ _)),(Below.heap_alloc _ _ _ (by simp)).trans (by have:=heap_alloc_new (w.alloc (zX f)) (zX g);simpa using this),X0 _ _ _ _,yP (yP (yP (World.grownBy.refl _ _) _) _) _⟩
 case round =>
  obtain⟨k,rfl,hA⟩:=hrel;have HA:=hide hA;have hk:=hA.le;clear hA;rcases (by omega:k=0∨k=1∨k=2∨k=3∨k=4) with rfl | rfl | rfl | rfl | rfl
  ·skip
   have c0:wr.cell? ⟨w.heap.size,0,none⟩=some (ah f.a):=(xA HA.out.l).1;have c1:wr.cell? ⟨w.heap.size+1,0,none⟩=some (ah g.a):=(xA HA.out.o).1;have z0:wr.frozen? ⟨w.heap.size,0,none⟩=false:=(xA HA.out.l).2.2.2.2.1;have eb:=JS f.a g.a;go_wp2
   go_region
   all_goals
    go_wp2
    go_roundw
    case rel =>
     refine⟨0+1,rfl,by omega,?_,?_,?_,EX (zz HA.out.grown (Nat.le_refl _) _ _)⟩
     ·show (wr.setCell ⟨w.heap.size,0,none⟩ (ah (f.a &&& g.a))).heap[w.heap.size]?=_
      simp only[World.setCell,Array.getElem?_modify,if_true,HA.out.l,Option.map_some];rfl
     ·show (wr.setCell ⟨w.heap.size,0,none⟩ (ah (f.a &&& g.a))).heap[w.heap.size+1]?=_
      rw[Below.heap_setCell _ ⟨w.heap.size,0,none⟩ _ _ (by show w.heap.size+1≠w.heap.size;omega)];exact HA.out.o
     ·show (wr.setCell ⟨w.heap.size,0,none⟩ (ah (f.a &&& g.a))).heap[w.heap.size+2]?=_
      rw[Below.heap_setCell _ ⟨w.heap.size,0,none⟩ _ _ (by show w.heap.size+2≠w.heap.size;omega)];exact HA.out.z
    case measure=>simp[intOf]
  ·skip
   have c0:wr.cell? ⟨w.heap.size,1,none⟩=some (ah f.b):=(xA HA.out.l).2.1;have c1:wr.cell? ⟨w.heap.size+1,1,none⟩=some (ah g.b):=(xA HA.out.o).2.1;have z0:wr.frozen? ⟨w.heap.size,1,none⟩=false:=(xA HA.out.l).2.2.2.2.2.1;have eb:=JS f.b g.b;go_wp2
   go_region
   all_goals
    go_wp2
    go_roundw
    case rel =>
     refine⟨1+1,rfl,by omega,?_,?_,?_,EX (zz HA.out.grown (Nat.le_refl _) _ _)⟩
     ·show (wr.setCell ⟨w.heap.size,1,none⟩ (ah (f.b &&& g.b))).heap[w.heap.size]?=_
      simp only[World.setCell,Array.getElem?_modify,if_true,HA.out.l,Option.map_some];rfl
     ·show (wr.setCell ⟨w.heap.size,1,none⟩ (ah (f.b &&& g.b))).heap[w.heap.size+1]?=_
      rw[Below.heap_setCell _ ⟨w.heap.size,1,none⟩ _ _ (by show w.heap.size+1≠w.heap.size;omega)];exact HA.out.o
     ·show (wr.setCell ⟨w.heap.size,1,none⟩ (ah (f.b &&& g.b))).heap[w.heap.size+2]?=_
      rw[Below.heap_setCell _ ⟨w.heap.size,1,none⟩ _ _ (by show w.heap.size+2≠w.heap.size;omega)];exact HA.out.z
    case measure=>simp[intOf]
  ·skip
   have c0:wr.cell? ⟨w.heap.size,2,none⟩=some (ah f.c):=(xA HA.out.l).2.2.1;have c1:wr.cell? ⟨w.heap.size+1,2,none⟩=some (ah g.c):=(xA HA.out.o).2.2.1;have z0:wr.frozen? ⟨w.heap.size,2,none⟩=false:=(xA HA.out.l).2.2.2.2.2.2.1;have eb:=JS f.c g.c;go_wp2
   go_region
   all_goals
    go_wp2
    go_roundw
    case rel =>
     refine⟨2+1,rfl,by omega,?_,?_,?_,EX (zz HA.out.grown (Nat.le_refl _) _ _)⟩
     ·show (wr.setCell ⟨w.heap.size,2,none⟩ (ah (f.c &&& g.c))).heap[w.heap.size]?=_
      simp only[World.setCell,Array.getElem?_modify,if_true,HA.out.l,Option.map_some];rfl
     ·show (wr.setCell ⟨w.heap.size,2,none⟩ (ah (f.c &&& g.c))).heap[w.heap.size+1]?=_
      rw[Below.heap_setCell _ ⟨w.heap.size,2,none⟩ _ _ (by show w.heap.size+1≠w.heap.size;omega)];exact HA.out.o
     ·show (wr.setCell ⟨w.heap.size,2,none⟩ (ah (f.c &&& g.c))).heap[w.heap.size+2]?=_
      rw[Below.heap_setCell _ ⟨w.heap.size,2,none⟩ _ _ (by show w.heap.size+2≠w.heap.size;omega)];exact HA.out.z
    case measure=>simp[intOf]
  ·skip
   have c0:wr.cell? ⟨w.heap.size,3,none⟩=some (ah f.d):=(xA HA.out.l).2.2.2.1;have c1:wr.cell? ⟨w.heap.size+1,3,none⟩=some (ah g.d):=(xA HA.out.o).2.2.2.1;have z0:wr.frozen? ⟨w.heap.size,3,none⟩=false:=(xA HA.out.l).2.2.2.2.2.2.2;have eb:=JS f.d g.d;go_wp2
   go_region
   all_goals
    go_wp2
    go_roundw
    case rel =>
     refine⟨3+1,rfl,by omega,?_,?_,?_,EX (zz HA.out.grown (Nat.le_refl _) _ _)⟩
     ·show (wr.setCell ⟨w.heap.size,3,none⟩ (ah (f.d &&& g.d))).heap[w.heap.size]?=_
      simp only[World.setCell,Array.getElem?_modify,if_true,HA.out.l,Option.map_some];rfl
     ·show (wr.setCell ⟨w.heap.size,3,none⟩ (ah (f.d &&& g.d))).heap[w.heap.size+1]?=_
      rw[Below.heap_setCell _ ⟨w.heap.size,3,none⟩ _ _ (by show w.heap.size+1≠w.heap.size;omega)];exact HA.out.o
     ·show (wr.setCell ⟨w.heap.size,3,none⟩ (ah (f.d &&& g.d))).heap[w.heap.size+2]?=_
      rw[Below.heap_setCell _ ⟨w.heap.size,3,none⟩ _ _ (by show w.heap.size+2≠w.heap.size;omega)];exact HA.out.z
    case measure=>simp[intOf]
  ·obtain⟨a0,a1,a2,a3,_⟩:=xA HA.out.l
   obtain⟨z0,z1,z2,z3,y0,y1,y2,y3⟩:=xA HA.out.z;go_wp2
   refine bodyPost_ret (v:=Ea (f.both g)) (by simp[results,Tryz.results101,go_sem,z0,z1,z2,z3];exact⟨rfl,rfl,rfl,rfl⟩) rfl ?_;exact⟨rfl,zz (zz (zz (zz HA.out.grown (by omega) _ _) (by omega) _ _) (by omega) _ _) (by omega) _ _⟩
end Go.Proofs.YtbdpdjcdhclbfaaGreat
