/- A function that is one drawn region with such an end: sound. -/
import Derived.Test.YthffafaoobpedaaGreatDoorM44
import Derived.Test.YthffafaoobpedaaGreatDoorM42
namespace Go.Proofs.YthffafaoobpedaaGreatDoor
namespace Xe
variable {P:Program}
theorem acF {γ:Type}(q:Ix)(f:Nat→Operand→Operand→Nat→γ):QB q f=f q.z q.x q.i q.d:=rfl
theorem acG {α β γ:Type}(p:α × β)(f:α→β→γ):pB p f=f p.1 p.2:=rfl
theorem acH {z:Nat}{x i:Operand}{call:Cl}{e:En}{s s':S}{v:Value}(h:qj z x i call e s 0=some (v,s'))(t:S):qj z x i call e t 0=some (v,t):=by
 unfold qj at h ⊢
 generalize ev e x=y at h ⊢
 cases y <;> first | cases h | skip
 rename_i a n c
 obtain ⟨b,hb,h⟩:=ai.1 h
 obtain ⟨u,hu,h⟩:=ai.1 h
 cases h
 exact ai.2 ⟨b,hb,ai.2 ⟨v,hu,rfl⟩⟩
theorem IU {ops:Array Oper}{n:Nat}(hn:ops.size=n+3):(kG ops).size=n∧(∀ i,i < n→(kG ops)[i]?=ops[i]?)∧aL ops=aL (kG ops) ++ (aL ops).drop n:=by
 have hl:(aL ops).length=n+3:=by rw [bD];simpa using hn
 have hs:Nat.sub (aL ops).length 3=n:=by rw [hl];rfl
 have hp:kG ops=⟨(aL ops).take n⟩:=by unfold kG;rw [hs]
 rw [hp]
 refine ⟨?_,fun i hi=>?_,?_⟩
 ·show ((aL ops).take n).length=n
  rw [List.length_take,hl];omega
 ·have e1:(⟨(aL ops).take n⟩:Array Oper)[i]?=((aL ops).take n)[i]?:=by simp
  rw [e1,List.getElem?_take_of_lt hi,bD]
  simp
 ·show aL ops=(aL ops).take n ++ (aL ops).drop n
  rw [List.take_append_drop]
theorem acI {ops:Array Oper}{n:Nat}(hn:ops.size=n+3)(i:Nat)(hi:i < n):aH (bH [] (aL (kG ops))) i=aH (bH [] (aL ops)) i:=by
 obtain ⟨h1,_,h3⟩:=IU hn
 obtain ⟨t,ht⟩:=QE _ [] (aL (kG ops)) ((aL ops).drop n) rfl
 rw [← h3] at ht
 have hlen:=QF (aL (kG ops)) []
 have hl2:(aL (kG ops)).length=n:=by rw [bD];simpa using h1
 rw [hl2] at hlen
 unfold aH
 rw [jX,jX,ht,List.getElem?_append_left (by simp at hlen;omega)]
theorem acJ {ops pre:Array Oper}{n:Nat}(hps:pre.size=n)(hpre:∀ i,i < n→pre[i]?=ops[i]?){i:Nat}{o:Oper}(ho:pre[i]?=some o)(hg:∀ j b,o.guard=some (j,b)→j < n){Q:Exit→Act→World→Prop}{K:Act→World→Prop}{a:Act}{w:World}
  (h:wpOp P pre Q i K a w):wpOp P ops Q i K a w:=by
 have hi:i < n:=by have:=(Array.getElem?_eq_some_iff.1 ho).1;omega
 unfold wpOp at h ⊢
 rw [← hpre i hi]
 rw [ho] at h ⊢
 have e:Region.wanted o (yielded ops a.tmps)=Region.wanted o (yielded pre a.tmps):=by
  unfold Region.wanted
  cases hgd:o.guard with
  | none=>rfl
  | some p =>
   obtain ⟨j,b⟩:=p
   have:yielded ops a.tmps j=yielded pre a.tmps j:=by unfold yielded;rw [hpre j (hg j b hgd)]
   simp only [this]
 show (if Region.wanted o (yielded ops a.tmps)=true then _ else _)
 rw [e]
 exact h
theorem acK {pre:Array Oper}{o:Oper}{g:Option (Nat × Bool)}(h:guardOf pre.toList o=some g)(j:Nat)(b:Bool)(hg:o.guard=some (j,b)):j < pre.size:=by
 unfold guardOf at h
 rw [hg] at h
 obtain ⟨og,ho,_⟩:=ai.1 h
 rw [jX] at ho
 have:=(List.getElem?_eq_some_iff.1 ho).1
 simpa using this
section
variable {ops:Array Oper} {n:Nat}
theorem QL (hone:(number (aL ops) 0).all (qm (bH [] (aL ops)))=true){i:Nat}{o:Oper}(ho:ops[i]?=some o){m:Nat}(hm:aH (bH [] (aL ops)) i < 2 ^ m){e:Edge}(he:e ∈ o.after)(hb:Region.binds .any e=true):e.on < m:=by
 have h1:=(C9 hone i o ho).1
 refine QG hm ?_
 rw [h1]
 refine Ik ?_ hb
 rw [bD];simpa using he
theorem Da (n:Nat):2 ^ n - 1 < 2 ^ n:=Nat.sub_lt (Nat.two_pow_pos n) (by omega)
structure QM (P:Program) (ops:Array Oper) (n nt:Nat) (oi oa ob:Oper) (q:Ix) (qa qb:Nat × Operand × Operand):Prop where
 size:ops.size=n+3
 one:(number (aL ops) 0).all (qm (bH [] (aL ops)))=true
 mi:aH (bH [] (aL ops)) n=2 ^ n - 1
 ma:aH (bH [] (aL ops)) (n+1)=2 ^ (n+1) - 1
 mb:aH (bH [] (aL ops)) (n+2)=2 ^ n - 1
 hi:ops[n]?=some oi
 ha:ops[n+1]?=some oa
 hb:ops[n+2]?=some ob
 ki:idxOf P nt oi=some q
 ka:uO P oa=some qa
 kb:uO P ob=some qb
 nx:uP q.d qb.2.1=true
 ny:uP q.d qb.2.2=true
theorem acL (hN:jb P){call:Cl}(hC:gD P call){nt:Nat}{oi oa ob:Oper}{q:Ix}{qa qb:Nat × Operand × Operand}(T:QM P ops n nt oi oa ob q qa qb){e1:En}{s1 s3 s1':S}{v:Value}(hi1:qj q.z q.x q.i call e1 s1 0=some (v,s1'))(h2:IM qa qb call (fJ e1 q.d v) s1=some s3)
  {lp:Array Bool} (hls:lp.size=n) (hall:∀ i,i < n→on lp i=true) {φ:Ph} {a:Act} {w:World} (hA:dY φ nt e1 s1 a w) {Q:Exit→Act→World→Prop} (hQ:∀ φ' a' w',dY φ' nt (fJ e1 q.d v) s3 a' w'→eT φ s1 w φ' s3 w'→Q .normal a' w') (f:Nat) :
  wpAny P .any ops Q (f+3) (ff lp) a w:=by
 have hn:=T.size
 unfold IM at h2
 simp only [acG] at h2
 rw [aM] at h2
 obtain ⟨hbo,h2⟩:=h2
 obtain ⟨⟨v1,s2⟩,h1,h2⟩:=ai.1 h2
 rw [gB] at h2
 obtain ⟨⟨v2,s3'⟩,h2,h3⟩:=ai.1 h2
 rw [gB] at h3
 cases h3
 obtain ⟨s2',g1,g2⟩:=acA hbo h1 h2
 have hsz:(ff lp).size=ops.size:=by unfold ff;simp [hls,hn]
 have hon:∀ i,on (ff lp) i=decide (i < n):=by
  intro i
  rw [xm]
  by_cases hi:i < n
  ·rw [hall i hi];simp [hi]
  ·unfold on
   rw [Array.getD_eq_getD_getElem?,Array.getElem?_eq_none (by omega)]
   simp [hi]
 have aei:∀ i,i < n+3→aH (bH [] (aL ops)) i < 2 ^ n∨i=n+1∨i < n:=by
  intro i hi
  have:i < n∨i=n∨i=n+1∨i=n+2:=by omega
  rcases this with h | rfl | rfl | rfl
  ·exact .inr (.inr h)
  ·exact .inl (by rw [T.mi];exact Da _)
  ·exact .inr (.inl rfl)
  ·exact .inl (by rw [T.mb];exact Da _)
 -- who is ready,where the last three are listed so
 have xq:∀ (L:Array Bool) (bi ba bb:Bool),L.size=ops.size→(∀ i,on L i=if i=n then bi else if i=n+1 then ba else if i=n+2 then bb else decide (i < n))→∀ x,x ∈ Region.ready .any ops L ↔ (x=n∧bi=false)∨(x=n+1∧ba=false∧bi=true)∨(x=n+2∧bb=false):=by
  intro L bi ba bb hL hLo x
  rw [uQ hL]
  constructor
  ·rintro ⟨o,ho,h1,h2⟩
   have hx:=(Array.getElem?_eq_some_iff.1 ho).1
   rw [hLo] at h1
   by_cases e0:x=n
   ·subst e0;rw [if_pos rfl] at h1;exact .inl ⟨rfl,h1⟩
   ·rw [if_neg e0] at h1
    by_cases e1:x=n+1
    ·subst e1
     rw [if_pos rfl] at h1
     refine .inr (.inl ⟨rfl,h1,?_⟩)
     have htb:tb (aH (bH [] (aL ops)) (n+1)) n=true:=by
      rw [T.ma,jE,Nat.testBit_two_pow_sub_one];simp
     rw [(C9 T.one (n+1) o ho).1] at htb
     obtain ⟨e,he,hb,h3⟩:=zT htb
     rw [bD] at he
     have hl:=h2 e (by simpa using he) hb
     have hen:e.on < n+1:=QL T.one ho (by rw [T.ma];exact Da _) (by simpa using he) hb
     rcases h3 with h3 | h3
     ·rw [h3,hLo,if_pos rfl] at hl;exact hl
     ·exfalso
      have h4:n < e.on:=by
       have hoe:ops[e.on]?=some (ops[e.on]'(by omega)):=Array.getElem?_eq_getElem _
       exact QG (C9 T.one e.on _ hoe).2 h3
      omega
    ·rw [if_neg e1] at h1
     by_cases e2:x=n+2
     ·subst e2;rw [if_pos rfl] at h1;exact .inr (.inr ⟨rfl,h1⟩)
     ·rw [if_neg e2] at h1
      have:¬ x < n:=by simpa using h1
      omega
  ·have pre:∀ (i m:Nat) (o:Oper),ops[i]?=some o→aH (bH [] (aL ops)) i=2 ^ m - 1→∀ e ∈ o.after,Region.binds .any e=true→e.on < m:=fun i m o ho hm e he hb=>QL T.one ho (by rw [hm];exact Da _) he hb
   rintro (⟨rfl,h⟩ | ⟨rfl,h,h'⟩ | ⟨rfl,h⟩)
   ·refine ⟨oi,T.hi,by rw [hLo,if_pos rfl];exact h,fun e he hb=>?_⟩
    have:=pre _ _ _ T.hi T.mi e he hb
    rw [hLo,if_neg (by omega),if_neg (by omega),if_neg (by omega)];simpa using this
   ·refine ⟨oa,T.ha,by rw [hLo,if_neg (by omega),if_pos rfl];exact h,fun e he hb=>?_⟩
    have:=pre _ _ _ T.ha T.ma e he hb
    rw [hLo]
    by_cases e0:e.on=n
    ·rw [if_pos e0];exact h'
    ·rw [if_neg e0,if_neg (by omega),if_neg (by omega)]
     simp;omega
   ·refine ⟨ob,T.hb,by rw [hLo,if_neg (by omega),if_neg (by omega),if_pos rfl];exact h,fun e he hb=>?_⟩
    have:=pre _ _ _ T.hb T.mb e he hb
    rw [hLo,if_neg (by omega),if_neg (by omega),if_neg (by omega)];simpa using this
 have rE:∀ (L:Array Bool) (bi ba bb:Bool) (x:Nat),L.size=ops.size→x < ops.size→(∀ i,on L i=if i=n then bi else if i=n+1 then ba else if i=n+2 then bb else decide (i < n)) →
   (L.setIfInBounds x true).size=ops.size∧∀ i,on (L.setIfInBounds x true) i=(decide (i=x) || if i=n then bi else if i=n+1 then ba else if i=n+2 then bb else decide (i < n)):=fun L bi ba bb x hL hx hLo=>⟨by simpa using hL,fun i=>by rw [nO (by omega),hLo]⟩
 have IV:∀ i,on (ff lp) i=if i=n then false else if i=n+1 then false else if i=n+2 then false else decide (i < n):=by
  intro i
  rw [hon]
  by_cases e0:i=n
  ·rw [if_pos e0];simp;omega
  ·rw [if_neg e0]
   by_cases e1:i=n+1
   ·rw [if_pos e1];simp;omega
   ·rw [if_neg e1]
    by_cases e2:i=n+2
    ·rw [if_pos e2];simp;omega
    ·rw [if_neg e2]
 have upd:∀ (bi ba bb:Bool) (x:Nat) (ci ca cb:Bool),(x=n∧ci=true∧ca=ba∧cb=bb)∨(x=n+1∧ci=bi∧ca=true∧cb=bb)∨(x=n+2∧ci=bi∧ca=ba∧cb=true)→∀ i:Nat,(decide (i=x) || if i=n then bi else if i=n+1 then ba else if i=n+2 then bb else decide (i < n))=if i=n then ci else if i=n+1 then ca else if i=n+2 then cb else decide (i < n):=by
  rintro bi ba bb x ci ca cb (⟨hx,rfl,rfl,rfl⟩ | ⟨hx,rfl,rfl,rfl⟩ | ⟨hx,rfl,rfl,rfl⟩) i <;> rw [hx] <;> clear hx <;>
  ·by_cases e0:i=n
   ·subst e0;simp
   ·by_cases e1:i=n+1
    ·subst e1;simp
    ·by_cases e2:i=n+2
     ·subst e2;simp
     ·simp [e0,e1,e2]
 have fin:∀ (L:Array Bool),L.size=ops.size→(∀ i,on L i=if i=n then true else if i=n+1 then true else if i=n+2 then true else decide (i < n))→∀ (φ':Ph) (a':Act) (w':World),dY φ' nt (fJ e1 q.d v) s3 a' w'→eT φ s1 w φ' s3 w'→∀ f,wpAny P .any ops Q f L a' w':=by
  intro L hL hLo φ' a' w' hA' hG'
  refine acE hL (fun i hi=>?_) (hQ φ' a' w' hA' hG')
  rw [hLo]
  by_cases e0:i=n
  ·rw [if_pos e0]
  ·rw [if_neg e0]
   by_cases e1:i=n+1
   ·rw [if_pos e1]
   ·rw [if_neg e1]
    by_cases e2:i=n+2
    ·rw [if_pos e2]
    ·rw [if_neg e2];simp;omega
 -- behind the element's address: the stores,in either order
 have two:∀ (L:Array Bool),L.size=ops.size→(∀ i,on L i=if i=n then true else if i=n+1 then false else if i=n+2 then false else decide (i < n))→∀ a',dY φ nt (fJ e1 q.d v) s1 a' w→wpAny P .any ops Q (f+2) L a' w:=by
  intro L hL hLo a' hA'
  have hr:=xq L true false false hL hLo
  refine ⟨fun h=>absurd ((hr (n+1)).2 (.inr (.inl ⟨rfl,rfl,rfl⟩))) (by rw [h];simp),fun x hx=>?_⟩
  rcases (hr x).1 hx with ⟨_,h⟩ | ⟨rfl,_⟩ | ⟨rfl,_⟩
  ·cases h
  ·refine xn hN hC T.ha T.ka h1 hA' ?_
   intro φ1 a1 w1 hA1 hG1
   obtain ⟨hL1,uR⟩:=rE L true false false (n+1) hL (by omega) hLo
   have rF:=fun i=>(uR i).trans (upd true false false (n+1) true true false (.inr (.inl ⟨rfl,rfl,rfl,rfl⟩)) i)
   have hr1:=xq _ true true false hL1 rF
   refine ⟨fun h=>absurd ((hr1 (n+2)).2 (.inr (.inr ⟨rfl,rfl⟩))) (by rw [h];simp),fun y hy=>?_⟩
   rcases (hr1 y).1 hy with ⟨_,h⟩ | ⟨_,h,_⟩ | ⟨rfl,_⟩
   ·cases h
   ·cases h
   ·refine xn hN hC T.hb T.kb h2 hA1 ?_
    intro φ2 a2 w2 hA2 hG2
    obtain ⟨hL2,Ae⟩:=rE _ true true false (n+2) hL1 (by omega) rF
    exact fin _ hL2 (fun i=>(Ae i).trans (upd true true false (n+2) true true true (.inr (.inr ⟨rfl,rfl,rfl,rfl⟩)) i)) φ2 a2 w2 hA2 (hG1.trans hA'.stt hA1.stt hG2) f
  ·refine xn hN hC T.hb T.kb g1 hA' ?_
   intro φ1 a1 w1 hA1 hG1
   obtain ⟨hL1,uR⟩:=rE L true false false (n+2) hL (by omega) hLo
   have rF:=fun i=>(uR i).trans (upd true false false (n+2) true false true (.inr (.inr ⟨rfl,rfl,rfl,rfl⟩)) i)
   have hr1:=xq _ true false true hL1 rF
   refine ⟨fun h=>absurd ((hr1 (n+1)).2 (.inr (.inl ⟨rfl,rfl,rfl⟩))) (by rw [h];simp),fun y hy=>?_⟩
   rcases (hr1 y).1 hy with ⟨_,h⟩ | ⟨rfl,_⟩ | ⟨_,h⟩
   ·cases h
   ·refine xn hN hC T.ha T.ka g2 hA1 ?_
    intro φ2 a2 w2 hA2 hG2
    obtain ⟨hL2,Ae⟩:=rE _ true false true (n+1) hL1 (by omega) rF
    exact fin _ hL2 (fun i=>(Ae i).trans (upd true false true (n+1) true true true (.inr (.inl ⟨rfl,rfl,rfl,rfl⟩)) i)) φ2 a2 w2 hA2 (hG1.trans hA'.stt hA1.stt hG2) f
   ·cases h
 have hr0:=xq (ff lp) false false false hsz IV
 refine ⟨fun h=>absurd ((hr0 n).2 (.inl ⟨rfl,rfl⟩)) (by rw [h];simp),fun x hx=>?_⟩
 rcases (hr0 x).1 hx with ⟨rfl,_⟩ | ⟨_,_,h⟩ | ⟨rfl,_⟩
 ·refine QI T.hi T.ki hi1 hA ?_
  intro a' hA'
  obtain ⟨hL1,uR⟩:=rE (ff lp) false false false x hsz (by omega) IV
  exact two _ hL1 (fun i=>(uR i).trans (upd false false false x true false false (.inl ⟨rfl,rfl,rfl,rfl⟩) i)) a' hA'
 ·cases h
 ·have g1':kR qb.1 qb.2.1 qb.2.2 call e1 s1 0=some (v2,s2'):=by rw [← acD (n:=qb.1) T.nx T.ny call e1 v s1];exact g1
  refine xn hN hC T.hb T.kb g1' hA ?_
  intro φ1 a1 w1 hA1 hG1
  obtain ⟨hL1,uR⟩:=rE (ff lp) false false false (n+2) hsz (by omega) IV
  have rF:=fun i=>(uR i).trans (upd false false false (n+2) false false true (.inr (.inr ⟨rfl,rfl,rfl,rfl⟩)) i)
  have hr1:=xq _ false false true hL1 rF
  refine ⟨fun h=>absurd ((hr1 n).2 (.inl ⟨rfl,rfl⟩)) (by rw [h];simp),fun y hy=>?_⟩
  rcases (hr1 y).1 hy with ⟨rfl,_⟩ | ⟨_,_,h⟩ | ⟨_,h⟩
  ·have hi2:qj q.z q.x q.i call e1 s2' 0=some (v,s2'):=acH hi1 s2'
   refine QI T.hi T.ki hi2 hA1 ?_
   intro a2 hA2
   obtain ⟨hL2,Ae⟩:=rE _ false false true y hL1 (by omega) rF
   have QN:=fun i=>(Ae i).trans (upd false false true y true false true (.inl ⟨rfl,rfl,rfl,rfl⟩) i)
   have hr2:=xq _ true false true hL2 QN
   refine ⟨fun h=>absurd ((hr2 (y+1)).2 (.inr (.inl ⟨rfl,rfl,rfl⟩))) (by rw [h];simp),fun z hz=>?_⟩
   rcases (hr2 z).1 hz with ⟨_,h⟩ | ⟨rfl,_⟩ | ⟨_,h⟩
   ·cases h
   ·refine xn hN hC T.ha T.ka g2 hA2 ?_
    intro φ3 a3 w3 hA3 hG3
    obtain ⟨hL3,acN⟩:=rE _ true false true (y+1) hL2 (by omega) QN
    exact fin _ hL3 (fun i=>(acN i).trans (upd true false true (y+1) true true true (.inr (.inl ⟨rfl,rfl,rfl,rfl⟩)) i)) φ3 a3 w3 hA3 (hG1.trans hA.stt hA1.stt hG3) f
   ·cases h
  ·cases h
  ·cases h
theorem acO {nt av k:Nat}{pre:Array Oper}{ms es:List Nat}{call:Cl}{e0 aD:En}{ds:List Dp}{sF:S}{Sx Jx:Nat→S}{φ0 φ:Ph}{h0 h:Hp}{w0 w:World}{listed:Array Bool}{a:Act}(C:Ctx P nt pre ms es call e0 av ds aD sF Sx Jx)
  (I:Inv pre nt ms es call e0 av ds aD Sx φ0 h0 w0 listed k a w φ h) (hne:¬ ∀ i,i < pre.size→on listed i=true):∃ i,i ∈ Region.ready .any pre listed:=by
 refine Classical.byContradiction fun hno=>hne ?_
 intro i
 induction i using Nat.strongRecOn with
 | _ i ih =>
  intro hlt
  cases hon:on listed i with
  | true=>rfl
  | false =>
   exfalso
   have ho:pre[i]?=some pre[i]:=Array.getElem?_eq_getElem hlt
   refine hno ⟨i,(uQ I.sz i).2 ⟨_,ho,hon,fun e he hb=>?_⟩⟩
   have ht:=C.edge i _ ho e he hb
   have hle:=C.st.lt i _ ho e.on ht
   exact ih e.on hle (by omega)
theorem acP (hN:jb P){call:Cl}(hC:gD P call)(hn:ops.size=n+3)(hone:(number (aL ops) 0).all (qm (bH [] (aL ops)))=true)(xu:aH (bH [] (aL ops)) n=2 ^ n - 1)(xw:aH (bH [] (aL ops)) (n+1)=2 ^ (n+1) - 1)(hmb:aH (bH [] (aL ops)) (n+2)=2 ^ n - 1)
  {nt:Nat} {e:En} {s:S} {r:R} {ms es:List Nat} {ds:List Dp} {aD:En} {sF:S} {Sx Jx:Nat→S} (R:QD P nt call (kG ops) e s r ms es ds aD sF Sx Jx) {φ0:Ph} {w0:World} (r0:Rel φ0 s.h w0) {Q:Exit→Act→World→Prop}
  (QO:∀ lp a w φ,lp.size=n→(∀ i,i < n→on lp i=true)→dY φ nt r.e r.s a w→eT φ0 s w0 φ r.s w→∀ f,wpAny P .any ops Q (f+3) (ff lp) a w) :
  ∀ (fuel:Nat) (lp:Array Bool) (k:Nat) (a:Act) (w:World) (φ:Ph) (h:Hp),lp.toList.count false≤fuel→Inv (kG ops) nt ms es call e s.c ds aD Sx φ0 s.h w0 lp k a w φ h→wpAny P .any ops Q (fuel+3) (ff lp) a w:=by
 obtain ⟨hps,hpre,_⟩:=IU hn
 intro fuel
 induction fuel with
 | zero =>
  intro lp k a w φ h hc I
  have hls:lp.size=n:=I.sz.trans hps
  have hall:∀ i,i < n→on lp i=true:=by
   intro i hi
   have hl:lp[i]?=some (lp[i]'(by omega)):=Array.getElem?_eq_getElem _
   unfold on
   rw [Array.getD_eq_getD_getElem?,hl]
   cases hb:lp[i]'(by omega) with
   | true=>rfl
   | false =>
    have hm:false ∈ lp.toList:=by
     have:=Array.getElem_mem (xs:=lp) (i:=i) (by omega)
     rw [hb] at this
     simpa using this
    have:=List.count_pos_iff.2 hm
    omega
  obtain ⟨hA,hG⟩:=R.fin φ0 w0 lp k a w φ h I (fun i hi=>hall i (by rw [hps] at hi;exact hi))
  exact QO lp a w φ hls hall hA hG 0
 | succ fuel ih =>
  intro lp k a w φ h hc I
  have hls:lp.size=n:=I.sz.trans hps
  by_cases hall:∀ i,i < n→on lp i=true
  ·obtain ⟨hA,hG⟩:=R.fin φ0 w0 lp k a w φ h I (fun i hi=>hall i (by rw [hps] at hi;exact hi))
   exact QO lp a w φ hls hall hA hG (fuel+1)
  ·have hsz:(ff lp).size=ops.size:=by unfold ff;simp [hls,hn]
   have hback:∀ i,i ∈ Region.ready .any (kG ops) lp→i ∈ Region.ready .any ops (ff lp):=by
    intro i hi
    obtain ⟨o,ho,h1,h2⟩:=(uQ I.sz i).1 hi
    have hlt:i < n:=by have:=(Array.getElem?_eq_some_iff.1 ho).1;omega
    exact (uQ hsz i).2 ⟨o,by rw [← hpre i hlt];exact ho,by rw [xm];exact h1,fun e he hb=>by rw [xm];exact h2 e he hb⟩
   obtain ⟨i0,hi0⟩:=acO R.ctx I (fun hh=>hall fun i hi=>hh i (by omega))
   refine ⟨fun hr=>absurd (hback i0 hi0) (by rw [hr];simp),fun i hi=>?_⟩
   obtain ⟨o,ho,h1,h2⟩:=(uQ hsz i).1 hi
   rw [xm] at h1
   have hlt:i < n:=by
    refine Classical.byContradiction fun hge=>hall fun j hj=>?_
    have hi2:=(Array.getElem?_eq_some_iff.1 ho).1
    have htb:tb (aH (bH [] (aL ops)) i) j=true:=by
     have:i=n∨i=n+1∨i=n+2:=by omega
     rcases this with rfl | rfl | rfl
     ·rw [xu,jE,Nat.testBit_two_pow_sub_one];simpa using hj
     ·rw [xw,jE,Nat.testBit_two_pow_sub_one];simp;omega
     ·rw [hmb,jE,Nat.testBit_two_pow_sub_one];simpa using hj
    rw [(C9 hone i o ho).1] at htb
    obtain ⟨e,he,hb,h3⟩:=zT htb
    rw [bD] at he
    have hl:=h2 e (by simpa using he) hb
    rw [xm] at hl
    have hel:e.on < n:=by
     refine Classical.byContradiction fun hh=>?_
     unfold on at hl
     rw [Array.getD_eq_getD_getElem?,Array.getElem?_eq_none (by omega)] at hl
     cases hl
    rcases h3 with rfl | h3
    ·exact hl
    ·refine I.down e.on hl j ?_
     rw [R.msE,acI hn e.on hel]
     exact h3
   have hop:(kG ops)[i]?=some o:=by rw [hpre i hlt];exact ho
   have hir:i ∈ Region.ready .any (kG ops) lp:=(uQ I.sz i).2 ⟨o,hop,h1,fun e he hb=>by have:=h2 e he hb;rwa [xm] at this⟩
   obtain ⟨d,iO,hdi⟩:=R.ctx.dat i o hop
   obtain ⟨o',hd⟩:=R.ctx.wW d iO
   have Iu:o'=o:=by have:=hd.op;rw [hdi,hop] at this;cases this;rfl
   subst Iu
   refine acJ hps hpre hop (fun j b hg=>by have:=acK hd.g j b hg;omega) (Bb hN hC R.ctx I r0 hir ?_)
   intro k' a' w' φ' h' I'
   rw [acy lp (by omega)]
   refine ih _ k' a' w' φ' h' ?_ I'
   have QP:i < lp.toList.length:=by simpa [hls] using hlt
   have e:lp.toList[i]=false:=by
    have hl:lp[i]?=some (lp[i]'(by omega)):=Array.getElem?_eq_getElem _
    unfold on at h1
    rw [Array.getD_eq_getD_getElem?,hl] at h1
    simpa using h1
   rw [Array.toList_setIfInBounds,List.count_set QP,e]
   have hmem:false ∈ lp.toList:=by rw [← e];exact List.getElem_mem QP
   have:=List.count_pos_iff.2 hmem
   simp only [beq_self_eq_true,if_true]
   have e2:(true == false)=false:=rfl
   rw [e2]
   simp only [Bool.false_eq_true,if_false]
   omega
end
theorem acQ (hN:jb P)(hm:P.follows .mixedOrders=true){call:Cl}(hC:gD P call){nt:Nat}{ops:Array Oper}{e:En}{s:S}{r:R}(h:IP P nt call ops e s=some r) :
  r.k=0∧∀ (id:Nat) (φ:Ph) (a:Act) (w:World),dY φ nt e s a w→(Code.region id ops true).wp P (To φ nt s w r) a w:=by
 unfold IP at h
 rw [aM,Bool.and_eq_true,di] at h
 obtain ⟨⟨hl,hlast⟩,h⟩:=h
 have hl:3≤(aL ops).length:=by simpa using hl
 have hls:(aL ops).length=ops.size:=by rw [bD];simp
 obtain ⟨n,hn⟩:∃ n,ops.size=n+3:=⟨ops.size - 3,by omega⟩
 have hlen:(aL ops).length=n+3:=by rw [bD];simpa using hn
 have hsub:Nat.sub (aL ops).length 3=n:=by rw [hlen];rfl
 rw [hsub] at hlast h
 unfold QC at hlast
 rw [Bool.and_eq_true,Bool.and_eq_true,Bool.and_eq_true,dw,dw,dw,QK,QK] at hlast
 obtain ⟨hone,xu,xw,hmb⟩:=hlast
 have xu:aH (bH [] (aL ops)) n=2 ^ n - 1:=by simpa using xu
 have xw:aH (bH [] (aL ops)) (n+1)=2 ^ (n+1) - 1:=by simpa using xw
 have hmb:aH (bH [] (aL ops)) (n+2)=2 ^ n - 1:=by simpa using hmb
 obtain ⟨q,hq,h⟩:=ai.1 h
 obtain ⟨oi,hoi,hq⟩:=ai.1 hq
 obtain ⟨qa,IW,h⟩:=ai.1 h
 obtain ⟨oa,hoa,IW⟩:=ai.1 IW
 obtain ⟨qb,IX,h⟩:=ai.1 h
 obtain ⟨ob,ib,IX⟩:=ai.1 IX
 rw [acF,aM,Bool.and_eq_true] at h
 obtain ⟨⟨hnx,hny⟩,h⟩:=h
 obtain ⟨r1,hr1,h⟩:=ai.1 h
 rw [zR,aM] at h
 obtain ⟨_,h⟩:=h
 obtain ⟨⟨v,s1'⟩,hix,h⟩:=ai.1 h
 rw [gB] at h
 obtain ⟨s3,hs3,h⟩:=ai.1 h
 cases h
 rw [jX,bD] at hoi hoa ib
 have hoi:ops[n]?=some oi:=by simpa using hoi
 have hoa:ops[n+1]?=some oa:=by simpa using hoa
 have ib:ops[n+2]?=some ob:=by simpa using ib
 have T:QM P ops n nt oi oa ob q qa qb:=⟨hn,hone,xu,xw,hmb,hoi,hoa,ib,hq,IW,IX,hnx,hny⟩
 obtain ⟨_,ms,es,ds,aD,sF,Sx,Jx,R⟩:=acx call hr1
 refine ⟨rfl,fun id φ a w hA=>wp_region_any hm ?_⟩
 have hrep:Array.replicate ops.size false=ff (Array.replicate n false):=by
  rw [hn]
  apply Array.ext_getElem?
  intro j
  unfold ff
  rw [Array.getElem?_replicate]
  by_cases hj:j < n
  ·rw [Array.getElem?_append_left (by simpa using hj),Array.getElem?_replicate,if_pos hj,if_pos (by omega)]
  ·rw [Array.getElem?_append_right (by simp;omega)]
   simp only [Array.size_replicate]
   by_cases h2:j < n+3
   ·rw [if_pos h2]
    have:j - n=0∨j - n=1∨j - n=2:=by omega
    rcases this with h3 | h3 | h3 <;> rw [h3] <;> rfl
   ·rw [if_neg h2]
    obtain ⟨q,hq⟩:∃ q,j - n=q+3:=⟨j - n - 3,by omega⟩
    rw [hq];rfl
 rw [hrep]
 rw [hn]
 have hst:=R.start φ a w hA
 rw [(IU hn).1] at hst
 refine acP hN hC hn hone xu xw hmb R hA.stt.rel ?_ n _ 0 a _ φ s.h (by simp) hst
 intro lp a1 w1 φ1 hls hall hA1 hG1 f
 exact acL hN hC T hix hs3 hls hall hA1 (fun φ2 a2 w2 hA2 hG2=>⟨rfl,φ2,hA2,hG1.trans hA.stt hA1.stt hG2⟩) f
theorem acR (hN:jb P)(hm:P.follows .mixedOrders=true){call:Cl}(hC:gD P call){f:FuncId}{args:List Value}{s s':S}{v:Value}(h:IQ P call f args s=some (v,s')):Ct P f args s v s':=by
 unfold IQ at h
 obtain ⟨⟨fn,c⟩,hb,h⟩:=ai.1 h
 rw [gB] at h
 obtain ⟨gn,hf,hb⟩:=ai.1 hb
 obtain ⟨c',hc,hb⟩:=ai.1 hb
 cases hb
 split at h
 ·rename_i ops
  cases hres:aL fn.results with
  | cons x l=>rw [hres,zz] at h;cases h
  | nil =>
  rw [hres,zy,aM,iY,di] at h
  obtain ⟨hle,h⟩:=h
  have qy:args.length≤fn.ntmps:=by simpa using hle
  obtain ⟨r,hr,h⟩:=ai.1 h
  rw [zR,iY] at h
  cases hd:r.s.ds with
  | cons d l=>rw [hd,zz] at h;cases h
  | nil =>
  rw [hd,zy] at h
  cases h
  obtain ⟨hk,hwp⟩:=acQ hN hm hC hr
  refine ⟨rfl,⟨fn,_,hf,hc⟩,fun φ w args' hL hS=>?_⟩
  have hA:dY φ fn.ntmps (enter args 0 (fun _=>none)) ⟨s.c,s.h,[]⟩ { tmps:=args' ++ Array.replicate (fn.ntmps - args'.size) undef,defers:=[] } w:=⟨Pw hL qy,⟨hS.rel,hS.fr⟩,trivial⟩
  refine calls_of_wp_defers hf hc (wp_mono (hwp _ φ _ w hA) ?_)
  rintro ex a1 w1 ⟨rfl,φ1,hA1,hG1⟩
  have hP1:Post φ s w φ1 r.s w1:=⟨hA1.stt,hG1.ext,hG1.le,hG1.new,hG1.dn⟩
  have hl:uw P r.e ⟨r.s.c,r.s.h,s.ds⟩ (aL fn.results)=some []:=by rw [hres];rfl
  obtain ⟨v',hv,hrun⟩:=Ia (P:=P) (s:=⟨r.s.c,r.s.h,s.ds⟩) hA1.env hA1.stt.rel hl
  have hdf:a1.defers=[]:=by
   have:=hA1.iN
   rw [hd] at this
   cases hh:a1.defers with
   | nil=>rfl
   | cons x y=>rw [hh] at this;exact this.elim
  have key:Leaves P fn a1.tmps (fun e w'=>∃ φ' v',e=.returned v'∧V φ' (.tuple #[]) v'∧Post φ s w φ' ⟨r.s.c,r.s.h,s.ds⟩ w') a1.defers .returning w1:=by
   rw [hdf]
   exact ⟨v',hrun,φ1,v',rfl,hv,hP1.ds s.ds s.ds⟩
  rw [hk]
  exact key
 ·cases h
end Xe
end Go.Proofs.YthffafaoobpedaaGreatDoor
namespace Go.Proofs.YthffafaoobpedaaGreatDoor
open Go.RowKit
namespace Xe
noncomputable def Db:Sp:=fun call f args s=>bB (Nat.beq f 247) (some (IQ Tryz.prog call f args s)) (iG 206 45 216 call f args s)
theorem IY:Tryz.prog.follows .mixedOrders=true:=by kernel_rfl
theorem QQ:zS Tryz.prog Db:=by
 intro call hC f args s v s' h
 unfold Db at h
 rw [bK,dw] at h
 split at h
 ·exact acR xc IY hC (Option.some.inj h)
 ·exact abB call hC f args s v s' h
noncomputable def QS:Cl:=func Tryz.prog Db 60 false
theorem acS:gD Tryz.prog QS:=(Py xc QQ (fun call hC=>Qf xc IY call hC) 60).1
end Xe
namespace Xe
noncomputable section
def IZ (l:List (Nat × List Value)):Hp:=fun x=>@List.rec (Nat × List Value) (fun _=>Option Obj) none (fun p _ ih=>pB p fun y row=>bB (Nat.beq x y) (some (.cells row.toArray 0)) ih) l
structure Af where
 f:Nat
 arg:List UInt8
 c0:Nat
 v:Value
 c1:Nat
 rows:List (Nat × List Value)
def uS (o:Option Obj)(row:List Value):Bool:=@Option.rec (List Value) (fun _=>Bool) false (fun l=>all2 wI l row) (rowOf o)
def Dc (r:Option (Value × S))(m:Af):Bool:=@Option.rec (Value × S) (fun _=>Bool) false (fun p=>pB p fun v s=>sB s fun c h _=>wJ v m.v && (Nat.ble c m.c1 && (m.rows.all fun q=>pB q fun x row=>Nat.ble m.c0 x && uS (h x) row))) r
def De (h:Hp):Bool:=uS (h 0) qE && (uS (h 1) rC && uS (h 2) rD)
def merge (c:Nat)(h:Hp)(l:List (Nat × List Value)):Hp:=fun x=>bB (Nat.ble c x) (IZ l x) (lJ (h x))
def I1 (m:Af)(next:Sp):Sp:=fun call f args s=>bB (Nat.beq f m.f) (lB args (next call f args s) fun a r=>lB r (kC a (next call f args s) fun b=>sB s fun c h ds=>bB (mH (sL b) m.arg && (Nat.ble c m.c0 && De h)) (some (some (m.v,⟨m.c1,merge m.c0 h m.rows,ds⟩))) (next call f args s)) fun _ _=>next call f args s) (next call f args s)
end
theorem QT:∀ {l:List (Nat × List Value)} {x:Nat} {o:Obj},IZ l x=some o→∃ row,(x,row) ∈ l∧o=.cells row.toArray 0
 | [],_,_,h=>by cases h
 | (y,row) :: l,x,o,h=>by
  have h':(bB (Nat.beq x y) (some (.cells row.toArray 0)) (IZ l x):Option Obj)=some o:=h
  rw [bK,dw] at h'
  split at h'
  ·rename_i e
   have e:x=y:=by simpa using e
   subst e
   cases h'
   exact ⟨row,by simp,rfl⟩
  ·obtain ⟨r,h1,h2⟩:=QT h'
   exact ⟨r,List.mem_cons_of_mem _ h1,h2⟩
theorem Df {o:Option Obj}{row:List Value}(h:uS o row=true):∃ c e f,o=some (.cells c e f)∧c.toList=row:=by
 unfold uS at h
 cases o with
 | none=>cases h
 | some o =>
  cases o <;> first | cases h | skip
  rename_i c e f
  have h':all2 wI (aL c) row=true:=h
  rw [bD] at h'
  exact ⟨c,e,f,rfl,wV (fun _ _=>Ie) h'⟩
theorem Dh {φ:Ph}{w:World}{x:Nat}{c c':Array Value}{e e':TypeId}{f f':Nat × Nat}(hc:c.toList=c'.toList)(h:OR φ w x (.cells c e f)):OR φ w x (.cells c' e' f'):=by
 have:c=c':=Array.toList_inj.1 hc
 subst this
 exact h
theorem acT {m:Af}{cl:Cl}(hcl:gD Tryz.prog cl)(hm:Dc (cl m.f [.string ⟨⟨m.arg⟩⟩] ⟨m.c0,h0,[]⟩) m=true){b:ByteArray}(hb:sL b=m.arg){c:Nat}{h:Hp}{ds:List (FuncId × List Value)}(hc:c≤m.c0)(hT:De h=true) :
  Ct Tryz.prog m.f [.string b] ⟨c,h,ds⟩ m.v ⟨m.c1,merge m.c0 h m.rows,ds⟩:=by
 have hbb:b=⟨⟨m.arg⟩⟩:=by
  cases b with
  | mk d =>
   cases d with
   | mk l =>
    have:l=m.arg:=hb
    rw [this]
 subst hbb
 unfold Dc at hm
 cases hr:cl m.f [.string ⟨⟨m.arg⟩⟩] ⟨m.c0,h0,[]⟩ with
 | none=>rw [hr] at hm;cases hm
 | some p =>
 obtain ⟨v',s'⟩:=p
 rw [hr] at hm
 have hm:(wJ v' m.v && (Nat.ble s'.c m.c1 && (m.rows.all fun q=>Nat.ble m.c0 q.1 && uS (s'.h q.1) q.2)))=true:=hm
 rw [Bool.and_eq_true,Bool.and_eq_true,di] at hm
 obtain ⟨hv,hc1,hrows⟩:=hm
 have hv:=PL hv
 subst hv
 have hc1:s'.c≤m.c1:=by simpa using hc1
 have hrow:∀ x row,(x,row) ∈ m.rows→m.c0≤x∧∃ c e f,s'.h x=some (.cells c e f)∧c.toList=row:=fun x row hx=>by
  have h1:=List.all_eq_true.1 hrows (x,row) hx
  rw [Bool.and_eq_true,di] at h1
  exact ⟨by simpa using h1.1,Df h1.2⟩
 obtain ⟨hds,hbody,hcall⟩:=hcl _ _ _ _ _ hr
 unfold De at hT
 rw [Bool.and_eq_true,Bool.and_eq_true] at hT
 obtain ⟨t0,t1,t2⟩:=hT
 obtain ⟨d0,e0,f0,g0,q0⟩:=Df t0
 obtain ⟨d1,e1,f1,g1,q1⟩:=Df t1
 obtain ⟨d2,e2,f2,g2,q2⟩:=Df t2
 refine ⟨rfl,hbody,fun φ w args' hL hS=>?_⟩
 have hlow:∀ x o,h0 x=some o→x < 3∧OR φ w x o:=by
  intro x o hx
  rcases xh hx with ⟨rfl,rfl⟩ | ⟨rfl,rfl⟩ | ⟨rfl,rfl⟩
  ·exact ⟨by omega,Dh q0 (hS.rel.obj 0 _ g0)⟩
  ·exact ⟨by omega,Dh q1 (hS.rel.obj 1 _ g1)⟩
  ·exact ⟨by omega,Dh q2 (hS.rel.obj 2 _ g2)⟩
 have hlive:∀ x,live h0 x→x < 3∧live h x:=fun x hx=>by
  obtain ⟨o,ho,_⟩:=hx
  rcases xh ho with ⟨rfl,_⟩ | ⟨rfl,_⟩ | ⟨rfl,_⟩
  ·exact ⟨by omega,_,g0,trivial⟩
  ·exact ⟨by omega,_,g1,trivial⟩
  ·exact ⟨by omega,_,g2,trivial⟩
 have hS0:fU φ ⟨m.c0,h0,[]⟩ w:=⟨⟨fun x o hx=>(hlow x o hx).2,fun x y g g' hx hy=>hS.rel.inj x y g g' (hlive x hx).2 (hlive y hy).2,hS.rel.bnd,hS.rel.jV⟩,fun x hx=>hS.fr x (Nat.le_trans hc hx)⟩
 refine (hcall φ w args' hL hS0).mono ?_
 rintro e w' ⟨φ',v',rfl,hV,hP⟩
 refine ⟨φ',v',rfl,hV,?_⟩
 have hkept:∀ g,g < w.heap.size→w'.heap[g]?=w.heap[g]?:=fun g hg=>hP.ext.kept g hg fun x _ hx hl=>by have:=(hlive x hl).1;omega
 have hnews:∀ x g,φ x=none→φ' x=some g→w.heap.size≤g.b:=fun x g h1 h2=>by
  rcases hP.ext.news x g h1 h2 with h | ⟨y,_,hy,hl,_⟩
  ·exact h
  ·have:=(hlive y hl).1;omega
 have QU:∀ x o,merge m.c0 h m.rows x=some o→(m.c0≤x∧OR φ' w' x o∧live s'.h x)∨(x < m.c0∧h x=some o):=by
  intro x o hx
  unfold merge at hx
  rw [bK,di] at hx
  split at hx
  ·rename_i hle
   obtain ⟨row,h1,rfl⟩:=QT hx
   obtain ⟨_,cc,ee,ff,h2,h5⟩:=hrow x row h1
   exact .inl ⟨by simpa using hle,Dh (by rw [h5]) (hP.stt.rel.obj x _ h2),_,h2,trivial⟩
  ·rename_i hle
   rw [qB] at hx
   exact .inr ⟨by simpa using hle,hx⟩
 have dm:∀ x,live (merge m.c0 h m.rows) x→(m.c0≤x∧live s'.h x)∨(x < m.c0∧live h x):=fun x ⟨o,ho,hi⟩=>by
  rcases QU x o ho with ⟨a,_,b⟩ | ⟨a,b⟩
  ·exact .inl ⟨a,b⟩
  ·exact .inr ⟨a,o,b,hi⟩
 have QV:∀ x y g g',(x < m.c0∧live h x)→(m.c0≤y∧live s'.h y)→φ' x=some g→φ' y=some g'→g.b≠g'.b:=by
  intro x y g g' hx hy hg hg' he
  obtain ⟨gx,hgx⟩:=hS.rel.has hx.2
  have h1:=hP.ext.sub x gx hgx
  rw [hg] at h1
  cases h1
  have h2:=hS.rel.bnd x g hgx
  have h3:=hnews y g' (hS.fr y (Nat.le_trans hc hy.1)) hg'
  omega
 refine ⟨⟨⟨fun x o hx=>?_,fun x y g g' hx hy hg hg' he=>?_,hP.stt.rel.bnd,hP.stt.rel.jV⟩,fun x hx=>hP.stt.fr x (Nat.le_trans hc1 hx)⟩,⟨hP.ext.sub,hP.ext.size,fun x g h1 h2=>.inl (hnews x g h1 h2),fun g hg _=>hkept g hg,hP.ext.out⟩,Nat.le_trans hc (Nat.le_trans hP.le hc1),fun x h1 h2=>Nat.le_trans hc (hP.new x h1 h2),fun x hx=>?_⟩
 ·rcases QU x o hx with ⟨_,h1,_⟩ | ⟨_,h1⟩
  ·exact h1
  ·exact (hS.rel.obj x o h1).mono hP.ext.sub fun g hg=>hkept _ (hS.rel.bnd x g hg)
 ·rcases dm x hx with h1 | h1 <;> rcases dm y hy with h2 | h2
  ·exact hP.stt.rel.inj x y g g' h1.2 h2.2 hg hg' he
  ·exact absurd he.symm (QV y x g' g h2 h1 hg' hg)
  ·exact absurd he (QV x y g g' h1 h2 hg hg')
  ·obtain ⟨gx,hgx⟩:=hS.rel.has h1.2
   obtain ⟨gy,gM⟩:=hS.rel.has h2.2
   have k1:=hP.ext.sub x gx hgx
   have k2:=hP.ext.sub y gy gM
   rw [hg] at k1
   rw [hg'] at k2
   cases k1
   cases k2
   exact hS.rel.inj x y g g' h1.2 h2.2 hgx gM he
 ·rcases dm x hx with h1 | h1
  ·exact .inr (hS.fr x (Nat.le_trans hc h1.1))
  ·exact .inl h1.2
theorem acU {m:Af}{cl:Cl}{next:Sp}(hcl:gD Tryz.prog cl)(hm:Dc (cl m.f [.string ⟨⟨m.arg⟩⟩] ⟨m.c0,h0,[]⟩) m=true)(hn:zS Tryz.prog next):zS Tryz.prog (I1 m next):=by
 intro call hC f args s v s' h
 unfold I1 at h
 rw [bK,dw] at h
 split at h
 ·rename_i hf
  have hf:f=m.f:=by simpa using hf
  subst hf
  cases args with
  | nil=>exact hn call hC _ _ _ _ _ h
  | cons a r =>
   cases r with
   | cons x y=>exact hn call hC _ _ _ _ _ h
   | nil =>
    rw [zz,zy] at h
    cases a <;> first | exact hn call hC _ _ _ _ _ h | skip
    rename_i b
    have h':sB s (fun c hh ds=>bB (mH (sL b) m.arg && (Nat.ble c m.c0 && De hh)) (some (some (m.v,(⟨m.c1,merge m.c0 hh m.rows,ds⟩:S)))) (next call m.f [.string b] s))=some (some (v,s')):=h
    rw [iY,bK] at h'
    split at h'
    ·rename_i hcnd
     rw [Bool.and_eq_true,Bool.and_eq_true,di] at hcnd
     obtain ⟨k1,k2,k3⟩:=hcnd
     cases h'
     exact acT hcl hm (by rw [zF] at k1;simpa using k1) (by simpa using k2) k3
    ·exact hn call hC _ _ _ _ _ h'
 ·exact hn call hC _ _ _ _ _ h
end Xe
end Go.Proofs.YthffafaoobpedaaGreatDoor
