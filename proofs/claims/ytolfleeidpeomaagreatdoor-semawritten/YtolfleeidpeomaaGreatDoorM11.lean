/- What is written is read: lists,pieces. -/
import Derived.Test.YtolfleeidpeomaaGreatDoorM10
namespace Go.Proofs.YtolfleeidpeomaaGreatDoor
open Go.RowKit
namespace Sy
theorem jY {w:ByteArray}(h:nm w=true):Lx.Gw w∧Lx.kd w=1:=by
 have h':Lx.named w.data.toList=true:=by rw [← toList_eq];exact h
 unfold Lx.named at h'
 simp only [Bool.and_eq_true,decide_eq_true_eq] at h'
 obtain ⟨⟨⟨⟨h1,_⟩,h2⟩,h3⟩,_⟩:=h'
 cases hw:w.data.toList with
 | nil=>rw [hw] at h1;simp at h1
 | cons c l =>
  rw [hw] at h2 h3
  simp only [List.head?_cons,Option.map_some,Option.getD_some] at h3
  exact Lx.Lj hw h3 (fun x hx=>List.all_eq_true.1 h2 x (by simp [hx]))
theorem rV {w s:ByteArray}(h:nm w=true)(hs:nm s=false):w≠s:=fun e=>by rw [e,hs] at h;cases h
theorem zF {n:Int}(h0:0≤n)(h1:n≤999999999999999):Lx.Gw (iU n)∧Lx.kd (iU n)=2∧(Lx.nu (iU n):Int)=n:=by
 have e:(iU n).data.toList=Lib.decDigits n.toNat:=by
  unfold iU Lib.itoa
  rw [if_neg (by omega)]
 have ez:(iU n).size=(Lib.decDigits n.toNat).length:=by rw [← e];rfl
 obtain ⟨d1,d2,d3⟩:=Lx.Uz n.toNat
 have d4:=Lx.UA n.toNat (by omega)
 obtain ⟨g1,g2,g3⟩:=Lx.Uv (w:=iU n) (by omega) (by omega) (by rw [e];exact d1)
 refine ⟨g1,g2,?_⟩
 rw [g3,e,d2]
 omega
theorem MF {n:Int}(h0:0≤n)(h1:n≤999999999999999){s:ByteArray}(hs:Lx.kd s≠2):iU n≠s:=fun e=>hs (by rw [← e];exact (zF h0 h1).2.1)
theorem F4 {α:Type}(f:α→List ByteArray):∀ (l:List α) (i:Nat),bZ f (i+1) l=bZ f 1 l
 | [],_=>rfl
 | a :: l,i=>by
  rw [bZ,bZ,F4 f l (i+1),F4 f l 1]
  simp
theorem WC {α:Type}(f:α→List ByteArray)(a:α)(l:List α):bZ f 0 (a :: l)=f a++bZ f 1 l:=by
 rw [bZ]
 simp
theorem F5 {α:Type}(f:α→List ByteArray)(a:α)(l:List α):bZ f 1 (a :: l)=⟨#[44]⟩ :: (f a++bZ f 1 l):=by
 rw [bZ,F4 f l 1]
 simp
end Sy
namespace Rp
section
variable {l:List Lx.Tk} {en:Nat}
theorem zG {d:Nat}{x:Sy.Ex}(hM:Mx l en d x){L:Int}{D k p:Nat}(hD:2 * d+1≤D)(hk:k≤5)(hL:6 - (k:Int)≤L)(h:At l p (Sy.bU (Sy.ai d) L x))(hf:kX l en (p+(Sy.bU (Sy.ai d) L x).length) (6 - k)) :
  from' l en (ahead l en D) k p=.ok (p+(Sy.bU (Sy.ai d) L x).length,Sy.aj d x):=by
 unfold Sy.bU at h hf ⊢
 split at h
 ·rename_i h1
  rw [if_pos h1] at hf ⊢
  exact hM D k p (by omega) hk (by omega) h hf
 ·rename_i h1
  rw [if_neg h1] at hf ⊢
  have hl:(([⟨#[40]⟩]:List ByteArray)++Sy.ai d x++([⟨#[41]⟩]:List ByteArray)).length=(Sy.ai d x).length+2:=by simp
  rw [hl,← Nat.add_assoc] at hf ⊢
  exact FZ (ME hM hD h) k hk hf.1
def Lf (l:List Lx.Tk)(en q:Nat):Prop:=Wd l en q ⟨#[44]⟩∨Wd l en q ⟨#[41]⟩
theorem Lf.WE {q:Nat}(h:Lf l en q){L:Int}(hL:1≤L):kX l en q L:=by
 rcases h with h | h
 ·have e:(Rp.sign (⟨#[44]⟩:ByteArray)).2=0:=by decide
  exact nQ h (by omega) (by decide)
 ·have e:(Rp.sign (⟨#[41]⟩:ByteArray)).2=0:=by decide
  exact nQ h (by omega) (by decide)
theorem MG {α β:Type}{f:α→List ByteArray}{g:α→β}{bg:Lx.Tk→Bool}{one:Nat→au β}:∀ (ks:List α) (a:α) (F:Nat) (out:List β) (p:Nat),(∀ x ∈ a :: ks,∀ p,At l p (f x)→Lf l en (p+(f x).length)→one p=.ok (p+(f x).length,g x)) →
  out.length+(ks.length+1)≤6→At l p (f a++Sy.bZ f 1 ks++[⟨#[41]⟩])→ks.length<F→items l en bg one F out p=.ok (p+(f a++Sy.bZ f 1 ks).length+1,out++(a :: ks).map g)
 | _,_,0,_,_,_,_,_,hF=>by omega
 | [],a,F+1,out,p,ho,hn,h,_=>by
  obtain ⟨h1,h2⟩:=iF h
  obtain ⟨h3,_⟩:=iF h1
  obtain ⟨w2,_⟩:=bG (en:=en) h2
  have e:f a++Sy.bZ f 1 []=f a:=by simp [Sy.bZ]
  rw [e] at w2 ⊢
  rw [items]
  have hlim:fZ bg (out.length:Nat) 6 (pk l p en) p=.ok p:=by unfold fZ;rw [if_neg (by simp at hn;omega)]
  rw [hlim]
  refine (then_ok (ho a (by simp) p h3 (.inr w2))).trans ?_
  rw [w2.tk,if_pos (by decide)]
  simp
 | b :: ks,a,F+1,out,p,ho,hn,h,hF=>by
  obtain ⟨h1,h2⟩:=iF h
  obtain ⟨h3,h4⟩:=iF h1
  rw [Sy.F5] at h4 h2 ⊢
  obtain ⟨w1,h5⟩:=bG (en:=en) h4
  have hin:At l (p+(f a).length+1) (f b++Sy.bZ f 1 ks++[⟨#[41]⟩]):=by
   intro i w hi
   have:=h ((f a).length+1+i) w (by
    rw [Sy.F5,List.append_assoc,List.getElem?_append_right (by omega),show (f a).length+1+i - (f a).length=i+1 by omega,List.cons_append,List.getElem?_cons_succ]
    exact hi)
   rwa [show p+((f a).length+1+i)=p+(f a).length+1+i by omega] at this
  rw [items]
  have hlim:fZ bg (out.length:Nat) 6 (pk l p en) p=.ok p:=by unfold fZ;rw [if_neg (by simp at hn;omega)]
  rw [hlim]
  refine (then_ok (ho a (by simp) p h3 (.inl w1))).trans ?_
  rw [w1.tk,if_neg (by decide)]
  refine (then_ok (jf w1)).trans ?_
  rw [MG ks b F (out++[g a]) (p+(f a).length+1) (fun x hx=>ho x (List.mem_cons_of_mem _ hx)) (by simp at hn ⊢;omega) hin (by simp at hF;omega)]
  simp
  omega
theorem MH {α β:Type}{f:α→List ByteArray}{g:α→β}{bg:Lx.Tk→Bool}{one:Nat→au β}{ks:List α}{p:Nat}(ho:∀ x ∈ ks,∀ p,At l p (f x)→Lf l en (p+(f x).length)→one p=.ok (p+(f x).length,g x))
  (hb:∀ x ∈ ks,∃ w r,f x=w :: r∧w≠⟨#[41]⟩) (hn:ks.length≤6) (h:At l p ([⟨#[40]⟩]++Sy.bZ f 0 ks++[⟨#[41]⟩])):list l en bg one p=.ok (p+(Sy.bZ f 0 ks).length+2,ks.map g):=by
 rw [List.append_assoc,List.singleton_append] at h
 obtain ⟨w1,h1⟩:=bG (en:=en) h
 unfold list
 refine (then_ok (jf w1)).trans ?_
 cases ks with
 | nil =>
  obtain ⟨w2,_⟩:=bG (en:=en) (show At l (p+1) (⟨#[41]⟩ :: []) from h1)
  rw [w2.tk,if_pos (by decide)]
  simp [Sy.bZ]
 | cons a ks =>
  rw [Sy.WC] at h1 ⊢
  obtain ⟨w,r,hw,hne⟩:=hb a (by simp)
  have h1':=h1
  rw [hw,List.cons_append,List.cons_append] at h1'
  obtain ⟨w2,_⟩:=bG (en:=en) h1'
  rw [w2.tk,if_neg (by simpa using hne)]
  have hF:ks.length<l.length+1:=by
   have:=(iF h1).2
   obtain ⟨w3,_⟩:=bG (en:=en) this
   have h3:=w3.lt
   have h4:∀ (ks:List α),ks.length≤(Sy.bZ f 1 ks).length:=by
    intro ks
    induction ks with
    | nil=>simp
    | cons b ks ih=>rw [Sy.F5];simp;omega
   have h5:=h4 ks
   rw [List.length_append] at h3
   omega
  rw [MG ks a (l.length+1) [] (p+1) ho (by simpa using hn) h1 hF]
  simp
  omega
theorem vJ {d D:Nat}{x:Sy.Ex}(hM:Mx l en d x)(hD:2 * d+1≤D)(p:Nat)(h:At l p (Sy.ai d x))(hf:kX l en (p+(Sy.ai d x).length) 1):expr l en D (dm l en D) p=.ok (p+(Sy.ai d x).length,Sy.aj d x):=by
 unfold expr
 rw [if_neg (by omega)]
 obtain ⟨D',rfl⟩:∃ D',D=D'+1:=⟨D - 1,by omega⟩
 exact hM D' 5 p (by omega) (by omega) (by have:=(F3 x.kind).1;omega) h (hf.mono (by omega))
end
end Rp
namespace Sy
theorem CQ {d:Nat}{x a b:Ex}(hl:0<aW x.kind)(hab:x.kids=[a,b]):ai (d+1) x=bU (ai d) (if aW x.kind=3 then 4 else aW x.kind) a++[sign x.kind]++bU (ai d) (aW x.kind+1) b:=by
 rw [ai,if_pos hl,hab]
theorem pV {k:Int}(h:k=1∨k=2∨k=3∨k=4∨k=5∨k=19∨k=20∨k=21∨k=22∨k=23∨k=24):¬ 0<aW k:=by
 rcases h with rfl | rfl | rfl | rfl | rfl | rfl | rfl | rfl | rfl | rfl | rfl <;> decide
theorem exT_1 {d:Nat}{x:Ex}(h:x.kind=1):ai (d+1) x=[iU x.n]:=by
 rw [ai,if_neg (pV (by omega)),if_pos h]
theorem exT_2 {d:Nat}{x:Ex}(h:x.kind=2):ai (d+1) x=[lN x.n]:=by
 rw [ai,if_neg (pV (by omega)),if_neg (by omega),if_pos h]
theorem exT_3 {d:Nat}{x:Ex}(h:x.kind=3):ai (d+1) x=[x.name]:=by
 rw [ai,if_neg (pV (by omega)),if_neg (by omega),if_neg (by omega),if_pos h]
theorem exT_4 {d:Nat}{x a:Ex}(h:x.kind=4)(ha:x.kids=[a]):ai (d+1) x=[⟨#[45]⟩]++bU (ai d) 6 a:=by
 rw [ai,if_neg (pV (by omega)),if_neg (by omega),if_neg (by omega),if_neg (by omega),if_pos h,ha]
 rfl
theorem exT_5 {d:Nat}{x a:Ex}(h:x.kind=5)(ha:x.kids=[a]):ai (d+1) x=[⟨#[110,111,116]⟩]++bU (ai d) 6 a:=by
 rw [ai,if_neg (pV (by omega)),if_neg (by omega),if_neg (by omega),if_neg (by omega),if_neg (by omega),if_pos h,ha]
 rfl
theorem exT_19 {d:Nat}{x:Ex}(h:x.kind=19):ai (d+1) x=eO (ai d) [x.name] x.kids:=by
 rw [ai,if_neg (pV (by omega)),if_neg (by omega),if_neg (by omega),if_neg (by omega),if_neg (by omega),if_neg (by omega),if_pos h]
theorem exT_20 {d:Nat}{x:Ex}(h:x.kind=20):ai (d+1) x=[⟨#[114,101,99,118]⟩,⟨#[40]⟩,x.name,⟨#[41]⟩]:=by
 rw [ai,if_neg (pV (by omega)),if_neg (by omega),if_neg (by omega),if_neg (by omega),if_neg (by omega),if_neg (by omega),if_neg (by omega),if_pos h]
theorem exT_21 {d:Nat}{x:Ex}(h:x.kind=21):ai (d+1) x=eO (ai d) [⟨#[121,105,101,108,100]⟩] x.kids:=by
 rw [ai,if_neg (pV (by omega)),if_neg (by omega),if_neg (by omega),if_neg (by omega),if_neg (by omega),if_neg (by omega),if_neg (by omega),if_neg (by omega),if_pos h]
theorem exT_22 {d:Nat}{x:Ex}(h:x.kind=22):ai (d+1) x=eO (ai d) [⟨#[115,116,97,114,116]⟩,x.name] x.kids:=by
 rw [ai,if_neg (pV (by omega)),if_neg (by omega),if_neg (by omega),if_neg (by omega),if_neg (by omega),if_neg (by omega),if_neg (by omega),if_neg (by omega),if_neg (by omega),if_pos h]
theorem exT_23 {d:Nat}{x:Ex}(h:x.kind=23):ai (d+1) x=eO (ai d) [⟨#[114,101,115,117,109,101]⟩] x.kids:=by
 rw [ai,if_neg (pV (by omega)),if_neg (by omega),if_neg (by omega),if_neg (by omega),if_neg (by omega),if_neg (by omega),if_neg (by omega),if_neg (by omega),if_neg (by omega),if_neg (by omega),if_pos h]
theorem exT_24 {d:Nat}{x:Ex}(h:x.kind=24):ai (d+1) x=eO (ai d) [⟨#[97,108,105,118,101]⟩] x.kids:=by
 rw [ai,if_neg (pV (by omega)),if_neg (by omega),if_neg (by omega),if_neg (by omega),if_neg (by omega),if_neg (by omega),if_neg (by omega),if_neg (by omega),if_neg (by omega),if_neg (by omega),if_neg (by omega)]
theorem F6 {k:Int}(h1:1≤k)(h2:k≤24):0<aW k∨k=1∨k=2∨k=3∨k=4∨k=5∨k=19∨k=20∨k=21∨k=22∨k=23∨k=24:=by
 by_cases h:6≤k∧k≤18
 ·left
  have hc:k=6∨k=7∨k=8∨k=9∨k=10∨k=11∨k=12∨k=13∨k=14∨k=15∨k=16∨k=17∨k=18:=by omega
  rcases hc with rfl | rfl | rfl | rfl | rfl | rfl | rfl | rfl | rfl | rfl | rfl | rfl | rfl <;> decide
 ·right
  omega
theorem F7 {x:Ex}(h:dU x=0):(x.kind=1→0≤x.n∧x.n≤999999999999999)∧(x.kind=2→x.n=0∨x.n=1)∧((x.kind=3∨x.kind=19∨x.kind=20∨x.kind=22)→nm x.name=true):=by
 unfold dU at h
 split at h
 ·omega
 ·rename_i h1
  split at h
  ·omega
  ·rename_i h2
   refine ⟨fun hk=>by omega,fun hk=>by omega,fun hk=>?_⟩
   cases hn:nm x.name with
   | true=>rfl
   | false=>exact absurd ⟨hk,hn⟩ h2
theorem MI:∀ (d:Nat) (x:Ex),dR d x→∃ w r,ai d x=w :: r∧w≠⟨#[41]⟩
 | 0,x,h=>h.elim
 | d+1,x,⟨h1,h2,h3,h4⟩=>by
  obtain ⟨p1,_,p2⟩:=F7 h3
  rcases F6 h1 h2 with hk | hk | hk | hk | hk | hk | hk | hk | hk | hk | hk | hk
  ·obtain ⟨a,b,hab⟩:=vI h3 (.inl hk)
   obtain ⟨w,r,hw,hne⟩:=MI d a (h4 a (by rw [hab];simp))
   rw [CQ hk hab]
   generalize (if aW x.kind=3 then 4 else aW x.kind)=L
   by_cases hL:L≤iT a.kind
   ·have e:bU (ai d) L a=w :: r:=by unfold bU;rw [if_pos hL,hw]
    rw [e]
    exact ⟨w,_,rfl,hne⟩
   ·have e:bU (ai d) L a=⟨#[40]⟩ :: (ai d a++[⟨#[41]⟩]):=by unfold bU;rw [if_neg hL];rfl
    rw [e]
    exact ⟨⟨#[40]⟩,_,rfl,by decide⟩
  ·rw [exT_1 hk];exact ⟨_,_,rfl,MF (p1 hk).1 (p1 hk).2 (by decide)⟩
  ·rw [exT_2 hk]
   refine ⟨_,_,rfl,?_⟩
   unfold lN
   by_cases h:x.n=1
   ·rw [if_pos h];decide
   ·rw [if_neg h];decide
  ·rw [exT_3 hk];exact ⟨_,_,rfl,rV (p2 (.inl hk)) (by decide +kernel)⟩
  ·obtain ⟨a,ha⟩:=qM h3 (by omega)
   rw [exT_4 hk ha];exact ⟨_,_,rfl,by decide⟩
  ·obtain ⟨a,ha⟩:=qM h3 (by omega)
   rw [exT_5 hk ha];exact ⟨_,_,rfl,by decide⟩
  ·rw [exT_19 hk];exact ⟨_,_,rfl,rV (p2 (.inr (.inl hk))) (by decide +kernel)⟩
  ·rw [exT_20 hk];exact ⟨_,_,rfl,by decide⟩
  ·rw [exT_21 hk];exact ⟨_,_,rfl,by decide⟩
  ·rw [exT_22 hk];exact ⟨_,_,rfl,by decide⟩
  ·rw [exT_23 hk];exact ⟨_,_,rfl,by decide⟩
  ·rw [exT_24 hk];exact ⟨_,_,rfl,by decide⟩
end Sy
namespace Rp
section
variable {l:List Lx.Tk} {en:Nat}
theorem MJ {D p:Nat}{w:ByteArray}(h:Wd l en p w)(hn:Sy.nm w=true):ahead l en D p=named l en D (dm l en D) p:=by
 have e:∀ s,Sy.nm s=false→tk l p s=false:=fun s hs=>by rw [h.tk];simpa using Sy.rV hn hs
 have k:=(Sy.jY hn).2
 rw [xN]
 unfold lM piece
 rw [e ⟨#[45]⟩ (by decide +kernel),e ⟨#[110,111,116]⟩ (by decide +kernel),e ⟨#[40]⟩ (by decide +kernel),e ⟨#[116,114,117,101]⟩ (by decide +kernel),e ⟨#[102,97,108,115,101]⟩ (by decide +kernel),e ⟨#[115,116,97,114,116]⟩ (by decide +kernel),e ⟨#[114,101,99,118]⟩ (by decide +kernel),
  e ⟨#[121,105,101,108,100]⟩ (by decide +kernel),e ⟨#[97,108,105,118,101]⟩ (by decide +kernel),e ⟨#[114,101,115,117,109,101]⟩ (by decide +kernel),h.kind,k]
 simp
theorem rW {D p:Nat}{w:ByteArray}(h:Wd l en p w)(hk:Lx.kd w≠2):ahead l en D p =
  if w=⟨#[45]⟩ then turned l en D (dm l en D) 4 (p+1) else if w=⟨#[110,111,116]⟩ then turned l en D (dm l en D) 5 (p+1)
  else if w=⟨#[40]⟩ then andThen (expr l en D (dm l en D) (p+1)) fun q x=>andThen (want l en ⟨#[41]⟩ q) fun q2 _=>.ok (q2,x)
  else if w=⟨#[116,114,117,101]⟩ then .ok (p+1,⟨2,1,⟨#[]⟩,[]⟩)
  else if w=⟨#[102,97,108,115,101]⟩ then .ok (p+1,⟨2,0,⟨#[]⟩,[]⟩)
  else if w=⟨#[115,116,97,114,116]⟩ then andThen (name l en (p+1)) fun q s=>andThen (kids l en D (dm l en D) q) fun q2 ks=>.ok (q2,⟨22,0,s,ks⟩)
  else if w=⟨#[114,101,99,118]⟩ then receiving l en (p+1)
  else if w=⟨#[121,105,101,108,100]⟩ then andThen (pU l en D (dm l en D) (p+1)) fun q ks=>.ok (q,⟨21,0,⟨#[]⟩,ks⟩)
  else if w=⟨#[97,108,105,118,101]⟩ then andThen (pU l en D (dm l en D) (p+1)) fun q ks=>.ok (q,⟨24,0,⟨#[]⟩,ks⟩)
  else if w=⟨#[114,101,115,117,109,101]⟩ then andThen (uo l en D (dm l en D) (p+1)) fun q ks=>.ok (q,⟨23,0,⟨#[]⟩,ks⟩)
  else named l en D (dm l en D) p:=by
 rw [xN]
 unfold lM piece
 simp only [h.tk,h.kind,hk,decide_eq_true_eq,if_false]
theorem MK {d D p:Nat}{x:Sy.Ex}(hM:Mx l en d x)(hD:2 * d+1≤D)(h:At l p (⟨#[40]⟩ :: (Sy.ai d x++[⟨#[41]⟩]))):pU l en D (dm l en D) p=.ok (p+(Sy.ai d x).length+2,[Sy.aj d x]):=by
 obtain ⟨w1,h⟩:=bG (en:=en) h
 obtain ⟨h1,h2⟩:=iF h
 obtain ⟨w2,_⟩:=bG (en:=en) h2
 unfold pU
 refine (then_ok (jf w1)).trans ?_
 refine (then_ok (vJ hM hD (p+1) h1 (nQ w2 (by decide) (by decide)))).trans ?_
 refine (then_ok (jf w2)).trans ?_
 rw [show p+1+(Sy.ai d x).length+1=p+(Sy.ai d x).length+2 by omega]
theorem WG {d D p:Nat}{x y:Sy.Ex}(hM:Mx l en d x)(hN:Mx l en d y)(hD:2 * d+1≤D)(h:At l p (⟨#[40]⟩ :: (Sy.ai d x++(⟨#[44]⟩ :: (Sy.ai d y++[⟨#[41]⟩]))))):uo l en D (dm l en D) p=.ok (p+(Sy.ai d x).length+(Sy.ai d y).length+3,[Sy.aj d x,Sy.aj d y]):=by
 obtain ⟨w1,h⟩:=bG (en:=en) h
 obtain ⟨h1,h⟩:=iF h
 obtain ⟨w2,h⟩:=bG (en:=en) h
 obtain ⟨h2,h⟩:=iF h
 obtain ⟨w3,_⟩:=bG (en:=en) h
 unfold uo
 refine (then_ok (jf w1)).trans ?_
 refine (then_ok (vJ hM hD (p+1) h1 (nQ w2 (by decide) (by decide)))).trans ?_
 refine (then_ok (jf w2)).trans ?_
 refine (then_ok (vJ hN hD _ h2 (nQ w3 (by decide) (by decide)))).trans ?_
 refine (then_ok (jf w3)).trans ?_
 rw [show p+1+(Sy.ai d x).length+1+(Sy.ai d y).length+1=p+(Sy.ai d x).length+(Sy.ai d y).length+3 by omega]
theorem ML {d D p:Nat}{ks:List Sy.Ex}(hM:∀ k ∈ ks,Sy.dR d k∧Mx l en d k)(hD:2 * d+1≤D)(hn:ks.length≤6)(h:At l p ([⟨#[40]⟩]++Sy.bZ (Sy.ai d) 0 ks++[⟨#[41]⟩])):kids l en D (dm l en D) p=.ok (p+(Sy.bZ (Sy.ai d) 0 ks).length+2,ks.map (Sy.aj d)) :=
 MH (f:=Sy.ai d) (g:=Sy.aj d) (fun x hx p hp hf=>vJ (hM x hx).2 hD p hp (hf.WE (by omega))) (fun x hx=>Sy.MI d x (hM x hx).1) hn h
theorem WH {d:Nat}{x:Sy.Ex}(hx:Sy.dR (d+1) x)(hl:¬ 0<Sy.aW x.kind)(hM:∀ k ∈ x.kids,Mx l en d k){D p:Nat}(hD:2 * (d+1)≤D)(h:At l p (Sy.ai (d+1) x))(hf:(pk l (p+(Sy.ai (d+1) x).length) en).text≠⟨#[40]⟩) :
  ahead l en D p=.ok (p+(Sy.ai (d+1) x).length,Sy.aj (d+1) x):=by
 obtain ⟨h1,h2,h3,h4⟩:=hx
 obtain ⟨p1,p2,p3⟩:=Sy.F7 h3
 have hK:∀ k ∈ x.kids,Sy.dR d k∧Mx l en d k:=fun k hk=>⟨h4 k hk,hM k hk⟩
 rcases Sy.F6 h1 h2 with hk | hk | hk | hk | hk | hk | hk | hk | hk | hk | hk | hk
 ·exact absurd hk hl
 ·-- a number
  rw [Sy.exT_1 hk] at h ⊢
  obtain ⟨w1,_⟩:=bG (en:=en) h
  obtain ⟨_,n2,n3⟩:=Sy.zF (p1 hk).1 (p1 hk).2
  have e:∀ s,Lx.kd s≠2→tk l p s=false:=fun s hs=>by rw [w1.tk];simpa using Sy.MF (p1 hk).1 (p1 hk).2 hs
  have hB:Sy.aj (d+1) x=⟨1,x.n,⟨#[]⟩,[]⟩:=by rw [Sy.aj,Sy.CP h3 (by omega)];simp [hk]
  rw [xN,hB]
  unfold lM piece
  rw [e ⟨#[45]⟩ (by decide),e ⟨#[110,111,116]⟩ (by decide),w1.kind,n2,w1.num,n3]
  simp
 ·-- a truth
  rw [Sy.exT_2 hk] at h ⊢
  obtain ⟨w1,_⟩:=bG (en:=en) h
  have hB:Sy.aj (d+1) x=⟨2,x.n,⟨#[]⟩,[]⟩:=by rw [Sy.aj,Sy.CP h3 (by omega)];simp [hk]
  rw [hB]
  rcases p2 hk with hn | hn
  ·have ht:Sy.lN x.n=⟨#[102,97,108,115,101]⟩:=by rw [hn];decide
   rw [ht] at w1
   rw [rW w1 (by decide),hn]
   rfl
  ·have ht:Sy.lN x.n=⟨#[116,114,117,101]⟩:=by rw [hn];decide
   rw [ht] at w1
   rw [rW w1 (by decide),hn]
   rfl
 ·-- a name
  rw [Sy.exT_3 hk] at h hf ⊢
  obtain ⟨w1,_⟩:=bG (en:=en) h
  have hn:=p3 (.inl hk)
  have hB:Sy.aj (d+1) x=⟨3,0,x.name,[]⟩:=by rw [Sy.aj,Sy.CP h3 (by omega)];simp [hk]
  rw [MJ w1 hn,hB]
  unfold named
  refine (then_ok (oP w1 hn (Sy.jY hn).2)).trans ?_
  have hf':(pk l (p+1) en).text≠⟨#[40]⟩:=hf
  rw [if_neg hf']
  rfl
 ·-- less
  obtain ⟨a,ha⟩:=Sy.qM h3 (by omega)
  rw [Sy.exT_4 hk ha,List.singleton_append] at h hf ⊢
  obtain ⟨w1,h5⟩:=bG (en:=en) h
  have hB:Sy.aj (d+1) x=⟨4,0,⟨#[]⟩,[Sy.aj d a]⟩:=by rw [Sy.aj,ha];simp [hk]
  rw [rW w1 (by decide),if_pos rfl,hB]
  unfold turned
  rw [if_neg (by omega)]
  obtain ⟨D',rfl⟩:∃ D',D=D'+1:=⟨D - 1,by omega⟩
  rw [List.length_cons] at hf ⊢
  have hb:from' l en (ahead l en D') 0 (p+1)=_:=zG (hM a (by rw [ha];simp)) (L:=6) (k:=0) (by omega) (by omega) (by simp) h5 ⟨by have:=MC (pk l (p+1+(Sy.bU (Sy.ai d) 6 a).length) en).text;simp;omega,by rw [show p+1+(Sy.bU (Sy.ai d) 6 a).length=p+((Sy.bU (Sy.ai d) 6 a).length+1) by omega];exact hf⟩
  refine (then_ok (r:=dm l en (D'+1) (p+1)) hb).trans ?_
  rw [show p+1+(Sy.bU (Sy.ai d) 6 a).length=p+((Sy.bU (Sy.ai d) 6 a).length+1) by omega]
 ·-- not
  obtain ⟨a,ha⟩:=Sy.qM h3 (by omega)
  rw [Sy.exT_5 hk ha,List.singleton_append] at h hf ⊢
  obtain ⟨w1,h5⟩:=bG (en:=en) h
  have hB:Sy.aj (d+1) x=⟨5,0,⟨#[]⟩,[Sy.aj d a]⟩:=by rw [Sy.aj,ha];simp [hk]
  rw [rW w1 (by decide),if_neg (by decide),if_pos rfl,hB]
  unfold turned
  rw [if_neg (by omega)]
  obtain ⟨D',rfl⟩:∃ D',D=D'+1:=⟨D - 1,by omega⟩
  rw [List.length_cons] at hf ⊢
  have hb:from' l en (ahead l en D') 0 (p+1)=_:=zG (hM a (by rw [ha];simp)) (L:=6) (k:=0) (by omega) (by omega) (by simp) h5 ⟨by have:=MC (pk l (p+1+(Sy.bU (Sy.ai d) 6 a).length) en).text;simp;omega,by rw [show p+1+(Sy.bU (Sy.ai d) 6 a).length=p+((Sy.bU (Sy.ai d) 6 a).length+1) by omega];exact hf⟩
  refine (then_ok (r:=dm l en (D'+1) (p+1)) hb).trans ?_
  rw [show p+1+(Sy.bU (Sy.ai d) 6 a).length=p+((Sy.bU (Sy.ai d) 6 a).length+1) by omega]
 ·-- a call
  rw [Sy.exT_19 hk] at h hf ⊢
  unfold Sy.eO at h hf ⊢
  have hn:=p3 (.inr (.inl hk))
  have hB:Sy.aj (d+1) x=⟨19,0,x.name,x.kids.map (Sy.aj d)⟩:=by rw [Sy.aj];simp [hk]
  rw [List.append_assoc,List.append_assoc,List.singleton_append,← List.append_assoc] at h
  obtain ⟨w1,h5⟩:=bG (en:=en) h
  have h6:=h5
  rw [List.append_assoc,List.singleton_append] at h6
  obtain ⟨w2,_⟩:=bG (en:=en) h6
  rw [MJ w1 hn,hB]
  unfold named
  refine (then_ok (oP w1 hn (Sy.jY hn).2)).trans ?_
  rw [if_pos w2.text]
  refine (then_ok (ML hK (by omega) (Sy.MB h3 (.inl hk)) h5)).trans ?_
  simp
  omega
 ·-- what is received
  rw [Sy.exT_20 hk] at h ⊢
  have hn:=p3 (.inr (.inr (.inl hk)))
  have hB:Sy.aj (d+1) x=⟨20,0,x.name,[]⟩:=by rw [Sy.aj,Sy.CP h3 (by omega)];simp [hk]
  obtain ⟨w1,h⟩:=bG (en:=en) h
  obtain ⟨w2,h⟩:=bG (en:=en) h
  obtain ⟨w3,h⟩:=bG (en:=en) h
  obtain ⟨w4,h⟩:=bG (en:=en) h
  rw [rW w1 (by decide),hB]
  rw [if_neg (by decide),if_neg (by decide),if_neg (by decide),if_neg (by decide),if_neg (by decide),if_neg (by decide),if_pos rfl]
  unfold receiving
  refine (then_ok (jf w2)).trans ?_
  refine (then_ok (oP w3 hn (Sy.jY hn).2)).trans ?_
  exact (then_ok (jf w4)).trans rfl
 ·-- yield
  obtain ⟨a,ha⟩:=Sy.qM h3 (by omega)
  rw [Sy.exT_21 hk,ha] at h ⊢
  have hB:Sy.aj (d+1) x=⟨21,0,⟨#[]⟩,[Sy.aj d a]⟩:=by rw [Sy.aj,ha];simp [hk]
  have e:Sy.eO (Sy.ai d) [⟨#[121,105,101,108,100]⟩] [a]=⟨#[121,105,101,108,100]⟩ :: (⟨#[40]⟩ :: (Sy.ai d a++[⟨#[41]⟩])):=by simp [Sy.eO,Sy.bZ]
  rw [e] at h ⊢
  obtain ⟨w1,h⟩:=bG (en:=en) h
  rw [rW w1 (by decide),hB]
  rw [if_neg (by decide),if_neg (by decide),if_neg (by decide),if_neg (by decide),if_neg (by decide),if_neg (by decide),if_neg (by decide),if_pos rfl]
  refine (then_ok (MK (hM a (by rw [ha];simp)) (by omega) h)).trans ?_
  simp
  omega
 ·-- start
  rw [Sy.exT_22 hk] at h ⊢
  have hn:=p3 (.inr (.inr (.inr hk)))
  have hB:Sy.aj (d+1) x=⟨22,0,x.name,x.kids.map (Sy.aj d)⟩:=by rw [Sy.aj];simp [hk]
  have e:Sy.eO (Sy.ai d) [⟨#[115,116,97,114,116]⟩,x.name] x.kids=⟨#[115,116,97,114,116]⟩ :: (x.name :: ([⟨#[40]⟩]++Sy.bZ (Sy.ai d) 0 x.kids++[⟨#[41]⟩])):=by simp [Sy.eO]
  rw [e] at h ⊢
  obtain ⟨w1,h⟩:=bG (en:=en) h
  obtain ⟨w2,h⟩:=bG (en:=en) h
  rw [rW w1 (by decide),hB]
  rw [if_neg (by decide),if_neg (by decide),if_neg (by decide),if_neg (by decide),if_neg (by decide),if_pos rfl]
  refine (then_ok (oP w2 hn (Sy.jY hn).2)).trans ?_
  refine (then_ok (ML hK (by omega) (Sy.MB h3 (.inr hk)) h)).trans ?_
  simp
  omega
 ·-- resume
  obtain ⟨a,b,ha⟩:=Sy.vI h3 (.inr hk)
  rw [Sy.exT_23 hk,ha] at h ⊢
  have hB:Sy.aj (d+1) x=⟨23,0,⟨#[]⟩,[Sy.aj d a,Sy.aj d b]⟩:=by rw [Sy.aj,ha];simp [hk]
  have e:Sy.eO (Sy.ai d) [⟨#[114,101,115,117,109,101]⟩] [a,b]=⟨#[114,101,115,117,109,101]⟩ :: (⟨#[40]⟩ :: (Sy.ai d a++(⟨#[44]⟩ :: (Sy.ai d b++[⟨#[41]⟩])))):=by simp [Sy.eO,Sy.bZ]
  rw [e] at h ⊢
  obtain ⟨w1,h⟩:=bG (en:=en) h
  rw [rW w1 (by decide),hB]
  rw [if_neg (by decide),if_neg (by decide),if_neg (by decide),if_neg (by decide),if_neg (by decide),if_neg (by decide),if_neg (by decide),if_neg (by decide),if_neg (by decide),if_pos rfl]
  refine (then_ok (WG (hM a (by rw [ha];simp)) (hM b (by rw [ha];simp)) (by omega) h)).trans ?_
  simp
  omega
 ·-- alive
  obtain ⟨a,ha⟩:=Sy.qM h3 (by omega)
  rw [Sy.exT_24 hk,ha] at h ⊢
  have hB:Sy.aj (d+1) x=⟨24,0,⟨#[]⟩,[Sy.aj d a]⟩:=by rw [Sy.aj,ha];simp [hk]
  have e:Sy.eO (Sy.ai d) [⟨#[97,108,105,118,101]⟩] [a]=⟨#[97,108,105,118,101]⟩ :: (⟨#[40]⟩ :: (Sy.ai d a++[⟨#[41]⟩])):=by simp [Sy.eO,Sy.bZ]
  rw [e] at h ⊢
  obtain ⟨w1,h⟩:=bG (en:=en) h
  rw [rW w1 (by decide),hB]
  rw [if_neg (by decide),if_neg (by decide),if_neg (by decide),if_neg (by decide),if_neg (by decide),if_neg (by decide),if_neg (by decide),if_neg (by decide),if_pos rfl]
  refine (then_ok (MK (hM a (by rw [ha];simp)) (by omega) h)).trans ?_
  simp
  omega
end
end Rp
namespace Rp
section
variable {l:List Lx.Tk} {en:Nat}
theorem MM {next:Nat→au Sy.Ex}{level:Int}{x:Sy.Ex}{p:Nat}(h:(sign (pk l p en).text).2≠level):∀ F,loop l en next level F x p=.ok (p,x)
 | 0=>rfl
 | F+1=>by rw [loop,if_pos h]
theorem MN {d:Nat}{x a b:Sy.Ex}(hk:0<Sy.aW x.kind)(hab:x.kids=[a,b]):Sy.aj (d+1) x=⟨x.kind,0,⟨#[]⟩,[Sy.aj d a,Sy.aj d b]⟩:=by
 have:=(Sy.xQ hk).1
 rw [Sy.aj,hab,if_neg (by omega),if_neg (by omega)]
 rfl
theorem F8 {k:Int}(h:0<Sy.aW k):Sy.iT k=Sy.aW k:=by unfold Sy.iT;rw [if_pos h]
theorem MO {k:Int}(h:¬ 0<Sy.aW k):Sy.iT k=6:=by unfold Sy.iT;rw [if_neg h]
theorem MP {k:Int}(h:0<Sy.aW k):Sy.sign k≠⟨#[40]⟩:=fun e=>by
 have h1:=Sy.FY h
 rw [e] at h1
 have h2:(Rp.sign (⟨#[40]⟩:ByteArray)).2=0:=by decide
 rw [h1] at h2
 simp only at h2
 omega
theorem MQ {d p:Nat}{x a b:Sy.Ex}(hk:0<Sy.aW x.kind)(hab:x.kids=[a,b])(h:At l p (Sy.ai (d+1) x)):∃ A B,A=Sy.bU (Sy.ai d) (if Sy.aW x.kind=3 then 4 else Sy.aW x.kind) a∧B=Sy.bU (Sy.ai d) (Sy.aW x.kind+1) b∧(Sy.ai (d+1) x).length=A.length+1+B.length∧At l p A∧Wd l en (p+A.length) (Sy.sign x.kind)∧At l (p+A.length+1) B:=by
 refine ⟨_,_,rfl,rfl,?_,?_⟩
 ·rw [Sy.CQ hk hab];simp;omega
 ·rw [Sy.CQ hk hab,List.append_assoc,List.singleton_append] at h
  obtain ⟨h1,h2⟩:=iF h
  obtain ⟨w,h3⟩:=bG (en:=en) h2
  exact ⟨h1,w,h3⟩
theorem WI {d:Nat}(ih:∀ x,Sy.dR d x→Mx l en d x∧Cx l en d x)(x:Sy.Ex)(hx:Sy.dR (d+1) x):Mx l en (d+1) x∧Cx l en (d+1) x:=by
 have hx':=hx
 obtain ⟨h1,h2,h3,h4⟩:=hx'
 have hM:∀ k ∈ x.kids,Mx l en d k:=fun k hk=>(ih k (h4 k hk)).1
 -- as the beginning of a row,given the levels below
 have hC:∀ k:Nat,k≤4→k≠2→(∀ D p:Nat,2 * (d+1)≤D→6 - (k:Int)≤Sy.iT x.kind→At l p (Sy.ai (d+1) x)→kX l en (p+(Sy.ai (d+1) x).length) (6 - k)→from' l en (ahead l en D) k p=.ok (p+(Sy.ai (d+1) x).length,Sy.aj (d+1) x)) →
   ∀ D p F:Nat,2 * (d+1)≤D→5 - (k:Int)≤Sy.iT x.kind→At l p (Sy.ai (d+1) x)→kX l en (p+(Sy.ai (d+1) x).length) (6 - k)→l.length<p+F →
   ∃ F',l.length<p+(Sy.ai (d+1) x).length+F'∧andThen (from' l en (ahead l en D) k p) (fun q z=>loop l en (from' l en (ahead l en D) k) (5 - k) F z q)=loop l en (from' l en (ahead l en D) k) (5 - k) F' (Sy.aj (d+1) x) (p+(Sy.ai (d+1) x).length):=by
  intro k hk k2 WJ D p F hD hL hA hf hF
  by_cases hup:6 - (k:Int)≤Sy.iT x.kind
  ·exact ⟨F,by omega,then_ok (WJ D p hD hup hA hf)⟩
  ·have jg:0<Sy.aW x.kind:=by
    by_cases hn:0<Sy.aW x.kind
    ·exact hn
    ·rw [MO hn] at hup;omega
   rw [F8 jg] at hL hup
   have hLv:Sy.aW x.kind=5 - (k:Int):=by omega
   obtain ⟨a,b,hab⟩:=Sy.vI h3 (.inl jg)
   obtain ⟨A,B,xR,CR,hlen,hA1,w,hB1⟩:=MQ (en:=en) jg hab hA
   have WK:Sy.aW x.kind≠3:=by omega
   rw [if_neg WK] at xR
   rw [hlen] at hf ⊢
   have hfB:kX l en (p+A.length+1+B.length) (6 - k):=by rw [show p+A.length+1+B.length=p+(A.length+1+B.length) by omega];exact hf
   have hsg:=Sy.FY jg
   have hfA:kX l en (p+A.length) (6 - k):=nQ w (by rw [hsg];simp only;omega) (MP jg)
   -- the first kid
   have F9:∃ F1,l.length<p+A.length+F1∧andThen (from' l en (ahead l en D) k p) (fun q z=>loop l en (from' l en (ahead l en D) k) (5 - k) F z q)=loop l en (from' l en (ahead l en D) k) (5 - k) F1 (Sy.aj d a) (p+A.length):=by
    by_cases hpl:Sy.aW x.kind≤Sy.iT a.kind
    ·have e:A=Sy.ai d a:=by rw [xR];unfold Sy.bU;rw [if_pos hpl]
     rw [e] at hA1 hfA ⊢
     exact (ih a (h4 a (by rw [hab];simp))).2 D k p F (by omega) hk k2 (by omega) hA1 hfA hF
    ·have e:A=[⟨#[40]⟩]++Sy.ai d a++[⟨#[41]⟩]:=by rw [xR];unfold Sy.bU;rw [if_neg hpl]
     have el:A.length=(Sy.ai d a).length+2:=by rw [e];simp
     rw [e] at hA1
     have hah:=ME (D:=D) (hM a (by rw [hab];simp)) (by omega) hA1
     have hq:p+(Sy.ai d a).length+2=p+A.length:=by omega
     rw [hq] at hah
     exact ⟨F,by omega,then_ok (FZ hah k (by omega) hfA.1)⟩
   obtain ⟨F1,hF1,F9⟩:=F9
   obtain ⟨F2,rfl⟩:∃ F2,F1=F2+1:=⟨F1 - 1,by have:=w.lt;omega⟩
   refine ⟨F2,by omega,?_⟩
   rw [F9,loop,w.text,hsg]
   rw [if_neg (by simp only;omega)]
   have hbr:from' l en (ahead l en D) k (p+A.length+1)=.ok (p+A.length+1+B.length,Sy.aj d b):=by
    rw [CR] at hB1 hfB ⊢
    exact zG (hM b (by rw [hab];simp)) (by omega) (by omega) (by omega) hB1 hfB
   refine (then_ok hbr).trans ?_
   rw [if_neg (by omega),MN jg hab,show p+A.length+1+B.length=p+(A.length+1+B.length) by omega]
 -- every level
 have hall:∀ k:Nat,k≤5→∀ D p:Nat,2 * (d+1)≤D→6 - (k:Int)≤Sy.iT x.kind→At l p (Sy.ai (d+1) x)→kX l en (p+(Sy.ai (d+1) x).length) (6 - k)→from' l en (ahead l en D) k p=.ok (p+(Sy.ai (d+1) x).length,Sy.aj (d+1) x):=by
  intro k
  induction k with
  | zero =>
   intro _ D p hD hL hA hf
   have hn:¬ 0<Sy.aW x.kind:=fun h=>by have:=(Sy.xQ h).2;rw [F8 h] at hL;omega
   exact WH hx hn hM hD hA hf.2
  | succ k ihk =>
   intro hk D p hD hL hA hf
   rw [from']
   by_cases hk2:k=2
   ·subst hk2
    by_cases h3':Sy.aW x.kind=3
    ·-- once
     have jg:0<Sy.aW x.kind:=by omega
     obtain ⟨a,b,hab⟩:=Sy.vI h3 (.inl jg)
     obtain ⟨A,B,xR,CR,hlen,hA1,w,hB1⟩:=MQ (en:=en) jg hab hA
     rw [if_pos h3'] at xR
     rw [h3'] at CR
     rw [hlen] at hf ⊢
     have hsg:=Sy.FY jg
     have hfA:kX l en (p+A.length) (6 - (2:Nat)):=nQ w (by rw [hsg];simp only;omega) (MP jg)
     have hfB:kX l en (p+A.length+1+B.length) (6 - (2:Nat)):=by rw [show p+A.length+1+B.length=p+(A.length+1+B.length) by omega];exact hf.mono (by omega)
     have hA2:from' l en (ahead l en D) 2 p=.ok (p+A.length,Sy.aj d a):=by
      rw [xR] at hA1 hfA ⊢
      exact zG (hM a (by rw [hab];simp)) (by omega) (by omega) (by omega) hA1 hfA
     have hB2:from' l en (ahead l en D) 2 (p+A.length+1)=.ok (p+A.length+1+B.length,Sy.aj d b):=by
      rw [CR] at hB1 hfB ⊢
      exact zG (hM b (by rw [hab];simp)) (by omega) (by omega) (by omega) hB1 hfB
     refine (then_ok hA2).trans ?_
     rw [loop,w.text,hsg,if_neg (by simp only;omega)]
     refine (then_ok hB2).trans ?_
     rw [if_pos (by omega),MN jg hab,show p+A.length+1+B.length=p+(A.length+1+B.length) by omega]
    ·have hup:6 - ((2:Nat):Int)≤Sy.iT x.kind:=by
      by_cases hn:0<Sy.aW x.kind
      ·rw [F8 hn] at hL ⊢;omega
      ·rw [MO hn];omega
     refine (then_ok (ihk (by omega) D p hD hup hA (hf.mono (by omega)))).trans ?_
     exact MM (by have:=hf.1;omega) _
   ·obtain ⟨F',hF',he⟩:=hC k (by omega) hk2 (ihk (by omega)) D p (l.length+1) hD (by omega) hA (hf.mono (by omega)) (by omega)
    rw [he]
    exact MM (by have:=hf.1;omega) _
 exact ⟨fun D k p hD hk hL hA hf=>hall k hk D p hD hL hA hf,fun D k p F hD hk k2 hL hA hf hF=>hC k hk k2 (hall k (by omega)) D p F hD hL hA hf hF⟩
theorem MR:∀ (d:Nat) (x:Sy.Ex),Sy.dR d x→Mx l en d x∧Cx l en d x
 | 0,_,h=>h.elim
 | d+1,x,h=>WI (MR d) x h
theorem zH {d D p:Nat}{x:Sy.Ex}(hx:Sy.dR d x)(hD:2 * d+1≤D)(h:At l p (Sy.ai d x))(hf:kX l en (p+(Sy.ai d x).length) 1):ex l en D p=.ok (p+(Sy.ai d x).length,Sy.aj d x):=vJ (MR d x hx).1 hD p h hf
end
end Rp
namespace Sy
def mO:Nat→St→Prop
 | 0,_=>False
 | d+1,s=>1≤s.kind∧s.kind≤9∧((s.kind=1∨s.kind=2∨s.kind=7)→nm s.name=true)∧(s.kind≠6→dR d s.x)∧((s.kind=3∨s.kind=4)→s.body.length≤50∧∀ t ∈ s.body,mO d t)∧(s.kind=3→s.els.length≤50∧∀ t ∈ s.els,mO d t)
theorem Ga {f:St→Nat→Except Int Nat}{P:St→Prop}(hf:∀ s n m,f s n=.ok m→P s){l:List St}{n m:Nat}(h:cO f l n=.ok m):l.length≤50∧∀ t ∈ l,P t:=by
 unfold cO at h
 split at h
 ·simp at h
 ·exact ⟨by omega,fun t ht=>by obtain ⟨i,j,hij⟩:=FX h t ht;exact hf t i j hij⟩
theorem Gb:∀ (d:Nat) (s:St) (n m:Nat),aO d s n=.ok m→mO d s
 | 0,_,_,_,h=>by simp [aO] at h
 | d+1,s,n,m,h=>by
  rw [aO] at h
  split at h
  ·simp at h
  rename_i h0
  have hz:=iC (by simpa using h0:bB s.kind 9 (d+1) n=0)
  split at h
  ·simp at h
  rename_i h1
  have hn:(s.kind=1∨s.kind=2∨s.kind=7)→nm s.name=true:=fun hk=>by
   cases hn:nm s.name with
   | true=>rfl
   | false=>exact absurd ⟨hk,hn⟩ h1
  split at h
  ·rename_i h6
   exact ⟨hz.2.1,hz.2.2.1,hn,fun h=>absurd h6 h,fun h=>by omega,fun h=>by omega⟩
  ·rename_i h6
   cases he:aF d s.x (n+1) with
   | error e=>rw [he] at h;simp at h
   | ok j =>
    rw [he] at h
    have hx:=CO d s.x (n+1) j he
    simp only [dN] at h
    split at h
    ·rename_i oQ
     cases hb:cO (aO d) s.body j with
     | error e=>rw [hb] at h;simp at h
     | ok j2 =>
      rw [hb] at h
      have hbd:=Ga (Gb d) hb
      refine ⟨hz.2.1,hz.2.2.1,hn,fun _=>hx,fun _=>hbd,fun h3=>?_⟩
      simp only [if_pos h3] at h
      exact Ga (Gb d) h
    ·rename_i oQ
     exact ⟨hz.2.1,hz.2.2.1,hn,fun _=>hx,fun h=>absurd h oQ,fun h=>absurd (.inl h) oQ⟩
def bS:Nat→St→St
 | 0,s=>s
 | d+1,s=>⟨s.kind,if s.kind=1∨s.kind=2∨s.kind=7 then s.name else ⟨#[]⟩,if s.kind=6 then ⟨0,0,⟨#[]⟩,[]⟩ else aj d s.x,if s.kind=3∨s.kind=4 then s.body.map (bS d) else [],if s.kind=3 then s.els.map (bS d) else []⟩
theorem stT_1 {d:Nat}{s:St}(h:s.kind=1):aC (d+1) s=⟨#[108,101,116]⟩ :: s.name :: ⟨#[61]⟩ :: (ai d s.x++[⟨#[59]⟩]):=by
 rw [aC,if_pos h];rfl
theorem stT_2 {d:Nat}{s:St}(h:s.kind=2):aC (d+1) s=s.name :: ⟨#[61]⟩ :: (ai d s.x++[⟨#[59]⟩]):=by
 rw [aC,if_neg (by omega),if_pos h];rfl
theorem stT_3 {d:Nat}{s:St}(h:s.kind=3):aC (d+1) s=⟨#[105,102]⟩ :: (ai d s.x++(aV (aC d) s.body++(if s.els.length=0 then [] else ⟨#[101,108,115,101]⟩ :: aV (aC d) s.els))):=by
 rw [aC,if_neg (by omega),if_neg (by omega),if_pos h,List.append_assoc,List.append_assoc];rfl
theorem stT_4 {d:Nat}{s:St}(h:s.kind=4):aC (d+1) s=⟨#[119,104,105,108,101]⟩ :: (ai d s.x++aV (aC d) s.body):=by
 rw [aC,if_neg (by omega),if_neg (by omega),if_neg (by omega),if_pos h,List.append_assoc];rfl
theorem stT_5 {d:Nat}{s:St}(h:s.kind=5):aC (d+1) s=⟨#[114,101,116,117,114,110]⟩ :: (ai d s.x++[⟨#[59]⟩]):=by
 rw [aC,if_neg (by omega),if_neg (by omega),if_neg (by omega),if_neg (by omega),if_pos h,List.append_assoc];rfl
theorem stT_6 {d:Nat}{s:St}(h:s.kind=6):aC (d+1) s=[⟨#[115,116,111,112]⟩,⟨#[59]⟩]:=by
 rw [aC,if_neg (by omega),if_neg (by omega),if_neg (by omega),if_neg (by omega),if_neg (by omega),if_pos h]
theorem stT_7 {d:Nat}{s:St}(h:s.kind=7):aC (d+1) s=⟨#[115,101,110,100]⟩ :: s.name :: (ai d s.x++[⟨#[59]⟩]):=by
 rw [aC,if_neg (by omega),if_neg (by omega),if_neg (by omega),if_neg (by omega),if_neg (by omega),if_neg (by omega),if_pos h];rfl
theorem stT_8 {d:Nat}{s:St}(h:s.kind=8):aC (d+1) s=⟨#[111,117,116]⟩ :: (ai d s.x++[⟨#[59]⟩]):=by
 rw [aC,if_neg (by omega),if_neg (by omega),if_neg (by omega),if_neg (by omega),if_neg (by omega),if_neg (by omega),if_neg (by omega),if_pos h,List.append_assoc];rfl
theorem stT_9 {d:Nat}{s:St}(h:s.kind=9):aC (d+1) s=⟨#[100,111]⟩ :: (ai d s.x++[⟨#[59]⟩]):=by
 rw [aC,if_neg (by omega),if_neg (by omega),if_neg (by omega),if_neg (by omega),if_neg (by omega),if_neg (by omega),if_neg (by omega),if_neg (by omega),List.append_assoc];rfl
theorem Gc {d:Nat}{s:St}(h:mO d s):∃ w r,aC d s=w :: r∧w≠⟨#[125]⟩∧w≠⟨#[101,108,115,101]⟩:=by
 cases d with
 | zero=>exact h.elim
 | succ d =>
  obtain ⟨h1,h2,h3,_⟩:=h
  have hk:s.kind=1∨s.kind=2∨s.kind=3∨s.kind=4∨s.kind=5∨s.kind=6∨s.kind=7∨s.kind=8∨s.kind=9:=by omega
  rcases hk with hk | hk | hk | hk | hk | hk | hk | hk | hk
  ·rw [stT_1 hk];exact ⟨_,_,rfl,by decide,by decide⟩
  ·rw [stT_2 hk];exact ⟨_,_,rfl,rV (h3 (by omega)) (by decide +kernel),rV (h3 (by omega)) (by decide +kernel)⟩
  ·rw [stT_3 hk];exact ⟨_,_,rfl,by decide,by decide⟩
  ·rw [stT_4 hk];exact ⟨_,_,rfl,by decide,by decide⟩
  ·rw [stT_5 hk];exact ⟨_,_,rfl,by decide,by decide⟩
  ·rw [stT_6 hk];exact ⟨_,_,rfl,by decide,by decide⟩
  ·rw [stT_7 hk];exact ⟨_,_,rfl,by decide,by decide⟩
  ·rw [stT_8 hk];exact ⟨_,_,rfl,by decide,by decide⟩
  ·rw [stT_9 hk];exact ⟨_,_,rfl,by decide,by decide⟩
end Sy
namespace Rp
section
variable {l:List Lx.Tk} {en:Nat}
theorem rY {D p:Nat}{bd:Nat→au (List Sy.St)}{w:ByteArray}(h:Wd l en p w):stat l en D bd p =
  if w=⟨#[108,101,116]⟩ then setting l en D 1 (p+1) else if w=⟨#[105,102]⟩ then choice l en D bd (p+1) else if w=⟨#[119,104,105,108,101]⟩ then xP l en D bd (p+1)
  else if w=⟨#[115,116,111,112]⟩ then zC l en (p+1) else if w=⟨#[115,101,110,100]⟩ then sending l en D (p+1) else if w=⟨#[114,101,116,117,114,110]⟩ then saying l en D 5 (p+1)
  else if w=⟨#[111,117,116]⟩ then saying l en D 8 (p+1) else if w=⟨#[100,111]⟩ then saying l en D 9 (p+1) else setting l en D 2 p:=by
 unfold stat
 simp only [h.tk,decide_eq_true_eq]
theorem MS {d D p:Nat}{kind:Int}{n:ByteArray}{x:Sy.Ex}(hn:Sy.nm n=true)(hx:Sy.dR d x)(hD:2 * d+1≤D)(h:At l p (n :: ⟨#[61]⟩ :: (Sy.ai d x++[⟨#[59]⟩]))):setting l en D kind p=.ok (p+(Sy.ai d x).length+3,⟨kind,n,Sy.aj d x,[],[]⟩):=by
 obtain ⟨w1,h⟩:=bG (en:=en) h
 obtain ⟨w2,h⟩:=bG (en:=en) h
 obtain ⟨h1,h⟩:=iF h
 obtain ⟨w3,_⟩:=bG (en:=en) h
 unfold setting
 refine (then_ok (oP w1 hn (Sy.jY hn).2)).trans ?_
 refine (then_ok (jf w2)).trans ?_
 refine (then_ok (zH hx hD h1 (nQ w3 (by decide) (by decide)))).trans ?_
 refine (then_ok (jf w3)).trans ?_
 rw [show p+1+1+(Sy.ai d x).length+1=p+(Sy.ai d x).length+3 by omega]
theorem Gd {d D p:Nat}{kind:Int}{x:Sy.Ex}(hx:Sy.dR d x)(hD:2 * d+1≤D)(h:At l p (Sy.ai d x++[⟨#[59]⟩])):saying l en D kind p=.ok (p+(Sy.ai d x).length+1,⟨kind,⟨#[]⟩,Sy.aj d x,[],[]⟩):=by
 obtain ⟨h1,h⟩:=iF h
 obtain ⟨w3,_⟩:=bG (en:=en) h
 unfold saying
 refine (then_ok (zH hx hD h1 (nQ w3 (by decide) (by decide)))).trans ?_
 exact (then_ok (jf w3)).trans rfl
def MU (l:List Lx.Tk)(en d D:Nat):Prop:=∀ (ls:List Sy.St) (p:Nat),ls.length≤50→(∀ s ∈ ls,Sy.mO d s)→At l p (Sy.aV (Sy.aC d) ls)→body l en D p=.ok (p+(Sy.aV (Sy.aC d) ls).length,ls.map (Sy.bS d))
theorem Gf {f:Sy.St→List ByteArray}{ls:List Sy.St}:Sy.aV f ls=⟨#[123]⟩ :: (ls.flatMap f++[⟨#[125]⟩]):=by simp [Sy.aV]
theorem CS {d D p:Nat}{s:Sy.St}(hs:Sy.mO (d+1) s)(hD:2 * d+1≤D)(hB:MU l en d D)(h:At l p (Sy.aC (d+1) s))(hf:tk l (p+(Sy.aC (d+1) s).length) ⟨#[101,108,115,101]⟩=false) :
  stat l en D (body l en D) p=.ok (p+(Sy.aC (d+1) s).length,Sy.bS (d+1) s):=by
 obtain ⟨h1,h2,h3,h4,h5,h6⟩:=hs
 have hk:s.kind=1∨s.kind=2∨s.kind=3∨s.kind=4∨s.kind=5∨s.kind=6∨s.kind=7∨s.kind=8∨s.kind=9:=by omega
 rcases hk with hk | hk | hk | hk | hk | hk | hk | hk | hk
 ·rw [Sy.stT_1 hk] at h ⊢
  obtain ⟨w1,h⟩:=bG (en:=en) h
  rw [rY w1,if_pos rfl,MS (h3 (by omega)) (h4 (by omega)) hD h,Sy.bS]
  simp [hk]
  omega
 ·rw [Sy.stT_2 hk] at h ⊢
  have hn:=h3 (by omega)
  obtain ⟨w1,_⟩:=bG (en:=en) h
  have e:∀ v,Sy.nm v=false→s.name≠v:=fun v hv=>Sy.rV hn hv
  rw [rY w1,if_neg (e _ (by decide +kernel)),if_neg (e _ (by decide +kernel)),if_neg (e _ (by decide +kernel)),if_neg (e _ (by decide +kernel)),if_neg (e _ (by decide +kernel)),if_neg (e _ (by decide +kernel)),if_neg (e _ (by decide +kernel)),if_neg (e _ (by decide +kernel)),MS hn (h4 (by omega)) hD h,Sy.bS]
  simp [hk]
  omega
 ·rw [Sy.stT_3 hk] at h hf ⊢
  obtain ⟨w1,h⟩:=bG (en:=en) h
  obtain ⟨a1,h⟩:=iF h
  obtain ⟨a2,h⟩:=iF h
  have hb:=h5 (.inl hk)
  have he:=h6 hk
  have a3:=a2
  rw [Gf] at a3
  obtain ⟨w2,_⟩:=bG (en:=en) a3
  rw [rY w1,if_neg (by decide),if_pos rfl]
  unfold choice
  refine (then_ok (zH (h4 (by omega)) hD a1 (nQ w2 (by decide) (by decide)))).trans ?_
  refine (then_ok (hB s.body _ hb.1 hb.2 a2)).trans ?_
  by_cases hel:s.els.length=0
  ·have hnil:s.els=[]:=List.eq_nil_of_length_eq_zero hel
   rw [if_pos hel] at hf ⊢
   have hq:p+(⟨#[105,102]⟩ :: (Sy.ai d s.x++(Sy.aV (Sy.aC d) s.body++[]))).length=p+1+(Sy.ai d s.x).length+(Sy.aV (Sy.aC d) s.body).length:=by simp;omega
   rw [hq] at hf ⊢
   rw [hf,if_neg (by decide),Sy.bS]
   simp [hk,hnil]
  ·rw [if_neg hel] at h ⊢
   obtain ⟨w3,h⟩:=bG (en:=en) h
   rw [w3.tk,if_pos (by decide)]
   refine (then_ok (hB s.els _ he.1 he.2 h)).trans ?_
   rw [Sy.bS]
   simp [hk]
   omega
 ·rw [Sy.stT_4 hk] at h ⊢
  obtain ⟨w1,h⟩:=bG (en:=en) h
  obtain ⟨a1,a2⟩:=iF h
  have hb:=h5 (.inr hk)
  have a3:=a2
  rw [Gf] at a3
  obtain ⟨w2,_⟩:=bG (en:=en) a3
  rw [rY w1,if_neg (by decide),if_neg (by decide),if_pos rfl]
  unfold xP
  refine (then_ok (zH (h4 (by omega)) hD a1 (nQ w2 (by decide) (by decide)))).trans ?_
  refine (then_ok (hB s.body _ hb.1 hb.2 a2)).trans ?_
  rw [Sy.bS]
  simp [hk]
  omega
 ·rw [Sy.stT_5 hk] at h ⊢
  obtain ⟨w1,h⟩:=bG (en:=en) h
  rw [rY w1,if_neg (by decide),if_neg (by decide),if_neg (by decide),if_neg (by decide),if_neg (by decide),if_pos rfl,Gd (h4 (by omega)) hD h,Sy.bS]
  simp [hk]
  omega
 ·rw [Sy.stT_6 hk] at h ⊢
  obtain ⟨w1,h⟩:=bG (en:=en) h
  obtain ⟨w2,_⟩:=bG (en:=en) h
  rw [rY w1,if_neg (by decide),if_neg (by decide),if_neg (by decide),if_pos rfl]
  unfold zC
  refine (then_ok (jf w2)).trans ?_
  rw [Sy.bS]
  simp [hk]
 ·rw [Sy.stT_7 hk] at h ⊢
  have hn:=h3 (by omega)
  obtain ⟨w1,h⟩:=bG (en:=en) h
  obtain ⟨w2,h⟩:=bG (en:=en) h
  obtain ⟨a1,h⟩:=iF h
  obtain ⟨w3,_⟩:=bG (en:=en) h
  rw [rY w1,if_neg (by decide),if_neg (by decide),if_neg (by decide),if_neg (by decide),if_pos rfl]
  unfold sending
  refine (then_ok (oP w2 hn (Sy.jY hn).2)).trans ?_
  refine (then_ok (zH (h4 (by omega)) hD a1 (nQ w3 (by decide) (by decide)))).trans ?_
  refine (then_ok (jf w3)).trans ?_
  rw [Sy.bS]
  simp [hk]
  omega
 ·rw [Sy.stT_8 hk] at h ⊢
  obtain ⟨w1,h⟩:=bG (en:=en) h
  rw [rY w1,if_neg (by decide),if_neg (by decide),if_neg (by decide),if_neg (by decide),if_neg (by decide),if_neg (by decide),if_pos rfl,Gd (h4 (by omega)) hD h,Sy.bS]
  simp [hk]
  omega
 ·rw [Sy.stT_9 hk] at h ⊢
  obtain ⟨w1,h⟩:=bG (en:=en) h
  rw [rY w1,if_neg (by decide),if_neg (by decide),if_neg (by decide),if_neg (by decide),if_neg (by decide),if_neg (by decide),if_neg (by decide),if_pos rfl,Gd (h4 (by omega)) hD h,Sy.bS]
  simp [hk]
  omega
theorem MV {d:Nat}{st:Nat→au Sy.St}(hst:∀ s p,Sy.mO d s→At l p (Sy.aC d s)→tk l (p+(Sy.aC d s).length) ⟨#[101,108,115,101]⟩=false→st p=.ok (p+(Sy.aC d s).length,Sy.bS d s)):∀ (ls:List Sy.St) (F:Nat) (out:List Sy.St) (p:Nat),(∀ s ∈ ls,Sy.mO d s)→out.length+ls.length≤50→At l p (ls.flatMap (Sy.aC d)++[⟨#[125]⟩])→ls.length<F→stats l en st F out p=.ok (p+(ls.flatMap (Sy.aC d)).length+1,out++ls.map (Sy.bS d))
 | _,0,_,_,_,_,_,hF=>by omega
 | [],F+1,out,p,_,_,h,_=>by
  obtain ⟨w1,_⟩:=bG (en:=en) (show At l p (⟨#[125]⟩ :: []) from h)
  rw [stats,w1.tk,if_pos (by decide)]
  simp
 | s :: ls,F+1,out,p,hs,hn,h,hF=>by
  have hso:=hs s (by simp)
  rw [List.flatMap_cons,List.append_assoc] at h
  obtain ⟨a1,a2⟩:=iF h
  obtain ⟨w,r,hw,hne,_⟩:=Sy.Gc hso
  have a3:=a1
  rw [hw] at a3
  obtain ⟨w1,_⟩:=bG (en:=en) a3
  have hels:tk l (p+(Sy.aC d s).length) ⟨#[101,108,115,101]⟩=false:=by
   cases ls with
   | nil =>
    obtain ⟨w2,_⟩:=bG (en:=en) (show At l (p+(Sy.aC d s).length) (⟨#[125]⟩ :: []) from a2)
    rw [w2.tk];decide
   | cons s2 ls =>
    obtain ⟨v,r2,hv,_,hne2⟩:=Sy.Gc (hs s2 (by simp))
    rw [List.flatMap_cons,hv,List.cons_append,List.cons_append] at a2
    obtain ⟨w2,_⟩:=bG (en:=en) a2
    rw [w2.tk];simpa using hne2
  rw [stats,w1.tk,if_neg (by simpa using hne)]
  have hlim:fZ vG (out.length:Nat) 50 (pk l p en) p=.ok p:=by unfold fZ;rw [if_neg (by simp at hn;omega)]
  rw [hlim]
  refine (then_ok (hst s p hso a1 hels)).trans ?_
  rw [MV hst ls F (out++[Sy.bS d s]) _ (fun x hx=>hs x (by simp [hx])) (by simp at hn ⊢;omega) a2 (by simp at hF;omega)]
  simp
  omega
theorem MW {d:Nat}:∀ {ls:List Sy.St},(∀ s ∈ ls,Sy.mO d s)→ls.length≤(ls.flatMap (Sy.aC d)).length
 | [],_=>by simp
 | s :: ls,h=>by
  obtain ⟨w,r,hw,_⟩:=Sy.Gc (h s (by simp))
  have:=MW (fun x hx=>h x (List.mem_cons_of_mem _ hx):∀ x ∈ ls,Sy.mO d x)
  rw [List.flatMap_cons,hw,List.length_append,List.length_cons,List.length_cons]
  omega
theorem MX:∀ (d D:Nat),3 * d+1≤D→MU l en d D
 | d,0,hD=>by omega
 | d,D+1,hD=>by
  intro ls p hn hs h
  rw [Gf] at h ⊢
  obtain ⟨w1,h⟩:=bG (en:=en) h
  rw [body]
  refine (then_ok (jf w1)).trans ?_
  have hF:ls.length<l.length+1:=by
   have h1:=MW hs
   obtain ⟨_,h2⟩:=iF h
   obtain ⟨w2,_⟩:=bG (en:=en) h2
   have:=w2.lt
   omega
  have hst:∀ s p,Sy.mO d s→At l p (Sy.aC d s)→tk l (p+(Sy.aC d s).length) ⟨#[101,108,115,101]⟩=false→stat l en D (body l en D) p=.ok (p+(Sy.aC d s).length,Sy.bS d s):=by
   intro s p hs ha hf
   cases d with
   | zero=>exact hs.elim
   | succ d=>exact CS hs (by omega) (MX d D (by omega)) ha hf
  rw [MV hst ls _ [] (p+1) hs (by simpa using hn) h hF]
  simp
  omega
end
end Rp
end Go.Proofs.YtolfleeidpeomaaGreatDoor
