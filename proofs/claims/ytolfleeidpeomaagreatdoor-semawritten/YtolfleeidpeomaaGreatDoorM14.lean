/- Rows of expressions of the call's own;the walk of exactly. -/
import Derived.Test.YtolfleeidpeomaaGreatDoorM13
set_option maxRecDepth 100000
set_option maxHeartbeats 2000000
namespace Go.Proofs.YtolfleeidpeomaaGreatDoor
open Go.RowKit
theorem Tryz.Ng:(Tryz.prog.info? 122).map (fun i=>(i.zero,i.size,i.bytes))=some (some (.agg #[.int .i64 0,.int .i64 0,.string ⟨#[]⟩,.slice none 0 0]),4,56):=by kernel_rfl
abbrev iG:=Sy.Ex × Option Addr × Nat
abbrev C8 (i:iG):List Value:=[.int .i64 i.1.kind,.int .i64 i.1.n,.string i.1.name,.slice i.2.1 i.1.kids.length i.2.2]
def gY (its:List iG):List Value:=its.flatMap C8
theorem C9:∀ its,(gY its).length=its.length * 4
 | []=>rfl
 | i :: its=>by have:=C9 its;simp only [gY,List.flatMap_cons,List.length_append,List.length_cons] at *;simp only [this,List.length_nil];omega
theorem Xq (l m:List iG):gY (l++m)=gY l++gY m:=by simp [gY]
theorem Nh:∀ (its:List iG) (i:Nat) (it:iG),its[i]?=some it→∀ j,j<4→(gY its)[i * 4+j]?=(C8 it)[j]?
 | [],i,it,h,_,_=>by simp at h
 | x :: its,0,it,h,j,hj=>by
  simp at h;subst h
  simp only [gY,List.flatMap_cons,Nat.zero_mul,Nat.zero_add]
  rw [List.getElem?_append_left (by simpa using hj)]
 | x :: its,i+1,it,h,j,hj=>by
  have ih:=Nh its i it (by simpa using h) j hj
  simp only [gY,List.flatMap_cons] at ih ⊢
  rw [List.getElem?_append_right (by simp;omega)]
  have e:(i+1) * 4+j - (C8 x).length=i * 4+j:=by simp;omega
  rw [e,ih]
theorem Ni (its:List iG):∀ u ∈ gY its,u.oneCell'=true:=by
 intro u hu
 obtain ⟨o,_,ho⟩:=List.mem_flatMap.1 hu
 simp only [List.mem_cons,List.not_mem_nil,or_false] at ho
 rcases ho with rfl | rfl | rfl | rfl <;> rfl
theorem Nj {Q:Nat→Prop}{w:World}{B n h:Nat}{v:Value}{its:List iG}{k nn:Int}{s:ByteArray}(hown:w.ownsRow B 122 4 v n (gY its))(hit:∀ it ∈ its,bK Q w h it.1 it.2.1)(hQ:∀ g,v.ownBlock=some g→Q g)(hlen:its.length≤6000)(hs:s.size≤6000) :
  ∃ a c,v=.slice a its.length c∧bK Q w (h+1) ⟨k,nn,s,its.map (·.1)⟩ a:=by
 have hl:its.length=n:=by have:=hown.1;rw [C9] at this;omega
 subst hl
 rcases hown.2 with ⟨rfl,h0⟩ | ⟨g,cap,cur,rfl,hg,hh,_,_,_,ht⟩
 ·refine ⟨none,0,by rw [h0],hs,by simp;omega,fun i k hk=>?_⟩
  have:=(List.getElem?_eq_some_iff.1 hk).1
  simp at this
  omega
 ·refine ⟨_,cap,rfl,hs,by simpa using hlen,fun i k hk=>?_⟩
  obtain ⟨it,hi,rfl⟩:∃ it,its[i]?=some it∧it.1=k:=by simpa using hk
  have hlt:=(List.getElem?_eq_some_iff.1 hi).1
  have key:∀ j,j<4→w.cell? ⟨g,0+i * 4+j,none⟩=(C8 it)[j]?:=by
   intro j hj
   have e:=Nh its i it hi j hj
   rw [← ht,List.getElem?_take,if_pos (by omega)] at e
   rw [Nat.zero_add,← e]
   simp [World.cell?,hh]
  exact ⟨g,0,it.2.1,it.2.2,rfl,hQ g rfl,key 0 (by decide),key 1 (by decide),key 2 (by decide),key 3 (by decide),hit it (List.mem_of_getElem? hi)⟩
def Da (w:World):World→List Sy.Ex→Value→Prop:=fun w' ks v=>∃ a c h,v=.slice a ks.length c∧bK (gK w w') w' h ⟨0,0,⟨#[]⟩,ks⟩ a
theorem bK.head {Q:Nat→Prop}{w:World}{h:Nat}{ks:List Sy.Ex}{a:Option Addr}(hq:bK Q w h ⟨0,0,⟨#[]⟩,ks⟩ a)(k n:Int)(s:ByteArray)(hs:s.size≤6000):bK Q w h ⟨k,n,s,ks⟩ a:=by
 cases h with
 | zero=>exact hq.elim
 | succ h=>exact ⟨hs,hq.2.1,hq.2.2⟩
def GG (E:Env)(d:Nat):Prop:=∀ (p:Nat) (r:au (List Sy.Ex)) (w:World),Hid (az E w p (200 - (d:Int)))→p≤E.l.length→Hid (r=Rp.kids E.l E.en d (Rp.dm E.l E.en d) p) →
 Calls Tryz.prog 158 #[.pointer (some ⟨E.R,0,none⟩)] w fun e w'=>Ends E (200 - (d:Int)) w r (Da w) e w'
def Nk (E:Env)(d:Nat):Prop:=∀ (p:Nat) (r:au (List Sy.Ex)) (w:World),Hid (az E w p (200 - (d:Int)))→p≤E.l.length→Hid (r=Rp.pU E.l E.en d (Rp.dm E.l E.en d) p) →
 Calls Tryz.prog 160 #[.pointer (some ⟨E.R,0,none⟩),.int .i64 1] w fun e w'=>Ends E (200 - (d:Int)) w r (Da w) e w'
def Nl (E:Env)(d:Nat):Prop:=∀ (p:Nat) (r:au (List Sy.Ex)) (w:World),Hid (az E w p (200 - (d:Int)))→p≤E.l.length→Hid (r=Rp.uo E.l E.en d (Rp.dm E.l E.en d) p) →
 Calls Tryz.prog 160 #[.pointer (some ⟨E.R,0,none⟩),.int .i64 2] w fun e w'=>Ends E (200 - (d:Int)) w r (Da w) e w'
theorem Xr (E:Env)(G:Good E)(d:Nat)(hX:Hid (nR E d)):Nk E d:=by
 intro p r w h hp hr
 have hR:=h.out.lt
 obtain ⟨r1,hr1⟩:∃ r1,r1=Rp.want E.l E.en ⟨#[40]⟩ p:=⟨_,rfl⟩
 have HR1:=aa hr1
 have aR:Hid (r=Rp.andThen r1 fun q1 _=>Rp.andThen (Rp.expr E.l E.en d (Rp.dm E.l E.en d) q1) fun q2 x=>Rp.andThen (Rp.want E.l E.en ⟨#[41]⟩ q2) fun q3 _=>.ok (q3,[x])):=by rw [hr.out,hr1];rfl
 have HA1:Hid (∀ q x,r1=.ok (q,x)→q≤E.l.length):=fun q x hx=>(Rp.eH E.l E.en _ p q x hp (by rw [← hr1,hx])).2
 clear hr1
 go_enter Tryz.func160,Tryz.ntmps160
 go_wp2_with fail
 refine (iW E G p _ ⟨#[40]⟩ r1 _ h hp HR1).mono ?_
 rintro e w1 ⟨hg1,hf1⟩
 have ax:Hid (w.grownBy w1 (some E.R)):=hg1
 clear hg1
 cases r1 with
 | error er =>
  obtain ⟨e1,e2⟩:=er
  obtain ⟨rfl,hd1⟩:=hf1
  have HD1:=aa hd1
  have ae:Hid (r=.error (e1,e2)):=aR.out
  clear hd1
  go_wp2
  exact ⟨rfl,ax.out,by rw [ae.out];exact ⟨rfl,HD1.out⟩⟩
 | ok qx =>
  obtain ⟨q1,u1⟩:=qx
  obtain ⟨⟨v,rfl,rfl⟩,hd1⟩:=hf1
  have HD1:=aa hd1
  have hq1:q1≤E.l.length:=HA1.out q1 u1 rfl
  obtain ⟨r2,hr2⟩:∃ r2,r2=Rp.expr E.l E.en d (Rp.dm E.l E.en d) q1:=⟨_,rfl⟩
  have HR2:=aa hr2
  have bI:Hid (r=Rp.andThen r2 fun q2 x=>Rp.andThen (Rp.want E.l E.en ⟨#[41]⟩ q2) fun q3 _=>.ok (q3,[x])):=by rw [aR.out,hr2];rfl
  have HA2:Hid (∀ q x,r2=.ok (q,x)→q≤E.l.length):=fun q x hx=>(Rp.oN (en:=E.en) (d:=d) (Rp.xO E.l E.en d) q1 q x hq1 (by rw [← hr2,hx])).2
  clear hr2 hd1
  go_wp2_with fail
  refine (hX.out q1 r2 _ HD1 hq1 HR2).mono ?_
  rintro e w2 ⟨hg2,hf2⟩
  have HG2:Hid (w.grownBy w2 (some E.R)):=ay ax.out hg2
  have hs2:=hg2.size
  clear hg2
  cases r2 with
  | error er =>
   obtain ⟨e1,e2⟩:=er
   obtain ⟨rfl,hd2⟩:=hf2
   have HD2:=aa hd2
   have ae:Hid (r=.error (e1,e2)):=bI.out
   clear hd2
   go_wp2
   exact ⟨rfl,HG2.out,by rw [ae.out];exact ⟨rfl,HD2.out⟩⟩
  | ok qx =>
   obtain ⟨q2,x⟩:=qx
   obtain ⟨⟨v,rfl,a,c,n,rfl,hq⟩,hd2⟩:=hf2
   have HD2:=aa hd2
   have HQ:=aa hq
   have hq2:q2≤E.l.length:=HA2.out q2 x rfl
   obtain ⟨r3,hr3⟩:∃ r3,r3=Rp.want E.l E.en ⟨#[41]⟩ q2:=⟨_,rfl⟩
   have HR3:=aa hr3
   have HE2:Hid (r=Rp.andThen r3 fun q3 _=>.ok (q3,[x])):=by rw [bI.out,hr3];rfl
   clear hr3 hd2 hq
   go_wp2
   go_loopw [5] (fun ov wr=>ov=.slice (some ⟨w2.heap.size,0,none⟩) 1 1∧wr=w2.alloc (ic x.kind x.n x.name (.slice a x.kids.length c))) (fun _ _=>0)
   case atStart=>exact ⟨rfl,rfl⟩
   case round =>
    obtain ⟨rfl,rfl⟩:=hrel
    go_wp2_with fail
    refine (iW E G q2 _ ⟨#[41]⟩ r3 _ (HD2.out.alloc G _) hq2 HR3).mono ?_
    rintro e w3 ⟨hg3,hf3⟩
    have aK:Hid (w.grownBy w3 (some E.R)):=ay (dM HG2.out _) hg3
    have hs3:=hg3.size
    have hw2:=HG2.out.size
    have hw1:=ax.out.size
    have fe:Hid (w3.heap[w2.heap.size]?=some (ic x.kind x.n x.name (.slice a x.kids.length c))):=aA hg3 (by omega) (heap_alloc_new w2 _)
    have GH:Hid (bK (gK w w3) w3 n x a):=HQ.out.keep (fun b hb=>⟨⟨by omega,by simp at hs3;omega⟩,by rw [hg3.block b (by simp;omega) (by simp;omega)];exact Below.heap_alloc _ _ _ hb.2⟩)
    simp at hs3
    clear hg3
    cases r3 with
    | error er =>
     obtain ⟨e1,e2⟩:=er
     obtain ⟨rfl,hd3⟩:=hf3
     have HD3:=aa hd3
     have ae:Hid (r=.error (e1,e2)):=HE2.out
     clear hd3
     go_wp2
     exact ⟨rfl,aK.out,by rw [ae.out];exact ⟨rfl,HD3.out⟩⟩
    | ok qx =>
     obtain ⟨q3,u3⟩:=qx
     obtain ⟨⟨v,rfl,rfl⟩,hd3⟩:=hf3
     have HD3:=aa hd3
     have ae:Hid (r=.ok (q3,[x])):=HE2.out
     clear hd3
     go_wp2
     go_ret
     refine ⟨aK.out,?_⟩
     rw [ae.out]
     exact ⟨⟨_,rfl,some ⟨w2.heap.size,0,none⟩,1,n+1,rfl,bK.one GH.out ⟨by omega,by omega⟩ (by decide) fe.out⟩,HD3.out⟩
theorem Xt {w:World}{B K:Nat}{x:Sy.Ex}{a:Option Addr}{c:Nat}(h:w.heap[K]?=some (ic x.kind x.n x.name (.slice a x.kids.length c)))(hB:B≤K):w.ownsRow B 122 4 (.slice (some ⟨K,0,none⟩) 1 1) 1 (gY [(x,a,c)]) :=
 ⟨rfl,.inr ⟨K,1,_,rfl,hB,h,Nat.le_refl _,by unfold maxLen;omega,rfl,rfl⟩⟩
theorem Nn {w:World}{K:Nat}{x:Sy.Ex}{a:Option Addr}{c:Nat}(h:w.heap[K]?=some (ic x.kind x.n x.name (.slice a x.kids.length c))):∀ j u,(gY [(x,a,c)])[j]?=some u→w.cell? ((⟨K,0,none⟩:Addr).add j)=some u:=by
 intro j u hu
 have hadd:(⟨K,0,none⟩:Addr).add j=⟨K,j,none⟩:=by unfold Addr.add;split <;> simp_all
 rw [hadd]
 have e:gY [(x,a,c)]=[.int .i64 x.kind,.int .i64 x.n,.string x.name,.slice a x.kids.length c]:=rfl
 rw [e] at hu
 match j,hu with
 | 0,hu=>simp at hu;subst hu;simp [World.cell?,h]
 | 1,hu=>simp at hu;subst hu;simp [World.cell?,h]
 | 2,hu=>simp at hu;subst hu;simp [World.cell?,h]
 | 3,hu=>simp at hu;subst hu;simp [World.cell?,h]
 | n+4,hu=>simp at hu
def Nq (E:Env)(op:Int)(w:World)(r:au (List Sy.Ex))(ov:Value)(u:World):Prop :=
 ∃ q x y a c h,ov=.slice a 2 c∧az E u q op∧w.grownBy u (some E.R)∧q≤E.l.length∧r=Rp.andThen (Rp.want E.l E.en ⟨#[41]⟩ q) (fun q5 _=>.ok (q5,[x,y]))∧bK (gK w u) u h ⟨0,0,⟨#[]⟩,[x,y]⟩ a
theorem Xu (E:Env)(G:Good E)(d:Nat)(hX:Hid (nR E d)):Nl E d:=by
 intro p r w h hp hr
 have hR:=h.out.lt
 obtain ⟨r1,hr1⟩:∃ r1,r1=Rp.want E.l E.en ⟨#[40]⟩ p:=⟨_,rfl⟩
 have HR1:=aa hr1
 have aR:Hid (r=Rp.andThen r1 fun q1 _=>Rp.andThen (Rp.expr E.l E.en d (Rp.dm E.l E.en d) q1) fun q2 x=>Rp.andThen (Rp.want E.l E.en ⟨#[44]⟩ q2) fun q3 _=>Rp.andThen (Rp.expr E.l E.en d (Rp.dm E.l E.en d) q3) fun q4 y=>Rp.andThen (Rp.want E.l E.en ⟨#[41]⟩ q4) fun q5 _=>.ok (q5,[x,y])):=by rw [hr.out,hr1];rfl
 have HA1:Hid (∀ q x,r1=.ok (q,x)→q≤E.l.length):=fun q x hx=>(Rp.eH E.l E.en _ p q x hp (by rw [← hr1,hx])).2
 clear hr1
 go_enter Tryz.func160,Tryz.ntmps160
 go_wp2_with fail
 refine (iW E G p _ ⟨#[40]⟩ r1 _ h hp HR1).mono ?_
 rintro e w1 ⟨hg1,hf1⟩
 have ax:Hid (w.grownBy w1 (some E.R)):=hg1
 clear hg1
 cases r1 with
 | error er =>
  obtain ⟨e1,e2⟩:=er
  obtain ⟨rfl,hd1⟩:=hf1
  have HD1:=aa hd1
  have ae:Hid (r=.error (e1,e2)):=aR.out
  clear hd1
  go_wp2
  exact ⟨rfl,ax.out,by rw [ae.out];exact ⟨rfl,HD1.out⟩⟩
 | ok qx =>
  obtain ⟨q1,u1⟩:=qx
  obtain ⟨⟨v,rfl,rfl⟩,hd1⟩:=hf1
  have HD1:=aa hd1
  have hq1:q1≤E.l.length:=HA1.out q1 u1 rfl
  obtain ⟨r2,hr2⟩:∃ r2,r2=Rp.expr E.l E.en d (Rp.dm E.l E.en d) q1:=⟨_,rfl⟩
  have HR2:=aa hr2
  have bI:Hid (r=Rp.andThen r2 fun q2 x=>Rp.andThen (Rp.want E.l E.en ⟨#[44]⟩ q2) fun q3 _=>Rp.andThen (Rp.expr E.l E.en d (Rp.dm E.l E.en d) q3) fun q4 y=>Rp.andThen (Rp.want E.l E.en ⟨#[41]⟩ q4) fun q5 _=>.ok (q5,[x,y])):=by rw [aR.out,hr2];rfl
  have HA2:Hid (∀ q x,r2=.ok (q,x)→q≤E.l.length):=fun q x hx=>(Rp.oN (en:=E.en) (d:=d) (Rp.xO E.l E.en d) q1 q x hq1 (by rw [← hr2,hx])).2
  clear hr2 hd1
  go_wp2_with fail
  refine (hX.out q1 r2 _ HD1 hq1 HR2).mono ?_
  rintro e w2 ⟨hg2,hf2⟩
  have HG2:Hid (w.grownBy w2 (some E.R)):=ay ax.out hg2
  have hs2:=hg2.size
  clear hg2
  cases r2 with
  | error er =>
   obtain ⟨e1,e2⟩:=er
   obtain ⟨rfl,hd2⟩:=hf2
   have HD2:=aa hd2
   have ae:Hid (r=.error (e1,e2)):=bI.out
   clear hd2
   go_wp2
   exact ⟨rfl,HG2.out,by rw [ae.out];exact ⟨rfl,HD2.out⟩⟩
  | ok qx =>
   obtain ⟨q2,x⟩:=qx
   obtain ⟨⟨v,rfl,a,c,n,rfl,hq⟩,hd2⟩:=hf2
   have HD2:=aa hd2
   have HQ:=aa hq
   have hq2:q2≤E.l.length:=HA2.out q2 x rfl
   have HE2:Hid (r=Rp.andThen (Rp.want E.l E.en ⟨#[44]⟩ q2) fun q3 _=>Rp.andThen (Rp.expr E.l E.en d (Rp.dm E.l E.en d) q3) fun q4 y=>Rp.andThen (Rp.want E.l E.en ⟨#[41]⟩ q4) fun q5 _=>.ok (q5,[x,y])):=bI.out
   obtain ⟨i0,hi,hz0,hz1,hz2⟩:=info_parts Tryz.Ng
   clear hd2 hq
   go_wp2
   go_loopg [5] 2 (fun k ov wr=>(k=2∧ov=.slice (some ⟨w2.heap.size,0,none⟩) 1 1∧wr=w2.alloc (ic x.kind x.n x.name (.slice a x.kids.length c)))∨(k=1∧Nq E (200 - (d:Int)) w r ov wr))
   case atStart=>exact .inl ⟨rfl,rfl,rfl⟩
   case round =>
    have hw2:=HG2.out.size
    have hw1:=ax.out.size
    rcases hrel with ⟨rfl,rfl,rfl⟩ | ⟨rfl,hE2⟩
    ·obtain ⟨r3,hr3⟩:∃ r3,r3=Rp.want E.l E.en ⟨#[44]⟩ q2:=⟨_,rfl⟩
     have HR3:=aa hr3
     have gy:Hid (r=Rp.andThen r3 fun q3 _=>Rp.andThen (Rp.expr E.l E.en d (Rp.dm E.l E.en d) q3) fun q4 y=>Rp.andThen (Rp.want E.l E.en ⟨#[41]⟩ q4) fun q5 _=>.ok (q5,[x,y])):=by rw [HE2.out,hr3];rfl
     have pY:Hid (∀ q x,r3=.ok (q,x)→q≤E.l.length):=fun q x hx=>(Rp.eH E.l E.en _ q2 q x hq2 (by rw [← hr3,hx])).2
     clear hr3
     go_wp2_with fail
     refine (iW E G q2 _ ⟨#[44]⟩ r3 _ (HD2.out.alloc G _) hq2 HR3).mono ?_
     rintro e w3 ⟨hg3,hf3⟩
     have aK:Hid (w.grownBy w3 (some E.R)):=ay (dM HG2.out _) hg3
     have hs3:=hg3.size
     have fe:Hid (w3.heap[w2.heap.size]?=some (ic x.kind x.n x.name (.slice a x.kids.length c))):=aA hg3 (by omega) (heap_alloc_new w2 _)
     have GH:Hid (bK (fun b=>w1.heap.size≤b∧b<w2.heap.size) w3 n x a):=HQ.out.keep (fun b hb=>⟨hb,by rw [hg3.block b (by simp;omega) (by simp;omega)];exact Below.heap_alloc _ _ _ hb.2⟩)
     simp at hs3
     clear hg3
     cases r3 with
     | error er =>
      obtain ⟨e1,e2⟩:=er
      obtain ⟨rfl,hd3⟩:=hf3
      have HD3:=aa hd3
      have ae:Hid (r=.error (e1,e2)):=gy.out
      clear hd3
      go_wp2
      exact ⟨rfl,aK.out,by rw [ae.out];exact ⟨rfl,HD3.out⟩⟩
     | ok qx =>
      obtain ⟨q3,u3⟩:=qx
      obtain ⟨⟨v,rfl,rfl⟩,hd3⟩:=hf3
      have HD3:=aa hd3
      have hq3:q3≤E.l.length:=pY.out q3 u3 rfl
      obtain ⟨r4,hr4⟩:∃ r4,r4=Rp.expr E.l E.en d (Rp.dm E.l E.en d) q3:=⟨_,rfl⟩
      have HR4:=aa hr4
      have gX:Hid (r=Rp.andThen r4 fun q4 y=>Rp.andThen (Rp.want E.l E.en ⟨#[41]⟩ q4) fun q5 _=>.ok (q5,[x,y])):=by rw [gy.out,hr4];rfl
      have sj:Hid (∀ q x,r4=.ok (q,x)→q≤E.l.length):=fun q x hx=>(Rp.oN (en:=E.en) (d:=d) (Rp.xO E.l E.en d) q3 q x hq3 (by rw [← hr4,hx])).2
      clear hr4 hd3
      go_wp2_with fail
      refine (hX.out q3 r4 _ HD3 hq3 HR4).mono ?_
      rintro e w4 ⟨hg4,jh⟩
      have aX:Hid (w.grownBy w4 (some E.R)):=ay aK.out hg4
      have hs4:=hg4.size
      have ji:Hid (w4.heap[w2.heap.size]?=some (ic x.kind x.n x.name (.slice a x.kids.length c))):=aA hg4 (by omega) fe.out
      have vN:Hid (bK (fun b=>w1.heap.size≤b∧b<w2.heap.size) w4 n x a):=GH.out.keep (fun b hb=>⟨hb,hg4.block b (by omega) (by simp;omega)⟩)
      clear hg4
      cases r4 with
      | error er =>
       obtain ⟨e1,e2⟩:=er
       obtain ⟨rfl,hd4⟩:=jh
       have HD4:=aa hd4
       have ae:Hid (r=.error (e1,e2)):=gX.out
       clear hd4
       go_wp2
       exact ⟨rfl,aX.out,by rw [ae.out];exact ⟨rfl,HD4.out⟩⟩
      | ok qx =>
       obtain ⟨q4,y⟩:=qx
       obtain ⟨⟨v,rfl,a4,c4,n4,rfl,hy⟩,hd4⟩:=jh
       have HD4:=aa hd4
       have Xv:Hid (bK (fun b=>w3.heap.size≤b∧b<w4.heap.size) w4 n4 y a4):=hy
       have hq4:q4≤E.l.length:=sj.out q4 y rfl
       have gT:Hid (r=Rp.andThen (Rp.want E.l E.en ⟨#[41]⟩ q4) fun q5 _=>.ok (q5,[x,y])):=gX.out
       have HOW:Hid ((w4.alloc (ic y.kind y.n y.name (.slice a4 y.kids.length c4))).ownsRow w.heap.size 122 4 (.slice (some ⟨w2.heap.size,0,none⟩) 1 1) 1 (gY [(x,a,c)])):=(Xt ji.out (by omega)).alloc _
       have GI:=aa (Nn (heap_alloc_new w4 (ic y.kind y.n y.name (.slice a4 y.kids.length c4))))
       have hbs:=(aX.out.size)
       clear hd4 hy
       go_wp2_with (at_builtin;refine wpList_append_own _ rfl _ _ 120 rfl w.heap.size 122 i0 _ 4 56 Tryz.underlying120 hi hz0 hz1 hz2 rfl (by decide) (.slice (some ⟨w2.heap.size,0,none⟩) 1 1) 1 (gY [(x,a,c)]) rfl HOW.out ⟨w4.heap.size,0,none⟩ 1 1 (gY [(y,a4,c4)]) rfl rfl GI.out (Ni _) (by unfold maxLen;omega) (by omega) (dM aX.out _).size ?_;intro v5 w5 h5 g5 _)
       have jN:Hid (Nq E (200 - (d:Int)) w r v5 w5):=by
        have dz:(w4.alloc (ic y.kind y.n y.name (.slice a4 y.kids.length c4))).grownBy w5 (some w2.heap.size):=g5
        have mf:=dz.size
        simp at mf
        have blk:∀ b,b<w4.heap.size→b≠w2.heap.size→w5.heap[b]?=w4.heap[b]?:=fun b hb hn=>(dz.block b (by simp;omega) (by simp;omega)).trans (Below.heap_alloc _ _ _ hb)
        have h6:w5.ownsRow w.heap.size 122 4 v5 2 (gY [(x,a,c),(y,a4,c4)]):=h5
        have hgr5:w.grownBy w5 (some E.R):=⟨dz.os.trans aX.out.os,dz.tape.trans aX.out.tape,dz.output.trans aX.out.output,by omega,fun i hi hn=>(blk i (by omega) (by omega)).trans (aX.out.block i hi hn)⟩
        obtain ⟨a6,c6,hv6,su⟩:=Nj (Q:=gK w w5) (h:=max n n4) (k:=0) (nn:=0) (s:=⟨#[]⟩) h6 (by
         intro it hit
         simp only [List.mem_cons,List.not_mem_nil,or_false] at hit
         rcases hit with rfl | rfl
         ·exact (vN.out.keep (fun b hb=>⟨⟨by omega,by omega⟩,blk b (by omega) (by omega)⟩)).up (by omega)
         ·exact (Xv.out.keep (fun b hb=>⟨⟨by omega,by omega⟩,blk b (by omega) (by omega)⟩)).up (by omega)) (fun g hg=>h6.lt g hg) (by simp) (by decide)
        exact ⟨q4,x,y,a6,c6,_,hv6,h.out.grown G hgr5 ((blk E.R (by omega) (by omega)).trans HD4.out.rd),hgr5,hq4,gT.out,su⟩
       clear h5 g5
       go_wp2
       go_roundg 1
       case measure=>omega
       case rel=>exact .inr ⟨rfl,jN.out⟩
    ·obtain ⟨q4,x',y,a6,c6,n6,rfl,hd6,dz,hq4,j4,su⟩:=hE2
     have HD6:=aa hd6
     have iH:=aa dz
     have vP:=aa su
     obtain ⟨r5,fo⟩:∃ r5,r5=Rp.want E.l E.en ⟨#[41]⟩ q4:=⟨_,rfl⟩
     have jN:=aa fo
     have lQ:Hid (r=Rp.andThen r5 fun q5 _=>.ok (q5,[x',y])):=by rw [j4,fo];rfl
     clear fo hd6 dz su j4
     go_wp2_with fail
     refine (iW E G q4 _ ⟨#[41]⟩ r5 _ HD6 hq4 jN).mono ?_
     rintro e w7 ⟨ig,zS⟩
     have kY:Hid (w.grownBy w7 (some E.R)):=ay iH.out ig
     have hs7:=ig.size
     have Xw:Hid (bK (gK w w7) w7 n6 ⟨0,0,⟨#[]⟩,[x',y]⟩ a6):=vP.out.keep (fun b hb=>⟨⟨hb.1,by omega⟩,ig.block b hb.2 (by simp;omega)⟩)
     clear ig
     cases r5 with
     | error er =>
      obtain ⟨e1,e2⟩:=er
      obtain ⟨rfl,hd7⟩:=zS
      have HD7:=aa hd7
      have ae:Hid (r=.error (e1,e2)):=lQ.out
      clear hd7
      go_wp2
      exact ⟨rfl,kY.out,by rw [ae.out];exact ⟨rfl,HD7.out⟩⟩
     | ok qx =>
      obtain ⟨q5,u5⟩:=qx
      obtain ⟨⟨v,rfl,rfl⟩,hd7⟩:=zS
      have HD7:=aa hd7
      have ae:Hid (r=.ok (q5,[x',y])):=lQ.out
      clear hd7
      go_wp2
      go_ret
      refine ⟨kY.out,?_⟩
      rw [ae.out]
      exact ⟨⟨_,rfl,a6,c6,n6,rfl,Xw.out⟩,HD7.out⟩
theorem az.set {E:Env}{w0 w:World}{p p0:Nat}{op GJ:Int}(h0:az E w0 p0 GJ)(h:az E w p op)(G:Good E)(hg:w0.grownBy w (some E.R)){a:Addr}(ha:w0.heap.size≤a.block)(x:Value):az E (w.setCell a x) p op :=
 h0.grown G (gD hg ha x) (h.rd.set (by have:=h0.lt;omega) x)
def Nr (E:Env)(d:Nat):Prop:=∀ (p:Nat) (r:au Sy.Ex) (w:World),Hid (az E w p (200 - (d:Int)))→p≤E.l.length→Hid (r=Rp.named E.l E.en d (Rp.dm E.l E.en d) p) →
 Calls Tryz.prog 161 #[.pointer (some ⟨E.R,0,none⟩)] w fun e w'=>Ends E (200 - (d:Int)) w r (qP w) e w'
theorem Xx {w:World}{N:Nat}{k n:Int}{s:ByteArray}{v:Value}(h:w.heap[N]?=some (ic k n s v))(k':Int):(w.setCell ⟨N,0,none⟩ (.int .i64 k')).heap[N]?=some (ic k' n s v):=by
 simp only [World.setCell,Array.getElem?_modify,if_true,h,Option.map_some]
 rfl
theorem Xy (E:Env)(G:Good E)(d:Nat)(hK:Hid (GG E d)):Nr E d:=by
 intro p r w h hp hr
 have hR:=h.out.lt
 obtain ⟨r1,hr1⟩:∃ r1,r1=Rp.name E.l E.en p:=⟨_,rfl⟩
 have HR1:=aa hr1
 have aR:Hid (r=Rp.andThen r1 fun q s=>if (pk E.l q E.en).text=⟨#[40]⟩ then Rp.andThen (Rp.kids E.l E.en d (Rp.dm E.l E.en d) q) fun q2 ks=>.ok (q2,⟨19,0,s,ks⟩) else .ok (q,⟨3,0,s,[]⟩)):=by rw [hr.out,hr1];rfl
 have HA1:Hid (∀ q x,r1=.ok (q,x)→q≤E.l.length):=fun q x hx=>(Rp.jX E.l E.en p q x hp (by rw [← hr1,hx])).2
 clear hr1
 go_enter Tryz.func161,Tryz.ntmps161
 go_wp2_with fail
 refine (qO E G p _ r1 _ (h.out.alloc G _) hp HR1).mono ?_
 rintro e w1 ⟨hg1,hf1⟩
 have ax:Hid (w.grownBy w1 (some E.R)):=ay (dM (eD (Below.refl _ w)) _) hg1
 have HZ1:Hid (w1.heap[w.heap.size]?=some ZE):=aA hg1 (by omega) (heap_alloc_new w ZE)
 have hw1:w.heap.size<w1.heap.size:=lt_of_block HZ1.out
 clear hg1
 cases r1 with
 | error er =>
  obtain ⟨e1,e2⟩:=er
  obtain ⟨rfl,hd1⟩:=hf1
  have HD1:=aa hd1
  have ae:Hid (r=.error (e1,e2)):=aR.out
  clear hd1
  go_wp2
  exact ⟨rfl,ax.out,by rw [ae.out];exact ⟨rfl,HD1.out⟩⟩
 | ok qx =>
  obtain ⟨q1,s⟩:=qx
  obtain ⟨⟨v,rfl,rfl,hs⟩,hd1⟩:=hf1
  have HD1:=aa hd1
  have hq1:q1≤E.l.length:=HA1.out q1 s rfl
  obtain ⟨t,ht⟩:∃ t,t=pk E.l q1 E.en:=⟨_,rfl⟩
  have HT:=aa ht
  have bI:Hid (r=if t.text=⟨#[40]⟩ then Rp.andThen (Rp.kids E.l E.en d (Rp.dm E.l E.en d) q1) fun q2 ks=>.ok (q2,⟨19,0,s,ks⟩) else .ok (q1,⟨3,0,s,[]⟩)):=by rw [aR.out,ht];rfl
  clear ht hd1
  go_wp2_with fail
  refine (zL E G q1 _ t _ (HD1.out.alloc G _) hq1 HT).mono ?_
  rintro e w2 ⟨rfl,hb2⟩
  have HG2:Hid (w.grownBy w2 (some E.R)):=ay (dM ax.out _) (eD hb2)
  have HD2:Hid (az E w2 q1 (200 - (d:Int))):=(HD1.out.alloc G _).on G hb2
  have hZ2:w2.heap[w.heap.size]?=some ZE:=(hb2.block _ (by simp;omega)).trans ((Below.heap_alloc _ _ _ hw1).trans HZ1.out)
  have hX2:w2.heap[w1.heap.size]?=some (ic 3 0 s (.slice none 0 0)):=(hb2.block _ (by simp)).trans (heap_alloc_new w1 _)
  have hw2:w1.heap.size<w2.heap.size:=lt_of_block hX2
  clear hb2
  obtain ⟨b,hb⟩:∃ b,b=decide (t.text=⟨#[40]⟩):=⟨_,rfl⟩
  have e0:=Cs t.kind t.num t.pos t.text w2
  have el:ByteArray.toList ⟨#[40]⟩=[40]:=by simp
  have e1:(t.text.toList==[40])=b:=by rw [← el];exact vw hb
  clear el
  cases b with
  | false =>
   have ae:Hid (r=.ok (q1,⟨3,0,s,[]⟩)):=by unfold Hid;rw [bI.out,if_neg (by simpa using hb)]
   obtain ⟨⟨z0,z1,z2,z3⟩,y0,y1,y2,y3⟩:=fP hZ2
   obtain ⟨⟨x0,x1,x2,x3⟩,_⟩:=fP hX2
   clear hb hZ2 hX2
   go_wp2
   refine bodyPost_ret (v:=dH ⟨3,0,s,[]⟩ none 0) (by simp [results,Tryz.results161,go_sem,z0,z1,z2,z3]) rfl ?_
   exact ⟨eu HG2.out (Nat.le_refl _) _ _ _ _,by rw [ae.out];exact ⟨⟨_,rfl,none,0,1,rfl,bK.leaf _ _ _ _ _ hs _⟩,h.out.grown G (eu HG2.out (Nat.le_refl _) _ _ _ _) (HD2.out.rd.four (by omega) _ _ _ _)⟩⟩
  | true =>
   obtain ⟨r3,hr3⟩:∃ r3,r3=Rp.kids E.l E.en d (Rp.dm E.l E.en d) q1:=⟨_,rfl⟩
   have HR3:=aa hr3
   have HE2:Hid (r=Rp.andThen r3 fun q2 ks=>.ok (q2,⟨19,0,s,ks⟩)):=by unfold Hid;rw [bI.out,if_pos (by simpa using hb),hr3]
   obtain ⟨⟨x0,x1,x2,x3⟩,f0,f1,f2,f3⟩:=fP hX2
   have HZ2:=aa hZ2
   have nK:=aa hX2
   clear hb hr3 hZ2 hX2
   go_wp2_with fail
   refine (hK.out q1 r3 _ (az.set h.out HD2.out G HG2.out (a:=⟨w1.heap.size,0,none⟩) (by simp;omega) _) hq1 HR3).mono ?_
   rintro e w3 ⟨hg3,hf3⟩
   have aK:Hid (w.grownBy w3 (some E.R)):=ay (gD HG2.out (a:=⟨w1.heap.size,0,none⟩) (by simp;omega) _) hg3
   have hs3:=hg3.size
   simp only [World.bC] at hs3
   have hZ3:w3.heap[w.heap.size]?=some ZE:=aA hg3 (by omega) ((Below.heap_setCell _ _ _ _ (by simp;omega)).trans HZ2.out)
   have vK:w3.heap[w1.heap.size]?=some (ic 19 0 s (.slice none 0 0)):=aA hg3 (by omega) (Xx nK.out 19)
   clear hg3 x0 x1 x2 x3 f0 f1 f2 f3
   cases r3 with
   | error er =>
    clear hZ3 vK
    obtain ⟨e1,e2⟩:=er
    obtain ⟨rfl,hd3⟩:=hf3
    have HD3:=aa hd3
    have ae:Hid (r=.error (e1,e2)):=HE2.out
    clear hd3
    go_wp2
    exact ⟨rfl,aK.out,by rw [ae.out];exact ⟨rfl,HD3.out⟩⟩
   | ok qx =>
    obtain ⟨q3,ks⟩:=qx
    obtain ⟨⟨v,rfl,a,c,n,rfl,hq⟩,hd3⟩:=hf3
    have HD3:=aa hd3
    have HQ:Hid (bK (fun b=>w2.heap.size≤b∧b<w3.heap.size) w3 n ⟨0,0,⟨#[]⟩,ks⟩ a):=hq.keep (fun b hb=>⟨⟨by have:=hb.1;simp only [World.bC] at this;omega,hb.2⟩,rfl⟩)
    have ae:Hid (r=.ok (q3,⟨19,0,s,ks⟩)):=HE2.out
    obtain ⟨⟨z0,z1,z2,z3⟩,y0,y1,y2,y3⟩:=fP hZ3
    obtain ⟨⟨x0,x1,x2,x3⟩,f0,f1,f2,f3⟩:=fP vK
    have hne:w.heap.size≠w1.heap.size:=by omega
    clear hd3 hq hZ3 vK
    go_wp2
    refine bodyPost_ret (v:=dH ⟨19,0,s,ks⟩ a c) (by simp [results,Tryz.results161,go_sem,z0,z1,z2,z3]) rfl ?_
    have hg4:=gD aK.out (a:=⟨w1.heap.size,3,none⟩) (by simp;omega) (.slice a ks.length c)
    refine ⟨eu hg4 (Nat.le_refl _) _ _ _ _,?_⟩
    rw [ae.out]
    refine ⟨⟨_,rfl,a,c,n,rfl,(HQ.out.head 19 0 s hs).keep (fun b hb=>⟨⟨by omega,by simp only [World.bC];omega⟩,(kz (by omega) _ _ _ _).trans (Below.heap_setCell _ _ _ _ (by simp;omega))⟩)⟩,?_⟩
    exact h.out.grown G (eu hg4 (Nat.le_refl _) _ _ _ _) ((HD3.out.rd.set (a:=⟨w1.heap.size,3,none⟩) (by simp;omega) _).four (by omega) _ _ _ _)
abbrev xX (t:Lx.Tk):Obj:=.cells #[.int .i64 t.kind,.string t.text,.int .i64 t.num,.int .i64 t.pos] 88 (0,0)
theorem Xz {w:World}{N:Nat}{t:Lx.Tk}(h:w.heap[N]?=some (xX t)):w.cell? ⟨N,0,none⟩=some (.int .i64 t.kind)∧w.cell? ⟨N,1,none⟩=some (.string t.text)∧w.cell? ⟨N,2,none⟩=some (.int .i64 t.num)∧w.cell? ⟨N,3,none⟩=some (.int .i64 t.pos):=by
 simp [World.cell?,h]
theorem XA (E:Env)(G:Good E)(d:Nat)(hX:Hid (nR E d))(hK:Hid (GG E d))(hX1:Hid (Nk E d))(hX2:Hid (Nl E d))(hN:Hid (Nr E d)):M7 E d:=by
 intro p r w h hp hr
 have hR:=h.out.lt
 obtain ⟨t,ht⟩:∃ t,t=pk E.l p E.en:=⟨_,rfl⟩
 have HT:=aa ht
 clear ht
 go_enter Tryz.func157,Tryz.ntmps157
 go_wp2_with fail
 refine (zL E G p _ t _ (h.out.alloc G _) hp HT).mono ?_
 rintro e wa ⟨rfl,Db⟩
 have ma:Hid (w.grownBy (wa.alloc (xX t)) (some E.R)):=dM (ay (dM (eD (Below.refl _ w)) _) (eD Db)) _
 have vQ:Hid (az E (wa.alloc (xX t)) p (200 - (d:Int))):=((h.out.alloc G _).on G Db).alloc G _
 have hza:wa.heap[w.heap.size]?=some ZE:=(Db.block _ (by simp)).trans (heap_alloc_new w ZE)
 have zU:w.heap.size<wa.heap.size:=lt_of_block hza
 have GK:Hid ((wa.alloc (xX t)).heap[w.heap.size]?=some ZE):=(Below.heap_alloc _ _ _ zU).trans hza
 have Dc:Hid ((wa.alloc (xX t)).heap[wa.heap.size]?=some (xX t)):=heap_alloc_new wa _
 clear Db hza
 by_cases hk:t.kind=2
 ·have e0:((t.kind:Int)==2)=true:=by simp;omega
  have ae:Hid (r=.ok (p+1,⟨1,t.num,⟨#[]⟩,[]⟩)):=by unfold Hid;rw [hr.out];unfold Rp.piece;rw [← HT.out,if_pos hk]
  clear hk
  go_wp2_with fail
  refine (M4 E G p _ _ vQ hp).mono ?_
  rintro e w1 ⟨rfl,hd1,hg1⟩
  have ax:Hid (w.grownBy w1 (some E.R)):=ay ma.out hg1
  have HD1:=aa hd1
  obtain ⟨⟨z0,z1,z2,z3⟩,y0,y1,y2,y3⟩:=fP (aA hg1 (by omega) GK.out)
  obtain ⟨t0,t1,t2,t3⟩:=Xz (aA hg1 (by omega) Dc.out)
  clear hd1 hg1
  go_wp2
  refine bodyPost_ret (v:=dH ⟨1,t.num,⟨#[]⟩,[]⟩ none 0) (by simp [results,Tryz.results157,go_sem,z0,z1,z2,z3]) rfl ?_
  refine ⟨eu ax.out (Nat.le_refl _) _ _ _ _,?_⟩
  rw [ae.out]
  exact ⟨⟨_,rfl,none,0,1,rfl,bK.leaf _ _ _ _ _ (by decide) _⟩,h.out.grown G (eu ax.out (Nat.le_refl _) _ _ _ _) (HD1.out.rd.four (by omega) _ _ _ _)⟩
 ·have e0:((t.kind:Int)==2)=false:=by simp;omega
  have sw:Hid (¬ (pk E.l p E.en).kind=2):=by unfold Hid;rw [← HT.out];exact hk
  clear hk Dc
  cases h1:tk E.l p ⟨#[40]⟩ with
  | true =>
   have hp1:p+1≤E.l.length:=Rp.dY h1
   go_wp2_with fail
   refine (ek E G p _ ⟨#[40]⟩ true (p+1) _ vQ hp h1.symm rfl).mono ?_
   rintro e w1 ⟨rfl,hd1,hg1⟩
   have ax:Hid (w.grownBy w1 (some E.R)):=ay ma.out hg1
   have HZ1:Hid (w1.heap[w.heap.size]?=some ZE):=aA hg1 (by omega) GK.out
   have HD1:=aa hd1
   clear hd1 hg1
   obtain ⟨r9,iI⟩:∃ r9,r9=Rp.expr E.l E.en d (Rp.dm E.l E.en d) (p+1):=⟨_,rfl⟩
   have gF:=aa iI
   have lg:Hid (r=Rp.andThen r9 fun q x=>Rp.andThen (Rp.want E.l E.en ⟨#[41]⟩ q) fun q2 _=>.ok (q2,x)):=by unfold Hid;rw [hr.out];unfold Rp.piece;rw [if_neg sw.out,h1,iI];rfl
   have GL:Hid (∀ q x,r9=.ok (q,x)→q≤E.l.length):=fun q x hx=>(Rp.oN (en:=E.en) (d:=d) (Rp.xO E.l E.en d) (p+1) q x hp1 (by rw [← iI,hx])).2
   clear iI
   go_wp2_with fail
   refine (hX.out (p+1) r9 _ HD1 hp1 gF).mono ?_
   rintro e w8 ⟨aL,bL⟩
   have bT:Hid (w.grownBy w8 (some E.R)):=ay ax.out aL
   have mQ:Hid (w8.heap[w.heap.size]?=some ZE):=aA aL (by omega) HZ1.out
   have rZ:w.heap.size<w1.heap.size:=lt_of_block HZ1.out
   have GM:=aL.size
   clear aL
   cases r9 with
   | error er =>
    obtain ⟨e1,e2⟩:=er
    obtain ⟨rfl,aD⟩:=bL
    have aS:=aa aD
    have ae:Hid (r=.error (e1,e2)):=lg.out
    clear aD
    go_wp2
    exact ⟨rfl,bT.out,by rw [ae.out];exact ⟨rfl,aS.out⟩⟩
   | ok qx =>
    obtain ⟨q,x⟩:=qx
    obtain ⟨⟨v,rfl,a,c,n,rfl,hq⟩,aD⟩:=bL
    have aS:=aa aD
    have HQ:=aa hq
    have hq8:q≤E.l.length:=GL.out q x rfl
    obtain ⟨r3,hr3⟩:∃ r3,r3=Rp.want E.l E.en ⟨#[41]⟩ q:=⟨_,rfl⟩
    have HR3:=aa hr3
    have gy:Hid (r=Rp.andThen r3 fun q2 _=>.ok (q2,x)):=by rw [lg.out,hr3];rfl
    clear hr3 aD hq
    go_wp2_with fail
    refine (iW E G q _ ⟨#[41]⟩ r3 _ (aS.out.alloc G _) hq8 HR3).mono ?_
    rintro e w9 ⟨gz,zV⟩
    have xY:Hid (w.grownBy w9 (some E.R)):=ay (dM bT.out _) gz
    have vR:w9.heap[w.heap.size]?=some ZE:=aA gz (by omega) ((Below.heap_alloc _ _ _ (lt_of_block mQ.out)).trans mQ.out)
    have vS:w9.heap[w8.heap.size]?=some (ic x.kind x.n x.name (.slice a x.kids.length c)):=aA gz (by omega) (heap_alloc_new w8 _)
    have GN:Hid (bK (fun b=>w1.heap.size≤b∧b<w9.heap.size) w9 n x a):=HQ.out.keep (fun b hb=>⟨⟨hb.1,by have:=gz.size;simp at this;omega⟩,(gz.block b (by simp;omega) (by simp;omega)).trans (Below.heap_alloc _ _ _ hb.2)⟩)
    clear gz
    cases r3 with
    | error er =>
     obtain ⟨e1,e2⟩:=er
     obtain ⟨rfl,p8⟩:=zV
     have vT:=aa p8
     have ae:Hid (r=.error (e1,e2)):=gy.out
     clear p8 vR vS
     go_wp2
     exact ⟨rfl,xY.out,by rw [ae.out];exact ⟨rfl,vT.out⟩⟩
    | ok qx =>
     obtain ⟨q3,u3⟩:=qx
     obtain ⟨⟨v,rfl,rfl⟩,p8⟩:=zV
     have vT:=aa p8
     have ae:Hid (r=.ok (q3,x)):=gy.out
     obtain ⟨⟨z0,z1,z2,z3⟩,y0,y1,y2,y3⟩:=fP vR
     obtain ⟨⟨x0,x1,x2,x3⟩,_⟩:=fP vS
     clear p8 vR vS
     go_wp2
     refine bodyPost_ret (v:=dH x a c) (by simp [results,Tryz.results157,go_sem,z0,z1,z2,z3]) rfl ?_
     refine ⟨eu xY.out (Nat.le_refl _) _ _ _ _,?_⟩
     rw [ae.out]
     exact ⟨⟨_,rfl,a,c,n,rfl,GN.out.keep (fun b hb=>⟨⟨by omega,by simp only [World.bC];omega⟩,kz (by omega) _ _ _ _⟩)⟩,h.out.grown G (eu xY.out (Nat.le_refl _) _ _ _ _) (vT.out.rd.four (by omega) _ _ _ _)⟩
  | false =>
   go_wp2_with fail
   refine (ek E G p _ ⟨#[40]⟩ false p _ vQ hp h1.symm rfl).mono ?_
   rintro e w1 ⟨rfl,hd1,hg1⟩
   have ax:Hid (w.grownBy w1 (some E.R)):=ay ma.out hg1
   have HZ1:Hid (w1.heap[w.heap.size]?=some ZE):=aA hg1 (by omega) GK.out
   have HD1:=aa hd1
   clear hd1 hg1
   cases h2:tk E.l p ⟨#[116,114,117,101]⟩ with
   | true =>
    have hp1:p+1≤E.l.length:=Rp.dY h2
    go_wp2_with fail
    refine (ek E G p _ ⟨#[116,114,117,101]⟩ true (p+1) _ HD1 hp h2.symm rfl).mono ?_
    rintro e w2 ⟨rfl,hd2,hg2⟩
    have HG2:Hid (w.grownBy w2 (some E.R)):=ay ax.out hg2
    have HZ2:Hid (w2.heap[w.heap.size]?=some ZE):=aA hg2 (by omega) HZ1.out
    have HD2:=aa hd2
    clear hd2 hg2
    have ae:Hid (r=.ok (p+1,⟨2,1,⟨#[]⟩,[]⟩)):=by unfold Hid;rw [hr.out];unfold Rp.piece;rw [if_neg sw.out,h1,h2];rfl
    obtain ⟨⟨z0,z1,z2,z3⟩,y0,y1,y2,y3⟩:=fP HZ2.out
    go_wp2
    refine bodyPost_ret (v:=dH ⟨2,1,⟨#[]⟩,[]⟩ none 0) (by simp [results,Tryz.results157,go_sem,z0,z1,z2,z3]) rfl ?_
    refine ⟨eu HG2.out (Nat.le_refl _) _ _ _ _,?_⟩
    rw [ae.out]
    exact ⟨⟨_,rfl,none,0,1,rfl,bK.leaf _ _ _ _ _ (by decide) _⟩,h.out.grown G (eu HG2.out (Nat.le_refl _) _ _ _ _) (HD2.out.rd.four (by omega) _ _ _ _)⟩
   | false =>
    go_wp2_with fail
    refine (ek E G p _ ⟨#[116,114,117,101]⟩ false p _ HD1 hp h2.symm rfl).mono ?_
    rintro e w2 ⟨rfl,hd2,hg2⟩
    have HG2:Hid (w.grownBy w2 (some E.R)):=ay ax.out hg2
    have HZ2:Hid (w2.heap[w.heap.size]?=some ZE):=aA hg2 (by omega) HZ1.out
    have HD2:=aa hd2
    clear hd2 hg2
    cases h3:tk E.l p ⟨#[102,97,108,115,101]⟩ with
    | true =>
     have hp1:p+1≤E.l.length:=Rp.dY h3
     go_wp2_with fail
     refine (ek E G p _ ⟨#[102,97,108,115,101]⟩ true (p+1) _ HD2 hp h3.symm rfl).mono ?_
     rintro e w3 ⟨rfl,hd3,hg3⟩
     have aK:Hid (w.grownBy w3 (some E.R)):=ay HG2.out hg3
     have HZ3:Hid (w3.heap[w.heap.size]?=some ZE):=aA hg3 (by omega) HZ2.out
     have HD3:=aa hd3
     clear hd3 hg3
     have ae:Hid (r=.ok (p+1,⟨2,0,⟨#[]⟩,[]⟩)):=by unfold Hid;rw [hr.out];unfold Rp.piece;rw [if_neg sw.out,h1,h2,h3];rfl
     obtain ⟨⟨z0,z1,z2,z3⟩,y0,y1,y2,y3⟩:=fP HZ3.out
     go_wp2
     refine bodyPost_ret (v:=dH ⟨2,0,⟨#[]⟩,[]⟩ none 0) (by simp [results,Tryz.results157,go_sem,z0,z1,z2,z3]) rfl ?_
     refine ⟨eu aK.out (Nat.le_refl _) _ _ _ _,?_⟩
     rw [ae.out]
     exact ⟨⟨_,rfl,none,0,1,rfl,bK.leaf _ _ _ _ _ (by decide) _⟩,h.out.grown G (eu aK.out (Nat.le_refl _) _ _ _ _) (HD3.out.rd.four (by omega) _ _ _ _)⟩
    | false =>
     go_wp2_with fail
     refine (ek E G p _ ⟨#[102,97,108,115,101]⟩ false p _ HD2 hp h3.symm rfl).mono ?_
     rintro e w3 ⟨rfl,hd3,hg3⟩
     have aK:Hid (w.grownBy w3 (some E.R)):=ay HG2.out hg3
     have HZ3:Hid (w3.heap[w.heap.size]?=some ZE):=aA hg3 (by omega) HZ2.out
     have HD3:=aa hd3
     clear hd3 hg3
     cases h4:tk E.l p ⟨#[115,116,97,114,116]⟩ with
     | true =>
      have hp1:p+1≤E.l.length:=Rp.dY h4
      go_wp2_with fail
      refine (ek E G p _ ⟨#[115,116,97,114,116]⟩ true (p+1) _ HD3 hp h4.symm rfl).mono ?_
      rintro e w4 ⟨rfl,hd4,hg4⟩
      have aX:Hid (w.grownBy w4 (some E.R)):=ay aK.out hg4
      have kC:Hid (w4.heap[w.heap.size]?=some ZE):=aA hg4 (by omega) HZ3.out
      have HD4:=aa hd4
      clear hd4 hg4
      obtain ⟨r9,iI⟩:∃ r9,r9=Rp.name E.l E.en (p+1):=⟨_,rfl⟩
      have gF:=aa iI
      have lg:Hid (r=Rp.andThen r9 fun q s=>Rp.andThen (Rp.kids E.l E.en d (Rp.dm E.l E.en d) q) fun q2 ks=>.ok (q2,⟨22,0,s,ks⟩)):=by unfold Hid;rw [hr.out];unfold Rp.piece;rw [if_neg sw.out,h1,h2,h3,h4,iI];rfl
      have GL:Hid (∀ q x,r9=.ok (q,x)→q≤E.l.length):=fun q x hx=>(Rp.jX E.l E.en (p+1) q x hp1 (by rw [← iI,hx])).2
      clear iI
      go_wp2_with fail
      refine (qO E G (p+1) _ r9 _ HD4 hp1 gF).mono ?_
      rintro e w8 ⟨aL,bL⟩
      have bT:Hid (w.grownBy w8 (some E.R)):=ay aX.out aL
      have mQ:Hid (w8.heap[w.heap.size]?=some ZE):=aA aL (by omega) kC.out
      have hw8:w.heap.size<w8.heap.size:=lt_of_block mQ.out
      clear aL
      cases r9 with
      | error er =>
       obtain ⟨e1,e2⟩:=er
       obtain ⟨rfl,aD⟩:=bL
       have aS:=aa aD
       have ae:Hid (r=.error (e1,e2)):=lg.out
       clear aD
       go_wp2
       exact ⟨rfl,bT.out,by rw [ae.out];exact ⟨rfl,aS.out⟩⟩
      | ok qx =>
       obtain ⟨q,s⟩:=qx
       obtain ⟨⟨v,rfl,rfl,hs⟩,aD⟩:=bL
       have aS:=aa aD
       have hq8:q≤E.l.length:=GL.out q s rfl
       obtain ⟨r3,hr3⟩:∃ r3,r3=Rp.kids E.l E.en d (Rp.dm E.l E.en d) q:=⟨_,rfl⟩
       have HR3:=aa hr3
       have gy:Hid (r=Rp.andThen r3 fun q2 ks=>.ok (q2,⟨22,0,s,ks⟩)):=by rw [lg.out,hr3];rfl
       clear hr3 aD
       go_wp2_with fail
       refine (hK.out q r3 _ (aS.out.alloc G _) hq8 HR3).mono ?_
       rintro e w9 ⟨gz,zV⟩
       have xY:Hid (w.grownBy w9 (some E.R)):=ay (dM bT.out _) gz
       have vU:=gz.size
       simp at vU
       have vR:w9.heap[w.heap.size]?=some ZE:=aA gz (by omega) ((Below.heap_alloc _ _ _ hw8).trans mQ.out)
       have vS:w9.heap[w8.heap.size]?=some (ic 22 0 s (.slice none 0 0)):=aA gz (by omega) (heap_alloc_new w8 _)
       clear gz
       cases r3 with
       | error er =>
        obtain ⟨e1,e2⟩:=er
        obtain ⟨rfl,p8⟩:=zV
        have vT:=aa p8
        have ae:Hid (r=.error (e1,e2)):=gy.out
        clear p8 vR vS
        go_wp2
        exact ⟨rfl,xY.out,by rw [ae.out];exact ⟨rfl,vT.out⟩⟩
       | ok qx =>
        obtain ⟨q3,ks⟩:=qx
        obtain ⟨⟨v,rfl,a,c,n,rfl,hq⟩,p8⟩:=zV
        have vT:=aa p8
        have HQ:Hid (bK (fun b=>w8.heap.size<b∧b<w9.heap.size) w9 n ⟨0,0,⟨#[]⟩,ks⟩ a):=hq.keep (fun b hb=>⟨⟨by have:=hb.1;simp at this;omega,hb.2⟩,rfl⟩)
        have ae:Hid (r=.ok (q3,⟨22,0,s,ks⟩)):=gy.out
        obtain ⟨⟨z0,z1,z2,z3⟩,y0,y1,y2,y3⟩:=fP vR
        obtain ⟨⟨x0,x1,x2,x3⟩,f0,f1,f2,f3⟩:=fP vS
        have hne:w.heap.size≠w8.heap.size:=by omega
        clear p8 hq vR vS
        go_wp2
        refine bodyPost_ret (v:=dH ⟨22,0,s,ks⟩ a c) (by simp [results,Tryz.results157,go_sem,z0,z1,z2,z3]) rfl ?_
        have hg4:=gD xY.out (a:=⟨w8.heap.size,3,none⟩) (by simp;omega) (.slice a ks.length c)
        refine ⟨eu hg4 (Nat.le_refl _) _ _ _ _,?_⟩
        rw [ae.out]
        refine ⟨⟨_,rfl,a,c,n,rfl,(HQ.out.head 22 0 s hs).keep (fun b hb=>⟨⟨by omega,by simp only [World.bC];omega⟩,(kz (by omega) _ _ _ _).trans (Below.heap_setCell _ _ _ _ (by simp;omega))⟩)⟩,?_⟩
        exact h.out.grown G (eu hg4 (Nat.le_refl _) _ _ _ _) ((vT.out.rd.set (a:=⟨w8.heap.size,3,none⟩) (by simp;omega) _).four (by omega) _ _ _ _)
     | false =>
      go_wp2_with fail
      refine (ek E G p _ ⟨#[115,116,97,114,116]⟩ false p _ HD3 hp h4.symm rfl).mono ?_
      rintro e w4 ⟨rfl,hd4,hg4⟩
      have aX:Hid (w.grownBy w4 (some E.R)):=ay aK.out hg4
      have kC:Hid (w4.heap[w.heap.size]?=some ZE):=aA hg4 (by omega) HZ3.out
      have HD4:=aa hd4
      clear hd4 hg4
      cases h5:tk E.l p ⟨#[114,101,99,118]⟩ with
      | true =>
       have hp1:p+1≤E.l.length:=Rp.dY h5
       go_wp2_with fail
       refine (ek E G p _ ⟨#[114,101,99,118]⟩ true (p+1) _ HD4 hp h5.symm rfl).mono ?_
       rintro e w5 ⟨rfl,hd5,hg5⟩
       have bY:Hid (w.grownBy w5 (some E.R)):=ay aX.out hg5
       have gV:Hid (w5.heap[w.heap.size]?=some ZE):=aA hg5 (by omega) kC.out
       have HD5:=aa hd5
       clear hd5 hg5
       have pW:Hid (r=Rp.receiving E.l E.en (p+1)):=by unfold Hid;rw [hr.out];unfold Rp.piece;rw [if_neg sw.out,h1,h2,h3,h4,h5];rfl
       go_wp2_with fail
       refine (WQ E G (p+1) _ r _ HD5 hp1 pW).mono ?_
       rintro e w8 ⟨aL,bL⟩
       have bT:Hid (w.grownBy w8 (some E.R)):=ay bY.out aL
       have bz:w8.heap[w.heap.size]?=some ZE:=aA aL (by omega) gV.out
       have rZ:w.heap.size<w5.heap.size:=lt_of_block gV.out
       cases r with
       | error er =>
        obtain ⟨e1,e2⟩:=er
        obtain ⟨rfl,aD⟩:=bL
        have aS:=aa aD
        clear aD aL bz
        go_wp2
        exact ⟨rfl,bT.out,rfl,aS.out⟩
       | ok qx =>
        obtain ⟨q,x⟩:=qx
        obtain ⟨⟨v,rfl,a,c,n,rfl,hq⟩,aD⟩:=bL
        have aS:=aa aD
        have HQ:=aa hq
        obtain ⟨⟨z0,z1,z2,z3⟩,y0,y1,y2,y3⟩:=fP bz
        clear aD aL hq bz
        go_wp2
        refine bodyPost_ret (v:=dH x a c) (by simp [results,Tryz.results157,go_sem,z0,z1,z2,z3]) rfl ?_
        refine ⟨eu bT.out (Nat.le_refl _) _ _ _ _,⟨_,rfl,a,c,n,rfl,HQ.out.keep (fun b hb=>⟨⟨by omega,by simp only [World.bC];omega⟩,kz (by omega) _ _ _ _⟩)⟩,h.out.grown G (eu bT.out (Nat.le_refl _) _ _ _ _) (aS.out.rd.four (by omega) _ _ _ _)⟩
      | false =>
       go_wp2_with fail
       refine (ek E G p _ ⟨#[114,101,99,118]⟩ false p _ HD4 hp h5.symm rfl).mono ?_
       rintro e w5 ⟨rfl,hd5,hg5⟩
       have bY:Hid (w.grownBy w5 (some E.R)):=ay aX.out hg5
       have gV:Hid (w5.heap[w.heap.size]?=some ZE):=aA hg5 (by omega) kC.out
       have HD5:=aa hd5
       clear hd5 hg5
       cases h6:tk E.l p ⟨#[121,105,101,108,100]⟩ with
       | true =>
        have hp1:p+1≤E.l.length:=Rp.dY h6
        go_wp2_with fail
        refine (ek E G p _ ⟨#[121,105,101,108,100]⟩ true (p+1) _ HD5 hp h6.symm rfl).mono ?_
        rintro e w6 ⟨rfl,hd6,dz⟩
        have iH:Hid (w.grownBy w6 (some E.R)):=ay bY.out dz
        have lS:Hid (w6.heap[w.heap.size]?=some ZE):=aA dz (by omega) gV.out
        have HD6:=aa hd6
        clear hd6 dz
        obtain ⟨r9,iI⟩:∃ r9,r9=Rp.pU E.l E.en d (Rp.dm E.l E.en d) (p+1):=⟨_,rfl⟩
        have gF:=aa iI
        have lg:Hid (r=Rp.andThen r9 fun q ks=>.ok (q,⟨21,0,⟨#[]⟩,ks⟩)):=by unfold Hid;rw [hr.out];unfold Rp.piece;rw [if_neg sw.out,h1,h2,h3,h4,h5,h6,iI];rfl
        clear iI
        go_wp2_with fail
        refine (hX1.out (p+1) r9 _ HD6 hp1 gF).mono ?_
        rintro e w8 ⟨aL,bL⟩
        have bT:Hid (w.grownBy w8 (some E.R)):=ay iH.out aL
        have bz:w8.heap[w.heap.size]?=some ZE:=aA aL (by omega) lS.out
        have rZ:w.heap.size<w6.heap.size:=lt_of_block lS.out
        cases r9 with
        | error er =>
         clear aL bz
         obtain ⟨e1,e2⟩:=er
         obtain ⟨rfl,aD⟩:=bL
         have aS:=aa aD
         have ae:Hid (r=.error (e1,e2)):=lg.out
         clear aD
         go_wp2
         exact ⟨rfl,bT.out,by rw [ae.out];exact ⟨rfl,aS.out⟩⟩
        | ok qx =>
         obtain ⟨q,ks⟩:=qx
         obtain ⟨⟨v,rfl,a,c,n,rfl,hq⟩,aD⟩:=bL
         have aS:=aa aD
         have HQ:=aa hq
         have ae:Hid (r=.ok (q,⟨21,0,⟨#[]⟩,ks⟩)):=lg.out
         obtain ⟨⟨z0,z1,z2,z3⟩,y0,y1,y2,y3⟩:=fP bz
         clear aD aL hq bz
         go_wp2
         refine bodyPost_ret (v:=dH ⟨21,0,⟨#[]⟩,ks⟩ a c) (by simp [results,Tryz.results157,go_sem,z0,z1,z2,z3]) rfl ?_
         refine ⟨eu bT.out (Nat.le_refl _) _ _ _ _,?_⟩
         rw [ae.out]
         exact ⟨⟨_,rfl,a,c,n,rfl,(HQ.out.head 21 0 ⟨#[]⟩ (by decide)).keep (fun b hb=>⟨⟨by omega,by simp only [World.bC];omega⟩,kz (by omega) _ _ _ _⟩)⟩,h.out.grown G (eu bT.out (Nat.le_refl _) _ _ _ _) (aS.out.rd.four (by omega) _ _ _ _)⟩
       | false =>
        go_wp2_with fail
        refine (ek E G p _ ⟨#[121,105,101,108,100]⟩ false p _ HD5 hp h6.symm rfl).mono ?_
        rintro e w6 ⟨rfl,hd6,dz⟩
        have iH:Hid (w.grownBy w6 (some E.R)):=ay bY.out dz
        have lS:Hid (w6.heap[w.heap.size]?=some ZE):=aA dz (by omega) gV.out
        have HD6:=aa hd6
        clear hd6 dz
        cases h7:tk E.l p ⟨#[97,108,105,118,101]⟩ with
        | true =>
         have hp1:p+1≤E.l.length:=Rp.dY h7
         go_wp2_with fail
         refine (ek E G p _ ⟨#[97,108,105,118,101]⟩ true (p+1) _ HD6 hp h7.symm rfl).mono ?_
         rintro e w7 ⟨rfl,hd7,ig⟩
         have kY:Hid (w.grownBy w7 (some E.R)):=ay iH.out ig
         have mR:Hid (w7.heap[w.heap.size]?=some ZE):=aA ig (by omega) lS.out
         have HD7:=aa hd7
         clear hd7 ig
         obtain ⟨r9,iI⟩:∃ r9,r9=Rp.pU E.l E.en d (Rp.dm E.l E.en d) (p+1):=⟨_,rfl⟩
         have gF:=aa iI
         have lg:Hid (r=Rp.andThen r9 fun q ks=>.ok (q,⟨24,0,⟨#[]⟩,ks⟩)):=by unfold Hid;rw [hr.out];unfold Rp.piece;rw [if_neg sw.out,h1,h2,h3,h4,h5,h6,h7,iI];rfl
         clear iI
         go_wp2_with fail
         refine (hX1.out (p+1) r9 _ HD7 hp1 gF).mono ?_
         rintro e w8 ⟨aL,bL⟩
         have bT:Hid (w.grownBy w8 (some E.R)):=ay kY.out aL
         have bz:w8.heap[w.heap.size]?=some ZE:=aA aL (by omega) mR.out
         have rZ:w.heap.size<w7.heap.size:=lt_of_block mR.out
         cases r9 with
         | error er =>
          clear aL bz
          obtain ⟨e1,e2⟩:=er
          obtain ⟨rfl,aD⟩:=bL
          have aS:=aa aD
          have ae:Hid (r=.error (e1,e2)):=lg.out
          clear aD
          go_wp2
          exact ⟨rfl,bT.out,by rw [ae.out];exact ⟨rfl,aS.out⟩⟩
         | ok qx =>
          obtain ⟨q,ks⟩:=qx
          obtain ⟨⟨v,rfl,a,c,n,rfl,hq⟩,aD⟩:=bL
          have aS:=aa aD
          have HQ:=aa hq
          have ae:Hid (r=.ok (q,⟨24,0,⟨#[]⟩,ks⟩)):=lg.out
          obtain ⟨⟨z0,z1,z2,z3⟩,y0,y1,y2,y3⟩:=fP bz
          clear aD aL hq bz
          go_wp2
          refine bodyPost_ret (v:=dH ⟨24,0,⟨#[]⟩,ks⟩ a c) (by simp [results,Tryz.results157,go_sem,z0,z1,z2,z3]) rfl ?_
          refine ⟨eu bT.out (Nat.le_refl _) _ _ _ _,?_⟩
          rw [ae.out]
          exact ⟨⟨_,rfl,a,c,n,rfl,(HQ.out.head 24 0 ⟨#[]⟩ (by decide)).keep (fun b hb=>⟨⟨by omega,by simp only [World.bC];omega⟩,kz (by omega) _ _ _ _⟩)⟩,h.out.grown G (eu bT.out (Nat.le_refl _) _ _ _ _) (aS.out.rd.four (by omega) _ _ _ _)⟩
        | false =>
         go_wp2_with fail
         refine (ek E G p _ ⟨#[97,108,105,118,101]⟩ false p _ HD6 hp h7.symm rfl).mono ?_
         rintro e w7 ⟨rfl,hd7,ig⟩
         have kY:Hid (w.grownBy w7 (some E.R)):=ay iH.out ig
         have mR:Hid (w7.heap[w.heap.size]?=some ZE):=aA ig (by omega) lS.out
         have HD7:=aa hd7
         clear hd7 ig
         cases h8:tk E.l p ⟨#[114,101,115,117,109,101]⟩ with
         | true =>
          have hp1:p+1≤E.l.length:=Rp.dY h8
          go_wp2_with fail
          refine (ek E G p _ ⟨#[114,101,115,117,109,101]⟩ true (p+1) _ HD7 hp h8.symm rfl).mono ?_
          rintro e vV ⟨rfl,hd28,vW⟩
          have GQ:Hid (w.grownBy vV (some E.R)):=ay kY.out vW
          have zW:Hid (vV.heap[w.heap.size]?=some ZE):=aA vW (by omega) mR.out
          have GR:=aa hd28
          clear hd28 vW
          obtain ⟨r9,iI⟩:∃ r9,r9=Rp.uo E.l E.en d (Rp.dm E.l E.en d) (p+1):=⟨_,rfl⟩
          have gF:=aa iI
          have lg:Hid (r=Rp.andThen r9 fun q ks=>.ok (q,⟨23,0,⟨#[]⟩,ks⟩)):=by unfold Hid;rw [hr.out];unfold Rp.piece;rw [if_neg sw.out,h1,h2,h3,h4,h5,h6,h7,h8,iI];rfl
          clear iI
          go_wp2_with fail
          refine (hX2.out (p+1) r9 _ GR hp1 gF).mono ?_
          rintro e w8 ⟨aL,bL⟩
          have bT:Hid (w.grownBy w8 (some E.R)):=ay GQ.out aL
          have bz:w8.heap[w.heap.size]?=some ZE:=aA aL (by omega) zW.out
          have rZ:w.heap.size<vV.heap.size:=lt_of_block zW.out
          cases r9 with
          | error er =>
           clear aL bz
           obtain ⟨e1,e2⟩:=er
           obtain ⟨rfl,aD⟩:=bL
           have aS:=aa aD
           have ae:Hid (r=.error (e1,e2)):=lg.out
           clear aD
           go_wp2
           exact ⟨rfl,bT.out,by rw [ae.out];exact ⟨rfl,aS.out⟩⟩
          | ok qx =>
           obtain ⟨q,ks⟩:=qx
           obtain ⟨⟨v,rfl,a,c,n,rfl,hq⟩,aD⟩:=bL
           have aS:=aa aD
           have HQ:=aa hq
           have ae:Hid (r=.ok (q,⟨23,0,⟨#[]⟩,ks⟩)):=lg.out
           obtain ⟨⟨z0,z1,z2,z3⟩,y0,y1,y2,y3⟩:=fP bz
           clear aD aL hq bz
           go_wp2
           refine bodyPost_ret (v:=dH ⟨23,0,⟨#[]⟩,ks⟩ a c) (by simp [results,Tryz.results157,go_sem,z0,z1,z2,z3]) rfl ?_
           refine ⟨eu bT.out (Nat.le_refl _) _ _ _ _,?_⟩
           rw [ae.out]
           exact ⟨⟨_,rfl,a,c,n,rfl,(HQ.out.head 23 0 ⟨#[]⟩ (by decide)).keep (fun b hb=>⟨⟨by omega,by simp only [World.bC];omega⟩,kz (by omega) _ _ _ _⟩)⟩,h.out.grown G (eu bT.out (Nat.le_refl _) _ _ _ _) (aS.out.rd.four (by omega) _ _ _ _)⟩
         | false =>
          go_wp2_with fail
          refine (ek E G p _ ⟨#[114,101,115,117,109,101]⟩ false p _ HD7 hp h8.symm rfl).mono ?_
          rintro e vV ⟨rfl,hd28,vW⟩
          have GQ:Hid (w.grownBy vV (some E.R)):=ay kY.out vW
          have zW:Hid (vV.heap[w.heap.size]?=some ZE):=aA vW (by omega) mR.out
          have GR:=aa hd28
          clear hd28 vW
          have pW:Hid (r=Rp.named E.l E.en d (Rp.dm E.l E.en d) p):=by unfold Hid;rw [hr.out];unfold Rp.piece;rw [if_neg sw.out,h1,h2,h3,h4,h5,h6,h7,h8];rfl
          go_wp2_with fail
          refine (hN.out p r _ GR hp pW).mono ?_
          rintro e w8 ⟨aL,bL⟩
          have bT:Hid (w.grownBy w8 (some E.R)):=ay GQ.out aL
          have bz:w8.heap[w.heap.size]?=some ZE:=aA aL (by omega) zW.out
          have rZ:w.heap.size<vV.heap.size:=lt_of_block zW.out
          cases r with
          | error er =>
           obtain ⟨e1,e2⟩:=er
           obtain ⟨rfl,aD⟩:=bL
           have aS:=aa aD
           clear aD aL bz
           go_wp2
           exact ⟨rfl,bT.out,rfl,aS.out⟩
          | ok qx =>
           obtain ⟨q,x⟩:=qx
           obtain ⟨⟨v,rfl,a,c,n,rfl,hq⟩,aD⟩:=bL
           have aS:=aa aD
           have HQ:=aa hq
           obtain ⟨⟨z0,z1,z2,z3⟩,y0,y1,y2,y3⟩:=fP bz
           clear aD aL hq bz
           go_wp2
           refine bodyPost_ret (v:=dH x a c) (by simp [results,Tryz.results157,go_sem,z0,z1,z2,z3]) rfl ?_
           refine ⟨eu bT.out (Nat.le_refl _) _ _ _ _,⟨_,rfl,a,c,n,rfl,HQ.out.keep (fun b hb=>⟨⟨by omega,by simp only [World.bC];omega⟩,kz (by omega) _ _ _ _⟩)⟩,h.out.grown G (eu bT.out (Nat.le_refl _) _ _ _ _) (aS.out.rd.four (by omega) _ _ _ _)⟩
end Go.Proofs.YtolfleeidpeomaaGreatDoor
