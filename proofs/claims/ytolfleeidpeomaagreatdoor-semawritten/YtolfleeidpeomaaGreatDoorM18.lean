/- A body's row of statements as it grows. -/
import Derived.Test.YtolfleeidpeomaaGreatDoorM17
import Derived.Test.YtolfleeidpeomaaGreatDoorM15
import Derived.Test.YtolfleeidpeomaaGreatDoorM16
set_option maxRecDepth 100000
set_option maxHeartbeats 2000000
namespace Go.Proofs.YtolfleeidpeomaaGreatDoor
open Go.RowKit
theorem Tryz.X8:(Tryz.prog.info? 124).map (fun i=>(i.zero,i.size,i.bytes))=some (some (.agg #[.int .i64 0,.string ⟨#[]⟩,.int .i64 0,.int .i64 0,.string ⟨#[]⟩,.slice none 0 0,.slice none 0 0,.slice none 0 0]),8,128):=by kernel_rfl
abbrev mW:=Sy.St × (Option Addr × Nat) × (Option Addr × Nat) × (Option Addr × Nat)
abbrev qZ (i:mW):List Value:=[.int .i64 i.1.kind,.string i.1.name,.int .i64 i.1.x.kind,.int .i64 i.1.x.n,.string i.1.x.name,.slice i.2.1.1 i.1.x.kids.length i.2.1.2,.slice i.2.2.1.1 i.1.body.length i.2.2.1.2,.slice i.2.2.2.1 i.1.els.length i.2.2.2.2]
def nU (its:List mW):List Value:=its.flatMap qZ
theorem Oh:∀ its,(nU its).length=its.length * 8
 | []=>rfl
 | i :: its=>by have:=Oh its;simp only [nU,List.flatMap_cons,List.length_append,List.length_cons] at *;simp only [this,List.length_nil];omega
theorem X9 (l:List mW)(i:mW):nU (l++[i])=nU l++qZ i:=by simp [nU]
theorem Oi:∀ (its:List mW) (i:Nat) (it:mW),its[i]?=some it→∀ j,j<8→(nU its)[i * 8+j]?=(qZ it)[j]?
 | [],i,it,h,_,_=>by simp at h
 | x :: its,0,it,h,j,hj=>by
  simp at h;subst h
  simp only [nU,List.flatMap_cons,Nat.zero_mul,Nat.zero_add]
  rw [List.getElem?_append_left (by simpa using hj)]
 | x :: its,i+1,it,h,j,hj=>by
  have ih:=Oi its i it (by simpa using h) j hj
  simp only [nU,List.flatMap_cons] at ih ⊢
  rw [List.getElem?_append_right (by simp;omega)]
  have e:(i+1) * 8+j - (qZ x).length=i * 8+j:=by simp;omega
  rw [e,ih]
theorem Ya (it:mW):∀ u ∈ qZ it,u.oneCell'=true:=by
 intro u ho
 simp only [List.mem_cons,List.not_mem_nil,or_false] at ho
 rcases ho with rfl | rfl | rfl | rfl | rfl | rfl | rfl | rfl <;> rfl
theorem Yb (W:World)(it:mW)(t:TypeId):∀ j u,(qZ it)[j]?=some u→(W.alloc (.cells (qZ it).toArray t)).cell? ((⟨W.heap.size,0,none⟩:Addr).add j)=some u:=by
 intro j u hu
 have hadd:(⟨W.heap.size,0,none⟩:Addr).add j=⟨W.heap.size,j,none⟩:=by unfold Addr.add;split <;> simp_all
 rw [hadd,World.cell?_alloc_mark]
 simpa using hu
theorem Yc {Q:Nat→Prop}{w:World}{B n h:Nat}{v:Value}{its:List mW}(hown:w.ownsRow B 124 8 v n (nU its))(hit:∀ it ∈ its,bH Q w h it.1 it.2.1.1 it.2.2.1.1 it.2.2.2.1)(hQ:∀ g,v.ownBlock=some g→Q g) :
  ∃ a c,v=.slice a its.length c∧dO Q w (bH Q w h) (its.map (·.1)) a:=by
 have hl:its.length=n:=by have:=hown.1;rw [Oh] at this;omega
 subst hl
 rcases hown.2 with ⟨rfl,h0⟩ | ⟨g,cap,cur,rfl,hg,hh,_,_,_,ht⟩
 ·refine ⟨none,0,by rw [h0],fun i k hk=>?_⟩
  have:=(List.getElem?_eq_some_iff.1 hk).1
  simp at this
  omega
 ·refine ⟨_,cap,rfl,fun i k hk=>?_⟩
  obtain ⟨it,hi,rfl⟩:∃ it,its[i]?=some it∧it.1=k:=by simpa using hk
  have hlt:=(List.getElem?_eq_some_iff.1 hi).1
  have key:∀ j,j<8→w.cell? ⟨g,0+i * 8+j,none⟩=(qZ it)[j]?:=by
   intro j hj
   have e:=Oi its i it hi j hj
   rw [← ht,List.getElem?_take,if_pos (by omega)] at e
   rw [Nat.zero_add,← e]
   simp [World.cell?,hh]
  exact ⟨g,0,it.2.1.1,it.2.1.2,it.2.2.1.1,it.2.2.1.2,it.2.2.2.1,it.2.2.2.2,rfl,hQ g rfl,key 0 (by decide),key 1 (by decide),key 2 (by decide),key 3 (by decide),key 4 (by decide),key 5 (by decide),key 6 (by decide),key 7 (by decide),hit it (List.mem_of_getElem? hi)⟩
structure sI (E:Env) (d:Nat) (w:World) (r:au (List Sy.St)) (its:List mW) (q fu h:Nat) (v:Value) (W:World):Prop where
 own:W.ownsRow w.heap.size 124 8 v its.length (nU its)
 H6:∀ it ∈ its,bH (fun b=>w.heap.size≤b∧b<W.heap.size∧v.ownBlock≠some b) W h it.1 it.2.1.1 it.2.2.1.1 it.2.2.2.1
 eP:az E W q (200 - (d:Int))
 le:q≤E.l.length
 grown:w.grownBy W (some E.R)
 eq:r=Rp.stats E.l E.en (Rp.stat E.l E.en d (Rp.body E.l E.en d)) fu (its.map (·.1)) q
 fuel:E.l.length<q+fu
 few:its.length≤q
theorem sI.kept {E:Env}{d:Nat}{w:World}{r:au (List Sy.St)}{its:List mW}{q fu h:Nat}{v:Value}{W W':World}(b:sI E d w r its q fu h v W)(hR:E.R<w.heap.size)(hg:W.grownBy W' (some E.R)) :
  W'.ownsRow w.heap.size 124 8 v its.length (nU its)∧(∀ it ∈ its,bH (fun b=>w.heap.size≤b∧b<W'.heap.size∧v.ownBlock≠some b) W' h it.1 it.2.1.1 it.2.2.1.1 it.2.2.2.1)∧w.grownBy W' (some E.R):=by
 have hs:=hg.size
 refine ⟨b.own.kept hg ?_,fun it hit=>(b.H6 it hit).keep (fun k hk=>⟨⟨hk.1,by omega,hk.2.2⟩,hg.block k hk.2.1 (by simp;omega)⟩),ay b.grown hg⟩
 cases hv:v.ownBlock with
 | none=>exact .inl rfl
 | some g=>right;have:=b.own.lt g hv;simp;omega
theorem sI.next {E:Env}{d:Nat}{w:World}{r:au (List Sy.St)}{its:List mW}{q fu h:Nat}{v:Value}{W Wk w3 w4:World}{q2 hx g cap:Nat}{it:mW}{ob:Obj}(G:Good E){p:Nat}{op:Int}(h0:az E w p op)(b:sI E d w r its q (fu+1) h v W)(hg1:W.grownBy Wk (some E.R))(hg2:Wk.grownBy w3 (some E.R))(hd3:az E w3 q2 (200 - (d:Int)))
  (hit:bH (gK Wk w3) w3 hx it.1 it.2.1.1 it.2.2.1.1 it.2.2.2.1) (hq:q<q2∧q2≤E.l.length) (hr:r=Rp.stats E.l E.en (Rp.stat E.l E.en d (Rp.body E.l E.en d)) fu ((its.map (·.1))++[it.1]) q2)
  (hown:w4.ownsRow w.heap.size 124 8 (.slice (some ⟨g,0,none⟩) (its.length+1) cap) (its.length+1) (nU its++qZ it)) (hgr:(w3.alloc ob).grownBy w4 v.ownBlock) (hw:v.ownBlock=some g∨g=(w3.alloc ob).heap.size) :
  sI E d w r (its++[it]) q2 fu (max h hx) (.slice (some ⟨g,0,none⟩) (its.length+1) cap) w4:=by
 have hR:=h0.lt
 obtain ⟨o3,s3,g3⟩:=b.kept hR (ay hg1 hg2)
 have hsk:=hg1.size
 have hs3:=hg2.size
 have hs4:=hgr.size
 have hsw:=b.grown.size
 simp only [dn] at hs4
 have hvb:∀ k,v.ownBlock=some k→w.heap.size≤k∧k<W.heap.size:=fun k hk=>b.own.lt k hk
 have far:∀ k,k<w3.heap.size→v.ownBlock≠some k→w4.heap[k]?=w3.heap[k]?:=fun k hk hn=>(hgr.block k (by simp;omega) (fun e=>hn e.symm)).trans (Below.heap_alloc _ _ _ hk)
 have uw:∀ k,k<w3.heap.size→v.ownBlock≠some k→(Value.slice (some ⟨g,0,none⟩) (its.length+1) cap).ownBlock≠some k:=by
  intro k hk hn e
  simp only [Value.ownBlock,Option.some.injEq] at e
  rcases hw with e2 | e2
  ·exact hn (by rw [e2,e])
  ·simp only [dn] at e2;omega
 have hgw:w.grownBy w4 (some E.R):=⟨hgr.os.trans g3.os,hgr.tape.trans g3.tape,hgr.output.trans g3.output,by omega,fun k hk hn=>by
  rw [far k (by omega) (fun e=>by have:=(hvb k e).1;omega)];exact g3.block k hk hn⟩
 refine ⟨by rw [X9];simpa using hown,fun i hi=>?_,h0.grown G hgw ((far E.R (by omega) (fun e=>by have:=(hvb _ e).1;omega)).trans hd3.rd),hq.2,hgw,by rw [List.map_append];exact hr,by have:=b.fuel;omega,by have:=b.few;simp;omega⟩
 rcases List.mem_append.1 hi with hi | hi
 ·exact ((s3 i hi).keep (fun k hk=>⟨⟨hk.1,by omega,uw k hk.2.1 hk.2.2⟩,far k hk.2.1 hk.2.2⟩)).up (Nat.le_max_left _ _)
 ·simp only [List.mem_singleton] at hi
  subst hi
  have hn:∀ k,gK Wk w3 k→v.ownBlock≠some k:=fun k hk e=>by have h1:=(hvb k e).2;have h2:=hk.1;omega
  exact (hit.keep (fun k hk=>⟨⟨by have:=hk.1;omega,by have:=hk.2;omega,uw k hk.2 (hn k hk)⟩,far k hk.2 (hn k hk)⟩)).up (Nat.le_max_right _ _)
theorem sI.out {E:Env}{d:Nat}{w:World}{r:au (List Sy.St)}{its:List mW}{q fu h:Nat}{v:Value}{W W':World}(b:sI E d w r its q fu h v W)(hR:E.R<w.heap.size)(few:E.l.length≤6000)(hg:W.grownBy W' (some E.R)):Hf w W' (its.map (·.1)) v:=by
 obtain ⟨o3,s3,g3⟩:=b.kept hR hg
 obtain ⟨a,c,hv,hq⟩:=Yc (Q:=gK w W') o3 (fun it hit=>(s3 it hit).keep (fun k hk=>⟨⟨hk.1,hk.2.1⟩,rfl⟩)) (fun g hgg=>o3.lt g hgg)
 exact ⟨a,c,h,by rw [hv];simp,by have:=b.few;have:=b.le;simp;omega,hq⟩
def Dn:Value→Nat
 | .slice _ n _=>n
 | _=>0
theorem Yd:yg 105 Rp.vG:=fun t u ht=>VD t u ht
theorem Ye (E:Env)(G:Good E):Aa E 0:=by
 intro p r w h hp hr
 have hR:=h.out.lt
 obtain ⟨r1,hr1⟩:∃ r1,r1=Rp.want E.l E.en ⟨#[123]⟩ p:=⟨_,rfl⟩
 have HR1:=aa hr1
 have aR:Hid (r=Rp.andThen r1 fun q _=>.error (4,(pk E.l q E.en).pos)):=by rw [hr.out,hr1];rfl
 have HA1:Hid (∀ q x,r1=.ok (q,x)→q≤E.l.length):=fun q x hx=>(Rp.eH E.l E.en _ p q x hp (by rw [← hr1,hx])).2
 clear hr1
 go_enter_defers Tryz.func71,Tryz.ntmps71
 go_wp2_with fail
 refine (iW E G p _ ⟨#[123]⟩ r1 _ h hp HR1).mono ?_
 rintro e w1 ⟨hg1,hf1⟩
 have ax:=aa hg1
 clear hg1
 cases r1 with
 | error er =>
  obtain ⟨e1,e2⟩:=er
  obtain ⟨rfl,hd1⟩:=hf1
  have HD1:=aa hd1
  have ae:Hid (r=.error (e1,e2)):=aR.out
  clear hd1
  go_wp2
  refine ⟨ax.out,?_⟩
  rw [ae.out]
  exact ⟨rfl,HD1.out⟩
 | ok qx =>
  obtain ⟨q1,u1⟩:=qx
  obtain ⟨⟨v,rfl,rfl⟩,hd1⟩:=hf1
  have HD1:Hid (az E w1 q1 200):=hd1
  have hq1:q1≤E.l.length:=HA1.out q1 u1 rfl
  have ae:Hid (r=.error (4,(pk E.l q1 E.en).pos)):=aR.out
  clear hd1
  go_wp2_with fail
  refine (Gp E G q1 _ HD1 hq1).mono ?_
  rintro e w2 ⟨rfl,hg2,hd2⟩
  have HG2:Hid (w.grownBy w2 (some E.R)):=ay ax.out hg2
  have HD2:=aa hd2
  clear hg2 hd2
  go_wp2
  refine ⟨HG2.out,?_⟩
  rw [ae.out]
  exact ⟨rfl,HD2.out⟩
theorem Yf (E:Env)(G:Good E)(d:Nat)(hd:d<200)(hT:Hid (Og E d)):Aa E (d+1):=by
 intro p r w h hp hr
 have hR:=h.out.lt
 have zY:=G.few
 obtain ⟨i0,hi,hz0,hz1,hz2⟩:=info_parts Tryz.X8
 obtain ⟨r1,hr1⟩:∃ r1,r1=Rp.want E.l E.en ⟨#[123]⟩ p:=⟨_,rfl⟩
 have HR1:=aa hr1
 have aR:Hid (r=Rp.andThen r1 fun q _=>Rp.stats E.l E.en (Rp.stat E.l E.en d (Rp.body E.l E.en d)) (E.l.length+1) [] q):=by rw [hr.out,hr1];rfl
 have HA1:Hid (∀ q x,r1=.ok (q,x)→q≤E.l.length):=fun q x hx=>(Rp.eH E.l E.en _ p q x hp (by rw [← hr1,hx])).2
 have zN:Hid ((200:Int) - ((d+1:Nat):Int)+1=200 - (d:Int)):=by unfold Hid;omega
 clear hr1
 go_enter_defers Tryz.func71,Tryz.ntmps71
 go_wp2_with fail
 refine (iW E G p _ ⟨#[123]⟩ r1 _ h hp HR1).mono ?_
 rintro e w1 ⟨hg1,hf1⟩
 have ax:=aa hg1
 clear hg1
 cases r1 with
 | error er =>
  obtain ⟨e1,e2⟩:=er
  obtain ⟨rfl,hd1⟩:=hf1
  have HD1:=aa hd1
  have ae:Hid (r=.error (e1,e2)):=aR.out
  clear hd1
  go_wp2
  refine ⟨ax.out,?_⟩
  rw [ae.out]
  exact ⟨rfl,HD1.out⟩
 | ok qx =>
  obtain ⟨q1,u1⟩:=qx
  obtain ⟨⟨v,rfl,rfl⟩,hd1⟩:=hf1
  have HD1:=aa hd1
  have hq1:q1≤E.l.length:=HA1.out q1 u1 rfl
  clear hd1
  go_wp2_with fail
  refine (Gq E G q1 _ _ HD1 hq1 (by omega) (by omega)).mono ?_
  rintro e w2 ⟨rfl,hd2,hg2⟩
  rw [zN.out] at hd2
  have HG2:Hid (w.grownBy w2 (some E.R)):=ay ax.out hg2
  have gM:Hid (sI E d w r [] q1 (E.l.length+1) 0 (.slice none 0 0) w2):=⟨World.ownsRow_nil _ _ _ _,fun it hit=>by simp at hit,hd2,hq1,HG2.out,aR.out,by omega,Nat.zero_le _⟩
  clear hg2 hd2
  go_wp2
  go_loopw [3] (fun v wr=>∃ its q fu h,sI E d w r its q fu h v wr) (fun v _=>E.l.length+1 - Dn v)
  case atStart=>exact ⟨[],q1,_,0,gM.out⟩
  case round =>
   obtain ⟨its,q,fu,hh,hA⟩:=hrel
   clear gM HG2 ax
   have HA:=aa hA
   have hq:=hA.le
   have HD3:=aa hA.eP
   obtain ⟨av,cv,hv⟩:∃ a c,u3=.slice a its.length c:=by
    rcases hA.own.2 with ⟨rfl,h0⟩ | ⟨g,cap,cur,rfl,_⟩
    ·rw [h0];exact ⟨_,_,rfl⟩
    ·exact ⟨_,_,rfl⟩
   subst hv
   have hil:=hA.few
   obtain ⟨f',hf'⟩:∃ f',fu=f'+1:=⟨fu - 1,by have:=hA.fuel;omega⟩
   subst hf'
   clear hA
   obtain ⟨t,ht⟩:∃ t,t=tk E.l q ⟨#[125]⟩:=⟨_,rfl⟩
   have HT:=aa ht
   have gy:Hid (r=if t then .ok (q+1,its.map (·.1)) else match fZ Rp.vG (its.map (·.1)).length 50 (pk E.l q E.en) q with
    | .error e=>.error e
    | .ok _=>Rp.andThen (Rp.stat E.l E.en d (Rp.body E.l E.en d) q) fun q s=>Rp.stats E.l E.en (Rp.stat E.l E.en d (Rp.body E.l E.en d)) f' ((its.map (·.1))++[s]) q):=by rw [HA.out.eq,ht];rfl
   clear ht
   go_wp2_with fail
   refine (ek E G q _ ⟨#[125]⟩ t _ _ HD3 hq HT rfl).mono ?_
   rintro e w3 ⟨rfl,hd3,hg3⟩
   have aK:=aa hg3
   have HD4:=aa hd3
   clear hd3 hg3
   cases t with
   | true =>
    have ae:Hid (r=.ok (q+1,its.map (·.1))):=gy.out
    go_wp2
    refine leaves_cons (f:=104) (args:=#[.pointer (some ⟨E.R,0,none⟩)]) (by simp) (by simp [go_sem]) ?_
    refine (vL E G (q+1) _ _ _ HD4 (by omega) (by omega)).mono ?_
    rintro e u' w4 ⟨rfl,rfl,hd4,hg4⟩
    rw [show (200:Int) - (d:Int) - 1=200 - ((d+1:Nat):Int) by omega] at hd4
    show Leaves _ _ _ _ [] .returning _
    have hgg:=ay aK.out hg4
    refine ⟨.slice av its.length cv,by simp [results,Tryz.results71,go_sem],ay HA.out.grown hgg,?_⟩
    rw [ae.out]
    exact ⟨⟨_,rfl,HA.out.out hR zY hgg⟩,hd4⟩
   | false =>
    obtain ⟨r4,hr4⟩:∃ r4,r4=jD () (fZ Rp.vG its.length 50 (pk E.l q E.en) q):=⟨_,rfl⟩
    have HR4:=aa hr4
    have gX:Hid ((∀ e,r4=.error e→r=.error e)∧(∀ x,r4=.ok x→r=Rp.andThen (Rp.stat E.l E.en d (Rp.body E.l E.en d) q) fun q s=>Rp.stats E.l E.en (Rp.stat E.l E.en d (Rp.body E.l E.en d)) f' ((its.map (·.1))++[s]) q)):=by
     have h3:=gy.out
     rw [List.length_map] at h3
     unfold Hid
     rw [hr4]
     cases hl:fZ Rp.vG its.length 50 (pk E.l q E.en) q with
     | error e=>rw [hl] at h3;exact ⟨fun e' he=>by simp [jD] at he;rw [← he];exact h3,fun x hx=>by simp [jD] at hx⟩
     | ok x=>rw [hl] at h3;exact ⟨fun e' he=>by simp [jD] at he,fun x hx=>h3⟩
    clear hr4
    go_wp2_with fail
    refine (G7 E G q _ 105 Rp.vG _ 50 r4 _ (by exact HD4) hq (fun a w=>by simp [go_sem]) (aa Yd) HR4).mono ?_
    rintro e w4 ⟨hg4,jh⟩
    have aX:=aa (ay aK.out hg4)
    have qc:Hid (w.grownBy w4 (some E.R)):=ay HA.out.grown aX.out
    clear hg4
    cases r4 with
    | error er =>
     obtain ⟨e1,e2⟩:=er
     obtain ⟨rfl,qe,oe,hde,ho1,ho2⟩:=jh
     have wu:=aa hde
     have ae:Hid (r=.error (e1,e2)):=(gX.out.1 _ rfl)
     clear hde
     go_wp2
     refine leaves_cons (f:=104) (args:=#[.pointer (some ⟨E.R,0,none⟩)]) (by simp) (by simp [go_sem]) ?_
     refine (vL E G qe oe _ _ wu (by omega) (by omega)).mono ?_
     rintro e u' we ⟨rfl,rfl,hdl,hgl⟩
     refine ⟨ay qc.out hgl,?_⟩
     rw [ae.out]
     exact ⟨rfl,qe,oe - 1,hdl,by omega,by omega⟩
    | ok qx =>
     obtain ⟨q4,u4⟩:=qx
     have hqq:q4=q:=by
      have:=HR4.out
      unfold fZ at this
      split at this
      ·simp [jD] at this
      ·simp [jD] at this;exact this
     obtain ⟨⟨v,rfl,rfl⟩,hd4⟩:=jh
     rw [hqq] at hd4
     have HD5:=aa hd4
     obtain ⟨r5,fo⟩:∃ r5,r5=Rp.stat E.l E.en d (Rp.body E.l E.en d) q:=⟨_,rfl⟩
     have jN:=aa fo
     have gT:Hid (r=Rp.andThen r5 fun q s=>Rp.stats E.l E.en (Rp.stat E.l E.en d (Rp.body E.l E.en d)) f' ((its.map (·.1))++[s]) q):=by rw [gX.out.2 _ rfl,fo];rfl
     have nT:Hid (∀ q' x,r5=.ok (q',x)→q<q'∧q'≤E.l.length):=fun q' x hx=>Rp.Mt (Rp.qL E.l E.en d) q q' x hq (by rw [← fo,hx])
     clear fo hd4 hqq qc
     go_wp2_with fail
     refine (hT.out q r5 _ HD5 hq jN).mono ?_
     rintro e w5 ⟨hg5,jF⟩
     have bY:=aa hg5
     have qc:Hid (w.grownBy w5 (some E.R)):=ay HA.out.grown (ay aX.out hg5)
     clear hg5
     cases r5 with
     | error er =>
      obtain ⟨e1,e2⟩:=er
      obtain ⟨rfl,qe,oe,hde,ho1,ho2⟩:=jF
      have wu:=aa hde
      have ae:Hid (r=.error (e1,e2)):=gT.out
      clear hde
      go_wp2
      refine leaves_cons (f:=104) (args:=#[.pointer (some ⟨E.R,0,none⟩)]) (by simp) (by simp [go_sem]) ?_
      refine (vL E G qe oe _ _ wu (by omega) (by omega)).mono ?_
      rintro e u' we ⟨rfl,rfl,hdl,hgl⟩
      refine ⟨ay qc.out hgl,?_⟩
      rw [ae.out]
      exact ⟨rfl,qe,oe - 1,hdl,by omega,by omega⟩
     | ok qx =>
      obtain ⟨q5,s⟩:=qx
      obtain ⟨⟨v,rfl,xa,xc,ba,bc,ea,ec,n,rfl,Ab⟩,hd5⟩:=jF
      have H7:=aa Ab
      have HD6:=aa hd5
      have wy:=aa (nT.out q5 s rfl)
      have qX:=wy.out.2
      have HOWN:=aa (HA.out.kept hR (ay aX.out bY.out)).1
      have hs5:=qc.out.size
      clear Ab hd5
      go_wp2_with (at_builtin;refine sD rfl _ _ 48 rfl w.heap.size 124 i0 _ 8 128 Tryz.underlying48 hi hz0 hz1 hz2 rfl (by decide) _ its.length (nU its) rfl (HOWN.out.alloc _) ⟨w5.heap.size,0,none⟩ 1 1 (qZ (s,(xa,xc),(ba,bc),(ea,ec))) rfl rfl (Yb _ (s,(xa,xc),(ba,bc),(ea,ec)) _) (Ya _) (by decide) (by unfold maxLen;omega) (by omega) (by simp;omega) ?_;intro g cap w6 hown6 uB yj)
      have HN:=aa (HA.out.next (it:=(s,(xa,xc),(ba,bc),(ea,ec))) G h.out aX.out bY.out HD6.out H7.out wy.out gT.out hown6 uB yj)
      clear hown6 uB yj
      go_wp2
      go_roundw
      case rel=>exact ⟨_,q5,f',_,HN.out⟩
      case measure=>simp [Dn];omega
theorem Oj (E:Env)(G:Good E):∀ d,d≤200→Aa E d
 | 0,_=>Ye E G
 | d+1,hd=>by
  have hB:=aa (Oj E G d (by omega))
  have hX:=aa (XT E G d (by omega))
  exact Yf E G d (by omega) (aa (X6 E G d hX hB (aa (XV E G d hX)) (aa (XU E G d hX)) (aa (XW E G d hX hB))))
abbrev Yg:World→Sy.Ty→Value→Prop:=fun _ t v=>v=.agg #[.int .i64 t.kind,.string t.gen]∧t.gen.size≤6000
abbrev Yh:World→Int→Value→Prop:=fun _ n v=>v=.int .i64 n
theorem Ac (E:Env)(G:Good E)(p:Nat)(op:Int)(r:au Sy.Ty)(w:World)(h:Hid (az E w p op))(hp:p≤E.l.length)(hr:Hid (r=Rp.typ E.l E.en p)) :
  Calls Tryz.prog 98 #[.pointer (some ⟨E.R,0,none⟩)] w fun e w'=>Ends E op w r Yg e w':=by
 have hz:=(G.toks.pk p E.en).1
 have hz2:(qI E.l p E.en).gen.size≤6000:=by
  unfold qI
  split
  ·decide
  ·split
   ·decide
   ·exact hz
 refine (Vx E.B E.R E.ta E.tc E.l p E.en _ op (oM E.l p E.en) (qI E.l p E.en) w h.out.rd h.out.tk G.below hp rfl (by unfold maxLen;omega) rfl).mono ?_
 intro e w' hf
 exact zK (x:=qI E.l p E.en) G h.out hf (by rw [hr.out];unfold Rp.typ;cases oM E.l p E.en <;> rfl) ⟨rfl,hz2⟩
theorem Yi (E:Env)(G:Good E)(p:Nat)(op:Int)(r:au Int)(w:World)(h:Hid (az E w p op))(hp:p≤E.l.length)(hr:Hid (r=Rp.places E.l E.en p)) :
  Calls Tryz.prog 99 #[.pointer (some ⟨E.R,0,none⟩)] w fun e w'=>Ends E op w r Yh e w':=by
 refine (Vz E.B E.R E.ta E.tc E.l p E.en _ op (nL E.l p E.en) (pk E.l p E.en) w h.out.rd h.out.tk G.below hp rfl ?_ rfl).mono ?_
 ·have:=(G.toks.pk p E.en).2;first | exact this | exact this.2 | omega
 ·intro e w' hf
  exact zK (x:=((pk E.l p E.en).num:Int)) G h.out hf (by rw [hr.out];unfold Rp.places;cases nL E.l p E.en <;> rfl) rfl
theorem Tryz.Yj:(Tryz.prog.info? 118).map (fun i=>(i.zero,i.size,i.bytes))=some (some (.agg #[.string ⟨#[]⟩,.int .i64 0,.string ⟨#[]⟩]),3,40):=by kernel_rfl
abbrev oV (i:Sy.Pm):List Value:=[.string i.name,.int .i64 i.ty.kind,.string i.ty.gen]
def cells3 (its:List Sy.Pm):List Value:=its.flatMap oV
theorem Yk (l:List Sy.Pm)(i:Sy.Pm):cells3 (l++[i])=cells3 l++oV i:=by simp [cells3]
theorem Ol:∀ (its:List Sy.Pm) (i:Nat) (it:Sy.Pm),its[i]?=some it→∀ j,j<3→(cells3 its)[i * 3+j]?=(oV it)[j]?
 | [],i,it,h,_,_=>by simp at h
 | x :: its,0,it,h,j,hj=>by
  simp at h;subst h
  simp only [cells3,List.flatMap_cons,Nat.zero_mul,Nat.zero_add]
  rw [List.getElem?_append_left (by simpa using hj)]
 | x :: its,i+1,it,h,j,hj=>by
  have ih:=Ol its i it (by simpa using h) j hj
  simp only [cells3,List.flatMap_cons] at ih ⊢
  rw [List.getElem?_append_right (by simp;omega)]
  have e:(i+1) * 3+j - (oV x).length=i * 3+j:=by simp;omega
  rw [e,ih]
theorem Yl (it:Sy.Pm):∀ u ∈ oV it,u.oneCell'=true:=by
 intro u ho
 simp only [List.mem_cons,List.not_mem_nil,or_false] at ho
 rcases ho with rfl | rfl | rfl <;> rfl
theorem Ym (W:World)(it:Sy.Pm)(t:TypeId):∀ j u,(oV it)[j]?=some u→(W.alloc (.cells (oV it).toArray t)).cell? ((⟨W.heap.size,0,none⟩:Addr).add j)=some u:=by
 intro j u hu
 have hadd:(⟨W.heap.size,0,none⟩:Addr).add j=⟨W.heap.size,j,none⟩:=by unfold Addr.add;split <;> simp_all
 rw [hadd,World.cell?_alloc_mark]
 simpa using hu
def lW (Q:Nat→Prop)(w:World)(l:List Sy.Pm)(a:Option Addr):Prop :=
 l.length≤6000∧∀ i p,l[i]?=some p→∃ b off,a=some ⟨b,off,none⟩∧Q b∧w.cell? ⟨b,off+i * 3,none⟩=some (.string p.name) ∧
   w.cell? ⟨b,off+i * 3+1,none⟩=some (.int .i64 p.ty.kind)∧w.cell? ⟨b,off+i * 3+2,none⟩=some (.string p.ty.gen)∧p.name.size≤6000∧p.ty.gen.size≤6000
theorem lW.keep {Q Q':Nat→Prop}{w w':World}(hk:∀ b,Q b→Q' b∧w'.heap[b]?=w.heap[b]?){l:List Sy.Pm}{a:Option Addr}(h:lW Q w l a):lW Q' w' l a:=⟨h.1,fun i p hi=>by
 obtain ⟨b,off,ha,hb,c0,c1,c2,r⟩:=h.2 i p hi
 have hc:∀ o,w'.cell? ⟨b,o,none⟩=w.cell? ⟨b,o,none⟩:=fun o=>World.cell?_of_block (a:=⟨b,o,none⟩) (hk b hb).2
 exact ⟨b,off,ha,(hk b hb).1,(hc _).trans c0,(hc _).trans c1,(hc _).trans c2,r⟩⟩
theorem lW.kL {Q:Nat→Prop}{w:World}{B:Nat}(hQ:∀ b,Q b→b<B){l:List Sy.Pm}{a:Option Addr}(h:lW Q w l a):rM B w l a:=⟨by have:=h.1;unfold maxLen;omega,fun i p hi=>by
 obtain ⟨b,off,ha,hb,c0,c1,c2,h1,h2⟩:=h.2 i p hi
 exact ⟨b,off,ha,hQ b hb,c0,c1,c2,by unfold maxLen;omega,by unfold maxLen;omega⟩⟩
abbrev rowP (v:Value):Obj:=.cells #[v] 47 (0,0)
structure rq (E:Env) (N:Nat) (w:World) (its:List Sy.Pm) (v:Value):Prop where
 rb:w.heap[N]?=some (vX E.R)
 ob:w.heap[N+1]?=some (rowP v)
 row:w.ownsRow (N+2) 118 3 v its.length (cells3 its)
 few:∀ it ∈ its,it.name.size≤6000∧it.ty.gen.size≤6000
def Ad (E:Env)(N:Nat)(w:World)(out:List Sy.Pm):Prop:=∃ v,rq E N w out v
theorem rq.kept {E:Env}{N:Nat}{w w':World}{its:List Sy.Pm}{v:Value}(k:rq E N w its v)(hg:w.grownBy w' (some E.R))(hR:E.R<N):rq E N w' its v :=
 ⟨(hg.block N (lt_of_block k.rb) (by simp;omega)).trans k.rb,(hg.block (N+1) (lt_of_block k.ob) (by simp;omega)).trans k.ob,
  k.row.kept hg (by
  cases hv:v.ownBlock with
  | none=>exact .inl rfl
  | some g=>right;have:=k.row.lt g hv;simp;omega),k.few⟩
abbrev Om (w:World):World→List Sy.Pm→Value→Prop:=fun w' ps v=>∃ a c,v=.slice a ps.length c∧lW (gK w w') w' ps a
theorem rq.out {E:Env}{w w':World}{its:List Sy.Pm}{v:Value}(k:rq E w.heap.size w' its v)(hl:its.length≤6000):Om w w' its v:=by
 rcases k.row.2 with ⟨rfl,h0⟩ | ⟨g,cap,cur,rfl,hg,hh,_,_,_,ht⟩
 ·exact ⟨none,0,by rw [h0],hl,fun i p hi=>by have:=(List.getElem?_eq_some_iff.1 hi).1;omega⟩
 ·refine ⟨_,cap,rfl,hl,fun i p hi=>?_⟩
  have hlt:=(List.getElem?_eq_some_iff.1 hi).1
  have key:∀ j,j<3→w'.cell? ⟨g,0+i * 3+j,none⟩=(oV p)[j]?:=by
   intro j hj
   have e:=Ol its i p hi j hj
   rw [← ht,List.getElem?_take,if_pos (by omega)] at e
   rw [Nat.zero_add,← e]
   simp [World.cell?,hh]
  have:=k.few p (List.mem_of_getElem? hi)
  exact ⟨g,0,rfl,⟨by omega,lt_of_block hh⟩,key 0 (by decide),key 1 (by decide),key 2 (by decide),this.1,this.2⟩
theorem rq.more {E:Env}{N:Nat}{w0 W w4:World}{its:List Sy.Pm}{v:Value}{it:Sy.Pm}{g cap:Nat}{ob:Obj}(k:rq E N W its v)(hN:w0.heap.size≤N)(hg0:w0.grownBy W (some E.R))(hs:it.name.size≤6000∧it.ty.gen.size≤6000)
  (hown:w4.ownsRow (N+2) 118 3 (.slice (some ⟨g,0,none⟩) (its.length+1) cap) (its.length+1) (cells3 its++oV it)) (hgr:(W.alloc ob).grownBy w4 v.ownBlock) :
  rq E N (w4.setCell ⟨N+1,0,none⟩ (.slice (some ⟨g,0,none⟩) (its.length+1) cap)) (its++[it]) (.slice (some ⟨g,0,none⟩) (its.length+1) cap)∧w0.grownBy (w4.setCell ⟨N+1,0,none⟩ (.slice (some ⟨g,0,none⟩) (its.length+1) cap)) (some E.R) ∧
   (∀ b,b<W.heap.size→v.ownBlock≠some b→b≠N+1→(w4.setCell ⟨N+1,0,none⟩ (.slice (some ⟨g,0,none⟩) (its.length+1) cap)).heap[b]?=W.heap[b]?)∧w4.heap[N+1]?=some (rowP v):=by
 have hgl:=hown.lt g rfl
 have hvb:∀ b,v.ownBlock=some b→N+2≤b∧b<W.heap.size:=fun b hb=>k.row.lt b hb
 have hs4:=hgr.size
 simp only [dn] at hs4
 have hsW:=hg0.size
 have hN1:N+1<W.heap.size:=lt_of_block k.ob
 have far:∀ b,b<N+2→w4.heap[b]?=W.heap[b]?:=fun b hb=>(hgr.block b (by simp;omega) (fun e=>by have:=(hvb b e.symm).1;omega)).trans (Below.heap_alloc _ _ _ (by omega))
 have wB:∀ b u,b≠N+1→(w4.setCell ⟨N+1,0,none⟩ u).heap[b]?=w4.heap[b]?:=fun b u hb=>Below.heap_setCell _ _ _ _ hb
 refine ⟨⟨by rw [wB _ _ (by omega),far _ (by omega)];exact k.rb,?_,?_,fun i hi=>?_⟩,⟨hgr.os.trans hg0.os,hgr.tape.trans hg0.tape,hgr.output.trans hg0.output,by simp only [World.bC];omega,fun b hb hn=>?_⟩,fun b hb h1 h2=>?_,(far _ (by omega)).trans k.ob⟩
 ·have h1:w4.heap[N+1]?=some (rowP v):=(far _ (by omega)).trans k.ob
  simp only [World.setCell,Array.getElem?_modify,if_true,h1,Option.map_some]
  rfl
 ·rw [Yk]
  have:=ownsRow_setCell_other (a:=⟨N+1,0,none⟩) hown (by simp only [Value.ownBlock];intro e;simp at e;omega) (.slice (some ⟨g,0,none⟩) (its.length+1) cap)
  simpa using this
 ·rcases List.mem_append.1 hi with hi | hi
  ·exact k.few i hi
  ·simp only [List.mem_singleton] at hi;subst hi;exact hs
 ·rw [wB _ _ (by omega),far _ (by omega)];exact hg0.block b hb hn
 ·rw [wB _ _ h2,hgr.block b (by simp;omega) (fun e=>h1 e.symm),Below.heap_alloc _ _ _ hb]
theorem az.cells {E:Env}(G:Good E){w u:World}{q:Nat}{op:Int}(h:az E w q op)(hR:∀ b,b≤E.R→u.heap[b]?=w.heap[b]?)(hM:u.heap[E.M]?=w.heap[E.M]?):az E u q op :=
 ⟨(hR _ (Nat.le_refl _)).trans h.rd,h.tk.on (fun b o hb=>World.cell?_of_block (a:=⟨b,o,none⟩) (hR b (by have:=G.below;omega))),hM.trans h.mp⟩
theorem az.ne {E:Env}{w:World}{q:Nat}{op:Int}(h:az E w q op){b:Nat}{cs:Array Value}{t:TypeId}{fr:Nat × Nat}(hb:w.heap[b]?=some (.cells cs t fr)):E.M≠b:=fun e=>by
 have hm:=h.mp
 rw [e,hb] at hm
 simp at hm
theorem az.own {E:Env}{w:World}{q:Nat}{op:Int}(h:az E w q op){B e size n:Nat}{v:Value}{xs:List Value}(ho:w.ownsRow B e size v n xs):v.ownBlock≠some E.M:=fun e=>by
 rcases ho.2 with ⟨h1,_⟩ | ⟨g',cap',cur,h1,_,hh,_⟩
 ·rw [h1] at e;simp [Value.ownBlock] at e
 ·rw [h1] at e
  simp only [Value.ownBlock,Option.some.injEq] at e
  exact h.ne hh e.symm
theorem Yn (W:World)(it:Sy.Pm)(t:TypeId)(q:Nat)(hq:q=W.heap.size):∀ j u,(oV it)[j]?=some u→(W.alloc (.cells (oV it).toArray t)).cell? ((⟨q,0,none⟩:Addr).add j)=some u:=by
 subst hq
 exact Ym W it t
abbrev Ae (s:ByteArray) (k:Int) (gn:ByteArray):Obj:=.cells #[.string s,.int .i64 k,.string gn] 118 (0,0)
theorem Yo {w:World}{N:Nat}{k:Int}{s gn:ByteArray}(h:w.heap[N]?=some (Ae s k gn)):(w.cell? ⟨N,0,none⟩=some (.string s)∧w.cell? ⟨N,1,none⟩=some (.int .i64 k)∧w.cell? ⟨N,2,none⟩=some (.string gn))∧w.frozen? ⟨N,0,none⟩=false∧w.frozen? ⟨N,1,none⟩=false∧w.frozen? ⟨N,2,none⟩=false:=by
 simp [World.cell?,World.frozen?,h]
theorem Yp {w:World}{N:Nat}{k k':Int}{s gn Ou:ByteArray}(h:w.heap[N]?=some (Ae s k gn)):((w.setCell ⟨N,1,none⟩ (.int .i64 k')).setCell ⟨N,2,none⟩ (.string Ou)).heap[N]?=some (Ae s k' Ou):=by
 simp only [World.setCell,Array.getElem?_modify,if_true,h,Option.map_some]
 rfl
theorem nV {w:World}{N:Nat}{v:Value}{t:TypeId}(h:w.heap[N]?=some (.cells #[v] t (0,0))):w.cell? ⟨N,0,none⟩=some v∧w.frozen? ⟨N,0,none⟩=false:=by simp [World.cell?,World.frozen?,h]
def Yq (E:Env)(op:Int):Prop:=∀ (p N:Nat) (r:au Sy.Pm) (out:List Sy.Pm) (w0 w:World),Hid (az E w p op)→p≤E.l.length→out.length≤6→w0.heap.size≤N→E.R<w0.heap.size→Hid (w0.grownBy w (some E.R))→Hid (Ad E N w out)→Hid (r=Rp.param E.l E.en p) →
 Calls Tryz.prog 126 #[.pointer (some ⟨N,0,none⟩),.pointer (some ⟨N+1,0,none⟩)] w fun e w'=>Nw E op w0 (Ad E N) out r e w'
theorem Yr (E:Env)(G:Good E)(op:Int):Yq E op:=by
 intro p N r out w0 w h hp ho hN hR hg0 hk hr
 obtain ⟨i0,hi,hz0,hz1,hz2⟩:=info_parts Tryz.Yj
 obtain ⟨v,k⟩:=hk.out
 have HK:=aa k
 obtain ⟨k0,_⟩:=nV k.rb
 have hN1:N+1<w.heap.size:=lt_of_block k.ob
 clear k
 obtain ⟨r1,hr1⟩:∃ r1,r1=Rp.name E.l E.en p:=⟨_,rfl⟩
 have HR1:=aa hr1
 have aR:Hid (r=Rp.andThen r1 fun q1 s=>Rp.andThen (Rp.typ E.l E.en q1) fun q2 t=>.ok (q2,⟨s,t⟩)):=by rw [hr.out,hr1];rfl
 have HA1:Hid (∀ q x,r1=.ok (q,x)→q≤E.l.length):=fun q x hx=>(Rp.jX E.l E.en p q x hp (by rw [← hr1,hx])).2
 clear hr1
 go_enter Tryz.func126,Tryz.ntmps126
 go_wp2_with fail
 refine (qO E G p _ r1 _ h hp HR1).mono ?_
 rintro e w1 ⟨hg1,hf1⟩
 have ax:Hid (w0.grownBy w1 (some E.R)):=ay hg0.out hg1
 have bP:=aa (HK.out.kept hg1 (by omega))
 have hs1:=hg1.size
 clear hg1 k0
 cases r1 with
 | error er =>
  obtain ⟨e1,e2⟩:=er
  obtain ⟨rfl,hd1⟩:=hf1
  have HD1:=aa hd1
  have ae:Hid (r=.error (e1,e2)):=aR.out
  clear hd1
  go_wp2
  exact ⟨rfl,ax.out,by rw [ae.out];exact ⟨rfl,HD1.out⟩⟩
 | ok qx =>
  obtain ⟨q1,s⟩:=qx
  obtain ⟨⟨v',rfl,rfl,hs⟩,hd1⟩:=hf1
  have HD1:=aa hd1
  have hq1:q1≤E.l.length:=HA1.out q1 s rfl
  obtain ⟨k0,_⟩:=nV bP.out.rb
  have xU:N<w1.heap.size:=by omega
  obtain ⟨r2,hr2⟩:∃ r2,r2=Rp.typ E.l E.en q1:=⟨_,rfl⟩
  have HR2:=aa hr2
  have bI:Hid (r=Rp.andThen r2 fun q2 t=>.ok (q2,⟨s,t⟩)):=by rw [aR.out,hr2];rfl
  clear hr2 hd1
  go_wp2_with fail
  refine (Ac E G q1 _ r2 _ (aa (HD1.out.alloc G _)) hq1 HR2).mono ?_
  rintro e w2 ⟨hg2,hf2⟩
  have HG2:Hid (w0.grownBy w2 (some E.R)):=ay (dM ax.out _) hg2
  have hs2:=hg2.size
  simp only [dn] at hs2
  have bD:=aa (bP.out.kept (ay (dM (eD (Below.refl _ w1)) _) hg2) (by omega))
  have hP2:w2.heap[w1.heap.size]?=some (Ae s 0 ⟨#[]⟩):=aA hg2 (by omega) (heap_alloc_new w1 _)
  clear hg2 k0
  cases r2 with
  | error er =>
   clear hP2
   obtain ⟨e1,e2⟩:=er
   obtain ⟨rfl,hd2⟩:=hf2
   have HD2:=aa hd2
   have ae:Hid (r=.error (e1,e2)):=bI.out
   clear hd2
   go_wp2
   exact ⟨rfl,HG2.out,by rw [ae.out];exact ⟨rfl,HD2.out⟩⟩
  | ok qx =>
   obtain ⟨q2,t⟩:=qx
   obtain ⟨⟨v',rfl,rfl,htz⟩,hd2⟩:=hf2
   have HD2:=aa hd2
   have ae:Hid (r=.ok (q2,⟨s,t⟩)):=bI.out
   obtain ⟨⟨x0,x1,x2⟩,f0,f1,f2⟩:=Yo hP2
   have Ov:w0.heap.size≤w1.heap.size:=ax.out.size
   have H5:Hid (w0.grownBy ((w2.setCell ⟨w1.heap.size,1,none⟩ (.int .i64 t.kind)).setCell ⟨w1.heap.size,2,none⟩ (.string t.gen)) (some E.R)):=gD (gD HG2.out Ov _) Ov _
   have Dp:∀ b,b≠w1.heap.size→((w2.setCell ⟨w1.heap.size,1,none⟩ (.int .i64 t.kind)).setCell ⟨w1.heap.size,2,none⟩ (.string t.gen)).heap[b]?=w2.heap[b]?:=fun b hb=>by rw [Below.heap_setCell _ _ _ _ hb,Below.heap_setCell _ _ _ _ hb]
   have Ow:Hid (rq E N ((w2.setCell ⟨w1.heap.size,1,none⟩ (.int .i64 t.kind)).setCell ⟨w1.heap.size,2,none⟩ (.string t.gen)) out v):=by
    have k:=bD.out
    refine ⟨(Dp N (by omega)).trans k.rb,(Dp (N+1) (by omega)).trans k.ob,?_,k.few⟩
    have Ox:v.ownBlock≠some w1.heap.size:=fun e=>by have:=(bP.out.row.lt _ e).2;omega
    exact ownsRow_setCell_other (a:=⟨w1.heap.size,2,none⟩) (ownsRow_setCell_other (a:=⟨w1.heap.size,1,none⟩) k.row Ox _) Ox _
   have Dq:Hid (((w2.setCell ⟨w1.heap.size,1,none⟩ (.int .i64 t.kind)).setCell ⟨w1.heap.size,2,none⟩ (.string t.gen)).heap[w1.heap.size]?=some (Ae s t.kind t.gen)):=Yp hP2
   obtain ⟨k1,g1⟩:=nV bD.out.ob
   have Oy:w2.heap.size=((w2.setCell ⟨w1.heap.size,1,none⟩ (.int .i64 t.kind)).setCell ⟨w1.heap.size,2,none⟩ (.string t.gen)).heap.size:=by simp only [World.bC]
   have Yt:=aa Oy
   have hNe:¬ N+1=w1.heap.size:=by omega
   have hN2:N+1<w2.heap.size:=by omega
   have fJ:=aa hP2
   have Yu:=aa Dp
   clear hd2 hP2 Dp Oy
   go_wp2_with (at_builtin;refine sD rfl (.tmp 11) (.tmp 13) 47 rfl (N+2) 118 i0 _ 3 40 Tryz.underlying47 hi hz0 hz1 hz2 rfl (by decide) _ out.length (cells3 out) rfl (Ow.out.row.alloc _) ⟨w2.heap.size,0,none⟩ 1 1 (oV ⟨s,t⟩) rfl rfl (Yn _ ⟨s,t⟩ _ _ Yt.out) (Yl _) (by decide) (by unfold maxLen;omega) (by omega) (by simp only [dn,World.bC];omega) ?_;intro g cap w6 hown6 uB yj;obtain ⟨Oz,OA,OB,Dh⟩:=Ow.out.more (it:=⟨s,t⟩) hN H5.out ⟨hs,htz⟩ hown6 uB;have Yv:=aa Oz;have wh:=aa OA;have Yw:=aa OB;obtain ⟨k3,k2⟩:=nV Dh;clear hown6 uB Oz OA OB Dh)
   go_end0
   have hm1:=HD2.out.ne bD.out.ob
   have hm2:=HD2.out.ne fJ.out
   have Yx:=HD2.out.own bD.out.row
   have jk:=lt_of_block HD2.out.mp
   have hvb:=bP.out.row.lt
   have hfin:∀ b,b<w2.heap.size→v.ownBlock≠some b→b≠N+1→b≠w1.heap.size→(w6.setCell ⟨N+1,0,none⟩ (.slice (some ⟨g,0,none⟩) (out.length+1) cap)).heap[b]?=w2.heap[b]?:=fun b h1 h2 h3 h4=>(Yw.out b (by simp only [World.bC];exact h1) h2 h3).trans (Yu.out b h4)
   have Yy:az E (w6.setCell ⟨N+1,0,none⟩ (.slice (some ⟨g,0,none⟩) (out.length+1) cap)) q2 op:=az.cells G HD2.out (fun b hb=>hfin b (by omega) (fun e=>by have:=(hvb b e).1;omega) (by omega) (by omega)) (hfin E.M jk Yx hm1 hm2)
   exact ⟨wh.out,by rw [ae.out];exact ⟨rfl,Yy,_,Yv.out⟩⟩
theorem Yz:yg 125 Rp.zB:=fun t u ht=>VB t u ht
theorem OC {l:List Lx.Tk}{en p q:Nat}{x:Sy.Pm}(h:Rp.param l en p=.ok (q,x)):Rp.zB (pk l p en)=true:=by
 unfold Rp.param at h
 obtain ⟨q1,y,h1,_⟩:=Rp.fO h
 exact NC h1
theorem YA (E:Env)(G:Good E)(op:Int)(N:Nat)(w0:World)(hN:w0.heap.size≤N)(hR:E.R<w0.heap.size):One E op 126 #[.pointer (some ⟨N,0,none⟩),.pointer (some ⟨N+1,0,none⟩)] w0 (Ad E N) (Rp.param E.l E.en) :=
 ⟨fun w w' out h hg=>h.elim fun v k=>⟨v,k.kept hg (by omega)⟩,fun p out w r h hp ho hg hs hr=>Yr E G op p N r out w0 w h hp ho hN hR hg hs hr⟩
theorem YB (E:Env)(w:World):Ad E w.heap.size ((w.alloc (vX E.R)).alloc (rowP (.slice none 0 0))) []:=by
 refine ⟨.slice none 0 0,?_,?_,World.ownsRow_nil _ _ _ _,fun it hit=>by simp at hit⟩
 ·rw [Below.heap_alloc _ _ _ (by simp)];exact heap_alloc_new w _
 ·have:=heap_alloc_new (w.alloc (vX E.R)) (rowP (.slice none 0 0));simpa using this
theorem OD (E:Env)(G:Good E)(p:Nat)(op:Int)(r:au (List Sy.Pm))(w:World)(h:Hid (az E w p op))(hp:p≤E.l.length)(hr:Hid (r=Rp.params E.l E.en p)) :
  Calls Tryz.prog 100 #[.pointer (some ⟨E.R,0,none⟩)] w fun e w'=>Ends E op w r (Om w) e w':=by
 have hR:=h.out.lt
 have HL:Hid (∀ q y,r=.ok (q,y)→y.length≤6000):=fun q y e=>Nat.le_trans (NH (fun p q x=>OC) (by have:=hr.out;rw [e] at this;exact this.symm)) (by decide)
 go_enter Tryz.func100,Tryz.ntmps100
 go_wp2_with fail
 refine (NB E G op 125 Rp.zB 126 _ (Ad E w.heap.size) (Rp.param E.l E.en) p r w _ (fun a w=>by simp [go_sem]) (aa Yz) (fun w=>by simp [go_sem]) (aa (YA E G op w.heap.size w (Nat.le_refl _) hR)) (aa (Rp.Mw E.l E.en)) (aa (fun p q x=>OC)) (aa (YB E w)) (aa (dM (dM (eD (Below.refl _ w)) _) _)) (aa ((h.out.alloc G _).alloc G _)) hp hr).mono ?_
 rintro e w1 ⟨hg1,hf1⟩
 have ax:=aa hg1
 clear hg1
 cases r with
 | error er =>
  obtain ⟨e1,e2⟩:=er
  obtain ⟨rfl,hd1⟩:=hf1
  have HD1:=aa hd1
  clear hd1
  go_wp2
  exact ⟨rfl,ax.out,rfl,HD1.out⟩
 | ok qx =>
  obtain ⟨q,out⟩:=qx
  obtain ⟨rfl,hd1,v,hs1⟩:=hf1
  have HD1:=aa hd1
  have He:=aa (hs1.out (HL.out q out rfl))
  obtain ⟨cv,_⟩:=nV hs1.ob
  have hlt:=lt_of_block hs1.ob
  clear hd1 hs1
  go_wp2
  go_ret
  exact ⟨ax.out,⟨v,rfl,He.out⟩,HD1.out⟩
end Go.Proofs.YtolfleeidpeomaaGreatDoor
