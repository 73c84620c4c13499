/- The walk of kids' own closure. -/
import Derived.Test.YtolfleeidpeomaaGreatDoorM15
import Derived.Test.YtolfleeidpeomaaGreatDoorM12
set_option maxRecDepth 100000
set_option maxHeartbeats 4000000
namespace Go.Proofs.YtolfleeidpeomaaGreatDoor
open Go.RowKit
theorem G5 {w:World}{K o:Nat}{u:Value}{ob:Obj}(h:w.cell? ⟨K,o,none⟩=some u)(hK:K<w.heap.size):(w.alloc ob).cell? ⟨K,o,none⟩=some u:=(World.cell?_of_block (w:=w) (Below.heap_alloc _ _ _ hK)).trans h
structure uz (E:Env) (op:Int) (w0 w:World) (N:Nat) (its:List iG) (v:Value) (n:Nat) (r:au Sy.Ex) (q:Nat) (x:Sy.Ex) (a1:Option Addr) (n1:Nat) (W:World):Prop where
 r:r=.ok (q,x)
 lT:mU E N W its v n
 ex:bK (fun b=>w.heap.size≤b∧b<W.heap.size) W n1 x a1
 g0:w0.grownBy W (some E.R)
 eP:az E W q op
def Nu (E:Env)(op:Int)(w0 w:World)(N:Nat)(its:List iG)(v:Value)(n:Nat)(r:au Sy.Ex)(q:Nat)(x:Sy.Ex)(a1:Option Addr)(n1:Nat)(W:World)(Z:Nat):Prop :=
 uz E op w0 w N its v n r q x a1 n1 W∧W.heap[Z]?=some ZE
theorem uz.after {E:Env}(G:Good E){op:Int}{w0 w w1:World}{N:Nat}{its:List iG}{v:Value}{n:Nat}{r:au Sy.Ex}{q:Nat}{x:Sy.Ex}{a1:Option Addr}{n1:Nat}{c:Prop}(hR:E.R<N)(h:uz E op w0 w N its v n r q x a1 n1 w1∧c):Nu E op w0 w N its v n r q x a1 n1 (w1.alloc ZE) w1.heap.size :=
 ⟨⟨h.1.r,h.1.lT.kept (dM (eD (Below.refl _ w1)) _) hR,h.1.ex.keep (fun b hb=>⟨⟨hb.1,by simp;omega⟩,Below.heap_alloc _ _ _ hb.2⟩),dM h.1.g0 _,h.1.eP.alloc G _⟩,heap_alloc_new w1 ZE⟩
theorem XI (E:Env)(G:Good E)(d:Nat)(hX:Hid (nR E d)):GX E d:=by
 intro p N r out w0 w h hp ho hN hR hg0 hk hr
 obtain ⟨its,v,n,hout,k⟩:=hk.out
 obtain ⟨av,cv,rfl⟩:∃ av cv,v=.slice av its.length cv:=by
  rcases k.row.2 with ⟨h1,h2⟩ | ⟨g,cap,cur,h1,_⟩
  ·exact ⟨none,0,by rw [h1,h2]⟩
  ·exact ⟨_,_,h1⟩
 have HK:=aa k
 have G6:=aa hout
 have hlen:its.length≤6:=by have:=congrArg List.length hout;simp at this;omega
 have c0:w.cell? ⟨N+1,0,none⟩=some (.slice av its.length cv):=GZ k
 have c1:w.cell? ⟨N,0,none⟩=some (.pointer (some ⟨E.R,0,none⟩)):=XH k
 have xU:N+1<w.heap.size:=lt_of_block k.ob
 have yf:E.R<N:=by omega
 have c0a:(w.alloc ZE).cell? ⟨N+1,0,none⟩=some (.slice av its.length cv):=G5 c0 xU
 have c1a:(w.alloc ZE).cell? ⟨N,0,none⟩=some (.pointer (some ⟨E.R,0,none⟩)):=G5 c1 (by omega)
 have CALL:∀ W0,Hid (W0=w.drew∨W0=(w.alloc ZE).drew)→Calls Tryz.prog 129 #[.pointer (some ⟨E.R,0,none⟩)] W0 fun e w1=>(∃ c,e=.panicked c∧GV E (200 - (d:Int)) w0 N out r (.panicked c) w1)∨∃ q x a1 c1 n1,e=.returned (dH x a1 c1)∧w1.cell? ⟨N+1,0,none⟩=some (.slice av its.length cv)∧(w1.alloc ZE).cell? ⟨N+1,0,none⟩=some (.slice av its.length cv)∧Hid (uz E (200 - (d:Int)) w0 w N its (.slice av its.length cv) n r q x a1 n1 w1∧(W0=(w.alloc ZE).drew→w1.heap[w.heap.size]?=some ZE)):=fun W0 hW=>by
  refine (hX.out p r W0 (by rcases hW.out with e | e <;> rw [e];exact h.out.drew;exact (h.out.alloc G _).drew) hp hr).mono ?_
  rintro e w1 ⟨hg1,hE⟩
  have hg:w.grownBy w1 (some E.R):=by
   rcases hW.out with e | e <;> rw [e] at hg1
   ·exact zQ hg1
   ·exact ay (dM (eD (Below.refl _ w)) _) (zQ hg1)
  have hsz:w.heap.size≤W0.heap.size:=by
   rcases hW.out with e | e <;> rw [e]
   ·exact Nat.le_refl _
   ·show w.heap.size≤(w.alloc ZE).heap.size;simp
  cases r with
  | error er=>exact .inl ⟨_,hE.1,ay hg0.out hg,rfl,hE.2⟩
  | ok qx =>
   obtain ⟨⟨v1,rfl,a1,c1,n1,rfl,hq1⟩,hd1⟩:=hE
   have K1:=HK.out.kept hg yf
   exact .inr ⟨_,_,a1,c1,n1,rfl,GZ K1,G5 (GZ K1) (lt_of_block K1.ob),⟨rfl,K1,hq1.keep (fun b hb=>⟨⟨by have:=hb.1;omega,hb.2⟩,rfl⟩),ay hg0.out hg,hd1⟩,fun e=>by rw [e] at hg1;exact aA (zQ hg1) (by simp;omega) (heap_alloc_new w ZE)⟩
 clear k hout hk
 have hix:(its.length:Int)<(its.length:Int)+1:=by omega
 obtain ⟨i0,hi,hz0,hz1,hz2⟩:=info_parts Tryz.Ng
 go_enter Tryz.func163,Tryz.ntmps163
 refine wp_region_any (by kernel_rfl) ?_
 change wpAny _ _ _ _ _ _ _ (World.drew _)
 refine (fun (TAIL:∀ (W:World) (Z q:Nat) (x:Sy.Ex) (a1:Option Addr) (c1 n1:Nat),Nu E (200 - (d:Int)) w0 w N its (.slice av its.length cv) n r q x a1 n1 W Z→(?G:World→Nat→Nat→Sy.Ex→Option Addr→Nat→Nat→Prop) W Z q x a1 c1 n1)=>?_) ?_
 rotate_left
 refine wpAny_ready (rs:=[0,1,4]) (by kernel_rfl) (by simp) ?_
 refine AllReady.cons rfl (fun K hK=>?_) ?_
 ·go_simp
  refine hK _ _ ?_
  clear hK K
  refine wpAny_take (i:=3) (v:=.int .i64 its.length) rfl (by kernel_rfl) (by kernel_rfl) (by kernel_rfl) (fun _ _ _ h=>h) (Or.inl ⟨by rfl,?_⟩) ?_
  ·intro w;go_simp
  simp only [Act.put]
  refine wpAny_ready (rs:=[1,4]) (by kernel_rfl) (by simp) ?_
  refine AllReady.cons rfl (fun K hK=>?_) ?_
  ·go_simp
   refine hK _ _ ?_
   clear hK K
   refine wpAny_ready (rs:=[2,4]) (by kernel_rfl) (by simp) ?_
   refine AllReady.cons rfl (fun K hK=>?_) ?_
   ·go_simp
    refine (CALL _ (by first | exact Or.inl rfl | exact Or.inr rfl)).mono ?_
    rintro e w1 (⟨c,rfl,hp⟩ | ⟨q,x,a1,c1,n1,rfl,k0,qV,H⟩)
    ·exact ⟨rfl,hp⟩
    refine hK _ _ ?_
    clear hK K
    refine wpAny_ready (rs:=[4]) (by kernel_rfl) (by simp) ?_
    refine AllReady.cons rfl (fun K hK=>?_) AllReady.nil
    go_simp
    refine hK _ _ ?_
    clear hK K
    obtain ⟨W,hW⟩:∃ W,W=w1.alloc ZE:=⟨_,rfl⟩
    obtain ⟨Z,hZ⟩:∃ Z,Z=w1.heap.size:=⟨_,rfl⟩
    rw [← hW,← hZ]
    exact TAIL W Z q x a1 c1 n1 (by rw [hW,hZ];exact uz.after G yf H.out)
   refine AllReady.cons rfl (fun K hK=>?_) AllReady.nil
   go_simp
   refine hK _ _ ?_
   clear hK K
   refine wpAny_ready (rs:=[2]) (by kernel_rfl) (by simp) ?_
   refine AllReady.cons rfl (fun K hK=>?_) AllReady.nil
   go_simp
   refine (CALL _ (by first | exact Or.inl rfl | exact Or.inr rfl)).mono ?_
   rintro e w1 (⟨c,rfl,hp⟩ | ⟨q,x,a1,c1,n1,rfl,k0,qV,H⟩)
   ·exact ⟨rfl,hp⟩
   refine hK _ _ ?_
   clear hK K
   exact TAIL _ _ q x a1 c1 n1 ⟨H.out.1,H.out.2 rfl⟩
  refine AllReady.cons rfl (fun K hK=>?_) AllReady.nil
  go_simp
  refine hK _ _ ?_
  clear hK K
  refine wpAny_ready (rs:=[1]) (by kernel_rfl) (by simp) ?_
  refine AllReady.cons rfl (fun K hK=>?_) AllReady.nil
  go_simp
  refine hK _ _ ?_
  clear hK K
  refine wpAny_ready (rs:=[2]) (by kernel_rfl) (by simp) ?_
  refine AllReady.cons rfl (fun K hK=>?_) AllReady.nil
  go_simp
  refine (CALL _ (by first | exact Or.inl rfl | exact Or.inr rfl)).mono ?_
  rintro e w1 (⟨c,rfl,hp⟩ | ⟨q,x,a1,c1,n1,rfl,k0,qV,H⟩)
  ·exact ⟨rfl,hp⟩
  refine hK _ _ ?_
  clear hK K
  exact TAIL _ _ q x a1 c1 n1 ⟨H.out.1,H.out.2 rfl⟩
 refine AllReady.cons rfl (fun K hK=>?_) ?_
 ·go_simp
  refine hK _ _ ?_
  clear hK K
  refine wpAny_ready (rs:=[0,2,4]) (by kernel_rfl) (by simp) ?_
  refine AllReady.cons rfl (fun K hK=>?_) ?_
  ·go_simp
   refine hK _ _ ?_
   clear hK K
   refine wpAny_take (i:=3) (v:=.int .i64 its.length) rfl (by kernel_rfl) (by kernel_rfl) (by kernel_rfl) (fun _ _ _ h=>h) (Or.inl ⟨by rfl,?_⟩) ?_
   ·intro w;go_simp
   simp only [Act.put]
   refine wpAny_ready (rs:=[2,4]) (by kernel_rfl) (by simp) ?_
   refine AllReady.cons rfl (fun K hK=>?_) ?_
   ·go_simp
    refine (CALL _ (by first | exact Or.inl rfl | exact Or.inr rfl)).mono ?_
    rintro e w1 (⟨c,rfl,hp⟩ | ⟨q,x,a1,c1,n1,rfl,k0,qV,H⟩)
    ·exact ⟨rfl,hp⟩
    refine hK _ _ ?_
    clear hK K
    refine wpAny_ready (rs:=[4]) (by kernel_rfl) (by simp) ?_
    refine AllReady.cons rfl (fun K hK=>?_) AllReady.nil
    go_simp
    refine hK _ _ ?_
    clear hK K
    exact TAIL _ _ q x a1 c1 n1 (uz.after G yf H.out)
   refine AllReady.cons rfl (fun K hK=>?_) AllReady.nil
   go_simp
   refine hK _ _ ?_
   clear hK K
   refine wpAny_ready (rs:=[2]) (by kernel_rfl) (by simp) ?_
   refine AllReady.cons rfl (fun K hK=>?_) AllReady.nil
   go_simp
   refine (CALL _ (by first | exact Or.inl rfl | exact Or.inr rfl)).mono ?_
   rintro e w1 (⟨c,rfl,hp⟩ | ⟨q,x,a1,c1,n1,rfl,k0,qV,H⟩)
   ·exact ⟨rfl,hp⟩
   refine hK _ _ ?_
   clear hK K
   exact TAIL _ _ q x a1 c1 n1 ⟨H.out.1,H.out.2 rfl⟩
  refine AllReady.cons rfl (fun K hK=>?_) ?_
  ·go_simp
   refine (CALL _ (by first | exact Or.inl rfl | exact Or.inr rfl)).mono ?_
   rintro e w1 (⟨c,rfl,hp⟩ | ⟨q,x,a1,c1,n1,rfl,k0,qV,H⟩)
   ·exact ⟨rfl,hp⟩
   refine hK _ _ ?_
   clear hK K
   refine wpAny_ready (rs:=[0,4]) (by kernel_rfl) (by simp) ?_
   refine AllReady.cons rfl (fun K hK=>?_) ?_
   ·go_simp
    refine hK _ _ ?_
    clear hK K
    refine wpAny_take (i:=3) (v:=.int .i64 its.length) rfl (by kernel_rfl) (by kernel_rfl) (by kernel_rfl) (fun _ _ _ h=>h) (Or.inl ⟨by rfl,?_⟩) ?_
    ·intro w;go_simp
    simp only [Act.put]
    refine wpAny_ready (rs:=[4]) (by kernel_rfl) (by simp) ?_
    refine AllReady.cons rfl (fun K hK=>?_) AllReady.nil
    go_simp
    refine hK _ _ ?_
    clear hK K
    exact TAIL _ _ q x a1 c1 n1 (uz.after G yf H.out)
   refine AllReady.cons rfl (fun K hK=>?_) AllReady.nil
   go_simp
   refine hK _ _ ?_
   clear hK K
   refine wpAny_ready (rs:=[0]) (by kernel_rfl) (by simp) ?_
   refine AllReady.cons rfl (fun K hK=>?_) AllReady.nil
   go_simp
   refine hK _ _ ?_
   clear hK K
   refine wpAny_take (i:=3) (v:=.int .i64 its.length) rfl (by kernel_rfl) (by kernel_rfl) (by kernel_rfl) (fun _ _ _ h=>h) (Or.inl ⟨by rfl,?_⟩) ?_
   ·intro w;go_simp
   simp only [Act.put]
   exact TAIL _ _ q x a1 c1 n1 (uz.after G yf H.out)
  refine AllReady.cons rfl (fun K hK=>?_) AllReady.nil
  go_simp
  refine hK _ _ ?_
  clear hK K
  refine wpAny_ready (rs:=[0,2]) (by kernel_rfl) (by simp) ?_
  refine AllReady.cons rfl (fun K hK=>?_) ?_
  ·go_simp
   refine hK _ _ ?_
   clear hK K
   refine wpAny_take (i:=3) (v:=.int .i64 its.length) rfl (by kernel_rfl) (by kernel_rfl) (by kernel_rfl) (fun _ _ _ h=>h) (Or.inl ⟨by rfl,?_⟩) ?_
   ·intro w;go_simp
   simp only [Act.put]
   refine wpAny_ready (rs:=[2]) (by kernel_rfl) (by simp) ?_
   refine AllReady.cons rfl (fun K hK=>?_) AllReady.nil
   go_simp
   refine (CALL _ (by first | exact Or.inl rfl | exact Or.inr rfl)).mono ?_
   rintro e w1 (⟨c,rfl,hp⟩ | ⟨q,x,a1,c1,n1,rfl,k0,qV,H⟩)
   ·exact ⟨rfl,hp⟩
   refine hK _ _ ?_
   clear hK K
   exact TAIL _ _ q x a1 c1 n1 ⟨H.out.1,H.out.2 rfl⟩
  refine AllReady.cons rfl (fun K hK=>?_) AllReady.nil
  go_simp
  refine (CALL _ (by first | exact Or.inl rfl | exact Or.inr rfl)).mono ?_
  rintro e w1 (⟨c,rfl,hp⟩ | ⟨q,x,a1,c1,n1,rfl,k0,qV,H⟩)
  ·exact ⟨rfl,hp⟩
  refine hK _ _ ?_
  clear hK K
  refine wpAny_ready (rs:=[0]) (by kernel_rfl) (by simp) ?_
  refine AllReady.cons rfl (fun K hK=>?_) AllReady.nil
  go_simp
  refine hK _ _ ?_
  clear hK K
  refine wpAny_take (i:=3) (v:=.int .i64 its.length) rfl (by kernel_rfl) (by kernel_rfl) (by kernel_rfl) (fun _ _ _ h=>h) (Or.inl ⟨by rfl,?_⟩) ?_
  ·intro w;go_simp
  simp only [Act.put]
  exact TAIL _ _ q x a1 c1 n1 ⟨H.out.1,H.out.2 rfl⟩
 refine AllReady.cons rfl (fun K hK=>?_) AllReady.nil
 go_simp
 refine hK _ _ ?_
 clear hK K
 refine wpAny_ready (rs:=[0,1]) (by kernel_rfl) (by simp) ?_
 refine AllReady.cons rfl (fun K hK=>?_) ?_
 ·go_simp
  refine hK _ _ ?_
  clear hK K
  refine wpAny_take (i:=3) (v:=.int .i64 its.length) rfl (by kernel_rfl) (by kernel_rfl) (by kernel_rfl) (fun _ _ _ h=>h) (Or.inl ⟨by rfl,?_⟩) ?_
  ·intro w;go_simp
  simp only [Act.put]
  refine wpAny_ready (rs:=[1]) (by kernel_rfl) (by simp) ?_
  refine AllReady.cons rfl (fun K hK=>?_) AllReady.nil
  go_simp
  refine hK _ _ ?_
  clear hK K
  refine wpAny_ready (rs:=[2]) (by kernel_rfl) (by simp) ?_
  refine AllReady.cons rfl (fun K hK=>?_) AllReady.nil
  go_simp
  refine (CALL _ (by first | exact Or.inl rfl | exact Or.inr rfl)).mono ?_
  rintro e w1 (⟨c,rfl,hp⟩ | ⟨q,x,a1,c1,n1,rfl,k0,qV,H⟩)
  ·exact ⟨rfl,hp⟩
  refine hK _ _ ?_
  clear hK K
  exact TAIL _ _ q x a1 c1 n1 ⟨H.out.1,H.out.2 rfl⟩
 refine AllReady.cons rfl (fun K hK=>?_) AllReady.nil
 go_simp
 refine hK _ _ ?_
 clear hK K
 refine wpAny_ready (rs:=[0,2]) (by kernel_rfl) (by simp) ?_
 refine AllReady.cons rfl (fun K hK=>?_) ?_
 ·go_simp
  refine hK _ _ ?_
  clear hK K
  refine wpAny_take (i:=3) (v:=.int .i64 its.length) rfl (by kernel_rfl) (by kernel_rfl) (by kernel_rfl) (fun _ _ _ h=>h) (Or.inl ⟨by rfl,?_⟩) ?_
  ·intro w;go_simp
  simp only [Act.put]
  refine wpAny_ready (rs:=[2]) (by kernel_rfl) (by simp) ?_
  refine AllReady.cons rfl (fun K hK=>?_) AllReady.nil
  go_simp
  refine (CALL _ (by first | exact Or.inl rfl | exact Or.inr rfl)).mono ?_
  rintro e w1 (⟨c,rfl,hp⟩ | ⟨q,x,a1,c1,n1,rfl,k0,qV,H⟩)
  ·exact ⟨rfl,hp⟩
  refine hK _ _ ?_
  clear hK K
  exact TAIL _ _ q x a1 c1 n1 ⟨H.out.1,H.out.2 rfl⟩
 refine AllReady.cons rfl (fun K hK=>?_) AllReady.nil
 go_simp
 refine (CALL _ (by first | exact Or.inl rfl | exact Or.inr rfl)).mono ?_
 rintro e w1 (⟨c,rfl,hp⟩ | ⟨q,x,a1,c1,n1,rfl,k0,qV,H⟩)
 ·exact ⟨rfl,hp⟩
 refine hK _ _ ?_
 clear hK K
 refine wpAny_ready (rs:=[0]) (by kernel_rfl) (by simp) ?_
 refine AllReady.cons rfl (fun K hK=>?_) AllReady.nil
 go_simp
 refine hK _ _ ?_
 clear hK K
 refine wpAny_take (i:=3) (v:=.int .i64 its.length) rfl (by kernel_rfl) (by kernel_rfl) (by kernel_rfl) (fun _ _ _ h=>h) (Or.inl ⟨by rfl,?_⟩) ?_
 ·intro w;go_simp
 simp only [Act.put]
 exact TAIL _ _ q x a1 c1 n1 ⟨H.out.1,H.out.2 rfl⟩
 intro W Z q x a1 c1 n1 T
 obtain rfl:=T.1.r
 have HT:=aa T
 have hbx:=lt_of_block T.1.lT.ob
 clear T CALL
 refine wpAny_ready (rs:=[5]) (by kernel_rfl) (by simp) ?_
 refine AllReady.cons rfl (fun K hK=>?_) AllReady.nil
 refine XC rfl (.tmp 2) (.tmp 6) 120 rfl (N+2) 122 i0 _ 4 56 Tryz.underlying120 hi hz0 hz1 hz2 rfl (by decide) (.slice av its.length cv) its.length (gY its) rfl HT.out.1.lT.row ⟨_,0,none⟩ 1 1 z4 rfl rfl (XD HT.out.2) XE (by decide) (by unfold maxLen;omega) (by omega) (by omega) ?_
 intro g cap w4 Nv hg4 hw4
 have HA:=aa (XF (w:=w) HK.out Nv hg4 hw4 HT.out.1.lT HT.out.1.ex HT.out.1.g0 HT.out.1.eP)
 obtain ⟨⟨m0,m1,m2,m3⟩,⟨l0,l1,l2,l3⟩,o0,of0,r0,hne1,hne2⟩:=HA.out.facts
 clear Nv hg4 hw4
 refine hK _ _ ?_
 clear hK K
 simp only [Act.put]
 refine wpAny_ready (rs:=[6,8]) (by kernel_rfl) (by simp) ?_
 refine AllReady.cons rfl (fun K hK=>?_) ?_
 ·go_simp
  refine hK _ _ ?_
  clear hK K
  refine wpAny_ready (rs:=[7,8]) (by kernel_rfl) (by simp) ?_
  refine AllReady.cons rfl (fun K hK=>?_) ?_
  ·go_simp
   refine hK _ _ ?_
   clear hK K
   refine wpAny_ready (rs:=[8]) (by kernel_rfl) (by simp) ?_
   refine AllReady.cons rfl (fun K hK=>?_) AllReady.nil
   go_simp
   refine hK _ _ ?_
   clear hK K
   refine wpAny_done (by kernel_rfl) ?_ _
   go_wp2
   go_end0
   exact uy.done (c:=c1) G HA.out hN hR G6.out (Or.inl rfl)
  refine AllReady.cons rfl (fun K hK=>?_) AllReady.nil
  go_simp
  refine hK _ _ ?_
  clear hK K
  refine wpAny_ready (rs:=[7]) (by kernel_rfl) (by simp) ?_
  refine AllReady.cons rfl (fun K hK=>?_) AllReady.nil
  go_simp
  refine hK _ _ ?_
  clear hK K
  refine wpAny_done (by kernel_rfl) ?_ _
  go_wp2
  go_end0
  exact uy.done (c:=c1) G HA.out hN hR G6.out (Or.inr rfl)
 refine AllReady.cons rfl (fun K hK=>?_) AllReady.nil
 go_simp
 refine hK _ _ ?_
 clear hK K
 refine wpAny_ready (rs:=[6]) (by kernel_rfl) (by simp) ?_
 refine AllReady.cons rfl (fun K hK=>?_) AllReady.nil
 go_simp
 refine hK _ _ ?_
 clear hK K
 refine wpAny_ready (rs:=[7]) (by kernel_rfl) (by simp) ?_
 refine AllReady.cons rfl (fun K hK=>?_) AllReady.nil
 go_simp
 refine hK _ _ ?_
 clear hK K
 refine wpAny_done (by kernel_rfl) ?_ _
 go_wp2
 go_end0
 exact uy.done (c:=c1) G HA.out hN hR G6.out (Or.inr rfl)
def Nw {α:Type}(E:Env)(op:Int)(w0:World)(St:World→List α→Prop)(out:List α)(r:au α)(e:Ending)(w':World):Prop :=
 w0.grownBy w' (some E.R)∧match r with
  | .ok (q,x)=>e=.returned (.tuple #[])∧az E w' q op∧St w' (out++[x])
  | .error (er,at')=>e=.panicked [aH er at']∧∃ (q:Nat) (o:Int),az E w' q o∧op≤o∧o≤op+2
structure One {α:Type} (E:Env) (op:Int) (f:FuncId) (mV:Array Value) (w0:World) (St:World→List α→Prop) (one:Nat→au α):Prop where
 keep:∀ w w' out,St w out→w.grownBy w' (some E.R)→St w' out
 call:∀ (p:Nat) (out:List α) (w:World) (r:au α),Hid (az E w p op)→p≤E.l.length→out.length≤6→Hid (w0.grownBy w (some E.R))→Hid (St w out)→Hid (r=one p)→Calls Tryz.prog f mV w fun e w'=>Nw E op w0 St out r e w'
def XJ {α:Type}(E:Env)(op:Int)(w0:World)(St:World→List α→Prop)(r:au (List α))(e:Ending)(w':World):Prop :=
 w0.grownBy w' (some E.R)∧match r with
  | .ok (q,out)=>e=.returned (.tuple #[])∧az E w' q op∧St w' out
  | .error (er,at')=>e=.panicked [aH er at']∧∃ (q:Nat) (o:Int),az E w' q o∧op≤o∧o≤op+2
abbrev yg (g:FuncId) (bg:Lx.Tk→Bool):Prop:=∀ (t:Lx.Tk) (u:World),t.text.size≤maxLen→Calls Tryz.prog g #[tT t] u fun e w'=>e=.returned (.bool (bg t))∧Below u.heap.size u w'
theorem G7 (E:Env)(G:Good E)(p:Nat)(op:Int)(g:FuncId)(bg:Lx.Tk→Bool)(n most:Int)(r:au Unit)(w:World)(h:Hid (az E w p op))(hp:p≤E.l.length)
  (hcf:∀ (a:Value) (w:World),(callFunc g #[a]).run Tryz.prog w=.ok (.enter g #[a]) w) (hg:Hid (yg g bg)) (hr:Hid (r=jD () (fZ bg n most (pk E.l p E.en) p))) :
  Calls Tryz.prog 35 #[.pointer (some ⟨E.R,0,none⟩),.int .i64 n,.int .i64 most,.func (.func g) #[] #[]] w fun e w'=>Ends E op w r M3 e w':=by
 have hz:=(G.toks.pk p E.en).1
 refine (VE E.B E.R E.ta E.tc E.l p E.en _ op g bg n most (pk E.l p E.en) (fZ bg n most (pk E.l p E.en) p) w h.out.rd h.out.tk G.below hp rfl hcf (fun u=>hg.out _ u (by unfold maxLen;omega)) rfl).mono ?_
 intro e w' hf
 exact zK (x:=()) G h.out hf hr.out rfl
structure G8 {α:Type} (E:Env) (op:Int) (bg:Lx.Tk→Bool) (w0:World) (St:World→List α→Prop) (one:Nat→au α) (r:au (List α)) (out:List α) (q fu:Nat) (w:World):Prop where
 few:out.length≤6
 eP:az E w q op
 le:q≤E.l.length
 st:St w out
 grown:w0.grownBy w (some E.R)
 eq:r=Rp.items E.l E.en bg one fu out q
 fuel:E.l.length<q+fu
theorem Ny {α:Type}{l:List Lx.Tk}{en:Nat}{bg:Lx.Tk→Bool}{one:Nat→au α}{f:Nat}{out:List α}{q:Nat}{e:Int × Nat}(h:.error e=jD () (fZ bg out.length 6 (pk l q en) q)):Rp.items l en bg one (f+1) out q=.error e:=by
 unfold Rp.items
 cases hl:fZ bg out.length 6 (pk l q en) q with
 | ok q'=>rw [hl] at h;simp [jD] at h
 | error e'=>rw [hl] at h;simp [jD] at h;rw [h]
theorem NA {α:Type}{l:List Lx.Tk}{en:Nat}{bg:Lx.Tk→Bool}{one:Nat→au α}{f:Nat}{out:List α}{q q':Nat}{u:Unit}(h:.ok (q',u)=jD () (fZ bg out.length 6 (pk l q en) q)) :
  q'=q∧¬ ((out.length:Int)=6∧bg (pk l q en)=true)∧Rp.items l en bg one (f+1) out q=Rp.andThen (one q) fun q x=>if tk l q ⟨#[41]⟩ then .ok (q+1,out++[x]) else Rp.andThen (Rp.want l en ⟨#[44]⟩ q) fun q2 _=>Rp.items l en bg one f (out++[x]) q2:=by
 have hd:fZ bg out.length 6 (pk l q en) q=if (out.length:Int)=6∧bg (pk l q en)=true then .error (5,(pk l q en).pos) else .ok q:=rfl
 by_cases hc:(out.length:Int)=6∧bg (pk l q en)=true
 ·rw [hd,if_pos hc] at h;simp [jD] at h
 ·rw [hd,if_neg hc] at h
  simp [jD] at h
  refine ⟨h,hc,?_⟩
  rw [Rp.items,hd,if_neg hc]
theorem NB {α:Type}(E:Env)(G:Good E)(op:Int)(g:FuncId)(bg:Lx.Tk→Bool)(f:FuncId)(mV:Array Value)(St:World→List α→Prop)(one:Nat→au α)(p:Nat)(r:au (List α))(w0 w:World)
  (hcg:∀ (a:Value) (w:World),(callFunc g #[a]).run Tryz.prog w=.ok (.enter g #[a]) w) (hg:Hid (yg g bg)) (hcf:∀ w:World,(callFunc f mV).run Tryz.prog w=.ok (.enter f mV) w) (hO:Hid (One E op f mV w0 St one)) (XK:Hid (Rp.dF E.l one)) (hbg:Hid (∀ p q x,one p=.ok (q,x)→bg (pk E.l p E.en)=true))
  (hS:Hid (St w [])) (hG0:Hid (w0.grownBy w (some E.R))) (h:Hid (az E w p op)) (hp:p≤E.l.length) (hr:Hid (r=Rp.list E.l E.en bg one p)) :
  Calls Tryz.prog 124 #[.pointer (some ⟨E.R,0,none⟩),.func (.func g) #[] #[],.func (.func f) #[] mV] w fun e w'=>XJ E op w0 St r e w':=by
 have hR:=h.out.lt
 obtain ⟨r1,hr1⟩:∃ r1,r1=Rp.want E.l E.en ⟨#[40]⟩ p:=⟨_,rfl⟩
 have HR1:=aa hr1
 have aR:Hid (r=Rp.andThen r1 fun q _=>if tk E.l q ⟨#[41]⟩ then .ok (q+1,[]) else Rp.items E.l E.en bg one (E.l.length+1) [] q):=by rw [hr.out,hr1];rfl
 have HA1:Hid (∀ q x,r1=.ok (q,x)→q≤E.l.length):=fun q x hx=>(Rp.eH E.l E.en _ p q x hp (by rw [← hr1,hx])).2
 clear hr1
 go_enter Tryz.func124,Tryz.ntmps124
 go_wp2_with fail
 refine (iW E G p _ ⟨#[40]⟩ r1 _ h hp HR1).mono ?_
 rintro e w1 ⟨hg1,hf1⟩
 have ax:Hid (w0.grownBy w1 (some E.R)):=ay hG0.out hg1
 have kv:=aa (hO.out.keep _ _ _ hS.out hg1)
 clear hg1
 cases r1 with
 | error er =>
  obtain ⟨e1,e2⟩:=er
  obtain ⟨rfl,hd1⟩:=hf1
  have HD1:=aa hd1
  have ae:Hid (r=.error (e1,e2)):=aR.out
  clear hd1
  go_wp2
  exact ⟨rfl,ax.out,by rw [ae.out];exact ⟨rfl,HD1.out⟩⟩
 | ok qx =>
  obtain ⟨q1,u1⟩:=qx
  obtain ⟨⟨v,rfl,rfl⟩,hd1⟩:=hf1
  have HD1:=aa hd1
  have hq1:q1≤E.l.length:=HA1.out q1 u1 rfl
  obtain ⟨b,hb⟩:∃ b,b=tk E.l q1 ⟨#[41]⟩:=⟨_,rfl⟩
  have HB:=aa hb
  have bI:Hid (r=if b then .ok (q1+1,[]) else Rp.items E.l E.en bg one (E.l.length+1) [] q1):=by rw [aR.out,hb];rfl
  clear hb hd1
  go_wp2_with fail
  refine (ek E G q1 _ ⟨#[41]⟩ b _ _ HD1 hq1 HB rfl).mono ?_
  rintro e w2 ⟨rfl,hd2,hg2⟩
  have HG2:Hid (w0.grownBy w2 (some E.R)):=ay ax.out hg2
  have HS2:=aa (hO.out.keep _ _ _ kv.out hg2)
  have HD2:=aa hd2
  clear hg2 hd2
  cases b with
  | true =>
   go_wp2
   go_end0
   exact ⟨HG2.out,by rw [bI.out];exact ⟨rfl,HD2.out,HS2.out⟩⟩
  | false =>
   have gM:Hid (G8 E op bg w0 St one r [] q1 (E.l.length+1) w2):=⟨by simp,HD2.out,hq1,HS2.out,HG2.out,bI.out,by omega⟩
   clear HD2 bI aR
   go_wp2
   go_loopw [6] (fun n wr=>∃ (out:List α) (q fu:Nat),n=.int .i64 out.length∧G8 E op bg w0 St one r out q fu wr) (fun n _=>7 - (intOf n).toNat)
   case atStart=>exact ⟨[],q1,_,rfl,gM.out⟩
   case round =>
    obtain ⟨out,q,fu,rfl,hA⟩:=hrel
    clear gM ax HG2
    have HA:=aa hA
    have zY:=hA.few
    have hq:=hA.le
    have HD3:=aa hA.eP
    obtain ⟨f',hf'⟩:∃ f',fu=f'+1:=⟨fu - 1,by have:=hA.fuel;omega⟩
    have G9:=aa hf'
    clear hA hf'
    obtain ⟨r3,hr3⟩:∃ r3,r3=jD () (fZ bg out.length 6 (pk E.l q E.en) q):=⟨_,rfl⟩
    have HR3:=aa hr3
    clear hr3
    go_wp2_with fail
    refine (G7 E G q _ g bg _ 6 r3 _ HD3 hq hcg hg HR3).mono ?_
    rintro e w3 ⟨hg3,hf3⟩
    have aK:Hid (w0.grownBy w3 (some E.R)):=ay HA.out.grown hg3
    have mg:=aa (hO.out.keep _ _ _ HA.out.st hg3)
    clear hg3
    cases r3 with
    | error er =>
     obtain ⟨e1,e2⟩:=er
     obtain ⟨rfl,hd3⟩:=hf3
     have HD3:=aa hd3
     have ae:Hid (r=.error (e1,e2)):=(by rw [HA.out.eq,G9.out];exact Ny HR3.out)
     clear hd3
     go_wp2
     exact ⟨rfl,aK.out,by rw [ae.out];exact ⟨rfl,HD3.out⟩⟩
    | ok qx =>
     obtain ⟨q3,u3⟩:=qx
     obtain ⟨⟨v,rfl,rfl⟩,hd3⟩:=hf3
     obtain ⟨hqq,hlim,hit⟩:=NA (one:=one) (f:=f') HR3.out
     subst hqq
     have HD4:=aa hd3
     obtain ⟨r4,hr4⟩:∃ r4,r4=one q3:=⟨_,rfl⟩
     have HR4:=aa hr4
     have gX:Hid (r=Rp.andThen r4 fun q x=>if tk E.l q ⟨#[41]⟩ then .ok (q+1,out++[x]) else Rp.andThen (Rp.want E.l E.en ⟨#[44]⟩ q) fun q2 _=>Rp.items E.l E.en bg one f' (out++[x]) q2):=by rw [HA.out.eq,G9.out,hit,hr4];rfl
     have sj:Hid (∀ q x,r4=.ok (q,x)→q3<q∧q≤E.l.length∧out.length+1≤6):=fun q x hx=>by
      have h1:=XK.out q3 q x hq (by rw [← hr4,hx])
      have h2:=hbg.out q3 q x (by rw [← hr4,hx])
      refine ⟨h1.1,h1.2,?_⟩
      rcases Nat.lt_or_ge out.length 6 with h3 | h3
      ·omega
      ·exact absurd ⟨by omega,h2⟩ hlim
     have hfu:=HA.out.fuel
     have XL:Hid (E.l.length<q3+(f'+1)):=by rw [← G9.out];exact hfu
     clear hd3 hr4 hlim hit HR3 hfu
     go_wp2_with fail
     refine (hO.out.call q3 out _ r4 HD4 hq zY aK mg HR4).mono ?_
     rintro e w4 ⟨hg4,jh⟩
     have aX:=aa hg4
     clear hg4
     cases r4 with
     | error er =>
      obtain ⟨e1,e2⟩:=er
      obtain ⟨rfl,hd4⟩:=jh
      have HD4:=aa hd4
      have ae:Hid (r=.error (e1,e2)):=gX.out
      clear hd4
      go_wp2
      exact ⟨rfl,aX.out,by rw [ae.out];exact ⟨rfl,HD4.out⟩⟩
     | ok qx =>
      obtain ⟨q4,x⟩:=qx
      obtain ⟨rfl,hd4,hs4⟩:=jh
      have HD5:=aa hd4
      have p9:=aa hs4
      obtain ⟨Xm,hq4,XM⟩:=sj.out q4 x rfl
      obtain ⟨b4,hb4⟩:∃ b,b=tk E.l q4 ⟨#[41]⟩:=⟨_,rfl⟩
      have iy:=aa hb4
      have gT:Hid (r=if b4 then .ok (q4+1,out++[x]) else Rp.andThen (Rp.want E.l E.en ⟨#[44]⟩ q4) fun q2 _=>Rp.items E.l E.en bg one f' (out++[x]) q2):=by rw [gX.out,hb4];rfl
      clear hd4 hs4 hb4
      go_wp2_with fail
      refine (ek E G q4 _ ⟨#[41]⟩ b4 _ _ HD5 hq4 iy rfl).mono ?_
      rintro e w5 ⟨rfl,hd5,hg5⟩
      have bY:Hid (w0.grownBy w5 (some E.R)):=ay aX.out hg5
      have lU:=aa (hO.out.keep _ _ _ p9.out hg5)
      have HD6:=aa hd5
      clear hg5 hd5
      cases b4 with
      | true =>
       go_wp2
       go_end0
       exact ⟨bY.out,by rw [gT.out];exact ⟨rfl,HD6.out,lU.out⟩⟩
      | false =>
       obtain ⟨r6,j4⟩:∃ r6,r6=Rp.want E.l E.en ⟨#[44]⟩ q4:=⟨_,rfl⟩
       have sG:=aa j4
       have lQ:Hid (r=Rp.andThen r6 fun q2 _=>Rp.items E.l E.en bg one f' (out++[x]) q2):=by rw [gT.out,j4];rfl
       have Ha:Hid (∀ q x,r6=.ok (q,x)→q4<q∧q≤E.l.length):=fun q x hx=>Rp.eH E.l E.en _ q4 q x hq4 (by rw [← j4,hx])
       clear j4
       go_wp2_with fail
       refine (iW E G q4 _ ⟨#[44]⟩ r6 _ HD6 hq4 sG).mono ?_
       rintro e w6 ⟨dz,qa⟩
       have iH:Hid (w0.grownBy w6 (some E.R)):=ay bY.out dz
       have Hd:=aa (hO.out.keep _ _ _ lU.out dz)
       clear dz
       cases r6 with
       | error er =>
        obtain ⟨e1,e2⟩:=er
        obtain ⟨rfl,hd6⟩:=qa
        have HD6:=aa hd6
        have ae:Hid (r=.error (e1,e2)):=lQ.out
        clear hd6
        go_wp2
        exact ⟨rfl,iH.out,by rw [ae.out];exact ⟨rfl,HD6.out⟩⟩
       | ok qx =>
        obtain ⟨q6,u6⟩:=qx
        obtain ⟨⟨v,rfl,rfl⟩,hd6⟩:=qa
        obtain ⟨aeA,su⟩:=Ha.out q6 u6 rfl
        have HN:Hid (G8 E op bg w0 St one r (out++[x]) q6 f' w6):=⟨by simpa using XM,hd6,su,Hd.out,iH.out,lQ.out,by have:=XL.out;omega⟩
        clear hd6
        go_wp2
        go_roundw
        case rel=>exact ⟨out++[x],q6,f',by simp <;> go_num,HN.out⟩
        case measure=>simp [intOf];omega
theorem XN {l:List Lx.Tk}{p:Nat}{s:ByteArray}(en:Nat)(h:tk l p s=true):(pk l p en).text=s:=by
 unfold tk at h
 unfold pk
 cases hl:l[p]? with
 | none=>rw [hl] at h;simp at h
 | some t=>rw [hl] at h;simpa using h
theorem NC {l:List Lx.Tk}{en p q:Nat}{x:ByteArray}(h:Rp.name l en p=.ok (q,x)):Lx.named (pk l p en).text.toList=true:=by
 unfold Rp.name lK at h
 split at h
 ·rename_i h2
  split at h2
  ·simp at h2
  ·split at h2
   ·simp at h2
   ·rename_i h3;simpa using h3
 ·simp at h
theorem qW {l:List Lx.Tk}{en p:Nat}{s:ByteArray}(h:tk l p s=true)(hs:oneOf s pE=true):Rp.pR (pk l p en)=true:=by
 unfold Rp.pR
 rw [XN en h,hs]
 simp
theorem XO {l:List Lx.Tk}{en d:Nat}{prev:Nat→au Sy.Ex}{p q:Nat}{x:Sy.Ex}(h:Rp.lM l en d prev p=.ok (q,x)):Rp.pR (pk l p en)=true:=by
 unfold Rp.lM at h
 split at h
 ·rename_i h1;exact qW h1 (by decide)
 split at h
 ·rename_i h1;exact qW h1 (by decide)
 unfold Rp.piece at h
 split at h
 ·rename_i h1;unfold Rp.pR;rw [h1];simp
 split at h
 ·rename_i h1;exact qW h1 (by decide)
 split at h
 ·rename_i h1;exact qW h1 (by decide)
 split at h
 ·rename_i h1;exact qW h1 (by decide)
 split at h
 ·rename_i h1;exact qW h1 (by decide)
 split at h
 ·rename_i h1;exact qW h1 (by decide)
 split at h
 ·rename_i h1;exact qW h1 (by decide)
 split at h
 ·rename_i h1;exact qW h1 (by decide)
 split at h
 ·rename_i h1;exact qW h1 (by decide)
 unfold Rp.named at h
 obtain ⟨q1,y,h1,_⟩:=Rp.fO h
 unfold Rp.pR
 rw [NC h1]
 simp
theorem ND {l:List Lx.Tk}{en:Nat}{ah:Nat→au Sy.Ex}:∀ (k p q:Nat) (x:Sy.Ex),Rp.from' l en ah k p=.ok (q,x)→∃ q1 y,ah p=.ok (q1,y)
 | 0,p,q,x,h=>⟨q,x,h⟩
 | k+1,p,q,x,h=>by
  rw [Rp.from'] at h
  obtain ⟨q1,y,h1,_⟩:=Rp.fO h
  exact ND k p q1 y h1
theorem NF {l:List Lx.Tk}{en d p q:Nat}{x:Sy.Ex}(h:Rp.expr l en d (Rp.dm l en d) p=.ok (q,x)):Rp.pR (pk l p en)=true:=by
 unfold Rp.expr at h
 split at h
 ·simp at h
 ·rename_i hd
  obtain ⟨d',rfl⟩:∃ d',d=d'+1:=⟨d - 1,by omega⟩
  obtain ⟨q1,y,h1⟩:=ND _ _ _ _ h
  have h2:Rp.ahead l en d' p=.ok (q1,y):=h1
  rw [Rp.xN] at h2
  exact XO h2
theorem vJ (E:Env)(d N:Nat)(w0:World)(hK:GX E d)(hN:w0.heap.size≤N)(hR:E.R<w0.heap.size):One E (200 - (d:Int)) 163 #[.pointer (some ⟨N+1,0,none⟩),.pointer (some ⟨N,0,none⟩)] w0 (qU E N) (Rp.expr E.l E.en d (Rp.dm E.l E.en d)) :=
 ⟨fun w w' out h hg=>h.kept hg (by omega),fun p out w r h hp ho hg hs hr=>(hK p N r out w0 w h hp ho hN hR hg hs hr).mono (fun e w' he=>by cases r <;> exact he)⟩
theorem XP:yg 162 Rp.pR:=fun t u ht=>VI t u ht
theorem qU.out {E:Env}{w w':World}{out:List Sy.Ex}(h:qU E w.heap.size w' out)(hl:out.length≤6000):∃ v,w'.heap[w.heap.size+1]?=some (sF v)∧Da w w' out v:=by
 obtain ⟨its,v,n,rfl,k⟩:=h
 have hl2:its.length≤6000:=by simpa using hl
 obtain ⟨a,c,hv,hq⟩:=Nj (Q:=gK w w') (k:=0) (nn:=0) (s:=⟨#[]⟩) k.row (fun it hit=>(k.kids it hit).keep (fun b hb=>⟨⟨by omega,hb.2.1⟩,rfl⟩)) (fun g hg=>by have:=k.row.lt g hg;exact ⟨by omega,this.2⟩) hl2 (by decide)
 exact ⟨v,k.ob,a,c,n+1,by rw [hv];simp,hq⟩
theorem XQ (E:Env)(w:World):qU E w.heap.size ((w.alloc (vX E.R)).alloc (sF (.slice none 0 0))) []:=by
 refine ⟨[],.slice none 0 0,0,rfl,?_,?_,World.ownsRow_nil _ _ _ _,fun it hit=>by simp at hit⟩
 ·rw [Below.heap_alloc _ _ _ (by simp)];exact heap_alloc_new w _
 ·have:=heap_alloc_new (w.alloc (vX E.R)) (sF (.slice none 0 0));simpa using this
theorem NG {α:Type}{l:List Lx.Tk}{en:Nat}{bg:Lx.Tk→Bool}{one:Nat→au α}(hbg:∀ p q x,one p=.ok (q,x)→bg (pk l p en)=true):∀ (f:Nat) (out:List α) (p q:Nat) (y:List α),out.length≤6→Rp.items l en bg one f out p=.ok (q,y)→y.length≤6
 | 0,out,p,q,y,ho,h=>by simp [Rp.items] at h;rw [← h.2];exact ho
 | f+1,out,p,q,y,ho,h=>by
  cases hl:jD () (fZ bg out.length 6 (pk l p en) p) with
  | error e=>rw [Ny hl.symm] at h;simp at h
  | ok qx =>
   obtain ⟨q',u⟩:=qx
   obtain ⟨_,hlim,hit⟩:=NA (one:=one) (f:=f) hl.symm
   rw [hit] at h
   obtain ⟨q1,x,h1,h2⟩:=Rp.fO h
   have h3:out.length+1≤6:=by
    rcases Nat.lt_or_ge out.length 6 with h3 | h3
    ·omega
    ·exact absurd ⟨by omega,hbg _ _ _ h1⟩ hlim
   split at h2
   ·simp at h2;rw [← h2.2];simpa using h3
   ·obtain ⟨q2,u2,_,h4⟩:=Rp.fO h2
    exact NG hbg f _ _ _ _ (by simpa using h3) h4
theorem NH {α:Type}{l:List Lx.Tk}{en:Nat}{bg:Lx.Tk→Bool}{one:Nat→au α}(hbg:∀ p q x,one p=.ok (q,x)→bg (pk l p en)=true){p q:Nat}{y:List α}(h:Rp.list l en bg one p=.ok (q,y)):y.length≤6:=by
 unfold Rp.list at h
 obtain ⟨q1,u,_,h2⟩:=Rp.fO h
 split at h2
 ·simp at h2;rw [h2.2];simp
 ·exact NG hbg _ _ _ _ _ (by simp) h2
theorem XR (E:Env)(G:Good E)(d:Nat)(hK:Hid (GX E d)):GG E d:=by
 intro p r w h hp hr
 have hR:=h.out.lt
 have HL:Hid (∀ q y,r=.ok (q,y)→y.length≤6000):=fun q y e=>Nat.le_trans (NH (fun p q x=>NF) (by have:=hr.out;rw [e] at this;exact this.symm)) (by decide)
 go_enter Tryz.func158,Tryz.ntmps158
 go_wp2_with fail
 refine (NB E G (200 - (d:Int)) 162 Rp.pR 163 _ (qU E w.heap.size) (Rp.expr E.l E.en d (Rp.dm E.l E.en d)) p r w _ (fun a w=>by simp [go_sem]) (aa XP) (fun w=>by simp [go_sem]) (aa (vJ E d w.heap.size w hK.out (Nat.le_refl _) hR)) (aa (Rp.oN (Rp.xO E.l E.en d))) (aa (fun p q x=>NF)) (aa (XQ E w)) (aa (dM (dM (eD (Below.refl _ w)) _) _)) (aa ((h.out.alloc G _).alloc G _)) hp hr).mono ?_
 rintro e w1 ⟨hg1,hf1⟩
 have ax:=aa hg1
 clear hg1
 cases r with
 | error er =>
  obtain ⟨e1,e2⟩:=er
  obtain ⟨rfl,hd1⟩:=hf1
  have HD1:=aa hd1
  clear hd1
  go_wp2
  exact ⟨rfl,ax.out,rfl,HD1.out⟩
 | ok qx =>
  obtain ⟨q,out⟩:=qx
  obtain ⟨rfl,hd1,hs1⟩:=hf1
  have HD1:=aa hd1
  obtain ⟨v,hv,hks⟩:=hs1.out (HL.out q out rfl)
  have He:=aa hks
  have cv:w1.cell? ⟨w.heap.size+1,0,none⟩=some v:=by simp [World.cell?,hv]
  have hlt:=lt_of_block hv
  clear hd1 hs1 hks hv
  go_wp2
  go_ret
  exact ⟨ax.out,⟨v,rfl,He.out⟩,HD1.out⟩
theorem NI (E:Env)(G:Good E)(d:Nat)(hX:nR E d)(hT:CV E d):zM E d :=
 have hK:=XR E G d (aa (XI E G d (aa hX)))
 WZ E G d (aa hT) (aa (XA E G d (aa hX) (aa hK) (aa (Xr E G d (aa hX))) (aa (Xu E G d (aa hX))) (aa (Xy E G d (aa hK)))))
theorem NJ (E:Env)(G:Good E):∀ d,d≤200→nR E d∧zM E d
 | 0,_=>⟨M5 E G,NI E G 0 (M5 E G) (WR E G)⟩
 | d+1,hd=>by
  obtain ⟨_,hA⟩:=NJ E G d (by omega)
  have f0:=Xa E G d (aa hA)
  have f1:=zR E G d 0 (by omega) (aa f0)
  have f2:=zR E G d 1 (by omega) (aa f1)
  have f3:=zR E G d 2 (by omega) (aa f2)
  have f4:=zR E G d 3 (by omega) (aa f3)
  have f5:=zR E G d 4 (by omega) (aa f4)
  have hX:=WS E G d (by omega) (aa f5)
  exact ⟨hX,NI E G (d+1) hX (WU E G d (by omega) (aa hA))⟩
theorem XT (E:Env)(G:Good E)(d:Nat)(hd:d≤200):nR E d:=(NJ E G d hd).1
end Go.Proofs.YtolfleeidpeomaaGreatDoor
