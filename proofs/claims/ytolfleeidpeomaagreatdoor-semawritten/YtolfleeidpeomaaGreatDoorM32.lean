/- The walk of call,given that of expr. -/
import Derived.Test.YtolfleeidpeomaaGreatDoorM31
set_option maxRecDepth 100000
set_option maxHeartbeats 4000000
namespace Go.Proofs.YtolfleeidpeomaaGreatDoor
open Go.RowKit
namespace Sm
theorem hid {p:Prop}(h:p):Hid p:=h
abbrev aj (x:Sy.Ex) (xa:Option Addr) (xc:Nat):Obj:=.cells #[.int .i64 x.kind,.int .i64 x.n,.string x.name,.slice xa x.kids.length xc] 122 (0,0)
abbrev jC (p:Sy.Pm):Obj:=.cells #[.string p.name,.int .i64 p.ty.kind,.string p.ty.gen] 118 (0,0)
abbrev aN (D:Sy.Df) (pa:Option Addr) (pc:Nat) (ba:Option Addr) (bc:Nat):Obj:=.cells #[.int .i64 D.kind,.string D.name,.int .i64 D.ty.kind,.string D.ty.gen,.int .i64 D.takes.kind,.string D.takes.gen,.int .i64 D.cap,.slice pa D.params.length pc,.slice ba D.body.length bc] 50 (0,0)
theorem Tryz.info3:(Tryz.prog.info? 3).map (fun i=>(i.zero,i.size,i.bytes))=some (some (.int .i64 0),1,8):=by kernel_rfl
theorem Ed (x:Int):∀ u ∈ [Value.int .i64 x],u.oneCell'=true:=by intro u hu;simp at hu;subst hu;rfl
theorem gB {w:World}{b:Nat}{v0 v1 v2:Value}{t:TypeId}(h:w.heap[b]?=some (.cells #[v0,v1,v2] t (0,0))):w.cell? ⟨b,0,none⟩=some v0∧w.cell? ⟨b,1,none⟩=some v1∧w.cell? ⟨b,2,none⟩=some v2:=by simp [World.cell?,h]
theorem eF {w:World}{b:Nat}{v0 v1 v2 v3 v4 v5 v6 v7 v8:Value}{t:TypeId}(h:w.heap[b]?=some (.cells #[v0,v1,v2,v3,v4,v5,v6,v7,v8] t (0,0))) :
  w.cell? ⟨b,0,none⟩=some v0∧w.cell? ⟨b,1,none⟩=some v1∧w.cell? ⟨b,2,none⟩=some v2∧w.cell? ⟨b,3,none⟩=some v3∧w.cell? ⟨b,4,none⟩=some v4∧w.cell? ⟨b,5,none⟩=some v5∧w.cell? ⟨b,6,none⟩=some v6∧w.cell? ⟨b,7,none⟩=some v7∧w.cell? ⟨b,8,none⟩=some v8:=by simp [World.cell?,h]
theorem abf {w:World}{b:Nat}{v0 v1 v2 v3 v4 v5 v6 v7 v8:Value}{t:TypeId}(h:w.heap[b]?=some (.cells #[v0,v1,v2,v3,v4,v5,v6,v7,v8] t (0,0))) :
  w.frozen? ⟨b,0,none⟩=false∧w.frozen? ⟨b,1,none⟩=false∧w.frozen? ⟨b,2,none⟩=false∧w.frozen? ⟨b,3,none⟩=false∧w.frozen? ⟨b,4,none⟩=false∧w.frozen? ⟨b,5,none⟩=false∧w.frozen? ⟨b,6,none⟩=false∧w.frozen? ⟨b,7,none⟩=false∧w.frozen? ⟨b,8,none⟩=false:=by simp [World.frozen?,h]
theorem Ee {l:List Sy.Df}{kind:Int}{name:ByteArray}{i:Nat}(h:Sm.want l kind name=.ok i):i<l.length:=by
 unfold Sm.want at h
 cases hq:numOf l name with
 | none=>rw [hq] at h;cases h
 | some i' =>
  rw [hq] at h
  dsimp only at h
  split at h
  ·cases h;exact D8 hq
  ·cases h
theorem af.at {K:BK}{w w':World}{k:Nat}{o:Obj}(h:af K w w')(hk:w.heap[k]?=some o∧bA K w k):w'.heap[k]?=some o∧bA K w' k:=by
 obtain ⟨h1,h2⟩:=h.block k (lt_of_block hk.1) hk.2
 exact ⟨h1.trans hk.1,h2⟩
theorem BW.new {K:BK}{w:World}{v:Vars}{t:Tk}(h:BW K w v t)(o:Obj):(w.alloc o).heap[w.heap.size]?=some o∧bA K (w.alloc o) w.heap.size:=⟨heap_alloc_new w o,h.free (bn o) (Nat.le_refl _)⟩
theorem Q8 (K:BK)(v:Vars)(d:Nat)(ex:Sy.Ex→Tk→Except Int (Sy.Ty × Tk))(hC:Hid (kF K v d ex))(hle:Hid (oh d ex))(kind:Int)(x:Sy.Ex)(xa:Option Addr)(xc:Nat)(t:Tk)(n m:Nat)(w:World)(r:Except Int (Sy.Df × Tk))(h:Hid (BW K w v t))(hx:Hid (∃ h,aJ K.B w h x xa))(hn:Hid (Sy.runs (Sy.aF d) x.kids (n+1)=.ok m))(ht:Hid (aT t n))(h2:n+1≤2000)
  (hr:Hid (r=call K.l ex kind x t)) :
  Calls Tryz.prog 154 #[.pointer (some ⟨K.F,0,none⟩),.int .i64 kind,dH x xa xc] w fun e w'=>Bd K w v r e w':=by
 have hF:=h.out.lt
 obtain ⟨W0,hW0⟩:∃ W0,W0=(w.alloc (aj x xa xc)).alloc zD:=⟨_,rfl⟩
 have aM:Hid (af K w W0):=by rw [hW0];exact af.grown (bu _ _) hF
 have HB0:Hid (BW K W0 v t):=by rw [hW0];exact h.out.grown (bu _ _)
 have HX0:Hid (W0.heap[w.heap.size]?=some (aj x xa xc)∧bA K W0 w.heap.size):=by
  rw [hW0]
  exact (af.alloc K _ _ (by simp;omega)).at (h.out.new _)
 have HZ0:Hid (W0.heap[w.heap.size+1]?=some zD∧bA K W0 (w.heap.size+1)):=by
  rw [hW0]
  refine ⟨?_,h.out.free (bu _ _) (by omega)⟩
  have:=heap_alloc_new (w.alloc (aj x xa xc)) zD
  simpa using this
 have aR:Hid (∃ h,aJ K.B W0 h x xa):=by
  obtain ⟨hh,hE⟩:=hx.out
  exact ⟨hh,hE.same (h.out.same aM.out)⟩
 obtain ⟨wr,hwr⟩:∃ wr,wr=Sm.want K.l kind x.name:=⟨_,rfl⟩
 have sQ:Hid (wr=Sm.want K.l kind x.name):=hwr
 obtain ⟨rv,bf⟩:∃ rv:Except Int Value,rv=match Sm.want K.l kind x.name with | .ok i=>.ok (.int .i64 (i:Int)) | .error y=>.error y:=⟨_,rfl⟩
 have dV:Hid (rv=match Sm.want K.l kind x.name with | .ok i=>.ok (.int .i64 (i:Int)) | .error y=>.error y):=bf
 have ae:Hid (r=andThen wr fun n=>if x.kids.length≠(bJ K.l n).params.length then .error 5 else andThen (args ex (bJ K.l n).params x.kids ⟨t.sends,t.recvs,t.calls++[n]⟩) fun t=>.ok (bJ K.l n,t)):=by
  unfold Hid
  rw [hr.out,hwr,call]
 obtain ⟨o,sn,rr,cc,h4⟩:=HB0.out.rows
 obtain ⟨c0,c1,c2,_⟩:=fE h4.blk
 obtain ⟨_,_,y2,_⟩:=jc HX0.out.1
 have hB0:K.B≤W0.heap.size:=by have:=HB0.out.base;have:=HB0.out.lt;omega
 have HW0:Hid (W0=_):=hW0
 have gM:Hid (∀ w',W0.grownBy w' none→w'.cell? ⟨K.F,0,none⟩=some (.slice K.a K.l.length K.c)∧w'.cell? ⟨K.F,1,none⟩=some (.map (some K.M))∧w'.cell? ⟨K.F,2,none⟩=some (.int .i64 K.num)∧w'.cell? ⟨w.heap.size,2,none⟩=some (.string x.name)):=fun w' hg=>by
  have cF:∀ o,w'.cell? ⟨K.F,o,none⟩=W0.cell? ⟨K.F,o,none⟩:=fun o=>World.cell?_of_block (a:=⟨K.F,o,none⟩) (hg.block _ HB0.out.lt (by simp))
  have cX:∀ o,w'.cell? ⟨w.heap.size,o,none⟩=W0.cell? ⟨w.heap.size,o,none⟩:=fun o=>World.cell?_of_block (a:=⟨w.heap.size,o,none⟩) (hg.block _ (lt_of_block HX0.out.1) (by simp))
  rw [cF,cF,cF,cX]
  exact ⟨c0,c1,c2,y2⟩
 rw [← hwr] at bf
 clear hr hwr hW0 h4
 go_enter Tryz.func154,Tryz.ntmps154
 go_wp2_with fail
 rw [← HW0.out]
 refine wp_region_held_drew (S:=fun w'=>w'.cell? ⟨K.F,0,none⟩=some (.slice K.a K.l.length K.c)∧w'.cell? ⟨K.F,1,none⟩=some (.map (some K.M))∧w'.cell? ⟨K.F,2,none⟩=some (.int .i64 K.num)∧w'.cell? ⟨w.heap.size,2,none⟩=some (.string x.name)) (by kernel_rfl) ⟨c0,c1,c2,y2⟩ (fun hHeld=>?_)
 refine tk 0 (v:=?_) rfl ?_ (by assumption) ?_
 rotate_left
 ·intro w hSw
  (try dsimp only at hSw)
  go_simp
  (try with_reducible rfl)
 (try go_frame)
 refine tk 1 (v:=?_) rfl ?_ (by assumption) ?_
 rotate_left
 ·intro w hSw
  (try dsimp only at hSw)
  go_simp
  (try with_reducible rfl)
 (try go_frame)
 refine tk 2 (v:=?_) rfl ?_ (by assumption) ?_
 rotate_left
 ·intro w hSw
  (try dsimp only at hSw)
  go_simp
  (try with_reducible rfl)
 (try go_frame)
 refine tk 3 (v:=?_) rfl ?_ (by assumption) ?_
 rotate_left
 ·intro w hSw
  (try dsimp only at hSw)
  go_simp
  (try with_reducible rfl)
 (try go_frame)
 refine tk 4 (v:=?_) rfl ?_ (by assumption) ?_
 rotate_left
 ·intro w hSw
  (try dsimp only at hSw)
  go_simp
  (try with_reducible rfl)
 (try go_frame)
 refine tk 5 (v:=?_) rfl ?_ (by assumption) ?_
 rotate_left
 ·intro w hSw
  (try dsimp only at hSw)
  go_simp
  (try with_reducible rfl)
 (try go_frame)
 refine tk 6 (v:=?_) rfl ?_ (by assumption) ?_
 rotate_left
 ·intro w hSw
  (try dsimp only at hSw)
  go_simp
  (try with_reducible rfl)
 (try go_frame)
 refine wpAnyH_ready (rs:=[7]) (by kernel_rfl) (by simp) ?_
 refine AllReadyH.cons (o:=_) rfl (fun K' hK=>?_) AllReadyH.nil
 go_simp
 refine (tY K.B K.l K.a K.c K.M K.num kind x.name K.R W0.drew rv (by exact HB0.out.drew.fH) (by exact hB0) (by exact HB0.out.drew.mp) (by exact HB0.out.nums) dV).mono ?_
 rintro e w1 ⟨hg1',he1⟩
 have hg1:W0.grownBy w1 none:=⟨hg1'.os,hg1'.tape,hg1'.output,hg1'.size,hg1'.block⟩
 have ax:Hid (W0.grownBy w1 none):=hg1
 clear hg1'
 cases wr with
 | error y =>
  subst bf
  obtain rfl:=he1
  have HE:Hid (Bd K w v r (.panicked [aH y K.num]) w1):=by
   rw [ae.out]
   exact ⟨aM.out.trans (af.grown ax.out HB0.out.lt),rfl,v,t,HB0.out.grown ax.out,List.prefix_refl _⟩
  clear hK hg1
  go_wp2
  exact ⟨rfl,HE.out⟩
 | ok i =>
  subst bf
  obtain rfl:=he1
  have hi:=Ee sQ.out.symm
  obtain ⟨D,hD⟩:∃ D,D=K.l[i]:=⟨_,rfl⟩
  have wW:Hid (bJ K.l i=D):=by unfold Hid;rw [hD];simp [bJ,List.getElem?_eq_getElem hi]
  have HB1:Hid (BW K w1 v t):=HB0.out.grown hg1
  have bP:Hid (af K w w1):=aM.out.trans (af.grown hg1 HB0.out.lt)
  obtain ⟨b,off,pa,pc,ba,bc,ha,hb,k0,k1,k2,k3,k4,k5,k6,k7,k8,hdf⟩:=HB1.out.fH.2 i D (by rw [hD];exact List.getElem?_eq_getElem hi)
  have HA:Hid (K.a=some ⟨b,off,none⟩):=ha
  have wX:Hid (jL K.B w1 D pa ba):=hdf
  have ib:=hid ((af.grown ax.out HB0.out.lt).at HX0.out)
  have HZ1:=hid ((af.grown ax.out HB0.out.lt).at HZ0.out)
  have hS1:=gM.out w1 hg1
  refine hK.out _ _ hS1 (fun hHeld=>?_)
  refine tk 8 (v:=?_) rfl ?_ (by assumption) ?_
  rotate_left
  ·intro w hSw
   (try dsimp only at hSw)
   go_simp
   (try with_reducible rfl)
  (try go_frame)
  refine wpAnyH_done (by kernel_rfl) ?_ _
  obtain ⟨ord,sn,rc,cl,h4⟩:=HB1.out.rows
  have H4:Hid (lY K w1 v t ord sn rc cl):=h4
  obtain ⟨ca,cn,hcl⟩:=il h4.kS
  subst hcl
  obtain ⟨i0,hif,hz0,hz1,hz2⟩:=info_parts Tryz.info3
  have hB1:K.B≤w1.heap.size:=by have:=HB1.out.base;have:=HB1.out.lt;omega
  have Bi:Hid ((Value.slice ca t.calls.length cn).ownBlock≠some K.F):=fun e=>by
   obtain ⟨_,_,cur,hc⟩:=bq h4.kS _ e
   rw [h4.blk] at hc
   cases hc
  have hF1:=h4.lt
  obtain ⟨_,_,_,_,_,_,_,d7⟩:=fE h4.blk
  obtain ⟨_,_,_,z7⟩:=ql h4.blk
  have htc:t.calls.length≤2000:=by have:=ht.out.2.2;omega
  have yO:Hid (∀ (o2:Obj) (w4:World),(w1.alloc o2).grownBy w4 (Value.slice ca t.calls.length cn).ownBlock→∀ k,k<w1.heap.size→(Value.slice ca t.calls.length cn).ownBlock≠some k→w4.heap[k]?=w1.heap[k]?):=fun o2 w4 hg k hk hne =>
   (hg.block k (by simp;omega) (fun e=>hne e.symm)).trans (Below.heap_alloc _ _ _ hk)
  have yP:Hid (∀ (o2:Obj) (w4:World),(w1.alloc o2).grownBy w4 (Value.slice ca t.calls.length cn).ownBlock→w4.heap[K.F]?=some (K.obj ord sn rc (.slice ca t.calls.length cn))∧(∀ o,w4.cell? ⟨b,o,none⟩=w1.cell? ⟨b,o,none⟩)∧w4.heap[w.heap.size]?=some (aj x xa xc)):=fun o2 w4 hg=>by
   refine ⟨(yO.out o2 w4 hg _ hF1 Bi.out).trans H4.out.blk,fun o=>World.cell?_of_block (a:=⟨b,o,none⟩) (yO.out o2 w4 hg b (by omega) (fun e=>by have:=(bq H4.out.kS _ e).1;omega)),(yO.out o2 w4 hg _ (lt_of_block ib.out.1) ?_).trans ib.out.1⟩
   exact (ib.out.2.2.2 _ _ _ _ H4.out.blk).2.2.2
  have jk:K.l.length≤maxLen:=HB1.out.fH.1
  obtain ⟨L,hL⟩:∃ L,L=K.l.length:=⟨_,rfl⟩
  have HL:Hid (L=K.l.length):=hL
  have hiL:(i:Int)<(L:Int):=by omega
  rw [← hL] at jk
  obtain ⟨np,om⟩:∃ np,np=D.params.length:=⟨_,rfl⟩
  obtain ⟨nk,hnk⟩:∃ nk,nk=x.kids.length:=⟨_,rfl⟩
  have nz:Hid (np=D.params.length):=om
  have Bj:Hid (nk=x.kids.length):=hnk
  have yQ:Hid (r=if nk≠np then .error 5 else andThen (args ex D.params x.kids ⟨t.sends,t.recvs,t.calls++[i]⟩) fun t=>.ok (D,t)):=by
   unfold Hid
   rw [ae.out,andThen_ok,wW.out,om,hnk]
  clear hK hg1 hS1 hD hdf ha h4 hL om hnk c0 c1 c2 y2
  have hbF:b≠K.F:=by have:=HB1.out.base;omega
  have yN:w.heap.size≠K.F:=by omega
  by_cases hlen:nk=np
  ·have en:((nk:Int) != (np:Int))=false:=by simp;omega
   go_wp2_with (at_builtin;refine sD rfl _ _ 98 rfl K.B 3 i0 _ 1 8 Tryz.underlying98 hif hz0 hz1 hz2 rfl (by decide) _ t.calls.length (bF t.calls) rfl (H4.out.kS.alloc _) ⟨w1.heap.size,0,none⟩ 1 1 [.int .i64 (i:Int)] rfl rfl (Ba _ _ _) (Ed _) (by decide) (by unfold maxLen;omega) (by omega) (by simp;omega) ?_;intro g cap w4 hq4 hg4 hw4;have lG:Hid _:=Q7 HB1.out H4.out (World.grownBy.refl _ _) hg4 hq4 hw4;have qG:=hg4.size;obtain ⟨eT,uO,hx4⟩:=yP.out _ w4 hg4;obtain ⟨f0,f1,f2,_⟩:=fE eT;obtain ⟨_,_,_,f7⟩:=ql eT;obtain ⟨_,_,_,f4,f5,f6,_,e7⟩:=fE eT;obtain ⟨_,_,_,x3⟩:=jc hx4;rw [HA.out,← HL.out] at f0;rw [← Bj.out] at x3;rw [← uO] at k0 k1 k2 k3 k4 k5 k6 k7 k8;rw [← nz.out] at k7;have Jw:=lt_of_block eT;have Q9:=lt_of_block hx4;have HX4:=hid hx4;clear hq4 hg4 hw4 eT uO hx4)
   obtain ⟨W6,Bn⟩:∃ W6,W6=(w4.setCell ⟨K.F,7,none⟩ (.slice (some ⟨g,0,none⟩) (t.calls.length+1) cap)).alloc (.cells #[.int .i64 D.kind,.string D.name,.int .i64 D.ty.kind,.string D.ty.gen,.int .i64 D.takes.kind,.string D.takes.gen,.int .i64 D.cap,.slice pa np pc,.slice ba D.body.length bc] 50):=⟨_,rfl⟩
   have Ra:Hid (W6=_):=Bn
   have hs5:(w4.setCell ⟨K.F,7,none⟩ (.slice (some ⟨g,0,none⟩) (t.calls.length+1) cap)).heap.size=w4.heap.size:=by simp [World.setCell]
   have Bp:Hid (af K w1 W6):=by rw [Bn];exact lG.out.2.trans (af.alloc K _ _ lG.out.1.lt)
   have wY:Hid (af K w W6):=bP.out.trans Bp.out
   have uE:Hid (BW K W6 v ⟨t.sends,t.recvs,t.calls++[i]⟩):=by rw [Bn];exact lG.out.1.grown (bn _)
   have HX6:=hid (Bp.out.at ib.out)
   have lS:=hid (Bp.out.at HZ1.out)
   have HD6:Hid (W6.heap[w4.heap.size]?=some (.cells #[.int .i64 D.kind,.string D.name,.int .i64 D.ty.kind,.string D.ty.gen,.int .i64 D.takes.kind,.string D.takes.gen,.int .i64 D.cap,.slice pa np pc,.slice ba D.body.length bc] 50 (0,0))∧bA K W6 w4.heap.size):=by
    have:=lG.out.1.new (.cells #[.int .i64 D.kind,.string D.name,.int .i64 D.ty.kind,.string D.ty.gen,.int .i64 D.takes.kind,.string D.takes.gen,.int .i64 D.cap,.slice pa np pc,.slice ba D.body.length bc] 50 (0,0))
    rw [hs5] at this
    rw [Bn]
    exact this
   have Jy:Hid (jL K.B W6 D pa ba):=wX.out.same (HB1.out.same Bp.out)
   have lQ:Hid (∃ h,aJ K.B W6 h x xa):=by
    obtain ⟨hh,hE⟩:=aR.out
    exact ⟨hh,(hE.same (HB0.out.same (af.grown ax.out HB0.out.lt))).same (HB1.out.same Bp.out)⟩
   have sG:Hid (r=andThen (args ex D.params x.kids ⟨t.sends,t.recvs,t.calls++[i]⟩) fun t=>.ok (D,t)):=by unfold Hid;rw [yQ.out,if_neg (by simpa using hlen)]
   have Jz:Hid (aT ⟨t.sends,t.recvs,t.calls++[i]⟩ (n+1)):=⟨by have:=ht.out.1;dsimp;omega,by have:=ht.out.2.1;dsimp;omega,by have:=ht.out.2.2;simp;omega⟩
   have DL:=wY.out.size
   have hPz:w.heap.size<w4.heap.size:=Q9
   have HPZ:Hid (w4.heap.size≠w.heap.size+1):=fun e=>by have h1:=lt_of_block HZ1.out.1;have h2:w1.heap.size+1≤w4.heap.size:=(by simpa using qG);omega
   generalize hPe:w4.heap.size=P at *
   rw [← Ra.out]
   clear Bn hs5 f0 f1 f2 f7 f4 f5 f6 e7 x3 k0 k1 k2 k3 k4 k5 k6 k7 k8 hPe Ra lG qG d7 z7
   go_loopw [55] (fun q wr=>∃ (j:Nat) (t':Tk) (n':Nat),q=.int .i64 j∧j≤np∧n'≤2000∧Hid (BW K wr v t')∧Hid (af K W6 wr)∧Hid (aT t' n')∧Hid (Sy.runs (Sy.aF d) (x.kids.drop j) n'=.ok m)∧Hid (r=andThen (args ex (D.params.drop j) (x.kids.drop j) t') fun t=>.ok (D,t))) (fun q _=>np - (intOf q).toNat)
   case atStart=>exact ⟨0,_,n+1,rfl,Nat.zero_le _,h2,uE,af.refl _ _,Jz,by rw [List.drop_zero];exact hn,by rw [List.drop_zero,List.drop_zero];exact sG⟩
   case round =>
    obtain ⟨j,t',n',rfl,hj,hn2,HB,HK,HT,HN,HR⟩:=hrel
    have HX:=hid (HK.out.at HX6.out)
    have HZ:=hid (HK.out.at lS.out)
    have HD:=hid (HK.out.at HD6.out)
    have rD:=HB.out.lt
    by_cases hlt:j<np
    ·have hj1:j<D.params.length:=by rw [← nz.out];exact hlt
     have hj2:j<x.kids.length:=by rw [← Bj.out];omega
     obtain ⟨p,hp⟩:∃ p,D.params[j]?=some p:=⟨_,List.getElem?_eq_getElem hj1⟩
     obtain ⟨kd,hkd⟩:∃ kd,x.kids[j]?=some kd:=⟨_,List.getElem?_eq_getElem hj2⟩
     have hsame:=uE.out.same HK.out
     obtain ⟨pb,po,wU,hpb,p0,p1,p2,_⟩:=(Jy.out.same hsame).2.2.2.1.2 j p hp
     have Rb:D.params.drop j=p :: D.params.drop (j+1):=by rw [List.drop_eq_getElem_cons hj1,(List.getElem?_eq_some_iff.1 hp).2]
     have JA:x.kids.drop j=kd :: x.kids.drop (j+1):=by rw [List.drop_eq_getElem_cons hj2,(List.getElem?_eq_some_iff.1 hkd).2]
     obtain ⟨n1,hx1,hn1⟩:=og (by have:=HN.out;rw [JA] at this;exact this)
     have Bc:n1≤2000:=Sy.jw d kd n' n1 hn2 hx1
     obtain ⟨er,her⟩:∃ er,er=must ex p.ty [kd] t':=⟨_,rfl⟩
     have dL:Hid (er=must ex p.ty [kd] t'):=her
     have ae:Hid (r=andThen er fun t2=>andThen (args ex (D.params.drop (j+1)) (x.kids.drop (j+1)) t2) fun t=>.ok (D,t)):=by
      unfold Hid
      rw [HR.out,Rb,JA,args,her,List.take_succ_cons,List.take_zero,List.drop_succ_cons,List.drop_zero]
      cases must ex p.ty [kd] t' <;> rfl
     have Re:Hid (Sy.runs (Sy.aF d) [kd] n'=.ok n1):=by unfold Hid;simp [Sy.runs,hx1]
     have kN:Hid (Sy.runs (Sy.aF d) (x.kids.drop (j+1)) n1=.ok m):=hn1
     obtain ⟨hh,kb,ko,ka,kc,hxa,hkb,q0,q1,q2,q3,hkx⟩:∃ hh kb ko ka kc,xa=some ⟨kb,ko,none⟩∧kb<K.B∧wr.cell? ⟨kb,ko+j * 4,none⟩=some (.int .i64 kd.kind)∧wr.cell? ⟨kb,ko+j * 4+1,none⟩=some (.int .i64 kd.n)∧wr.cell? ⟨kb,ko+j * 4+2,none⟩=some (.string kd.name)∧wr.cell? ⟨kb,ko+j * 4+3,none⟩=some (.slice ka kd.kids.length kc)∧aJ K.B wr hh kd ka:=by
      obtain ⟨hh,hE⟩:=lQ.out
      cases hh with
      | zero=>exact hE.elim
      | succ hh =>
       obtain ⟨b',off',a',c',e1,e2,e3,e4,e5,e6,e7⟩:=(aJ.same hsame _ _ _ hE).2.2 j kd hkd
       exact ⟨hh,b',off',a',c',e1,e2,e3,e4,e5,e6,e7⟩
     have jq:Hid (aJ K.B wr hh kd ka):=hkx
     have Ef:Hid (xa=some ⟨kb,ko,none⟩):=hxa
     have hB:=HB.out.base
     have abn:pb<wr.heap.size:=by omega
     have Rf:kb<wr.heap.size:=by omega
     obtain ⟨_,_,_,x3⟩:=jc HX.out.1
     rw [← Bj.out,hxa] at x3
     obtain ⟨W7,Bq⟩:∃ W7,W7=wr.alloc (jC p):=⟨_,rfl⟩
     have HW7:Hid (W7=_):=Bq
     have Br:Hid (af K wr W7):=by rw [Bq];exact af.alloc K wr _ rD
     have JB:Hid (BW K W7 v t'):=by rw [Bq];exact HB.out.grown (bn _)
     have HP7:Hid (W7.heap[wr.heap.size]?=some (jC p)∧bA K W7 wr.heap.size):=by rw [Bq];exact HB.out.new _
     have HX7:=hid (Br.out.at HX.out)
     have HS:Hid (∀ w',af K W7 w'→w'.cell? ⟨wr.heap.size,1,none⟩=some (.int .i64 p.ty.kind)∧w'.cell? ⟨wr.heap.size,2,none⟩=some (.string p.ty.gen)∧w'.cell? ⟨w.heap.size,3,none⟩=some (.slice (some ⟨kb,ko,none⟩) nk xc)∧w'.cell? ⟨kb,ko+j * 4,none⟩=some (.int .i64 kd.kind)∧w'.cell? ⟨kb,ko+j * 4+1,none⟩=some (.int .i64 kd.n)∧w'.cell? ⟨kb,ko+j * 4+2,none⟩=some (.string kd.name)∧w'.cell? ⟨kb,ko+j * 4+3,none⟩=some (.slice ka kd.kids.length kc)):=fun w' hk=>by
      obtain ⟨_,m1,m2⟩:=gB (hk.at HP7.out).1
      obtain ⟨_,_,_,pX⟩:=jc (hk.at HX7.out).1
      rw [← Bj.out,Ef.out] at pX
      have old:∀ o,w'.cell? ⟨kb,o,none⟩=wr.cell? ⟨kb,o,none⟩:=fun o=>((HB.out.same (Br.out.trans hk)) kb o hkb)
      rw [old,old,old,old]
      exact ⟨m1,m2,pX,q0,q1,q2,q3⟩
     have Rh:Hid (j+1≤np):=hlt
     have JC:j+1≤9223372036854775807:=by have h1:=Jy.out.2.2.2.1.1;have h2:=nz.out;unfold maxLen at h1;omega
     have hjn:(j:Int)<(nk:Int):=by omega
     have hjp:(j:Int)<(np:Int):=by omega
     have hS7:=HS.out W7 (af.refl _ _)
     subst wU
     clear Rb JA hx1 hn1 her Bq hkx hxa hp hkd hsame
     go_wp2_with fail
     rw [← HW7.out]
     refine wp_region_held_drew (S:=fun w'=>w'.cell? ⟨wr.heap.size,1,none⟩=some (.int .i64 p.ty.kind)∧w'.cell? ⟨wr.heap.size,2,none⟩=some (.string p.ty.gen)∧w'.cell? ⟨w.heap.size,3,none⟩=some (.slice (some ⟨kb,ko,none⟩) nk xc)∧w'.cell? ⟨kb,ko+j * 4,none⟩=some (.int .i64 kd.kind)∧w'.cell? ⟨kb,ko+j * 4+1,none⟩=some (.int .i64 kd.n)∧w'.cell? ⟨kb,ko+j * 4+2,none⟩=some (.string kd.name)∧w'.cell? ⟨kb,ko+j * 4+3,none⟩=some (.slice ka kd.kids.length kc)) (by kernel_rfl) hS7 (fun hHeld=>?_)
     refine tk 0 (v:=?_) rfl ?_ (by assumption) ?_
     rotate_left
     ·intro w hSw
      (try dsimp only at hSw)
      go_simp
      (try with_reducible rfl)
     (try go_frame)
     refine tk 1 (v:=?_) rfl ?_ (by assumption) ?_
     rotate_left
     ·intro w hSw
      (try dsimp only at hSw)
      go_simp
      (try with_reducible rfl)
     (try go_frame)
     refine tk 2 (v:=?_) rfl ?_ (by assumption) ?_
     rotate_left
     ·intro w hSw
      (try dsimp only at hSw)
      go_simp
      (try with_reducible rfl)
     (try go_frame)
     refine tk 3 (v:=?_) rfl ?_ (by assumption) ?_
     rotate_left
     ·intro w hSw
      (try dsimp only at hSw)
      go_simp
      (try with_reducible rfl)
     (try go_frame)
     refine tk 4 (v:=?_) rfl ?_ (by assumption) ?_
     rotate_left
     ·intro w hSw
      (try dsimp only at hSw)
      go_simp
      (try with_reducible rfl)
     (try go_frame)
     refine tk 5 (v:=?_) rfl ?_ (by assumption) ?_
     rotate_left
     ·intro w hSw
      (try dsimp only at hSw)
      go_simp
      (try with_reducible rfl)
     (try go_frame)
     refine tk 6 (v:=?_) rfl ?_ (by assumption) ?_
     rotate_left
     ·intro w hSw
      (try dsimp only at hSw)
      go_simp
      (try with_reducible rfl)
     (try go_frame)
     refine tk 7 (v:=?_) rfl ?_ (by assumption) ?_
     rotate_left
     ·intro w hSw
      (try dsimp only at hSw)
      go_simp
      (try with_reducible rfl)
     (try go_frame)
     refine wpAnyH_ready (rs:=[8]) (by kernel_rfl) (by simp) ?_
     refine AllReadyH.cons (o:=_) rfl (fun K' hK=>?_) AllReadyH.nil
     go_simp
     have hF7:=JB.out.lt
     have JD:Hid (af K W7 (W7.alloc (aj kd ka kc)).drew):=(af.alloc K W7 _ hF7).drew
     have HB8:Hid (BW K (W7.alloc (aj kd ka kc)).drew v t'):=(JB.out.grown (bn _)).drew
     have Ri:Hid ((W7.alloc (aj kd ka kc)).drew.heap[W7.heap.size]?=some (aj kd ka kc)∧bA K (W7.alloc (aj kd ka kc)).drew W7.heap.size):=JB.out.new _
     have wZ:Hid (qp K (W7.alloc (aj kd ka kc)).drew [kd] (some ⟨W7.heap.size,0,none⟩)):=fun i k hi=>by
      obtain rfl:i=0:=by have:=(List.getElem?_eq_some_iff.1 hi).1;simp at this;exact this
      simp at hi
      subst hi
      exact ⟨W7.heap.size,0,ka,kc,rfl,lt_of_block Ri.out.1,Ri.out.2,by simp,by simp,by simp,by simp,hh,jq.out.same (HB.out.same (Br.out.trans JD.out))⟩
     refine hK.out _ _ (HS.out _ JD.out) (fun hHeld=>?_)
     clear hK
     refine wpAnyH_ready (rs:=[9]) (by kernel_rfl) (by simp) ?_
     refine AllReadyH.cons (o:=_) rfl (fun K' hK=>?_) AllReadyH.nil
     go_simp
     refine (ng K v d ex hC hle [kd] (some ⟨W7.heap.size,0,none⟩) 1 p.ty t' n' n1 _ _ HB8 wZ (by simp) Re HT hn2 (by rw [← dL.out];exact rfl)).mono ?_
     rintro e w9 ⟨bM,dG⟩
     have bQ:Hid (af K W7 w9):=JD.out.trans bM
     have JE:Hid (af K w w9):=(wY.out.trans HK.out).trans (Br.out.trans bQ.out)
     cases er with
     | error y =>
      obtain ⟨rfl,v2,t2,hb2,hp2⟩:=dG
      have HE:Hid (Bd K w v r (.panicked [aH y K.num]) w9):=by
       rw [ae.out]
       exact ⟨JE.out,rfl,v2,t2,hb2,hp2⟩
      clear hK bM hb2 hp2
      go_wp2
      exact ⟨rfl,HE.out⟩
     | ok t2 =>
      obtain ⟨rfl,dD⟩:=dG
      have fq:Hid (BW K w9 v t2):=dD
      have Be:Hid (aT t2 n1):=oZ hle.out p.ty [kd] t' n' n1 t2 Re.out HT.out dL.out.symm
      have iM:Hid (r=andThen (args ex (D.params.drop (j+1)) (x.kids.drop (j+1)) t2) fun t=>.ok (D,t)):=ae.out
      refine hK.out _ _ (HS.out w9 bQ.out) (fun hHeld=>?_)
      clear hK bM dD
      refine wpAnyH_done (by kernel_rfl) ?_ _
      go_wp2
      go_roundw
      case rel=>exact ⟨j+1,t2,n1,by go_num,Rh.out,Bc,fq,HK.out.trans (Br.out.trans bQ.out),Be,kN,iM⟩
      case measure=>have:=Rh.out;simp [intOf];omega
    ·have bX:Hid (r=.ok (D,t')):=by
      have h1:=HR.out
      have h2:=nz.out
      have h3:D.params.drop j=[]:=List.drop_of_length_le (by omega)
      rw [h3] at h1
      exact h1
     have HDe:Hid (jL K.B wr D pa ba):=Jy.out.same (uE.out.same HK.out)
     obtain ⟨n0,n1,n2,n3,n4,n5,n6,n7,n8⟩:=eF HD.out.1
     obtain ⟨Jt,Ju,QM,QN,QO,QP,QQ,QR,QS⟩:=abf HZ.out.1
     obtain ⟨QT,QU,QV,QW,QX,QY,QZ,Q3,Q4⟩:=eF HZ.out.1
     have hjp:¬ (j:Int)<(np:Int):=by omega
     have lu:Hid (wr.grownBy (sP wr (w.heap.size+1) (.int .i64 D.kind) (.string D.name) (.int .i64 D.ty.kind) (.string D.ty.gen) (.int .i64 D.takes.kind) (.string D.takes.gen) (.int .i64 D.cap) (.slice pa np pc) (.slice ba D.body.length bc)) (some (w.heap.size+1))):=QK
     have Bh:Hid ((sP wr (w.heap.size+1) (.int .i64 D.kind) (.string D.name) (.int .i64 D.ty.kind) (.string D.ty.gen) (.int .i64 D.takes.kind) (.string D.takes.gen) (.int .i64 D.cap) (.slice pa np pc) (.slice ba D.body.length bc)).heap[w.heap.size+1]?=some (.cells #[.int .i64 D.kind,.string D.name,.int .i64 D.ty.kind,.string D.ty.gen,.int .i64 D.takes.kind,.string D.takes.gen,.int .i64 D.cap,.slice pa np pc,.slice ba D.body.length bc] 50 (0,0))):=QJ HZ.out.1
     obtain ⟨W9,dw⟩:∃ W9,W9=sP wr (w.heap.size+1) (.int .i64 D.kind) (.string D.name) (.int .i64 D.ty.kind) (.string D.ty.gen) (.int .i64 D.takes.kind) (.string D.takes.gen) (.int .i64 D.cap) (.slice pa np pc) (.slice ba D.body.length bc):=⟨_,rfl⟩
     rw [← dw] at lu Bh
     have hnF:K.F≠w.heap.size+1:=by omega
     have HE:Hid (Bd K w v r (.returned (o9 D pa pc ba bc)) W9):=by
      have Jv:K.B≤w.heap.size+1:=by have:=h.out.base;omega
      rw [bX.out]
      refine ⟨(wY.out.trans HK.out).own lu.out (by omega) hnF rD,⟨_,rfl,pa,pc,ba,bc,rfl,?_⟩,HB.out.own lu.out HZ.out.2 HZ.out.1 Jv⟩
      exact HDe.out.same fun b' o' hb'=>World.cell?_of_block (a:=⟨b',o',none⟩) (lu.out.block b' (by have:=HB.out.base;omega) (by simp;omega))
     have di:Hid _:=dw
     have hpZ:P≠w.heap.size+1:=HPZ.out
     clear dw
     go_wp2
     rw [show ((((((((wr.setCell ⟨w.heap.size+1,0,none⟩ (.int .i64 D.kind)).setCell ⟨w.heap.size+1,1,none⟩ (.string D.name)).setCell ⟨w.heap.size+1,2,none⟩ (.int .i64 D.ty.kind)).setCell ⟨w.heap.size+1,3,none⟩ (.string D.ty.gen)).setCell ⟨w.heap.size+1,4,none⟩ (.int .i64 D.takes.kind)).setCell ⟨w.heap.size+1,5,none⟩ (.string D.takes.gen)).setCell ⟨w.heap.size+1,6,none⟩ (.int .i64 D.cap)).setCell ⟨w.heap.size+1,7,none⟩ (.slice pa np pc)).setCell ⟨w.heap.size+1,8,none⟩ (.slice ba D.body.length bc)=W9 from di.out.symm]
     have q9:=Bh.out
     have om:=nz.out
     refine bodyPost_ret (v:=o9 D pa pc ba bc) (by simp [results,Tryz.results154,go_sem,World.cell?,q9,om]) rfl ?_
     exact HE.out
  ·have en:((nk:Int) != (np:Int))=true:=by simp;omega
   have jN:Hid (r=.error 5):=by unfold Hid;rw [yQ.out,if_pos hlen]
   go_wp2_with (at_builtin;refine sD rfl _ _ 98 rfl K.B 3 i0 _ 1 8 Tryz.underlying98 hif hz0 hz1 hz2 rfl (by decide) _ t.calls.length (bF t.calls) rfl (H4.out.kS.alloc _) ⟨w1.heap.size,0,none⟩ 1 1 [.int .i64 (i:Int)] rfl rfl (Ba _ _ _) (Ed _) (by decide) (by unfold maxLen;omega) (by omega) (by simp;omega) ?_;intro g cap w4 hq4 hg4 hw4;have lG:Hid _:=Q7 HB1.out H4.out (World.grownBy.refl _ _) hg4 hq4 hw4;have qG:=hg4.size;obtain ⟨eT,uO,hx4⟩:=yP.out _ w4 hg4;obtain ⟨f0,f1,f2,_⟩:=fE eT;obtain ⟨_,_,_,f7⟩:=ql eT;obtain ⟨_,_,_,f4,f5,f6,_,e7⟩:=fE eT;obtain ⟨_,_,_,x3⟩:=jc hx4;rw [HA.out,← HL.out] at f0;rw [← Bj.out] at x3;rw [← uO] at k0 k1 k2 k3 k4 k5 k6 k7 k8;rw [← nz.out] at k7;have Jw:=lt_of_block eT;have Q9:=lt_of_block hx4;have HX4:=hid hx4;clear hq4 hg4 hw4 eT uO hx4)
   refine (jy L (some ⟨b,off,none⟩) K.c K.M K.num 5 _).mono ?_
   rintro e w9 ⟨rfl,gz⟩
   have HE:Hid (Bd K w v r (.panicked [aH 5 K.num]) w9):=by
    rw [jN.out]
    have hg:=aB (bn _) gz
    exact ⟨(bP.out.trans lG.out.2).trans (af.grown hg lG.out.1.lt),rfl,v,_,lG.out.1.grown hg,List.prefix_refl _⟩
   clear gz
   go_wp2
   exact ⟨rfl,HE.out⟩
end Sm
namespace Sm
abbrev zT:Obj:=.cells #[.int .i64 0,.string ⟨#[]⟩] 46 (0,0)
abbrev j5 (w:World) (N:Nat) (a0 a1:Value):World:=(w.setCell ⟨N,0,none⟩ a0).setCell ⟨N,1,none⟩ a1
theorem Bt (D:Sy.Df)(pa:Option Addr)(pc:Nat)(ba:Option Addr)(bc:Nat)(w:World):(Instr.field 50 (o9 D pa pc ba bc) 2).run Tryz.prog w=.ok (aQ D.ty) w:=by kernel_rfl
theorem JF (D:Sy.Df)(pa:Option Addr)(pc:Nat)(ba:Option Addr)(bc:Nat)(w:World):(Instr.field 50 (o9 D pa pc ba bc) 0).run Tryz.prog w=.ok (.int .i64 D.kind) w:=by kernel_rfl
theorem Rj (D:Sy.Df)(pa:Option Addr)(pc:Nat)(ba:Option Addr)(bc:Nat)(w:World):(Instr.field 50 (o9 D pa pc ba bc) 3).run Tryz.prog w=.ok (aQ D.takes) w:=by kernel_rfl
theorem nA {K:BK}{w wr:World}{v:Vars}{t:Tk}{y:Sy.Ty}{Z:Nat}{r:Except Int (Value × Vars × Tk)}(hB:BW K wr v t)(hK:af K w wr)(hZ:wr.heap[Z]?=some zT∧bA K wr Z)(hz:w.heap.size≤Z)(hb:K.B≤Z)(hF:K.F<w.heap.size)(hr:r=.ok (aQ y,v,t)) :
  Bf K w v r (.returned (aQ y)) (j5 wr Z (.int .i64 y.kind) (.string y.gen))∧(j5 wr Z (.int .i64 y.kind) (.string y.gen)).heap[Z]?=some (.cells #[.int .i64 y.kind,.string y.gen] 46 (0,0)):=by
 have hg:wr.grownBy (j5 wr Z (.int .i64 y.kind) (.string y.gen)) (some Z):=aB (gQ _ _ 0 _) (gQ _ _ 1 _)
 have rD:=hB.lt
 rw [hr]
 exact ⟨⟨hK.own hg hz (by omega) rD,rfl,hB.own hg hZ.2 hZ.1 hb⟩,iN (iN hZ.1 0 _) 1 _⟩
theorem abw
  (K:BK) (v:Vars) (d:Nat) (ex:Sy.Ex→Tk→Except Int (Sy.Ty × Tk)) (hC:Hid (kF K v d ex)) (hle:Hid (oh d ex)) (me:Sy.Df) (x:Sy.Ex) (xa:Option Addr) (xc:Nat) (t:Tk) (n m:Nat) (w:World) (r:Except Int (Value × Vars × Tk)) (h:Hid (BW K w v t)) (hx:Hid (∃ h,aJ K.B w h x xa)) (hn:Hid (Sy.runs (Sy.aF d) x.kids (n+1)=.ok m)) (ht:Hid (aT t n)) (h2:n+1≤2000)
    (hr:Hid (r=andThen (spoken K.l me ex x t) fun p=>.ok (aQ p.1,v,p.2)))
  (hk:x.kind=19) :
  Calls Tryz.prog 148 #[.pointer (some ⟨K.F,0,none⟩),dH x xa xc] w fun e w'=>Bf K w v r e w'
  := by
 have hF:=h.out.lt
 obtain ⟨W0,hW0⟩:∃ W0,W0=(w.alloc (aj x xa xc)).alloc zT:=⟨_,rfl⟩
 have aM:Hid (af K w W0):=by rw [hW0];exact af.grown (bu _ _) hF
 have HB0:Hid (BW K W0 v t):=by rw [hW0];exact h.out.grown (bu _ _)
 have HX0:Hid (W0.heap[w.heap.size]?=some (aj x xa xc)∧bA K W0 w.heap.size):=by
  rw [hW0]
  exact (af.alloc K _ _ (by simp;omega)).at (h.out.new _)
 have HZ0:Hid (W0.heap[w.heap.size+1]?=some zT∧bA K W0 (w.heap.size+1)):=by
  rw [hW0]
  refine ⟨?_,h.out.free (bu _ _) (by omega)⟩
  have:=heap_alloc_new (w.alloc (aj x xa xc)) zT
  simpa using this
 have aR:Hid (∃ h,aJ K.B W0 h x xa):=by
  obtain ⟨hh,hE⟩:=hx.out
  exact ⟨hh,hE.same (h.out.same aM.out)⟩
 have HW0:Hid (W0=_):=hW0
 have hBw:K.B≤w.heap.size+1:=by have:=h.out.base;omega
 clear hW0
 obtain ⟨er,her⟩:∃ er,er=call K.l ex 2 x t:=⟨_,rfl⟩
 have dL:Hid (er=call K.l ex 2 x t):=her
 have ae:Hid (r=andThen er fun p=>.ok (aQ p.1.ty,v,p.2)):=by
  unfold Hid
  rw [hr.out,spoken,if_pos hk,her]
  cases call K.l ex 2 x t <;> rfl
 obtain ⟨x0,x1,x2,x3⟩:=jc HX0.out.1
 have e19:(x.kind==19)=true:=by simpa using hk
 clear hr her hk
 go_enter Tryz.func148,Tryz.ntmps148
 go_wp2_with fail
 rw [← HW0.out]
 refine (Q8 K v d ex hC hle 2 x xa xc t n m _ er HB0 aR hn ht h2 dL).mono ?_
 rintro e w1 ⟨hk1,he1⟩
 cases er with
 | error y =>
  obtain ⟨rfl,v2,t2,hb2,hp2⟩:=he1
  have HE:Hid (Bf K w v r (.panicked [aH y K.num]) w1):=by
   rw [ae.out]
   exact ⟨aM.out.trans hk1,rfl,v2,t2,hb2,hp2⟩
  clear hk1 hb2 hp2
  go_wp2
  exact ⟨rfl,HE.out⟩
 | ok p =>
  obtain ⟨D,t1⟩:=p
  obtain ⟨⟨val,rfl,pa,pc,ba,bc,rfl,hdf⟩,hb1⟩:=he1
  have HB1:Hid (BW K w1 v t1):=hb1
  have bP:Hid (af K w w1):=aM.out.trans hk1
  have HZ1:=hid (hk1.at HZ0.out)
  have bX:Hid (r=.ok (aQ D.ty,v,t1)):=ae.out
  have Rk:=Bt D pa pc ba bc w1
  clear hk1 hb1 hdf
  have eB:=hid (nA (y:=D.ty) (Z:=w.heap.size+1) HB1.out bP.out HZ1.out (by omega) hBw hF bX.out)
  obtain ⟨W9,dw⟩:∃ W9,W9=(w1.setCell ⟨w.heap.size+1,0,none⟩ (.int .i64 (D.ty).kind)).setCell ⟨w.heap.size+1,1,none⟩ (.string (D.ty).gen):=⟨_,rfl⟩
  have di:Hid (W9=_):=dw
  obtain ⟨oo,oq,ou,ow⟩:=bE (HZ1.out).1
  clear dw
  go_wp2
  rw [show (w1.setCell ⟨w.heap.size+1,0,none⟩ (.int .i64 (D.ty).kind)).setCell ⟨w.heap.size+1,1,none⟩ (.string (D.ty).gen)=W9 from di.out.symm]
  have q9:=eB.out.2
  rw [show j5 w1 (w.heap.size+1) (.int .i64 (D.ty).kind) (.string (D.ty).gen)=W9 from di.out.symm] at q9
  refine bodyPost_ret (v:=aQ D.ty) (by simp [results,Tryz.results148,go_sem,World.cell?,q9]) rfl ?_
  rw [di.out]
  exact eB.out.1
theorem abx
  (K:BK) (v:Vars) (d:Nat) (ex:Sy.Ex→Tk→Except Int (Sy.Ty × Tk)) (hC:Hid (kF K v d ex)) (hle:Hid (oh d ex)) (me:Sy.Df) (x:Sy.Ex) (xa:Option Addr) (xc:Nat) (t:Tk) (n m:Nat) (w:World) (r:Except Int (Value × Vars × Tk)) (h:Hid (BW K w v t)) (hx:Hid (∃ h,aJ K.B w h x xa)) (hn:Hid (Sy.runs (Sy.aF d) x.kids (n+1)=.ok m)) (ht:Hid (aT t n)) (h2:n+1≤2000)
    (hr:Hid (r=andThen (spoken K.l me ex x t) fun p=>.ok (aQ p.1,v,p.2)))
  (hk:x.kind=22) :
  Calls Tryz.prog 148 #[.pointer (some ⟨K.F,0,none⟩),dH x xa xc] w fun e w'=>Bf K w v r e w'
  := by
 have hF:=h.out.lt
 obtain ⟨W0,hW0⟩:∃ W0,W0=(w.alloc (aj x xa xc)).alloc zT:=⟨_,rfl⟩
 have aM:Hid (af K w W0):=by rw [hW0];exact af.grown (bu _ _) hF
 have HB0:Hid (BW K W0 v t):=by rw [hW0];exact h.out.grown (bu _ _)
 have HX0:Hid (W0.heap[w.heap.size]?=some (aj x xa xc)∧bA K W0 w.heap.size):=by
  rw [hW0]
  exact (af.alloc K _ _ (by simp;omega)).at (h.out.new _)
 have HZ0:Hid (W0.heap[w.heap.size+1]?=some zT∧bA K W0 (w.heap.size+1)):=by
  rw [hW0]
  refine ⟨?_,h.out.free (bu _ _) (by omega)⟩
  have:=heap_alloc_new (w.alloc (aj x xa xc)) zT
  simpa using this
 have aR:Hid (∃ h,aJ K.B W0 h x xa):=by
  obtain ⟨hh,hE⟩:=hx.out
  exact ⟨hh,hE.same (h.out.same aM.out)⟩
 have HW0:Hid (W0=_):=hW0
 have hBw:K.B≤w.heap.size+1:=by have:=h.out.base;omega
 clear hW0
 obtain ⟨er,her⟩:∃ er,er=call K.l ex 3 x t:=⟨_,rfl⟩
 have dL:Hid (er=call K.l ex 3 x t):=her
 have ae:Hid (r=andThen er fun p=>.ok (aQ ⟨3,x.name⟩,v,p.2)):=by
  unfold Hid
  rw [hr.out,spoken,if_neg (by omega),if_pos hk,her]
  cases call K.l ex 3 x t <;> rfl
 obtain ⟨x0,x1,x2,x3⟩:=jc HX0.out.1
 have e19:(x.kind==19)=false:=by simp;omega
 have e22:(x.kind==22)=true:=by simpa using hk
 clear hr her hk
 go_enter Tryz.func148,Tryz.ntmps148
 go_wp2_with fail
 rw [← HW0.out]
 refine (Q8 K v d ex hC hle 3 x xa xc t n m _ er HB0 aR hn ht h2 dL).mono ?_
 rintro e w1 ⟨hk1,he1⟩
 cases er with
 | error y =>
  obtain ⟨rfl,v2,t2,hb2,hp2⟩:=he1
  have HE:Hid (Bf K w v r (.panicked [aH y K.num]) w1):=by
   rw [ae.out]
   exact ⟨aM.out.trans hk1,rfl,v2,t2,hb2,hp2⟩
  clear hk1 hb2 hp2
  go_wp2
  exact ⟨rfl,HE.out⟩
 | ok p =>
  obtain ⟨D,t1⟩:=p
  obtain ⟨⟨val,rfl,pa,pc,ba,bc,rfl,hdf⟩,hb1⟩:=he1
  have HB1:Hid (BW K w1 v t1):=hb1
  have bP:Hid (af K w w1):=aM.out.trans hk1
  have HZ1:=hid (hk1.at HZ0.out)
  have ib:=hid (hk1.at HX0.out)
  obtain ⟨_,_,u2,_⟩:=jc ib.out.1
  have bX:Hid (r=.ok (aQ ⟨3,x.name⟩,v,t1)):=ae.out
  clear hk1 hb1 hdf
  have eB:=hid (nA (y:=(⟨3,x.name⟩:Sy.Ty)) (Z:=w.heap.size+1) HB1.out bP.out HZ1.out (by omega) hBw hF bX.out)
  obtain ⟨W9,dw⟩:∃ W9,W9=(w1.setCell ⟨w.heap.size+1,0,none⟩ (.int .i64 ((⟨3,x.name⟩:Sy.Ty)).kind)).setCell ⟨w.heap.size+1,1,none⟩ (.string ((⟨3,x.name⟩:Sy.Ty)).gen):=⟨_,rfl⟩
  have di:Hid (W9=_):=dw
  obtain ⟨oo,oq,ou,ow⟩:=bE (HZ1.out).1
  clear dw
  go_wp2
  rw [show (w1.setCell ⟨w.heap.size+1,0,none⟩ (.int .i64 ((⟨3,x.name⟩:Sy.Ty)).kind)).setCell ⟨w.heap.size+1,1,none⟩ (.string ((⟨3,x.name⟩:Sy.Ty)).gen)=W9 from di.out.symm]
  have q9:=eB.out.2
  rw [show j5 w1 (w.heap.size+1) (.int .i64 ((⟨3,x.name⟩:Sy.Ty)).kind) (.string ((⟨3,x.name⟩:Sy.Ty)).gen)=W9 from di.out.symm] at q9
  refine bodyPost_ret (v:=aQ (⟨3,x.name⟩:Sy.Ty)) (by simp [results,Tryz.results148,go_sem,World.cell?,q9]) rfl ?_
  rw [di.out]
  exact eB.out.1
theorem aby
  (K:BK) (v:Vars) (d:Nat) (ex:Sy.Ex→Tk→Except Int (Sy.Ty × Tk)) (_hC:Hid (kF K v d ex)) (_hle:Hid (oh d ex)) (me:Sy.Df) (x:Sy.Ex) (xa:Option Addr) (xc:Nat) (t:Tk) (n m:Nat) (w:World) (r:Except Int (Value × Vars × Tk)) (h:Hid (BW K w v t)) (hx:Hid (∃ h,aJ K.B w h x xa)) (_hn:Hid (Sy.runs (Sy.aF d) x.kids (n+1)=.ok m)) (ht:Hid (aT t n)) (h2:n+1≤2000)
    (hr:Hid (r=andThen (spoken K.l me ex x t) fun p=>.ok (aQ p.1,v,p.2)))
  (hk:x.kind=20) :
  Calls Tryz.prog 148 #[.pointer (some ⟨K.F,0,none⟩),dH x xa xc] w fun e w'=>Bf K w v r e w'
  := by
 have hF:=h.out.lt
 obtain ⟨W0,hW0⟩:∃ W0,W0=(w.alloc (aj x xa xc)).alloc zT:=⟨_,rfl⟩
 have aM:Hid (af K w W0):=by rw [hW0];exact af.grown (bu _ _) hF
 have HB0:Hid (BW K W0 v t):=by rw [hW0];exact h.out.grown (bu _ _)
 have HX0:Hid (W0.heap[w.heap.size]?=some (aj x xa xc)∧bA K W0 w.heap.size):=by
  rw [hW0]
  exact (af.alloc K _ _ (by simp;omega)).at (h.out.new _)
 have HZ0:Hid (W0.heap[w.heap.size+1]?=some zT∧bA K W0 (w.heap.size+1)):=by
  rw [hW0]
  refine ⟨?_,h.out.free (bu _ _) (by omega)⟩
  have:=heap_alloc_new (w.alloc (aj x xa xc)) zT
  simpa using this
 have aR:Hid (∃ h,aJ K.B W0 h x xa):=by
  obtain ⟨hh,hE⟩:=hx.out
  exact ⟨hh,hE.same (h.out.same aM.out)⟩
 have HW0:Hid (W0=_):=hW0
 have hBw:K.B≤w.heap.size+1:=by have:=h.out.base;omega
 clear hW0
 obtain ⟨wr,hwr⟩:∃ wr,wr=Sm.want K.l 1 x.name:=⟨_,rfl⟩
 have sQ:Hid (wr=Sm.want K.l 1 x.name):=hwr
 obtain ⟨rv,bf⟩:∃ rv:Except Int Value,rv=match Sm.want K.l 1 x.name with | .ok i=>.ok (.int .i64 (i:Int)) | .error y=>.error y:=⟨_,rfl⟩
 have dV:Hid (rv=match Sm.want K.l 1 x.name with | .ok i=>.ok (.int .i64 (i:Int)) | .error y=>.error y):=bf
 have ae:Hid (r=andThen wr fun b=>.ok (aQ (bJ K.l b).ty,v,⟨t.sends,t.recvs++[b],t.calls⟩)):=by
  unfold Hid
  rw [hr.out,spoken,if_neg (by omega),if_neg (by omega),if_pos hk,hwr]
  cases Sm.want K.l 1 x.name <;> rfl
 obtain ⟨o,sn,rr,cc,h4⟩:=HB0.out.rows
 obtain ⟨c0,c1,c2,_⟩:=fE h4.blk
 obtain ⟨y0,_,y2,_⟩:=jc HX0.out.1
 have hB0:K.B≤W0.heap.size:=by have:=HB0.out.base;have:=HB0.out.lt;omega
 have gM:Hid (∀ w',W0.grownBy w' none→w'.cell? ⟨K.F,0,none⟩=some (.slice K.a K.l.length K.c)∧w'.cell? ⟨K.F,1,none⟩=some (.map (some K.M))∧w'.cell? ⟨K.F,2,none⟩=some (.int .i64 K.num)∧w'.cell? ⟨w.heap.size,2,none⟩=some (.string x.name)):=fun w' hg=>by
  have cF:∀ o,w'.cell? ⟨K.F,o,none⟩=W0.cell? ⟨K.F,o,none⟩:=fun o=>World.cell?_of_block (a:=⟨K.F,o,none⟩) (hg.block _ HB0.out.lt (by simp))
  have cX:∀ o,w'.cell? ⟨w.heap.size,o,none⟩=W0.cell? ⟨w.heap.size,o,none⟩:=fun o=>World.cell?_of_block (a:=⟨w.heap.size,o,none⟩) (hg.block _ (lt_of_block HX0.out.1) (by simp))
  rw [cF,cF,cF,cX]
  exact ⟨c0,c1,c2,y2⟩
 have e19:(x.kind==19)=false:=by simp;omega
 have e22:(x.kind==22)=false:=by simp;omega
 have e20:(x.kind==20)=true:=by simpa using hk
 rw [← hwr] at bf
 clear hr hwr h4 hk
 go_enter Tryz.func148,Tryz.ntmps148
 go_wp2_with fail
 rw [← HW0.out]
 refine wp_region_held_drew (S:=fun w'=>w'.cell? ⟨K.F,0,none⟩=some (.slice K.a K.l.length K.c)∧w'.cell? ⟨K.F,1,none⟩=some (.map (some K.M))∧w'.cell? ⟨K.F,2,none⟩=some (.int .i64 K.num)∧w'.cell? ⟨w.heap.size,2,none⟩=some (.string x.name)) (by kernel_rfl) ⟨c0,c1,c2,y2⟩ (fun hHeld=>?_)
 refine tk 0 (v:=?_) rfl ?_ (by assumption) ?_
 rotate_left
 ·intro w hSw
  (try dsimp only at hSw)
  go_simp
  (try with_reducible rfl)
 (try go_frame)
 refine tk 1 (v:=?_) rfl ?_ (by assumption) ?_
 rotate_left
 ·intro w hSw
  (try dsimp only at hSw)
  go_simp
  (try with_reducible rfl)
 (try go_frame)
 refine tk 2 (v:=?_) rfl ?_ (by assumption) ?_
 rotate_left
 ·intro w hSw
  (try dsimp only at hSw)
  go_simp
  (try with_reducible rfl)
 (try go_frame)
 refine tk 3 (v:=?_) rfl ?_ (by assumption) ?_
 rotate_left
 ·intro w hSw
  (try dsimp only at hSw)
  go_simp
  (try with_reducible rfl)
 (try go_frame)
 refine tk 4 (v:=?_) rfl ?_ (by assumption) ?_
 rotate_left
 ·intro w hSw
  (try dsimp only at hSw)
  go_simp
  (try with_reducible rfl)
 (try go_frame)
 refine tk 5 (v:=?_) rfl ?_ (by assumption) ?_
 rotate_left
 ·intro w hSw
  (try dsimp only at hSw)
  go_simp
  (try with_reducible rfl)
 (try go_frame)
 refine wpAnyH_ready (rs:=[6]) (by kernel_rfl) (by simp) ?_
 refine AllReadyH.cons (o:=_) rfl (fun K' hK=>?_) AllReadyH.nil
 go_simp
 refine (tY K.B K.l K.a K.c K.M K.num 1 x.name K.R W0.drew rv (by exact HB0.out.drew.fH) (by exact hB0) (by exact HB0.out.drew.mp) (by exact HB0.out.nums) dV).mono ?_
 rintro e w1 ⟨hg1',he1⟩
 have hg1:W0.grownBy w1 none:=⟨hg1'.os,hg1'.tape,hg1'.output,hg1'.size,hg1'.block⟩
 have ax:Hid (W0.grownBy w1 none):=hg1
 clear hg1'
 cases wr with
 | error y =>
  subst bf
  obtain rfl:=he1
  have HE:Hid (Bf K w v r (.panicked [aH y K.num]) w1):=by
   rw [ae.out]
   exact ⟨aM.out.trans (af.grown ax.out HB0.out.lt),rfl,v,t,HB0.out.grown ax.out,List.prefix_refl _⟩
  clear hK hg1
  go_wp2
  exact ⟨rfl,HE.out⟩
 | ok i =>
  subst bf
  obtain rfl:=he1
  have hi:=Ee sQ.out.symm
  obtain ⟨D,hD⟩:∃ D,D=K.l[i]:=⟨_,rfl⟩
  have wW:Hid (bJ K.l i=D):=by unfold Hid;rw [hD];simp [bJ,List.getElem?_eq_getElem hi]
  have HB1:Hid (BW K w1 v t):=HB0.out.grown hg1
  have bP:Hid (af K w w1):=aM.out.trans (af.grown hg1 HB0.out.lt)
  obtain ⟨b,off,pa,pc,ba,bc,ha,hb,k0,k1,k2,k3,k4,k5,k6,k7,k8,hdf⟩:=HB1.out.fH.2 i D (by rw [hD];exact List.getElem?_eq_getElem hi)
  have HA:Hid (K.a=some ⟨b,off,none⟩):=ha
  have HZ1:=hid ((af.grown ax.out HB0.out.lt).at HZ0.out)
  have hS1:=gM.out w1 hg1
  refine hK.out _ _ hS1 (fun hHeld=>?_)
  refine tk 7 (v:=?_) rfl ?_ (by assumption) ?_
  rotate_left
  ·intro w hSw
   (try dsimp only at hSw)
   go_simp
   (try with_reducible rfl)
  (try go_frame)
  refine wpAnyH_done (by kernel_rfl) ?_ _
  obtain ⟨ord,sn,rc,cl,h4⟩:=HB1.out.rows
  have H4:Hid (lY K w1 v t ord sn rc cl):=h4
  obtain ⟨ca,cn,hcl⟩:=il h4.lD
  subst hcl
  obtain ⟨i0,hif,hz0,hz1,hz2⟩:=info_parts Tryz.info3
  have hB1:K.B≤w1.heap.size:=by have:=HB1.out.base;have:=HB1.out.lt;omega
  have Bi:Hid ((Value.slice ca t.recvs.length cn).ownBlock≠some K.F):=fun e=>by
   obtain ⟨_,_,cur,hc⟩:=bq h4.lD _ e
   rw [h4.blk] at hc
   cases hc
  have hF1:=h4.lt
  obtain ⟨_,_,_,_,_,_,d6,_⟩:=fE h4.blk
  obtain ⟨_,_,z6,_⟩:=ql h4.blk
  have htc:t.recvs.length≤2000:=by have:=ht.out.2.1;omega
  have yO:Hid (∀ (o2:Obj) (w4:World),(w1.alloc o2).grownBy w4 (Value.slice ca t.recvs.length cn).ownBlock→∀ k,k<w1.heap.size→(Value.slice ca t.recvs.length cn).ownBlock≠some k→w4.heap[k]?=w1.heap[k]?):=fun o2 w4 hg k hk hne =>
   (hg.block k (by simp;omega) (fun e=>hne e.symm)).trans (Below.heap_alloc _ _ _ hk)
  have yP:Hid (∀ (o2:Obj) (w4:World),(w1.alloc o2).grownBy w4 (Value.slice ca t.recvs.length cn).ownBlock→w4.heap[K.F]?=some (K.obj ord sn (.slice ca t.recvs.length cn) cl)∧(∀ o,w4.cell? ⟨b,o,none⟩=w1.cell? ⟨b,o,none⟩)):=fun o2 w4 hg=>by
   exact ⟨(yO.out o2 w4 hg _ hF1 Bi.out).trans H4.out.blk,fun o=>World.cell?_of_block (a:=⟨b,o,none⟩) (yO.out o2 w4 hg b (by omega) (fun e=>by have:=(bq H4.out.lD _ e).1;omega))⟩
  have jk:K.l.length≤maxLen:=HB1.out.fH.1
  obtain ⟨L,hL⟩:∃ L,L=K.l.length:=⟨_,rfl⟩
  have HL:Hid (L=K.l.length):=hL
  have hiL:(i:Int)<(L:Int):=by omega
  rw [← hL] at jk
  have hbF:b≠K.F:=by have:=HB1.out.base;omega
  have yQ:Hid (r=.ok (aQ D.ty,v,⟨t.sends,t.recvs++[i],t.calls⟩)):=by unfold Hid;rw [ae.out,andThen_ok,wW.out]
  clear hK hg1 hS1 hD hdf ha h4 hL c0 c1 c2 y2 k0 k1 k4 k5 k6 k7 k8
  go_wp2_with (at_builtin;refine sD rfl _ _ 98 rfl K.B 3 i0 _ 1 8 Tryz.underlying98 hif hz0 hz1 hz2 rfl (by decide) _ t.recvs.length (bF t.recvs) rfl (H4.out.lD.alloc _) ⟨w1.heap.size,0,none⟩ 1 1 [.int .i64 (i:Int)] rfl rfl (Ba _ _ _) (Ed _) (by decide) (by unfold maxLen;omega) (by omega) (by simp;omega) ?_;intro g cap w4 hq4 hg4 hw4;have lG:Hid _:=abd HB1.out H4.out (World.grownBy.refl _ _) hg4 hq4 hw4;have qG:=hg4.size;obtain ⟨eT,uO⟩:=yP.out _ w4 hg4;obtain ⟨f0,f1,f2,_⟩:=fE eT;obtain ⟨_,_,f7,_⟩:=ql eT;obtain ⟨_,_,_,f4,f5,f6,e6,_⟩:=fE eT;rw [HA.out,← HL.out] at f0;rw [← uO] at k2 k3;have Jw:=lt_of_block eT;have gV:=hid (lG.out.2.at HZ1.out);obtain ⟨oo,oq,ou,ow⟩:=bE gV.out.1;clear hq4 hg4 hw4 eT uO)
  have eB:=hid (nA (y:=D.ty) (Z:=w.heap.size+1) lG.out.1 (bP.out.trans lG.out.2) gV.out (by omega) hBw hF yQ.out)
  obtain ⟨W9,dw⟩:∃ W9,W9=((w4.setCell ⟨K.F,6,none⟩ (.slice (some ⟨g,0,none⟩) (t.recvs.length+1) cap)).setCell ⟨w.heap.size+1,0,none⟩ (.int .i64 (D.ty).kind)).setCell ⟨w.heap.size+1,1,none⟩ (.string (D.ty).gen):=⟨_,rfl⟩
  have q9:=eB.out.2
  rw [← dw]
  rw [show j5 (w4.setCell ⟨K.F,6,none⟩ (.slice (some ⟨g,0,none⟩) (t.recvs.length+1) cap)) (w.heap.size+1) (.int .i64 (D.ty).kind) (.string (D.ty).gen)=W9 from dw.symm] at q9
  refine bodyPost_ret (v:=aQ D.ty) (by simp [results,Tryz.results148,go_sem,World.cell?,q9]) rfl ?_
  rw [dw]
  exact eB.out.1
end Sm
namespace Sm
theorem rE {K:BK}{w0 w:World}{v:Vars}{t:Tk}{kd:Sy.Ex}{ka:Option Addr}{kc N:Nat}{v0:Vars}{t0:Tk}(_:BW K w v t)(hN:w.heap[N]?=some (aj kd ka kc)∧bA K w N)(hE:∃ hh,aJ K.B w0 hh kd ka∧BW K w0 v0 t0)(hk:af K w0 w):qp K w [kd] (some ⟨N,0,none⟩):=fun i k hi=>by
 obtain rfl:i=0:=by have:=(List.getElem?_eq_some_iff.1 hi).1;simp at this;exact this
 simp at hi
 subst hi
 obtain ⟨g0,g1,g2,g3⟩:=jc hN.1
 obtain ⟨hh,hE,hB⟩:=hE
 exact ⟨N,0,ka,kc,rfl,lt_of_block hN.1,hN.2,by simpa using g0,by simpa using g1,by simpa using g2,by simpa using g3,hh,hE.same (hB.same hk)⟩
theorem abz
  (K:BK) (v:Vars) (d:Nat) (ex:Sy.Ex→Tk→Except Int (Sy.Ty × Tk)) (hC:Hid (kF K v d ex)) (hle:Hid (oh d ex)) (me:Sy.Df) (x:Sy.Ex) (xa:Option Addr) (xc:Nat) (t:Tk) (n m:Nat) (w:World) (r:Except Int (Value × Vars × Tk)) (h:Hid (BW K w v t)) (hx:Hid (∃ h,aJ K.B w h x xa)) (hn:Hid (Sy.runs (Sy.aF d) x.kids (n+1)=.ok m)) (ht:Hid (aT t n)) (h2:n+1≤2000)
    (hr:Hid (r=andThen (spoken K.l me ex x t) fun p=>.ok (aQ p.1,v,p.2)))
  (hk:x.kind=21) (hh:Sy.dU x=0) (i:Nat) (hi:Hid (K.num=(i:Int))) (dE:Hid (K.l[i]?=some me)) :
  Calls Tryz.prog 148 #[.pointer (some ⟨K.F,0,none⟩),dH x xa xc] w fun e w'=>Bf K w v r e w'
  := by
 obtain ⟨kd,hkd⟩:=Eb hh (by omega)
 have hF:=h.out.lt
 obtain ⟨W0,hW0⟩:∃ W0,W0=(w.alloc (aj x xa xc)).alloc zT:=⟨_,rfl⟩
 have aM:Hid (af K w W0):=by rw [hW0];exact af.grown (bu _ _) hF
 have HB0:Hid (BW K W0 v t):=by rw [hW0];exact h.out.grown (bu _ _)
 have HX0:Hid (W0.heap[w.heap.size]?=some (aj x xa xc)∧bA K W0 w.heap.size):=by
  rw [hW0]
  exact (af.alloc K _ _ (by simp;omega)).at (h.out.new _)
 have HZ0:Hid (W0.heap[w.heap.size+1]?=some zT∧bA K W0 (w.heap.size+1)):=by
  rw [hW0]
  refine ⟨?_,h.out.free (bu _ _) (by omega)⟩
  have:=heap_alloc_new (w.alloc (aj x xa xc)) zT
  simpa using this
 have aR:Hid (∃ h,aJ K.B W0 h x xa):=by
  obtain ⟨hh,hE⟩:=hx.out
  exact ⟨hh,hE.same (h.out.same aM.out)⟩
 have HW0:Hid (W0=_):=hW0
 have hBw:K.B≤w.heap.size+1:=by have:=h.out.base;omega
 clear hW0
 have hx0:kid x 0=kd:=by simp [kid,hkd]
 obtain ⟨er,her⟩:∃ er,er=must ex me.ty [kd] t:=⟨_,rfl⟩
 have dL:Hid (er=must ex me.ty [kd] t):=her
 have ae:Hid (r=andThen (fits (me.kind==3)) fun _=>andThen er fun t=>.ok (aQ me.takes,v,t)):=by
  unfold Hid
  rw [hr.out,spoken,if_neg (by omega),if_neg (by omega),if_neg (by omega),if_pos hk,hx0,her]
  cases fits (me.kind==3) with
  | error e=>rfl
  | ok u=>cases must ex me.ty [kd] t <;> rfl
 have ib:Hid (Sy.runs (Sy.aF d) [kd] (n+1)=.ok m):=by rw [← hkd];exact hn
 have HT1:Hid (aT t (n+1)):=ht.out.mono (by omega)
 obtain ⟨o,sn,rr,cc,h4⟩:=h.out.rows
 obtain ⟨c0,c1,c2,_⟩:=fE h4.blk
 rw [hi.out] at c2
 obtain ⟨y0,_,_,y3⟩:=jc HX0.out.1
 have hB0:K.B≤W0.heap.size:=by have:=HB0.out.base;have:=HB0.out.lt;omega
 have e19:(x.kind==19)=false:=by simp;omega
 have e22:(x.kind==22)=false:=by simp;omega
 have e20:(x.kind==20)=false:=by simp;omega
 have e21:(x.kind==21)=true:=by simpa using hk
 have JG:Hid (x.kids=[kd]):=hkd
 have HD0:Hid (dS K.B W0 K.l K.a):=HB0.out.fH
 clear hr h4 hk hn hkd hh hx0 her
 go_enter Tryz.func148,Tryz.ntmps148
 go_wp2_with fail
 rw [← HW0.out]
 refine (nN K.B K.l K.a K.c K.M i me W0 HD0 hB0 dE).mono ?_
 rintro e w1 ⟨hg1,val,rfl,pa,pc,ba,bc,rfl,hdf⟩
 have ax:Hid (W0.grownBy w1 none):=hg1
 have HB1:Hid (BW K w1 v t):=HB0.out.grown hg1
 have Eg:=JF me pa pc ba bc w1
 obtain ⟨o',uP,rr',cc',h4⟩:=HB1.out.rows
 have H4:Hid (w1.heap[K.F]?=some (K.obj o' uP rr' cc')):=h4.blk
 obtain ⟨bk,hbk⟩:∃ bk,bk=(me.kind==3):=⟨_,rfl⟩
 have uQ:Hid (bk=(me.kind==3)):=hbk
 have hbk':=hbk.symm
 obtain ⟨rf,hrf⟩:∃ rf:Except Int Value,rf=match Sm.fits bk with | .ok _=>.ok (.tuple #[]) | .error e=>.error e:=⟨_,rfl⟩
 have mG:Hid (rf=match Sm.fits bk with | .ok _=>.ok (.tuple #[]) | .error e=>.error e):=hrf
 clear hg1 hdf h4 hbk hrf
 go_wp2_with fail
 refine (Jh K.F K.l.length K.a K.c K.M K.num K.T o' uP rr' cc' bk w1 rf H4 mG).mono ?_
 rintro e w2 ⟨hg2,he2⟩
 have HG2:Hid (w1.grownBy w2 none):=hg2
 have bD:Hid (af K w w2):=(aM.out.trans (af.grown ax.out HB0.out.lt)).trans (af.grown hg2 HB1.out.lt)
 have HB2:Hid (BW K w2 v t):=HB1.out.grown hg2
 cases bk with
 | false =>
  have hrf:rf=.error 8:=mG.out
  subst hrf
  obtain rfl:=he2
  have HE:Hid (Bf K w v r (.panicked [aH 8 K.num]) w2):=by
   rw [ae.out,← uQ.out]
   exact ⟨bD.out,rfl,v,t,HB2.out,List.prefix_refl _⟩
  clear hg2
  go_wp2
  exact ⟨rfl,HE.out⟩
 | true =>
  have hrf:rf=.ok (.tuple #[]):=mG.out
  subst hrf
  obtain rfl:=he2
  have jP:Hid (r=andThen er fun t=>.ok (aQ me.takes,v,t)):=by unfold Hid;rw [ae.out,← uQ.out];rfl
  have JH:=(af.grown (K:=K) ax.out HB0.out.lt).trans (af.grown hg2 HB1.out.lt)
  have nK:=hid (JH.at HX0.out)
  have HZ2:=hid (JH.at HZ0.out)
  obtain ⟨hh,kb,ko,ka,kc,hxa,hkb,q0,q1,q2,q3,hkx⟩:∃ hh kb ko ka kc,xa=some ⟨kb,ko,none⟩∧kb<K.B∧w2.cell? ⟨kb,ko,none⟩=some (.int .i64 kd.kind)∧w2.cell? ⟨kb,ko+1,none⟩=some (.int .i64 kd.n)∧w2.cell? ⟨kb,ko+2,none⟩=some (.string kd.name)∧w2.cell? ⟨kb,ko+3,none⟩=some (.slice ka kd.kids.length kc)∧aJ K.B w2 hh kd ka:=by
   obtain ⟨hh,hE⟩:=aR.out
   cases hh with
   | zero=>exact hE.elim
   | succ hh =>
    obtain ⟨b',off',a',c',e1,e2,e3,e4,e5,e6,e7⟩:=(aJ.same (HB0.out.same JH) _ _ _ hE).2.2 0 kd (by rw [JG.out];rfl)
    simp only [Nat.zero_mul,Nat.add_zero] at e3 e4 e5 e6
    exact ⟨hh,b',off',a',c',e1,e2,e3,e4,e5,e6,e7⟩
  have jq:Hid (∃ hh,aJ K.B w2 hh kd ka∧BW K w2 v t):=⟨hh,hkx,HB2.out⟩
  have Ef:Hid (xa=some ⟨kb,ko,none⟩):=hxa
  have HS:Hid (∀ w' v' t',af K w2 w'→BW K w' v' t'→w'.cell? ⟨K.F,0,none⟩=some (.slice K.a K.l.length K.c)∧w'.cell? ⟨K.F,1,none⟩=some (.map (some K.M))∧w'.cell? ⟨K.F,2,none⟩=some (.int .i64 (i:Int))∧w'.cell? ⟨w.heap.size,3,none⟩=some (.slice (some ⟨kb,ko,none⟩) 1 xc)∧w'.cell? ⟨kb,ko,none⟩=some (.int .i64 kd.kind)∧w'.cell? ⟨kb,ko+1,none⟩=some (.int .i64 kd.n)∧w'.cell? ⟨kb,ko+2,none⟩=some (.string kd.name)∧w'.cell? ⟨kb,ko+3,none⟩=some (.slice ka kd.kids.length kc)):=fun w' v' t' hk hb=>by
   obtain ⟨o,sn,rr,cc,h4⟩:=hb.rows
   obtain ⟨d0,d1,d2,_⟩:=fE h4.blk
   obtain ⟨_,_,_,pX⟩:=jc (hk.at nK.out).1
   rw [hi.out] at d2
   rw [JG.out,Ef.out] at pX
   have old:∀ o,w'.cell? ⟨kb,o,none⟩=w2.cell? ⟨kb,o,none⟩:=fun o=>HB2.out.same hk kb o hkb
   rw [old,old,old,old]
   exact ⟨d0,d1,d2,pX,q0,q1,q2,q3⟩
  have hS2:=HS.out w2 v t (af.refl _ _) HB2.out
  obtain ⟨d0,d1,d2,d3,_⟩:=hS2
  have hF2:=HB2.out.lt
  have hB2:K.B≤w2.heap.size:=by have:=HB2.out.base;omega
  clear hg2 Eg c0 c1 c2 hxa hkx
  go_wp2_with fail
  refine wp_region_held_drew (S:=fun w'=>w'.cell? ⟨K.F,0,none⟩=some (.slice K.a K.l.length K.c)∧w'.cell? ⟨K.F,1,none⟩=some (.map (some K.M))∧w'.cell? ⟨K.F,2,none⟩=some (.int .i64 (i:Int))∧w'.cell? ⟨w.heap.size,3,none⟩=some (.slice (some ⟨kb,ko,none⟩) 1 xc)∧w'.cell? ⟨kb,ko,none⟩=some (.int .i64 kd.kind)∧w'.cell? ⟨kb,ko+1,none⟩=some (.int .i64 kd.n)∧w'.cell? ⟨kb,ko+2,none⟩=some (.string kd.name)∧w'.cell? ⟨kb,ko+3,none⟩=some (.slice ka kd.kids.length kc)) (by kernel_rfl) (HS.out w2 v t (af.refl _ _) HB2.out) (fun hHeld=>?_)
  refine tk 0 (v:=?_) rfl ?_ (by assumption) ?_
  rotate_left
  ·intro w hSw
   (try dsimp only at hSw)
   go_simp
   (try with_reducible rfl)
  (try go_frame)
  refine tk 1 (v:=?_) rfl ?_ (by assumption) ?_
  rotate_left
  ·intro w hSw
   (try dsimp only at hSw)
   go_simp
   (try with_reducible rfl)
  (try go_frame)
  refine tk 2 (v:=?_) rfl ?_ (by assumption) ?_
  rotate_left
  ·intro w hSw
   (try dsimp only at hSw)
   go_simp
   (try with_reducible rfl)
  (try go_frame)
  refine tk 3 (v:=?_) rfl ?_ (by assumption) ?_
  rotate_left
  ·intro w hSw
   (try dsimp only at hSw)
   go_simp
   (try with_reducible rfl)
  (try go_frame)
  refine tk 4 (v:=?_) rfl ?_ (by assumption) ?_
  rotate_left
  ·intro w hSw
   (try dsimp only at hSw)
   go_simp
   (try with_reducible rfl)
  (try go_frame)
  refine tk 7 (v:=?_) rfl ?_ (by assumption) ?_
  rotate_left
  ·intro w hSw
   (try dsimp only at hSw)
   go_simp
   (try with_reducible rfl)
  (try go_frame)
  refine tk 8 (v:=?_) rfl ?_ (by assumption) ?_
  rotate_left
  ·intro w hSw
   (try dsimp only at hSw)
   go_simp
   (try with_reducible rfl)
  (try go_frame)
  refine tk 9 (v:=?_) rfl ?_ (by assumption) ?_
  rotate_left
  ·intro w hSw
   (try dsimp only at hSw)
   go_simp
   (try with_reducible rfl)
  (try go_frame)
  refine tk 10 (v:=?_) rfl ?_ (by assumption) ?_
  rotate_left
  ·intro w hSw
   (try dsimp only at hSw)
   go_simp
   (try with_reducible rfl)
  (try go_frame)
  refine wpAnyH_ready (rs:=[5,11]) (by kernel_rfl) (by simp) ?_
  refine AllReadyH.cons (o:=_) rfl (fun K' hK=>?_) (AllReadyH.cons (o:=_) rfl (fun K' hK=>?_) AllReadyH.nil)
  ·go_simp
   refine (nN K.B K.l K.a K.c K.M i me w2.drew (by exact HB2.out.drew.fH) (by exact hB2) dE).mono ?_
   rintro e w3 ⟨hg3',val,rfl,pa',pc',ba',bc',rfl,qy⟩
   have hg3:w2.grownBy w3 none:=⟨hg3'.os,hg3'.tape,hg3'.output,hg3'.size,hg3'.block⟩
   have fe:Hid (af K w2 w3):=af.grown hg3 HB2.out.lt
   have HB3:Hid (BW K w3 v t):=HB2.out.grown hg3
   refine hK.out _ _ (HS.out w3 v t fe.out HB3.out) (fun hHeld=>?_)
   have JI:=fun w=>Bt me pa' pc' ba' bc' w
   clear hK hg3' qy hg3
   refine tk 6 (v:=?_) rfl ?_ (by assumption) ?_
   rotate_left
   ·intro w hSw
    (try dsimp only at hSw)
    go_simp
    (try with_reducible rfl)
   (try go_frame)
   refine wpAnyH_ready (rs:=[11]) (by kernel_rfl) (by simp) ?_
   refine AllReadyH.cons (o:=_) rfl (fun K' hK=>?_) AllReadyH.nil
   go_simp
   have ji:Hid (af K w2 (w3.alloc (aj kd ka kc))):=fe.out.trans (af.alloc K w3 _ HB3.out.lt)
   have iy:Hid (BW K (w3.alloc (aj kd ka kc)) v t):=HB3.out.grown (bn _)
   have qh:=hid (HB3.out.new (aj kd ka kc))
   refine hK.out _ _ (HS.out _ v t ji.out iy.out) (fun hHeld=>?_)
   clear hK
   refine wpAnyH_ready (rs:=[12]) (by kernel_rfl) (by simp) ?_
   refine AllReadyH.cons (o:=_) rfl (fun K' hK=>?_) AllReadyH.nil
   go_simp
   refine (ng K v d ex hC hle [kd] (some ⟨w3.heap.size,0,none⟩) 1 me.ty t (n+1) m _ _ iy (rE iy.out qh.out jq.out ji.out) (by simp) ib HT1 h2 (by rw [← dL.out];exact rfl)).mono ?_
   rintro e w9 ⟨bM,dG⟩
   have bQ:Hid (af K w2 w9):=ji.out.trans bM
   cases er with
   | error y =>
    obtain ⟨rfl,v2,t2,hb2,hp2⟩:=dG
    have HE:Hid (Bf K w v r (.panicked [aH y K.num]) w9):=by
     rw [jP.out]
     exact ⟨bD.out.trans bQ.out,rfl,v2,t2,hb2,hp2⟩
    clear hK bM hb2 hp2
    go_wp2
    exact ⟨rfl,HE.out⟩
   | ok t2 =>
    obtain ⟨rfl,dD⟩:=dG
    have fq:Hid (BW K w9 v t2):=dD
    have bX:Hid (r=.ok (aQ me.takes,v,t2)):=jP.out
    have vU:=HS.out w9 v t2 bQ.out fq.out
    refine hK.out _ _ vU (fun hHeld=>?_)
    clear hK bM dD hHeld
    refine wpAnyH_done (by kernel_rfl) ?_ _
    obtain ⟨g0,g1,g2,_⟩:=vU
    go_wp2_with fail
    refine (nN K.B K.l K.a K.c K.M i me w9 fq.out.fH (by have:=fq.out.base;have:=fq.out.lt;omega) dE).mono ?_
    rintro e oz ⟨sS,val,rfl,pa',pc',ba',bc',rfl,qy⟩
    have JJ:Hid (BW K oz v t2):=fq.out.grown sS
    have JK:Hid (af K w oz):=(bD.out.trans bQ.out).trans (af.grown sS fq.out.lt)
    have Bu:=hid ((af.grown sS fq.out.lt).at (bQ.out.at HZ2.out))
    have Rk:=Rj me pa' pc' ba' bc' oz
    clear sS qy
    have eB:=hid (nA (y:=me.takes) (Z:=w.heap.size+1) JJ.out JK.out Bu.out (by omega) hBw hF bX.out)
    obtain ⟨W9,dw⟩:∃ W9,W9=(oz.setCell ⟨w.heap.size+1,0,none⟩ (.int .i64 (me.takes).kind)).setCell ⟨w.heap.size+1,1,none⟩ (.string (me.takes).gen):=⟨_,rfl⟩
    have di:Hid (W9=_):=dw
    obtain ⟨oo,oq,ou,ow⟩:=bE (Bu.out).1
    clear dw
    go_wp2
    rw [show (oz.setCell ⟨w.heap.size+1,0,none⟩ (.int .i64 (me.takes).kind)).setCell ⟨w.heap.size+1,1,none⟩ (.string (me.takes).gen)=W9 from di.out.symm]
    have q9:=eB.out.2
    rw [show j5 oz (w.heap.size+1) (.int .i64 (me.takes).kind) (.string (me.takes).gen)=W9 from di.out.symm] at q9
    refine bodyPost_ret (v:=aQ me.takes) (by simp [results,Tryz.results148,go_sem,World.cell?,q9]) rfl ?_
    rw [di.out]
    exact eB.out.1
  ·go_simp
   have fe:Hid (af K w2 (w2.alloc (aj kd ka kc)).drew):=(af.alloc K w2 _ HB2.out.lt).drew
   have HB3:Hid (BW K (w2.alloc (aj kd ka kc)).drew v t):=(HB2.out.grown (bn _)).drew
   have vo:Hid ((w2.alloc (aj kd ka kc)).drew.heap[w2.heap.size]?=some (aj kd ka kc)∧bA K (w2.alloc (aj kd ka kc)).drew w2.heap.size):=HB2.out.new (aj kd ka kc)
   refine hK.out _ _ (HS.out _ v t fe.out HB3.out) (fun hHeld=>?_)
   clear hK
   refine wpAnyH_ready (rs:=[5]) (by kernel_rfl) (by simp) ?_
   refine AllReadyH.cons (o:=_) rfl (fun K' hK=>?_) AllReadyH.nil
   go_simp
   refine (nN K.B K.l K.a K.c K.M i me _ (by exact HB3.out.fH) (by simp;omega) dE).mono ?_
   rintro e w3 ⟨hg3,val,rfl,pa',pc',ba',bc',rfl,qy⟩
   have ji:Hid (af K w2 w3):=fe.out.trans (af.grown hg3 HB3.out.lt)
   have iy:Hid (BW K w3 v t):=HB3.out.grown hg3
   have qh:=hid ((af.grown hg3 HB3.out.lt).at vo.out)
   have JI:=fun w=>Bt me pa' pc' ba' bc' w
   refine hK.out _ _ (HS.out _ v t ji.out iy.out) (fun hHeld=>?_)
   clear hK hg3 qy
   refine tk 6 (v:=?_) rfl ?_ (by assumption) ?_
   rotate_left
   ·intro w hSw
    (try dsimp only at hSw)
    go_simp
    (try with_reducible rfl)
   (try go_frame)
   refine wpAnyH_ready (rs:=[12]) (by kernel_rfl) (by simp) ?_
   refine AllReadyH.cons (o:=_) rfl (fun K' hK=>?_) AllReadyH.nil
   go_simp
   refine (ng K v d ex hC hle [kd] (some ⟨w2.heap.size,0,none⟩) 1 me.ty t (n+1) m _ _ iy (rE iy.out qh.out jq.out ji.out) (by simp) ib HT1 h2 (by rw [← dL.out];exact rfl)).mono ?_
   rintro e w9 ⟨bM,dG⟩
   have bQ:Hid (af K w2 w9):=ji.out.trans bM
   cases er with
   | error y =>
    obtain ⟨rfl,v2,t2,hb2,hp2⟩:=dG
    have HE:Hid (Bf K w v r (.panicked [aH y K.num]) w9):=by
     rw [jP.out]
     exact ⟨bD.out.trans bQ.out,rfl,v2,t2,hb2,hp2⟩
    clear hK bM hb2 hp2
    go_wp2
    exact ⟨rfl,HE.out⟩
   | ok t2 =>
    obtain ⟨rfl,dD⟩:=dG
    have fq:Hid (BW K w9 v t2):=dD
    have bX:Hid (r=.ok (aQ me.takes,v,t2)):=jP.out
    have vU:=HS.out w9 v t2 bQ.out fq.out
    refine hK.out _ _ vU (fun hHeld=>?_)
    clear hK bM dD hHeld
    refine wpAnyH_done (by kernel_rfl) ?_ _
    obtain ⟨g0,g1,g2,_⟩:=vU
    go_wp2_with fail
    refine (nN K.B K.l K.a K.c K.M i me w9 fq.out.fH (by have:=fq.out.base;have:=fq.out.lt;omega) dE).mono ?_
    rintro e oz ⟨sS,val,rfl,pa',pc',ba',bc',rfl,qy⟩
    have JJ:Hid (BW K oz v t2):=fq.out.grown sS
    have JK:Hid (af K w oz):=(bD.out.trans bQ.out).trans (af.grown sS fq.out.lt)
    have Bu:=hid ((af.grown sS fq.out.lt).at (bQ.out.at HZ2.out))
    have Rk:=Rj me pa' pc' ba' bc' oz
    clear sS qy
    have eB:=hid (nA (y:=me.takes) (Z:=w.heap.size+1) JJ.out JK.out Bu.out (by omega) hBw hF bX.out)
    obtain ⟨W9,dw⟩:∃ W9,W9=(oz.setCell ⟨w.heap.size+1,0,none⟩ (.int .i64 (me.takes).kind)).setCell ⟨w.heap.size+1,1,none⟩ (.string (me.takes).gen):=⟨_,rfl⟩
    have di:Hid (W9=_):=dw
    obtain ⟨oo,oq,ou,ow⟩:=bE (Bu.out).1
    clear dw
    go_wp2
    rw [show (oz.setCell ⟨w.heap.size+1,0,none⟩ (.int .i64 (me.takes).kind)).setCell ⟨w.heap.size+1,1,none⟩ (.string (me.takes).gen)=W9 from di.out.symm]
    have q9:=eB.out.2
    rw [show j5 oz (w.heap.size+1) (.int .i64 (me.takes).kind) (.string (me.takes).gen)=W9 from di.out.symm] at q9
    refine bodyPost_ret (v:=aQ me.takes) (by simp [results,Tryz.results148,go_sem,World.cell?,q9]) rfl ?_
    rw [di.out]
    exact eB.out.1
end Sm
namespace Sm
theorem abA
  (K:BK) (v:Vars) (d:Nat) (ex:Sy.Ex→Tk→Except Int (Sy.Ty × Tk)) (hC:Hid (kF K v d ex)) (hle:Hid (oh d ex)) (me:Sy.Df) (x:Sy.Ex) (xa:Option Addr) (xc:Nat) (t:Tk) (n m:Nat) (w:World) (r:Except Int (Value × Vars × Tk)) (h:Hid (BW K w v t)) (hx:Hid (∃ h,aJ K.B w h x xa)) (hn:Hid (Sy.runs (Sy.aF d) x.kids (n+1)=.ok m)) (ht:Hid (aT t n)) (h2:n+1≤2000)
    (hr:Hid (r=andThen (spoken K.l me ex x t) fun p=>.ok (aQ p.1,v,p.2)))
  (hk:x.kind=23) (hh:Sy.dU x=0) :
  Calls Tryz.prog 148 #[.pointer (some ⟨K.F,0,none⟩),dH x xa xc] w fun e w'=>Bf K w v r e w'
  := by
 obtain ⟨kd,ke,hkd⟩:=Ec hh (by omega)
 have hF:=h.out.lt
 obtain ⟨W0,hW0⟩:∃ W0,W0=(w.alloc (aj x xa xc)).alloc zT:=⟨_,rfl⟩
 have aM:Hid (af K w W0):=by rw [hW0];exact af.grown (bu _ _) hF
 have HB0:Hid (BW K W0 v t):=by rw [hW0];exact h.out.grown (bu _ _)
 have HX0:Hid (W0.heap[w.heap.size]?=some (aj x xa xc)∧bA K W0 w.heap.size):=by
  rw [hW0]
  exact (af.alloc K _ _ (by simp;omega)).at (h.out.new _)
 have HZ0:Hid (W0.heap[w.heap.size+1]?=some zT∧bA K W0 (w.heap.size+1)):=by
  rw [hW0]
  refine ⟨?_,h.out.free (bu _ _) (by omega)⟩
  have:=heap_alloc_new (w.alloc (aj x xa xc)) zT
  simpa using this
 have aR:Hid (∃ h,aJ K.B W0 h x xa):=by
  obtain ⟨hh,hE⟩:=hx.out
  exact ⟨hh,hE.same (h.out.same aM.out)⟩
 have HW0:Hid (W0=_):=hW0
 have hBw:K.B≤w.heap.size+1:=by have:=h.out.base;omega
 clear hW0
 have hx0:kid x 0=kd:=by simp [kid,hkd]
 have hx1:kid x 1=ke:=by simp [kid,hkd]
 obtain ⟨er,her⟩:∃ er,er=started K.l ex kd t:=⟨_,rfl⟩
 have dL:Hid (er=started K.l ex kd t):=her
 have ae:Hid (r=andThen er fun g=>andThen (must ex g.1.takes [ke] g.2) fun t=>.ok (aQ g.1.ty,v,t)):=by
  unfold Hid
  rw [hr.out,spoken,if_neg (by omega),if_neg (by omega),if_neg (by omega),if_neg (by omega),hx0,hx1,her]
  cases started K.l ex kd t with
  | error e=>rfl
  | ok g=>rw [andThen_ok,andThen_ok];cases must ex g.1.takes [ke] g.2 <;> rfl
 have hn':=hn.out
 rw [hkd] at hn'
 obtain ⟨n1,hn1,hn2⟩:=og hn'
 have ib:Hid (Sy.aF d kd (n+1)=.ok n1):=hn1
 have abB:Hid (Sy.runs (Sy.aF d) [ke] n1=.ok m):=hn2
 have h12:n1≤2000:=Sy.jw d kd (n+1) n1 h2 hn1
 have HT1:Hid (aT t (n+1)):=ht.out.mono (by omega)
 have JG:Hid (x.kids=[kd,ke]):=hkd
 obtain ⟨hh',kb,ko,ka,kc,kl,km,hxa,hkb,q0,q1,q2,q3,hkx,p0,p1,p2,p3,Bv⟩:∃ hh kb ko ka kc kl km,xa=some ⟨kb,ko,none⟩∧kb<K.B∧w.cell? ⟨kb,ko,none⟩=some (.int .i64 kd.kind)∧w.cell? ⟨kb,ko+1,none⟩=some (.int .i64 kd.n)∧w.cell? ⟨kb,ko+2,none⟩=some (.string kd.name)∧w.cell? ⟨kb,ko+3,none⟩=some (.slice ka kd.kids.length kc)∧aJ K.B w hh kd ka∧w.cell? ⟨kb,ko+4,none⟩=some (.int .i64 ke.kind)∧w.cell? ⟨kb,ko+5,none⟩=some (.int .i64 ke.n)∧w.cell? ⟨kb,ko+6,none⟩=some (.string ke.name)∧w.cell? ⟨kb,ko+7,none⟩=some (.slice kl ke.kids.length km)∧aJ K.B w hh ke kl:=by
  obtain ⟨hh,hE⟩:=hx.out
  cases hh with
  | zero=>exact hE.elim
  | succ hh =>
   obtain ⟨b',off',a',c',e1,e2,e3,e4,e5,e6,e7⟩:=hE.2.2 0 kd (by rw [hkd];rfl)
   obtain ⟨b2,abC,a2,c2,f1,f2,f3,f4,f5,f6,f7⟩:=hE.2.2 1 ke (by rw [hkd];rfl)
   rw [e1] at f1
   cases f1
   simp only [Nat.zero_mul,Nat.add_zero] at e3 e4 e5 e6
   simp only [Nat.one_mul,Nat.add_assoc,Nat.reduceAdd] at f3 f4 f5 f6
   exact ⟨hh,b',off',a',c',a2,c2,e1,e2,e3,e4,e5,e6,e7,f3,f4,f5,f6,f7⟩
 have jq:Hid (∃ h,aJ K.B W0 h kd ka):=⟨hh',hkx.same (h.out.same aM.out)⟩
 have Eh:Hid (aJ K.B w hh' ke kl):=Bv
 have Ef:Hid (xa=some ⟨kb,ko,none⟩):=hxa
 have Rf:kb<w.heap.size:=by have:=h.out.base;omega
 have e19:(x.kind==19)=false:=by simp;omega
 have e22:(x.kind==22)=false:=by simp;omega
 have e20:(x.kind==20)=false:=by simp;omega
 have e21:(x.kind==21)=false:=by simp;omega
 have hl2:x.kids.length=2:=by rw [hkd];rfl
 have HQ:Hid (∀ o,o<8→W0.cell? ⟨kb,ko+o,none⟩=w.cell? ⟨kb,ko+o,none⟩):=fun o _=>h.out.same aM.out kb _ hkb
 have l0:(0:Int)<(x.kids.length:Int):=by omega
 have l1:(1:Int)<(x.kids.length:Int):=by omega
 subst hxa
 clear hr hk hn hn' hkd hh hx0 hx1 her hn1 hn2 hkx Bv hl2
 go_enter Tryz.func148,Tryz.ntmps148
 go_wp2_with fail
 rw [← HW0.out]
 refine (QL K v d ex hC kd ka kc t (n+1) n1 W0 er HB0 jq ib HT1 h2 dL).mono ?_
 rintro e w1 ⟨hk1,he1⟩
 have uR:Hid (af K W0 w1):=hk1
 have bP:Hid (af K w w1):=aM.out.trans hk1
 clear hk1
 cases er with
 | error y =>
  obtain ⟨rfl,v2,t2,hb2,hp2⟩:=he1
  have HE:Hid (Bf K w v r (.panicked [aH y K.num]) w1):=by
   rw [ae.out]
   exact ⟨bP.out,rfl,v2,t2,hb2,hp2⟩
  clear hb2 hp2
  go_wp2
  exact ⟨rfl,HE.out⟩
 | ok p =>
  obtain ⟨D,t1⟩:=p
  obtain ⟨⟨val,rfl,pa,pc,ba,bc,rfl,hdf⟩,hb1⟩:=he1
  have HB1:Hid (BW K w1 v t1):=hb1
  have Be:Hid (aT t1 n1):=Js hle.out ib.out HT1.out dL.out.symm
  obtain ⟨em,hem⟩:∃ em,em=must ex D.takes [ke] t1:=⟨_,rfl⟩
  have l5:Hid (em=must ex D.takes [ke] t1):=hem
  have jP:Hid (r=andThen em fun t=>.ok (aQ D.ty,v,t)):=by unfold Hid;rw [ae.out,andThen_ok,hem]
  obtain ⟨W2,hW2⟩:∃ W2,W2=w1.alloc (aN D pa pc ba bc):=⟨_,rfl⟩
  have HW2:Hid (W2=_):=hW2
  have Bw:Hid (af K w1 W2):=by rw [hW2];exact af.alloc K w1 _ HB1.out.lt
  have bD:Hid (af K w W2):=bP.out.trans Bw.out
  have HB2:Hid (BW K W2 v t1):=by rw [hW2];exact HB1.out.grown (bn _)
  have nK:=hid (Bw.out.at (uR.out.at HX0.out))
  have HZ2:=hid (Bw.out.at (uR.out.at HZ0.out))
  have HD2:Hid (W2.heap[w1.heap.size]?=some (aN D pa pc ba bc)∧bA K W2 w1.heap.size):=by rw [hW2];exact HB1.out.new _
  have HS:Hid (∀ w',af K W2 w'→w'.cell? ⟨w1.heap.size,4,none⟩=some (.int .i64 D.takes.kind)∧w'.cell? ⟨w1.heap.size,5,none⟩=some (.string D.takes.gen)∧w'.cell? ⟨w.heap.size,3,none⟩=some (.slice (some ⟨kb,ko,none⟩) x.kids.length xc)∧w'.cell? ⟨kb,ko+4,none⟩=some (.int .i64 ke.kind)∧w'.cell? ⟨kb,ko+5,none⟩=some (.int .i64 ke.n)∧w'.cell? ⟨kb,ko+6,none⟩=some (.string ke.name)∧w'.cell? ⟨kb,ko+7,none⟩=some (.slice kl ke.kids.length km)):=fun w' hk=>by
   obtain ⟨_,_,_,_,g4,g5,_⟩:=eF (hk.at HD2.out).1
   obtain ⟨_,_,_,pX⟩:=jc (hk.at nK.out).1
   have old:∀ o,w'.cell? ⟨kb,o,none⟩=w.cell? ⟨kb,o,none⟩:=fun o=>h.out.same (bD.out.trans hk) kb o hkb
   rw [old,old,old,old]
   exact ⟨g4,g5,pX,p0,p1,p2,p3⟩
  have hS2:=HS.out W2 (af.refl _ _)
  clear hb1 hdf hem hW2 q0 q1 q2 q3
  go_wp2_with fail
  rw [← HW2.out]
  refine wp_region_held_drew (S:=fun w'=>w'.cell? ⟨w1.heap.size,4,none⟩=some (.int .i64 D.takes.kind)∧w'.cell? ⟨w1.heap.size,5,none⟩=some (.string D.takes.gen)∧w'.cell? ⟨w.heap.size,3,none⟩=some (.slice (some ⟨kb,ko,none⟩) x.kids.length xc)∧w'.cell? ⟨kb,ko+4,none⟩=some (.int .i64 ke.kind)∧w'.cell? ⟨kb,ko+5,none⟩=some (.int .i64 ke.n)∧w'.cell? ⟨kb,ko+6,none⟩=some (.string ke.name)∧w'.cell? ⟨kb,ko+7,none⟩=some (.slice kl ke.kids.length km)) (by kernel_rfl) hS2 (fun hHeld=>?_)
  refine tk 0 (v:=?_) rfl ?_ (by assumption) ?_
  rotate_left
  ·intro w hSw
   (try dsimp only at hSw)
   go_simp
   (try with_reducible rfl)
  (try go_frame)
  refine tk 1 (v:=?_) rfl ?_ (by assumption) ?_
  rotate_left
  ·intro w hSw
   (try dsimp only at hSw)
   go_simp
   (try with_reducible rfl)
  (try go_frame)
  refine tk 2 (v:=?_) rfl ?_ (by assumption) ?_
  rotate_left
  ·intro w hSw
   (try dsimp only at hSw)
   go_simp
   (try with_reducible rfl)
  (try go_frame)
  refine tk 3 (v:=?_) rfl ?_ (by assumption) ?_
  rotate_left
  ·intro w hSw
   (try dsimp only at hSw)
   go_simp
   (try with_reducible rfl)
  (try go_frame)
  refine tk 4 (v:=?_) rfl ?_ (by assumption) ?_
  rotate_left
  ·intro w hSw
   (try dsimp only at hSw)
   go_simp
   (try with_reducible rfl)
  (try go_frame)
  refine tk 5 (v:=?_) rfl ?_ (by assumption) ?_
  rotate_left
  ·intro w hSw
   (try dsimp only at hSw)
   go_simp
   (try with_reducible rfl)
  (try go_frame)
  refine tk 6 (v:=?_) rfl ?_ (by assumption) ?_
  rotate_left
  ·intro w hSw
   (try dsimp only at hSw)
   go_simp
   (try with_reducible rfl)
  (try go_frame)
  refine wpAnyH_ready (rs:=[7]) (by kernel_rfl) (by simp) ?_
  refine AllReadyH.cons (o:=_) rfl (fun K' hK=>?_) AllReadyH.nil
  go_simp
  have fe:Hid (af K W2 (W2.alloc (aj ke kl km)).drew):=(af.alloc K W2 _ HB2.out.lt).drew
  have HB3:Hid (BW K (W2.alloc (aj ke kl km)).drew v t1):=(HB2.out.grown (bn _)).drew
  have vo:Hid ((W2.alloc (aj ke kl km)).drew.heap[W2.heap.size]?=some (aj ke kl km)∧bA K (W2.alloc (aj ke kl km)).drew W2.heap.size):=HB2.out.new (aj ke kl km)
  refine hK.out _ _ (HS.out _ fe.out) (fun hHeld=>?_)
  clear hK
  refine wpAnyH_ready (rs:=[8]) (by kernel_rfl) (by simp) ?_
  refine AllReadyH.cons (o:=_) rfl (fun K' hK=>?_) AllReadyH.nil
  go_simp
  refine (ng K v d ex hC hle [ke] (some ⟨W2.heap.size,0,none⟩) 1 D.takes t1 n1 m _ _ HB3 (rE HB3.out vo.out ⟨hh',Eh.out,h.out⟩ (bD.out.trans fe.out)) (by simp) abB Be h12 (by rw [← l5.out];exact rfl)).mono ?_
  rintro e w9 ⟨bM,dG⟩
  have bQ:Hid (af K W2 w9):=fe.out.trans bM
  cases em with
  | error y =>
   obtain ⟨rfl,v2,t2,hb2,hp2⟩:=dG
   have HE:Hid (Bf K w v r (.panicked [aH y K.num]) w9):=by
    rw [jP.out]
    exact ⟨bD.out.trans bQ.out,rfl,v2,t2,hb2,hp2⟩
   clear hK bM hb2 hp2
   go_wp2
   exact ⟨rfl,HE.out⟩
  | ok t2 =>
   obtain ⟨rfl,dD⟩:=dG
   have fq:Hid (BW K w9 v t2):=dD
   have bX:Hid (r=.ok (aQ D.ty,v,t2)):=jP.out
   have JE:Hid (af K w w9):=bD.out.trans bQ.out
   have j6:=hid (bQ.out.at HZ2.out)
   obtain ⟨_,_,g2,g3,_⟩:=eF (bQ.out.at HD2.out).1
   refine hK.out _ _ (HS.out w9 bQ.out) (fun hHeld=>?_)
   clear hK bM dD hHeld
   refine wpAnyH_done (by kernel_rfl) ?_ _
   have eB:=hid (nA (y:=D.ty) (Z:=w.heap.size+1) fq.out JE.out j6.out (by omega) hBw hF bX.out)
   obtain ⟨W9,dw⟩:∃ W9,W9=(w9.setCell ⟨w.heap.size+1,0,none⟩ (.int .i64 (D.ty).kind)).setCell ⟨w.heap.size+1,1,none⟩ (.string (D.ty).gen):=⟨_,rfl⟩
   have di:Hid (W9=_):=dw
   obtain ⟨oo,oq,ou,ow⟩:=bE (j6.out).1
   clear dw
   go_wp2
   rw [show (w9.setCell ⟨w.heap.size+1,0,none⟩ (.int .i64 (D.ty).kind)).setCell ⟨w.heap.size+1,1,none⟩ (.string (D.ty).gen)=W9 from di.out.symm]
   have q9:=eB.out.2
   rw [show j5 w9 (w.heap.size+1) (.int .i64 (D.ty).kind) (.string (D.ty).gen)=W9 from di.out.symm] at q9
   refine bodyPost_ret (v:=aQ D.ty) (by simp [results,Tryz.results148,go_sem,World.cell?,q9]) rfl ?_
   rw [di.out]
   exact eB.out.1
theorem abD
  (K:BK) (v:Vars) (d:Nat) (ex:Sy.Ex→Tk→Except Int (Sy.Ty × Tk)) (hC:Hid (kF K v d ex)) (hle:Hid (oh d ex)) (me:Sy.Df) (x:Sy.Ex) (xa:Option Addr) (xc:Nat) (t:Tk) (n m:Nat) (w:World) (r:Except Int (Value × Vars × Tk)) (h:Hid (BW K w v t)) (hx:Hid (∃ h,aJ K.B w h x xa)) (hn:Hid (Sy.runs (Sy.aF d) x.kids (n+1)=.ok m)) (ht:Hid (aT t n)) (h2:n+1≤2000)
    (hr:Hid (r=andThen (spoken K.l me ex x t) fun p=>.ok (aQ p.1,v,p.2)))
  (hk:19≤x.kind∧x.kind≤23) (hh:Sy.dU x=0) (i:Nat) (hi:Hid (K.num=(i:Int))) (dE:Hid (K.l[i]?=some me)) :
  Calls Tryz.prog 148 #[.pointer (some ⟨K.F,0,none⟩),dH x xa xc] w fun e w'=>Bf K w v r e w'
  := by
 by_cases h19:x.kind=19
 ·exact abw K v d ex hC hle me x xa xc t n m w r h hx hn ht h2 hr h19
 ·by_cases h22:x.kind=22
  ·exact abx K v d ex hC hle me x xa xc t n m w r h hx hn ht h2 hr h22
  ·by_cases h20:x.kind=20
   ·exact aby K v d ex hC hle me x xa xc t n m w r h hx hn ht h2 hr h20
   ·by_cases h21:x.kind=21
    ·exact abz K v d ex hC hle me x xa xc t n m w r h hx hn ht h2 hr h21 hh i hi dE
    ·exact abA K v d ex hC hle me x xa xc t n m w r h hx hn ht h2 hr (by omega) hh
end Sm
end Go.Proofs.YtolfleeidpeomaaGreatDoor
