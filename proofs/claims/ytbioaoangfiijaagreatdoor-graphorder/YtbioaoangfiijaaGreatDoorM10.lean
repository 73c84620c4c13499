/- The walk of call,given that of expr. -/
import Derived.Test.YtbioaoangfiijaaGreatDoorM9
set_option maxRecDepth 100000
set_option maxHeartbeats 4000000
namespace Go.Proofs.YtbioaoangfiijaaGreatDoor
open Go.RowKit
namespace Sm
theorem hid {p:Prop} (h:p):Hid p:=h
abbrev exB (x:Sy.Ex) (xa:Option Addr) (xc:Nat):Obj:=.cells #[.int .i64 x.kind,.int .i64 x.n,.string x.name,.slice xa x.kids.length xc] 137 (0,0)
abbrev pmB (p:Sy.Pm):Obj:=.cells #[.string p.name,.int .i64 p.ty.kind,.string p.ty.gen] 127 (0,0)
abbrev dfB (D:Sy.Df) (pa:Option Addr) (pc:Nat) (ba:Option Addr) (bc:Nat):Obj:=.cells #[.int .i64 D.kind,.string D.name,.int .i64 D.ty.kind,.string D.ty.gen,.int .i64 D.takes.kind,.string D.takes.gen,.int .i64 D.cap,.slice pa D.params.length pc,.slice ba D.body.length bc] 39 (0,0)
theorem Tryz.info3:(Tryz.prog.info? 3).map (fun i => (i.zero,i.size,i.bytes)) = some (some (.int .i64 0),1,8):=by kernel_rfl
theorem one_int (x:Int):∀ u ∈ [Value.int .i64 x],u.oneCell' = true:=by intro u hu; simp at hu; subst hu; rfl
theorem three_cell {w:World} {b:Nat} {v0 v1 v2:Value} {t:TypeId} (h:w.heap[b]? = some (.cells #[v0,v1,v2] t (0,0))):w.cell? ⟨b,0,none⟩ = some v0 ∧ w.cell? ⟨b,1,none⟩ = some v1 ∧ w.cell? ⟨b,2,none⟩ = some v2:=by simp [World.cell?,h]
theorem nine_cell {w:World} {b:Nat} {v0 v1 v2 v3 v4 v5 v6 v7 v8:Value} {t:TypeId} (h:w.heap[b]? = some (.cells #[v0,v1,v2,v3,v4,v5,v6,v7,v8] t (0,0))) :
  w.cell? ⟨b,0,none⟩ = some v0 ∧ w.cell? ⟨b,1,none⟩ = some v1 ∧ w.cell? ⟨b,2,none⟩ = some v2 ∧ w.cell? ⟨b,3,none⟩ = some v3 ∧ w.cell? ⟨b,4,none⟩ = some v4 ∧ w.cell? ⟨b,5,none⟩ = some v5 ∧ w.cell? ⟨b,6,none⟩ = some v6 ∧ w.cell? ⟨b,7,none⟩ = some v7 ∧ w.cell? ⟨b,8,none⟩ = some v8:=by simp [World.cell?,h]
theorem nine_frozen {w:World} {b:Nat} {v0 v1 v2 v3 v4 v5 v6 v7 v8:Value} {t:TypeId} (h:w.heap[b]? = some (.cells #[v0,v1,v2,v3,v4,v5,v6,v7,v8] t (0,0))) :
  w.frozen? ⟨b,0,none⟩ = false ∧ w.frozen? ⟨b,1,none⟩ = false ∧ w.frozen? ⟨b,2,none⟩ = false ∧ w.frozen? ⟨b,3,none⟩ = false ∧ w.frozen? ⟨b,4,none⟩ = false ∧ w.frozen? ⟨b,5,none⟩ = false ∧ w.frozen? ⟨b,6,none⟩ = false ∧ w.frozen? ⟨b,7,none⟩ = false ∧ w.frozen? ⟨b,8,none⟩ = false:=by simp [World.frozen?,h]
theorem want_lt {l:List Sy.Df} {kind:Int} {name:ByteArray} {i:Nat} (h:Sm.want l kind name = .ok i):i < l.length:=by
 unfold Sm.want at h
 cases hq:numOf l name with
 | none => rw [hq] at h; cases h
 | some i' =>
  rw [hq] at h
  dsimp only at h
  split at h
  ·cases h; exact numOf_lt hq
  ·cases h
theorem Kpt.at {K:BK} {w w':World} {k:Nat} {o:Obj} (h:Kpt K w w') (hk:w.heap[k]? = some o ∧ Free K w k):w'.heap[k]? = some o ∧ Free K w' k:=by
 obtain ⟨h1,h2⟩:=h.block k (lt_of_block hk.1) hk.2
 exact ⟨h1.trans hk.1,h2⟩
theorem BW.new {K:BK} {w:World} {v:Vars} {t:Tk} (h:BW K w v t) (o:Obj):(w.alloc o).heap[w.heap.size]? = some o ∧ Free K (w.alloc o) w.heap.size:=⟨heap_alloc_new w o,h.free (grown_a o) (Nat.le_refl _)⟩
theorem call_any (K:BK) (v:Vars) (d:Nat) (ex:Sy.Ex → Tk → Except Int (Sy.Ty × Tk)) (hC:Hid (CEx K v d ex)) (hle:Hid (ExLe d ex)) (kind:Int) (x:Sy.Ex) (xa:Option Addr) (xc:Nat) (t:Tk) (n m:Nat) (w:World) (r:Except Int (Sy.Df × Tk)) (h:Hid (BW K w v t)) (hx:Hid (∃ h,ExIn K.B w h x xa)) (hn:Hid (Sy.runs (Sy.exW d) x.kids (n + 1) = .ok m)) (ht:Hid (TkLe t n)) (h2:n + 1 ≤ 2000)
  (hr:Hid (r = call K.l ex kind x t)) :
  Calls Tryz.prog 119 #[.pointer (some ⟨K.F,0,none⟩),.int .i64 kind,exV x xa xc] w fun e w' => Bd K w v r e w':=by
 have hF:=h.out.lt
 obtain ⟨W0,hW0⟩:∃ W0,W0 = (w.alloc (exB x xa xc)).alloc zD:=⟨_,rfl⟩
 have HK0:Hid (Kpt K w W0):=by rw [hW0]; exact Kpt.grown (grown_a2 _ _) hF
 have HB0:Hid (BW K W0 v t):=by rw [hW0]; exact h.out.grown (grown_a2 _ _)
 have HX0:Hid (W0.heap[w.heap.size]? = some (exB x xa xc) ∧ Free K W0 w.heap.size):=by
  rw [hW0]
  exact (Kpt.alloc K _ _ (by simp; omega)).at (h.out.new _)
 have HZ0:Hid (W0.heap[w.heap.size + 1]? = some zD ∧ Free K W0 (w.heap.size + 1)):=by
  rw [hW0]
  refine ⟨?_,h.out.free (grown_a2 _ _) (by omega)⟩
  have:=heap_alloc_new (w.alloc (exB x xa xc)) zD
  simpa using this
 have HE0:Hid (∃ h,ExIn K.B W0 h x xa):=by
  obtain ⟨hh,hE⟩:=hx.out
  exact ⟨hh,hE.same (h.out.same HK0.out)⟩
 obtain ⟨wr,hwr⟩:∃ wr,wr = Sm.want K.l kind x.name:=⟨_,rfl⟩
 have HWr:Hid (wr = Sm.want K.l kind x.name):=hwr
 obtain ⟨rv,hrv⟩:∃ rv:Except Int Value,rv = match Sm.want K.l kind x.name with | .ok i => .ok (.int .i64 (i:Int)) | .error y => .error y:=⟨_,rfl⟩
 have HRV:Hid (rv = match Sm.want K.l kind x.name with | .ok i => .ok (.int .i64 (i:Int)) | .error y => .error y):=hrv
 have HRr:Hid (r = andThen wr fun n => if x.kids.length ≠ (defAt K.l n).params.length then .error 5 else andThen (args ex (defAt K.l n).params x.kids ⟨t.sends,t.recvs,t.calls ++ [n]⟩) fun t => .ok (defAt K.l n,t)):=by
  unfold Hid
  rw [hr.out,hwr,call]
 obtain ⟨o,sn,rr,cc,h4⟩:=HB0.out.rows
 obtain ⟨c0,c1,c2,_⟩:=bd_cells h4.blk
 obtain ⟨_,_,y2,_⟩:=four_cell HX0.out.1
 have hB0:K.B ≤ W0.heap.size:=by have:=HB0.out.base; have:=HB0.out.lt; omega
 have HW0:Hid (W0 = _):=hW0
 have HS0:Hid (∀ w',W0.grownBy w' none → w'.cell? ⟨K.F,0,none⟩ = some (.slice K.a K.l.length K.c) ∧ w'.cell? ⟨K.F,1,none⟩ = some (.map (some K.M)) ∧ w'.cell? ⟨K.F,2,none⟩ = some (.int .i64 K.num) ∧ w'.cell? ⟨w.heap.size,2,none⟩ = some (.string x.name)):=fun w' hg => by
  have cF:∀ o,w'.cell? ⟨K.F,o,none⟩ = W0.cell? ⟨K.F,o,none⟩:=fun o => World.cell?_of_block (a:=⟨K.F,o,none⟩) (hg.block _ HB0.out.lt (by simp))
  have cX:∀ o,w'.cell? ⟨w.heap.size,o,none⟩ = W0.cell? ⟨w.heap.size,o,none⟩:=fun o => World.cell?_of_block (a:=⟨w.heap.size,o,none⟩) (hg.block _ (lt_of_block HX0.out.1) (by simp))
  rw [cF,cF,cF,cX]
  exact ⟨c0,c1,c2,y2⟩
 rw [← hwr] at hrv
 clear hr hwr hW0 h4
 go_enter Tryz.func119,Tryz.ntmps119
 go_wp2_with fail
 rw [← HW0.out]
 refine wp_region_held_drew (S:=fun w' => w'.cell? ⟨K.F,0,none⟩ = some (.slice K.a K.l.length K.c) ∧ w'.cell? ⟨K.F,1,none⟩ = some (.map (some K.M)) ∧ w'.cell? ⟨K.F,2,none⟩ = some (.int .i64 K.num) ∧ w'.cell? ⟨w.heap.size,2,none⟩ = some (.string x.name)) (by kernel_rfl) ⟨c0,c1,c2,y2⟩ (fun hHeld => ?_)
 refine tk 0 (v:=?_) rfl ?_ (by assumption) ?_
 rotate_left
 ·intro w hSw
  (try dsimp only at hSw)
  go_simp
  (try with_reducible rfl)
 (try go_frame)
 refine tk 1 (v:=?_) rfl ?_ (by assumption) ?_
 rotate_left
 ·intro w hSw
  (try dsimp only at hSw)
  go_simp
  (try with_reducible rfl)
 (try go_frame)
 refine tk 2 (v:=?_) rfl ?_ (by assumption) ?_
 rotate_left
 ·intro w hSw
  (try dsimp only at hSw)
  go_simp
  (try with_reducible rfl)
 (try go_frame)
 refine tk 3 (v:=?_) rfl ?_ (by assumption) ?_
 rotate_left
 ·intro w hSw
  (try dsimp only at hSw)
  go_simp
  (try with_reducible rfl)
 (try go_frame)
 refine tk 4 (v:=?_) rfl ?_ (by assumption) ?_
 rotate_left
 ·intro w hSw
  (try dsimp only at hSw)
  go_simp
  (try with_reducible rfl)
 (try go_frame)
 refine tk 5 (v:=?_) rfl ?_ (by assumption) ?_
 rotate_left
 ·intro w hSw
  (try dsimp only at hSw)
  go_simp
  (try with_reducible rfl)
 (try go_frame)
 refine tk 6 (v:=?_) rfl ?_ (by assumption) ?_
 rotate_left
 ·intro w hSw
  (try dsimp only at hSw)
  go_simp
  (try with_reducible rfl)
 (try go_frame)
 refine wpAnyH_ready (rs:=[7]) (by kernel_rfl) (by simp) ?_
 refine AllReadyH.cons (o:=_) rfl (fun K' hK => ?_) AllReadyH.nil
 go_simp
 refine (want_any K.B K.l K.a K.c K.M K.num kind x.name K.R W0.drew rv (by exact HB0.out.drew.dfs) (by exact hB0) (by exact HB0.out.drew.mp) (by exact HB0.out.nums) HRV).mono ?_
 rintro e w1 ⟨hg1',he1⟩
 have hg1:W0.grownBy w1 none:=⟨hg1'.os,hg1'.tape,hg1'.output,hg1'.size,hg1'.block⟩
 have HG1:Hid (W0.grownBy w1 none):=hg1
 clear hg1'
 cases wr with
 | error y =>
  subst hrv
  obtain rfl:=he1
  have HE:Hid (Bd K w v r (.panicked [fltE y K.num]) w1):=by
   rw [HRr.out]
   exact ⟨HK0.out.trans (Kpt.grown HG1.out HB0.out.lt),rfl,v,t,HB0.out.grown HG1.out,List.prefix_refl _⟩
  clear hK hg1
  go_wp2
  exact ⟨rfl,HE.out⟩
 | ok i =>
  subst hrv
  obtain rfl:=he1
  have hi:=want_lt HWr.out.symm
  obtain ⟨D,hD⟩:∃ D,D = K.l[i]:=⟨_,rfl⟩
  have hDA:Hid (defAt K.l i = D):=by unfold Hid; rw [hD]; simp [defAt,List.getElem?_eq_getElem hi]
  have HB1:Hid (BW K w1 v t):=HB0.out.grown hg1
  have HK1:Hid (Kpt K w w1):=HK0.out.trans (Kpt.grown hg1 HB0.out.lt)
  obtain ⟨b,off,pa,pc,ba,bc,ha,hb,k0,k1,k2,k3,k4,k5,k6,k7,k8,hdf⟩:=HB1.out.dfs.2 i D (by rw [hD]; exact List.getElem?_eq_getElem hi)
  have HA:Hid (K.a = some ⟨b,off,none⟩):=ha
  have HDf:Hid (DfIn K.B w1 D pa ba):=hdf
  have HX1:=hid ((Kpt.grown HG1.out HB0.out.lt).at HX0.out)
  have HZ1:=hid ((Kpt.grown HG1.out HB0.out.lt).at HZ0.out)
  have hS1:=HS0.out w1 hg1
  refine hK.out _ _ hS1 (fun hHeld => ?_)
  refine tk 8 (v:=?_) rfl ?_ (by assumption) ?_
  rotate_left
  ·intro w hSw
   (try dsimp only at hSw)
   go_simp
   (try with_reducible rfl)
  (try go_frame)
  refine wpAnyH_done (by kernel_rfl) ?_ _
  obtain ⟨ord,sn,rc,cl,h4⟩:=HB1.out.rows
  have H4:Hid (Rows4 K w1 v t ord sn rc cl):=h4
  obtain ⟨ca,cn,hcl⟩:=own_form h4.clO
  subst hcl
  obtain ⟨i0,hif,hz0,hz1,hz2⟩:=info_parts Tryz.info3
  have hB1:K.B ≤ w1.heap.size:=by have:=HB1.out.base; have:=HB1.out.lt; omega
  have hcF:Hid ((Value.slice ca t.calls.length cn).ownBlock ≠ some K.F):=fun e => by
   obtain ⟨_,_,cur,hc⟩:=own_lt h4.clO _ e
   rw [h4.blk] at hc
   cases hc
  have hF1:=h4.lt
  obtain ⟨_,_,_,_,_,_,_,d7⟩:=bd_cells h4.blk
  obtain ⟨_,_,_,z7⟩:=bd_frozen h4.blk
  have htc:t.calls.length ≤ 2000:=by have:=ht.out.2.2; omega
  have HSW:Hid (∀ (o2:Obj) (w4:World),(w1.alloc o2).grownBy w4 (Value.slice ca t.calls.length cn).ownBlock → ∀ k,k < w1.heap.size → (Value.slice ca t.calls.length cn).ownBlock ≠ some k → w4.heap[k]? = w1.heap[k]?):=fun o2 w4 hg k hk hne =>
   (hg.block k (by simp; omega) (fun e => hne e.symm)).trans (Below.heap_alloc _ _ _ hk)
  have HCB:Hid (∀ (o2:Obj) (w4:World),(w1.alloc o2).grownBy w4 (Value.slice ca t.calls.length cn).ownBlock → w4.heap[K.F]? = some (K.obj ord sn rc (.slice ca t.calls.length cn)) ∧ (∀ o,w4.cell? ⟨b,o,none⟩ = w1.cell? ⟨b,o,none⟩) ∧ w4.heap[w.heap.size]? = some (exB x xa xc)):=fun o2 w4 hg => by
   refine ⟨(HSW.out o2 w4 hg _ hF1 hcF.out).trans H4.out.blk,fun o => World.cell?_of_block (a:=⟨b,o,none⟩) (HSW.out o2 w4 hg b (by omega) (fun e => by have:=(own_lt H4.out.clO _ e).1; omega)),(HSW.out o2 w4 hg _ (lt_of_block HX1.out.1) ?_).trans HX1.out.1⟩
   exact (HX1.out.2.2.2 _ _ _ _ H4.out.blk).2.2.2
  have hml:K.l.length ≤ maxLen:=HB1.out.dfs.1
  obtain ⟨L,hL⟩:∃ L,L = K.l.length:=⟨_,rfl⟩
  have HL:Hid (L = K.l.length):=hL
  have hiL:(i:Int) < (L:Int):=by omega
  rw [← hL] at hml
  obtain ⟨np,hnp⟩:∃ np,np = D.params.length:=⟨_,rfl⟩
  obtain ⟨nk,hnk⟩:∃ nk,nk = x.kids.length:=⟨_,rfl⟩
  have HNP:Hid (np = D.params.length):=hnp
  have HNK:Hid (nk = x.kids.length):=hnk
  have HRd:Hid (r = if nk ≠ np then .error 5 else andThen (args ex D.params x.kids ⟨t.sends,t.recvs,t.calls ++ [i]⟩) fun t => .ok (D,t)):=by
   unfold Hid
   rw [HRr.out,andThen_ok,hDA.out,hnp,hnk]
  clear hK hg1 hS1 hD hdf ha h4 hL hnp hnk c0 c1 c2 y2
  have hbF:b ≠ K.F:=by have:=HB1.out.base; omega
  have hxF:w.heap.size ≠ K.F:=by omega
  by_cases hlen:nk = np
  ·have en:((nk:Int) != (np:Int)) = false:=by simp; omega
   go_wp2_with (at_builtin; refine wpList_append_where rfl _ _ 94 rfl K.B 3 i0 _ 1 8 Tryz.underlying94 hif hz0 hz1 hz2 rfl (by decide) _ t.calls.length (nats t.calls) rfl (H4.out.clO.alloc _) ⟨w1.heap.size,0,none⟩ 1 1 [.int .i64 (i:Int)] rfl rfl (one_news _ _ _) (one_int _) (by decide) (by unfold maxLen; omega) (by omega) (by simp; omega) ?_; intro g cap w4 hq4 hg4 hw4; have HT7:Hid _:=talk7 HB1.out H4.out (World.grownBy.refl _ _) hg4 hq4 hw4; have hz4:=hg4.size; obtain ⟨hF4,hcb4,hx4⟩:=HCB.out _ w4 hg4; obtain ⟨f0,f1,f2,_⟩:=bd_cells hF4; obtain ⟨_,_,_,f7⟩:=bd_frozen hF4; obtain ⟨_,_,_,f4,f5,f6,_,e7⟩:=bd_cells hF4; obtain ⟨_,_,_,x3⟩:=four_cell hx4; rw [HA.out,← HL.out] at f0; rw [← HNK.out] at x3; rw [← hcb4] at k0 k1 k2 k3 k4 k5 k6 k7 k8; rw [← HNP.out] at k7; have hF4':=lt_of_block hF4; have hx4':=lt_of_block hx4; have HX4:=hid hx4; clear hq4 hg4 hw4 hF4 hcb4 hx4)
   obtain ⟨W6,hW6⟩:∃ W6,W6 = (w4.setCell ⟨K.F,7,none⟩ (.slice (some ⟨g,0,none⟩) (t.calls.length + 1) cap)).alloc (.cells #[.int .i64 D.kind,.string D.name,.int .i64 D.ty.kind,.string D.ty.gen,.int .i64 D.takes.kind,.string D.takes.gen,.int .i64 D.cap,.slice pa np pc,.slice ba D.body.length bc] 39):=⟨_,rfl⟩
   have HW6:Hid (W6 = _):=hW6
   have hs5:(w4.setCell ⟨K.F,7,none⟩ (.slice (some ⟨g,0,none⟩) (t.calls.length + 1) cap)).heap.size = w4.heap.size:=by simp [World.setCell]
   have HK16:Hid (Kpt K w1 W6):=by rw [hW6]; exact HT7.out.2.trans (Kpt.alloc K _ _ HT7.out.1.lt)
   have HK6:Hid (Kpt K w W6):=HK1.out.trans HK16.out
   have HB6:Hid (BW K W6 v ⟨t.sends,t.recvs,t.calls ++ [i]⟩):=by rw [hW6]; exact HT7.out.1.grown (grown_a _)
   have HX6:=hid (HK16.out.at HX1.out)
   have HZ6:=hid (HK16.out.at HZ1.out)
   have HD6:Hid (W6.heap[w4.heap.size]? = some (.cells #[.int .i64 D.kind,.string D.name,.int .i64 D.ty.kind,.string D.ty.gen,.int .i64 D.takes.kind,.string D.takes.gen,.int .i64 D.cap,.slice pa np pc,.slice ba D.body.length bc] 39 (0,0)) ∧ Free K W6 w4.heap.size):=by
    have:=HT7.out.1.new (.cells #[.int .i64 D.kind,.string D.name,.int .i64 D.ty.kind,.string D.ty.gen,.int .i64 D.takes.kind,.string D.takes.gen,.int .i64 D.cap,.slice pa np pc,.slice ba D.body.length bc] 39 (0,0))
    rw [hs5] at this
    rw [hW6]
    exact this
   have HDf6:Hid (DfIn K.B W6 D pa ba):=HDf.out.same (HB1.out.same HK16.out)
   have HE6:Hid (∃ h,ExIn K.B W6 h x xa):=by
    obtain ⟨hh,hE⟩:=HE0.out
    exact ⟨hh,(hE.same (HB0.out.same (Kpt.grown HG1.out HB0.out.lt))).same (HB1.out.same HK16.out)⟩
   have HR6:Hid (r = andThen (args ex D.params x.kids ⟨t.sends,t.recvs,t.calls ++ [i]⟩) fun t => .ok (D,t)):=by unfold Hid; rw [HRd.out,if_neg (by simpa using hlen)]
   have HT6:Hid (TkLe ⟨t.sends,t.recvs,t.calls ++ [i]⟩ (n + 1)):=⟨by have:=ht.out.1; dsimp; omega,by have:=ht.out.2.1; dsimp; omega,by have:=ht.out.2.2; simp; omega⟩
   have hsz6:=HK6.out.size
   have hPz:w.heap.size < w4.heap.size:=hx4'
   have HPZ:Hid (w4.heap.size ≠ w.heap.size + 1):=fun e => by have h1:=lt_of_block HZ1.out.1; have h2:w1.heap.size + 1 ≤ w4.heap.size:=(by simpa using hz4); omega
   generalize hPe:w4.heap.size = P at *
   rw [← HW6.out]
   clear hW6 hs5 f0 f1 f2 f7 f4 f5 f6 e7 x3 k0 k1 k2 k3 k4 k5 k6 k7 k8 hPe HW6 HT7 hz4 d7 z7
   go_loopw [55] (fun q wr => ∃ (j:Nat) (t':Tk) (n':Nat),q = .int .i64 j ∧ j ≤ np ∧ n' ≤ 2000 ∧ Hid (BW K wr v t') ∧ Hid (Kpt K W6 wr) ∧ Hid (TkLe t' n') ∧ Hid (Sy.runs (Sy.exW d) (x.kids.drop j) n' = .ok m) ∧ Hid (r = andThen (args ex (D.params.drop j) (x.kids.drop j) t') fun t => .ok (D,t))) (fun q _ => np - (intOf q).toNat)
   case atStart => exact ⟨0,_,n + 1,rfl,Nat.zero_le _,h2,HB6,Kpt.refl _ _,HT6,by rw [List.drop_zero]; exact hn,by rw [List.drop_zero,List.drop_zero]; exact HR6⟩
   case round =>
    obtain ⟨j,t',n',rfl,hj,hn2,HB,HK,HT,HN,HR⟩:=hrel
    have HX:=hid (HK.out.at HX6.out)
    have HZ:=hid (HK.out.at HZ6.out)
    have HD:=hid (HK.out.at HD6.out)
    have hFr:=HB.out.lt
    by_cases hlt:j < np
    ·have hj1:j < D.params.length:=by rw [← HNP.out]; exact hlt
     have hj2:j < x.kids.length:=by rw [← HNK.out]; omega
     obtain ⟨p,hp⟩:∃ p,D.params[j]? = some p:=⟨_,List.getElem?_eq_getElem hj1⟩
     obtain ⟨kd,hkd⟩:∃ kd,x.kids[j]? = some kd:=⟨_,List.getElem?_eq_getElem hj2⟩
     have hsame:=HB6.out.same HK.out
     obtain ⟨pb,po,hpa,hpb,p0,p1,p2,_⟩:=(HDf6.out.same hsame).2.2.2.1.2 j p hp
     have hdr1:D.params.drop j = p :: D.params.drop (j + 1):=by rw [List.drop_eq_getElem_cons hj1,(List.getElem?_eq_some_iff.1 hp).2]
     have hdr2:x.kids.drop j = kd :: x.kids.drop (j + 1):=by rw [List.drop_eq_getElem_cons hj2,(List.getElem?_eq_some_iff.1 hkd).2]
     obtain ⟨n1,hx1,hn1⟩:=runs_cons (by have:=HN.out; rw [hdr2] at this; exact this)
     have hn12:n1 ≤ 2000:=Sy.exW_le d kd n' n1 hn2 hx1
     obtain ⟨er,her⟩:∃ er,er = must ex p.ty [kd] t':=⟨_,rfl⟩
     have HEr:Hid (er = must ex p.ty [kd] t'):=her
     have HRr:Hid (r = andThen er fun t2 => andThen (args ex (D.params.drop (j + 1)) (x.kids.drop (j + 1)) t2) fun t => .ok (D,t)):=by
      unfold Hid
      rw [HR.out,hdr1,hdr2,args,her,List.take_succ_cons,List.take_zero,List.drop_succ_cons,List.drop_zero]
      cases must ex p.ty [kd] t' <;> rfl
     have HX1':Hid (Sy.runs (Sy.exW d) [kd] n' = .ok n1):=by unfold Hid; simp [Sy.runs,hx1]
     have HN1:Hid (Sy.runs (Sy.exW d) (x.kids.drop (j + 1)) n1 = .ok m):=hn1
     obtain ⟨hh,kb,ko,ka,kc,hxa,hkb,q0,q1,q2,q3,hkx⟩:∃ hh kb ko ka kc,xa = some ⟨kb,ko,none⟩ ∧ kb < K.B ∧ wr.cell? ⟨kb,ko + j * 4,none⟩ = some (.int .i64 kd.kind) ∧ wr.cell? ⟨kb,ko + j * 4 + 1,none⟩ = some (.int .i64 kd.n) ∧ wr.cell? ⟨kb,ko + j * 4 + 2,none⟩ = some (.string kd.name) ∧ wr.cell? ⟨kb,ko + j * 4 + 3,none⟩ = some (.slice ka kd.kids.length kc) ∧ ExIn K.B wr hh kd ka:=by
      obtain ⟨hh,hE⟩:=HE6.out
      cases hh with
      | zero => exact hE.elim
      | succ hh =>
       obtain ⟨b',off',a',c',e1,e2,e3,e4,e5,e6,e7⟩:=(ExIn.same hsame _ _ _ hE).2.2 j kd hkd
       exact ⟨hh,b',off',a',c',e1,e2,e3,e4,e5,e6,e7⟩
     have HKX:Hid (ExIn K.B wr hh kd ka):=hkx
     have HXA:Hid (xa = some ⟨kb,ko,none⟩):=hxa
     have hB:=HB.out.base
     have hpbw:pb < wr.heap.size:=by omega
     have hkbw:kb < wr.heap.size:=by omega
     obtain ⟨_,_,_,x3⟩:=four_cell HX.out.1
     rw [← HNK.out,hxa] at x3
     obtain ⟨W7,hW7⟩:∃ W7,W7 = wr.alloc (pmB p):=⟨_,rfl⟩
     have HW7:Hid (W7 = _):=hW7
     have HK7:Hid (Kpt K wr W7):=by rw [hW7]; exact Kpt.alloc K wr _ hFr
     have HB7:Hid (BW K W7 v t'):=by rw [hW7]; exact HB.out.grown (grown_a _)
     have HP7:Hid (W7.heap[wr.heap.size]? = some (pmB p) ∧ Free K W7 wr.heap.size):=by rw [hW7]; exact HB.out.new _
     have HX7:=hid (HK7.out.at HX.out)
     have HS:Hid (∀ w',Kpt K W7 w' → w'.cell? ⟨wr.heap.size,1,none⟩ = some (.int .i64 p.ty.kind) ∧ w'.cell? ⟨wr.heap.size,2,none⟩ = some (.string p.ty.gen) ∧ w'.cell? ⟨w.heap.size,3,none⟩ = some (.slice (some ⟨kb,ko,none⟩) nk xc) ∧ w'.cell? ⟨kb,ko + j * 4,none⟩ = some (.int .i64 kd.kind) ∧ w'.cell? ⟨kb,ko + j * 4 + 1,none⟩ = some (.int .i64 kd.n) ∧ w'.cell? ⟨kb,ko + j * 4 + 2,none⟩ = some (.string kd.name) ∧ w'.cell? ⟨kb,ko + j * 4 + 3,none⟩ = some (.slice ka kd.kids.length kc)):=fun w' hk => by
      obtain ⟨_,m1,m2⟩:=three_cell (hk.at HP7.out).1
      obtain ⟨_,_,_,x3'⟩:=four_cell (hk.at HX7.out).1
      rw [← HNK.out,HXA.out] at x3'
      have old:∀ o,w'.cell? ⟨kb,o,none⟩ = wr.cell? ⟨kb,o,none⟩:=fun o => ((HB.out.same (HK7.out.trans hk)) kb o hkb)
      rw [old,old,old,old]
      exact ⟨m1,m2,x3',q0,q1,q2,q3⟩
     have HJJ:Hid (j + 1 ≤ np):=hlt
     have hj9:j + 1 ≤ 9223372036854775807:=by have h1:=HDf6.out.2.2.2.1.1; have h2:=HNP.out; unfold maxLen at h1; omega
     have hjn:(j:Int) < (nk:Int):=by omega
     have hjp:(j:Int) < (np:Int):=by omega
     have hS7:=HS.out W7 (Kpt.refl _ _)
     subst hpa
     clear hdr1 hdr2 hx1 hn1 her hW7 hkx hxa hp hkd hsame
     go_wp2_with fail
     rw [← HW7.out]
     refine wp_region_held_drew (S:=fun w' => w'.cell? ⟨wr.heap.size,1,none⟩ = some (.int .i64 p.ty.kind) ∧ w'.cell? ⟨wr.heap.size,2,none⟩ = some (.string p.ty.gen) ∧ w'.cell? ⟨w.heap.size,3,none⟩ = some (.slice (some ⟨kb,ko,none⟩) nk xc) ∧ w'.cell? ⟨kb,ko + j * 4,none⟩ = some (.int .i64 kd.kind) ∧ w'.cell? ⟨kb,ko + j * 4 + 1,none⟩ = some (.int .i64 kd.n) ∧ w'.cell? ⟨kb,ko + j * 4 + 2,none⟩ = some (.string kd.name) ∧ w'.cell? ⟨kb,ko + j * 4 + 3,none⟩ = some (.slice ka kd.kids.length kc)) (by kernel_rfl) hS7 (fun hHeld => ?_)
     refine tk 0 (v:=?_) rfl ?_ (by assumption) ?_
     rotate_left
     ·intro w hSw
      (try dsimp only at hSw)
      go_simp
      (try with_reducible rfl)
     (try go_frame)
     refine tk 1 (v:=?_) rfl ?_ (by assumption) ?_
     rotate_left
     ·intro w hSw
      (try dsimp only at hSw)
      go_simp
      (try with_reducible rfl)
     (try go_frame)
     refine tk 2 (v:=?_) rfl ?_ (by assumption) ?_
     rotate_left
     ·intro w hSw
      (try dsimp only at hSw)
      go_simp
      (try with_reducible rfl)
     (try go_frame)
     refine tk 3 (v:=?_) rfl ?_ (by assumption) ?_
     rotate_left
     ·intro w hSw
      (try dsimp only at hSw)
      go_simp
      (try with_reducible rfl)
     (try go_frame)
     refine tk 4 (v:=?_) rfl ?_ (by assumption) ?_
     rotate_left
     ·intro w hSw
      (try dsimp only at hSw)
      go_simp
      (try with_reducible rfl)
     (try go_frame)
     refine tk 5 (v:=?_) rfl ?_ (by assumption) ?_
     rotate_left
     ·intro w hSw
      (try dsimp only at hSw)
      go_simp
      (try with_reducible rfl)
     (try go_frame)
     refine tk 6 (v:=?_) rfl ?_ (by assumption) ?_
     rotate_left
     ·intro w hSw
      (try dsimp only at hSw)
      go_simp
      (try with_reducible rfl)
     (try go_frame)
     refine tk 7 (v:=?_) rfl ?_ (by assumption) ?_
     rotate_left
     ·intro w hSw
      (try dsimp only at hSw)
      go_simp
      (try with_reducible rfl)
     (try go_frame)
     refine wpAnyH_ready (rs:=[8]) (by kernel_rfl) (by simp) ?_
     refine AllReadyH.cons (o:=_) rfl (fun K' hK => ?_) AllReadyH.nil
     go_simp
     have hF7:=HB7.out.lt
     have HK8:Hid (Kpt K W7 (W7.alloc (exB kd ka kc)).drew):=(Kpt.alloc K W7 _ hF7).drew
     have HB8:Hid (BW K (W7.alloc (exB kd ka kc)).drew v t'):=(HB7.out.grown (grown_a _)).drew
     have HN8:Hid ((W7.alloc (exB kd ka kc)).drew.heap[W7.heap.size]? = some (exB kd ka kc) ∧ Free K (W7.alloc (exB kd ka kc)).drew W7.heap.size):=HB7.out.new _
     have HKs:Hid (KsAt K (W7.alloc (exB kd ka kc)).drew [kd] (some ⟨W7.heap.size,0,none⟩)):=fun i k hi => by
      obtain rfl:i = 0:=by have:=(List.getElem?_eq_some_iff.1 hi).1; simp at this; exact this
      simp at hi
      subst hi
      exact ⟨W7.heap.size,0,ka,kc,rfl,lt_of_block HN8.out.1,HN8.out.2,by simp,by simp,by simp,by simp,hh,HKX.out.same (HB.out.same (HK7.out.trans HK8.out))⟩
     refine hK.out _ _ (HS.out _ HK8.out) (fun hHeld => ?_)
     clear hK
     refine wpAnyH_ready (rs:=[9]) (by kernel_rfl) (by simp) ?_
     refine AllReadyH.cons (o:=_) rfl (fun K' hK => ?_) AllReadyH.nil
     go_simp
     refine (must_any K v d ex hC hle [kd] (some ⟨W7.heap.size,0,none⟩) 1 p.ty t' n' n1 _ _ HB8 HKs (by simp) HX1' HT hn2 (by rw [← HEr.out]; exact rfl)).mono ?_
     rintro e w9 ⟨hk9,he9⟩
     have HK9:Hid (Kpt K W7 w9):=HK8.out.trans hk9
     have HKw:Hid (Kpt K w w9):=(HK6.out.trans HK.out).trans (HK7.out.trans HK9.out)
     cases er with
     | error y =>
      obtain ⟨rfl,v2,t2,hb2,hp2⟩:=he9
      have HE:Hid (Bd K w v r (.panicked [fltE y K.num]) w9):=by
       rw [HRr.out]
       exact ⟨HKw.out,rfl,v2,t2,hb2,hp2⟩
      clear hK hk9 hb2 hp2
      go_wp2
      exact ⟨rfl,HE.out⟩
     | ok t2 =>
      obtain ⟨rfl,hb9⟩:=he9
      have HB9:Hid (BW K w9 v t2):=hb9
      have HTL:Hid (TkLe t2 n1):=must_le hle.out p.ty [kd] t' n' n1 t2 HX1'.out HT.out HEr.out.symm
      have HRn:Hid (r = andThen (args ex (D.params.drop (j + 1)) (x.kids.drop (j + 1)) t2) fun t => .ok (D,t)):=HRr.out
      refine hK.out _ _ (HS.out w9 HK9.out) (fun hHeld => ?_)
      clear hK hk9 hb9
      refine wpAnyH_done (by kernel_rfl) ?_ _
      go_wp2
      go_roundw
      case rel => exact ⟨j + 1,t2,n1,by go_num,HJJ.out,hn12,HB9,HK.out.trans (HK7.out.trans HK9.out),HTL,HN1,HRn⟩
      case measure => have:=HJJ.out; simp [intOf]; omega
    ·have HRe:Hid (r = .ok (D,t')):=by
      have h1:=HR.out
      have h2:=HNP.out
      have h3:D.params.drop j = []:=List.drop_of_length_le (by omega)
      rw [h3] at h1
      exact h1
     have HDe:Hid (DfIn K.B wr D pa ba):=HDf6.out.same (HB6.out.same HK.out)
     obtain ⟨n0,n1,n2,n3,n4,n5,n6,n7,n8⟩:=nine_cell HD.out.1
     obtain ⟨zf0,zf1,zf2,zf3,zf4,zf5,zf6,zf7,zf8⟩:=nine_frozen HZ.out.1
     obtain ⟨zc0,zc1,zc2,zc3,zc4,zc5,zc6,zc7,zc8⟩:=nine_cell HZ.out.1
     have hjp:¬ (j:Int) < (np:Int):=by omega
     have HN5:Hid (wr.grownBy (nineS wr (w.heap.size + 1) (.int .i64 D.kind) (.string D.name) (.int .i64 D.ty.kind) (.string D.ty.gen) (.int .i64 D.takes.kind) (.string D.takes.gen) (.int .i64 D.cap) (.slice pa np pc) (.slice ba D.body.length bc)) (some (w.heap.size + 1))):=nine_grown
     have HN9:Hid ((nineS wr (w.heap.size + 1) (.int .i64 D.kind) (.string D.name) (.int .i64 D.ty.kind) (.string D.ty.gen) (.int .i64 D.takes.kind) (.string D.takes.gen) (.int .i64 D.cap) (.slice pa np pc) (.slice ba D.body.length bc)).heap[w.heap.size + 1]? = some (.cells #[.int .i64 D.kind,.string D.name,.int .i64 D.ty.kind,.string D.ty.gen,.int .i64 D.takes.kind,.string D.takes.gen,.int .i64 D.cap,.slice pa np pc,.slice ba D.body.length bc] 39 (0,0))):=nine_at HZ.out.1
     obtain ⟨W9,hW9⟩:∃ W9,W9 = nineS wr (w.heap.size + 1) (.int .i64 D.kind) (.string D.name) (.int .i64 D.ty.kind) (.string D.ty.gen) (.int .i64 D.takes.kind) (.string D.takes.gen) (.int .i64 D.cap) (.slice pa np pc) (.slice ba D.body.length bc):=⟨_,rfl⟩
     rw [← hW9] at HN5 HN9
     have hnF:K.F ≠ w.heap.size + 1:=by omega
     have HE:Hid (Bd K w v r (.returned (dfV D pa pc ba bc)) W9):=by
      have hB9:K.B ≤ w.heap.size + 1:=by have:=h.out.base; omega
      rw [HRe.out]
      refine ⟨(HK6.out.trans HK.out).own HN5.out (by omega) hnF hFr,⟨_,rfl,pa,pc,ba,bc,rfl,?_⟩,HB.out.own HN5.out HZ.out.2 HZ.out.1 hB9⟩
      exact HDe.out.same fun b' o' hb' => World.cell?_of_block (a:=⟨b',o',none⟩) (HN5.out.block b' (by have:=HB.out.base; omega) (by simp; omega))
     have HW9:Hid _:=hW9
     have hpZ:P ≠ w.heap.size + 1:=HPZ.out
     clear hW9
     go_wp2
     rw [show ((((((((wr.setCell ⟨w.heap.size + 1,0,none⟩ (.int .i64 D.kind)).setCell ⟨w.heap.size + 1,1,none⟩ (.string D.name)).setCell ⟨w.heap.size + 1,2,none⟩ (.int .i64 D.ty.kind)).setCell ⟨w.heap.size + 1,3,none⟩ (.string D.ty.gen)).setCell ⟨w.heap.size + 1,4,none⟩ (.int .i64 D.takes.kind)).setCell ⟨w.heap.size + 1,5,none⟩ (.string D.takes.gen)).setCell ⟨w.heap.size + 1,6,none⟩ (.int .i64 D.cap)).setCell ⟨w.heap.size + 1,7,none⟩ (.slice pa np pc)).setCell ⟨w.heap.size + 1,8,none⟩ (.slice ba D.body.length bc) = W9 from HW9.out.symm]
     have q9:=HN9.out
     have hnp:=HNP.out
     refine bodyPost_ret (v:=dfV D pa pc ba bc) (by simp [results,Tryz.results119,go_sem,World.cell?,q9,hnp]) rfl ?_
     exact HE.out
  ·have en:((nk:Int) != (np:Int)) = true:=by simp; omega
   have HR5:Hid (r = .error 5):=by unfold Hid; rw [HRd.out,if_pos hlen]
   go_wp2_with (at_builtin; refine wpList_append_where rfl _ _ 94 rfl K.B 3 i0 _ 1 8 Tryz.underlying94 hif hz0 hz1 hz2 rfl (by decide) _ t.calls.length (nats t.calls) rfl (H4.out.clO.alloc _) ⟨w1.heap.size,0,none⟩ 1 1 [.int .i64 (i:Int)] rfl rfl (one_news _ _ _) (one_int _) (by decide) (by unfold maxLen; omega) (by omega) (by simp; omega) ?_; intro g cap w4 hq4 hg4 hw4; have HT7:Hid _:=talk7 HB1.out H4.out (World.grownBy.refl _ _) hg4 hq4 hw4; have hz4:=hg4.size; obtain ⟨hF4,hcb4,hx4⟩:=HCB.out _ w4 hg4; obtain ⟨f0,f1,f2,_⟩:=bd_cells hF4; obtain ⟨_,_,_,f7⟩:=bd_frozen hF4; obtain ⟨_,_,_,f4,f5,f6,_,e7⟩:=bd_cells hF4; obtain ⟨_,_,_,x3⟩:=four_cell hx4; rw [HA.out,← HL.out] at f0; rw [← HNK.out] at x3; rw [← hcb4] at k0 k1 k2 k3 k4 k5 k6 k7 k8; rw [← HNP.out] at k7; have hF4':=lt_of_block hF4; have hx4':=lt_of_block hx4; have HX4:=hid hx4; clear hq4 hg4 hw4 hF4 hcb4 hx4)
   refine (fail_any L (some ⟨b,off,none⟩) K.c K.M K.num 5 _).mono ?_
   rintro e w9 ⟨rfl,hg9⟩
   have HE:Hid (Bd K w v r (.panicked [fltE 5 K.num]) w9):=by
    rw [HR5.out]
    have hg:=grown_trans (grown_a _) hg9
    exact ⟨(HK1.out.trans HT7.out.2).trans (Kpt.grown hg HT7.out.1.lt),rfl,v,_,HT7.out.1.grown hg,List.prefix_refl _⟩
   clear hg9
   go_wp2
   exact ⟨rfl,HE.out⟩
end Sm
namespace Sm
abbrev zT:Obj:=.cells #[.int .i64 0,.string ⟨#[]⟩] 35 (0,0)
abbrev twoS (w:World) (N:Nat) (a0 a1:Value):World:=(w.setCell ⟨N,0,none⟩ a0).setCell ⟨N,1,none⟩ a1
theorem field_ty (D:Sy.Df) (pa:Option Addr) (pc:Nat) (ba:Option Addr) (bc:Nat) (w:World):(Instr.field 39 (dfV D pa pc ba bc) 2).run Tryz.prog w = .ok (tyV D.ty) w:=by kernel_rfl
theorem field_kind (D:Sy.Df) (pa:Option Addr) (pc:Nat) (ba:Option Addr) (bc:Nat) (w:World):(Instr.field 39 (dfV D pa pc ba bc) 0).run Tryz.prog w = .ok (.int .i64 D.kind) w:=by kernel_rfl
theorem field_takes (D:Sy.Df) (pa:Option Addr) (pc:Nat) (ba:Option Addr) (bc:Nat) (w:World):(Instr.field 39 (dfV D pa pc ba bc) 3).run Tryz.prog w = .ok (tyV D.takes) w:=by kernel_rfl
theorem ty_end {K:BK} {w wr:World} {v:Vars} {t:Tk} {y:Sy.Ty} {Z:Nat} {r:Except Int (Value × Vars × Tk)} (hB:BW K wr v t) (hK:Kpt K w wr) (hZ:wr.heap[Z]? = some zT ∧ Free K wr Z) (hz:w.heap.size ≤ Z) (hb:K.B ≤ Z) (hF:K.F < w.heap.size) (hr:r = .ok (tyV y,v,t)) :
  Bf K w v r (.returned (tyV y)) (twoS wr Z (.int .i64 y.kind) (.string y.gen)) ∧ (twoS wr Z (.int .i64 y.kind) (.string y.gen)).heap[Z]? = some (.cells #[.int .i64 y.kind,.string y.gen] 35 (0,0)):=by
 have hg:wr.grownBy (twoS wr Z (.int .i64 y.kind) (.string y.gen)) (some Z):=grown_trans (grown_at _ _ 0 _) (grown_at _ _ 1 _)
 have hFr:=hB.lt
 rw [hr]
 exact ⟨⟨hK.own hg hz (by omega) hFr,rfl,hB.own hg hZ.2 hZ.1 hb⟩,set_at (set_at hZ.1 0 _) 1 _⟩
theorem spoken_call
  (K:BK) (v:Vars) (d:Nat) (ex:Sy.Ex → Tk → Except Int (Sy.Ty × Tk)) (hC:Hid (CEx K v d ex)) (hle:Hid (ExLe d ex)) (me:Sy.Df) (x:Sy.Ex) (xa:Option Addr) (xc:Nat) (t:Tk) (n m:Nat) (w:World) (r:Except Int (Value × Vars × Tk)) (h:Hid (BW K w v t)) (hx:Hid (∃ h,ExIn K.B w h x xa)) (hn:Hid (Sy.runs (Sy.exW d) x.kids (n + 1) = .ok m)) (ht:Hid (TkLe t n)) (h2:n + 1 ≤ 2000)
    (hr:Hid (r = andThen (spoken K.l me ex x t) fun p => .ok (tyV p.1,v,p.2)))
  (hk:x.kind = 19) :
  Calls Tryz.prog 115 #[.pointer (some ⟨K.F,0,none⟩),exV x xa xc] w fun e w' => Bf K w v r e w'
  := by
 have hF:=h.out.lt
 obtain ⟨W0,hW0⟩:∃ W0,W0 = (w.alloc (exB x xa xc)).alloc zT:=⟨_,rfl⟩
 have HK0:Hid (Kpt K w W0):=by rw [hW0]; exact Kpt.grown (grown_a2 _ _) hF
 have HB0:Hid (BW K W0 v t):=by rw [hW0]; exact h.out.grown (grown_a2 _ _)
 have HX0:Hid (W0.heap[w.heap.size]? = some (exB x xa xc) ∧ Free K W0 w.heap.size):=by
  rw [hW0]
  exact (Kpt.alloc K _ _ (by simp; omega)).at (h.out.new _)
 have HZ0:Hid (W0.heap[w.heap.size + 1]? = some zT ∧ Free K W0 (w.heap.size + 1)):=by
  rw [hW0]
  refine ⟨?_,h.out.free (grown_a2 _ _) (by omega)⟩
  have:=heap_alloc_new (w.alloc (exB x xa xc)) zT
  simpa using this
 have HE0:Hid (∃ h,ExIn K.B W0 h x xa):=by
  obtain ⟨hh,hE⟩:=hx.out
  exact ⟨hh,hE.same (h.out.same HK0.out)⟩
 have HW0:Hid (W0 = _):=hW0
 have hBw:K.B ≤ w.heap.size + 1:=by have:=h.out.base; omega
 clear hW0
 obtain ⟨er,her⟩:∃ er,er = call K.l ex 2 x t:=⟨_,rfl⟩
 have HEr:Hid (er = call K.l ex 2 x t):=her
 have HRr:Hid (r = andThen er fun p => .ok (tyV p.1.ty,v,p.2)):=by
  unfold Hid
  rw [hr.out,spoken,if_pos hk,her]
  cases call K.l ex 2 x t <;> rfl
 obtain ⟨x0,x1,x2,x3⟩:=four_cell HX0.out.1
 have e19:(x.kind == 19) = true:=by simpa using hk
 clear hr her hk
 go_enter Tryz.func115,Tryz.ntmps115
 go_wp2_with fail
 rw [← HW0.out]
 refine (call_any K v d ex hC hle 2 x xa xc t n m _ er HB0 HE0 hn ht h2 HEr).mono ?_
 rintro e w1 ⟨hk1,he1⟩
 cases er with
 | error y =>
  obtain ⟨rfl,v2,t2,hb2,hp2⟩:=he1
  have HE:Hid (Bf K w v r (.panicked [fltE y K.num]) w1):=by
   rw [HRr.out]
   exact ⟨HK0.out.trans hk1,rfl,v2,t2,hb2,hp2⟩
  clear hk1 hb2 hp2
  go_wp2
  exact ⟨rfl,HE.out⟩
 | ok p =>
  obtain ⟨D,t1⟩:=p
  obtain ⟨⟨val,rfl,pa,pc,ba,bc,rfl,hdf⟩,hb1⟩:=he1
  have HB1:Hid (BW K w1 v t1):=hb1
  have HK1:Hid (Kpt K w w1):=HK0.out.trans hk1
  have HZ1:=hid (hk1.at HZ0.out)
  have HRe:Hid (r = .ok (tyV D.ty,v,t1)):=HRr.out
  have hfd:=field_ty D pa pc ba bc w1
  clear hk1 hb1 hdf
  have HTE:=hid (ty_end (y:=D.ty) (Z:=w.heap.size + 1) HB1.out HK1.out HZ1.out (by omega) hBw hF HRe.out)
  obtain ⟨W9,hW9⟩:∃ W9,W9 = (w1.setCell ⟨w.heap.size + 1,0,none⟩ (.int .i64 (D.ty).kind)).setCell ⟨w.heap.size + 1,1,none⟩ (.string (D.ty).gen):=⟨_,rfl⟩
  have HW9:Hid (W9 = _):=hW9
  obtain ⟨ez0,ez1,ef0,ef1⟩:=two_cell (HZ1.out).1
  clear hW9
  go_wp2
  rw [show (w1.setCell ⟨w.heap.size + 1,0,none⟩ (.int .i64 (D.ty).kind)).setCell ⟨w.heap.size + 1,1,none⟩ (.string (D.ty).gen) = W9 from HW9.out.symm]
  have q9:=HTE.out.2
  rw [show twoS w1 (w.heap.size + 1) (.int .i64 (D.ty).kind) (.string (D.ty).gen) = W9 from HW9.out.symm] at q9
  refine bodyPost_ret (v:=tyV D.ty) (by simp [results,Tryz.results115,go_sem,World.cell?,q9]) rfl ?_
  rw [HW9.out]
  exact HTE.out.1
theorem spoken_start
  (K:BK) (v:Vars) (d:Nat) (ex:Sy.Ex → Tk → Except Int (Sy.Ty × Tk)) (hC:Hid (CEx K v d ex)) (hle:Hid (ExLe d ex)) (me:Sy.Df) (x:Sy.Ex) (xa:Option Addr) (xc:Nat) (t:Tk) (n m:Nat) (w:World) (r:Except Int (Value × Vars × Tk)) (h:Hid (BW K w v t)) (hx:Hid (∃ h,ExIn K.B w h x xa)) (hn:Hid (Sy.runs (Sy.exW d) x.kids (n + 1) = .ok m)) (ht:Hid (TkLe t n)) (h2:n + 1 ≤ 2000)
    (hr:Hid (r = andThen (spoken K.l me ex x t) fun p => .ok (tyV p.1,v,p.2)))
  (hk:x.kind = 22) :
  Calls Tryz.prog 115 #[.pointer (some ⟨K.F,0,none⟩),exV x xa xc] w fun e w' => Bf K w v r e w'
  := by
 have hF:=h.out.lt
 obtain ⟨W0,hW0⟩:∃ W0,W0 = (w.alloc (exB x xa xc)).alloc zT:=⟨_,rfl⟩
 have HK0:Hid (Kpt K w W0):=by rw [hW0]; exact Kpt.grown (grown_a2 _ _) hF
 have HB0:Hid (BW K W0 v t):=by rw [hW0]; exact h.out.grown (grown_a2 _ _)
 have HX0:Hid (W0.heap[w.heap.size]? = some (exB x xa xc) ∧ Free K W0 w.heap.size):=by
  rw [hW0]
  exact (Kpt.alloc K _ _ (by simp; omega)).at (h.out.new _)
 have HZ0:Hid (W0.heap[w.heap.size + 1]? = some zT ∧ Free K W0 (w.heap.size + 1)):=by
  rw [hW0]
  refine ⟨?_,h.out.free (grown_a2 _ _) (by omega)⟩
  have:=heap_alloc_new (w.alloc (exB x xa xc)) zT
  simpa using this
 have HE0:Hid (∃ h,ExIn K.B W0 h x xa):=by
  obtain ⟨hh,hE⟩:=hx.out
  exact ⟨hh,hE.same (h.out.same HK0.out)⟩
 have HW0:Hid (W0 = _):=hW0
 have hBw:K.B ≤ w.heap.size + 1:=by have:=h.out.base; omega
 clear hW0
 obtain ⟨er,her⟩:∃ er,er = call K.l ex 3 x t:=⟨_,rfl⟩
 have HEr:Hid (er = call K.l ex 3 x t):=her
 have HRr:Hid (r = andThen er fun p => .ok (tyV ⟨3,x.name⟩,v,p.2)):=by
  unfold Hid
  rw [hr.out,spoken,if_neg (by omega),if_pos hk,her]
  cases call K.l ex 3 x t <;> rfl
 obtain ⟨x0,x1,x2,x3⟩:=four_cell HX0.out.1
 have e19:(x.kind == 19) = false:=by simp; omega
 have e22:(x.kind == 22) = true:=by simpa using hk
 clear hr her hk
 go_enter Tryz.func115,Tryz.ntmps115
 go_wp2_with fail
 rw [← HW0.out]
 refine (call_any K v d ex hC hle 3 x xa xc t n m _ er HB0 HE0 hn ht h2 HEr).mono ?_
 rintro e w1 ⟨hk1,he1⟩
 cases er with
 | error y =>
  obtain ⟨rfl,v2,t2,hb2,hp2⟩:=he1
  have HE:Hid (Bf K w v r (.panicked [fltE y K.num]) w1):=by
   rw [HRr.out]
   exact ⟨HK0.out.trans hk1,rfl,v2,t2,hb2,hp2⟩
  clear hk1 hb2 hp2
  go_wp2
  exact ⟨rfl,HE.out⟩
 | ok p =>
  obtain ⟨D,t1⟩:=p
  obtain ⟨⟨val,rfl,pa,pc,ba,bc,rfl,hdf⟩,hb1⟩:=he1
  have HB1:Hid (BW K w1 v t1):=hb1
  have HK1:Hid (Kpt K w w1):=HK0.out.trans hk1
  have HZ1:=hid (hk1.at HZ0.out)
  have HX1:=hid (hk1.at HX0.out)
  obtain ⟨_,_,u2,_⟩:=four_cell HX1.out.1
  have HRe:Hid (r = .ok (tyV ⟨3,x.name⟩,v,t1)):=HRr.out
  clear hk1 hb1 hdf
  have HTE:=hid (ty_end (y:=(⟨3,x.name⟩:Sy.Ty)) (Z:=w.heap.size + 1) HB1.out HK1.out HZ1.out (by omega) hBw hF HRe.out)
  obtain ⟨W9,hW9⟩:∃ W9,W9 = (w1.setCell ⟨w.heap.size + 1,0,none⟩ (.int .i64 ((⟨3,x.name⟩:Sy.Ty)).kind)).setCell ⟨w.heap.size + 1,1,none⟩ (.string ((⟨3,x.name⟩:Sy.Ty)).gen):=⟨_,rfl⟩
  have HW9:Hid (W9 = _):=hW9
  obtain ⟨ez0,ez1,ef0,ef1⟩:=two_cell (HZ1.out).1
  clear hW9
  go_wp2
  rw [show (w1.setCell ⟨w.heap.size + 1,0,none⟩ (.int .i64 ((⟨3,x.name⟩:Sy.Ty)).kind)).setCell ⟨w.heap.size + 1,1,none⟩ (.string ((⟨3,x.name⟩:Sy.Ty)).gen) = W9 from HW9.out.symm]
  have q9:=HTE.out.2
  rw [show twoS w1 (w.heap.size + 1) (.int .i64 ((⟨3,x.name⟩:Sy.Ty)).kind) (.string ((⟨3,x.name⟩:Sy.Ty)).gen) = W9 from HW9.out.symm] at q9
  refine bodyPost_ret (v:=tyV (⟨3,x.name⟩:Sy.Ty)) (by simp [results,Tryz.results115,go_sem,World.cell?,q9]) rfl ?_
  rw [HW9.out]
  exact HTE.out.1
theorem spoken_recv
  (K:BK) (v:Vars) (d:Nat) (ex:Sy.Ex → Tk → Except Int (Sy.Ty × Tk)) (_hC:Hid (CEx K v d ex)) (_hle:Hid (ExLe d ex)) (me:Sy.Df) (x:Sy.Ex) (xa:Option Addr) (xc:Nat) (t:Tk) (n m:Nat) (w:World) (r:Except Int (Value × Vars × Tk)) (h:Hid (BW K w v t)) (hx:Hid (∃ h,ExIn K.B w h x xa)) (_hn:Hid (Sy.runs (Sy.exW d) x.kids (n + 1) = .ok m)) (ht:Hid (TkLe t n)) (h2:n + 1 ≤ 2000)
    (hr:Hid (r = andThen (spoken K.l me ex x t) fun p => .ok (tyV p.1,v,p.2)))
  (hk:x.kind = 20) :
  Calls Tryz.prog 115 #[.pointer (some ⟨K.F,0,none⟩),exV x xa xc] w fun e w' => Bf K w v r e w'
  := by
 have hF:=h.out.lt
 obtain ⟨W0,hW0⟩:∃ W0,W0 = (w.alloc (exB x xa xc)).alloc zT:=⟨_,rfl⟩
 have HK0:Hid (Kpt K w W0):=by rw [hW0]; exact Kpt.grown (grown_a2 _ _) hF
 have HB0:Hid (BW K W0 v t):=by rw [hW0]; exact h.out.grown (grown_a2 _ _)
 have HX0:Hid (W0.heap[w.heap.size]? = some (exB x xa xc) ∧ Free K W0 w.heap.size):=by
  rw [hW0]
  exact (Kpt.alloc K _ _ (by simp; omega)).at (h.out.new _)
 have HZ0:Hid (W0.heap[w.heap.size + 1]? = some zT ∧ Free K W0 (w.heap.size + 1)):=by
  rw [hW0]
  refine ⟨?_,h.out.free (grown_a2 _ _) (by omega)⟩
  have:=heap_alloc_new (w.alloc (exB x xa xc)) zT
  simpa using this
 have HE0:Hid (∃ h,ExIn K.B W0 h x xa):=by
  obtain ⟨hh,hE⟩:=hx.out
  exact ⟨hh,hE.same (h.out.same HK0.out)⟩
 have HW0:Hid (W0 = _):=hW0
 have hBw:K.B ≤ w.heap.size + 1:=by have:=h.out.base; omega
 clear hW0
 obtain ⟨wr,hwr⟩:∃ wr,wr = Sm.want K.l 1 x.name:=⟨_,rfl⟩
 have HWr:Hid (wr = Sm.want K.l 1 x.name):=hwr
 obtain ⟨rv,hrv⟩:∃ rv:Except Int Value,rv = match Sm.want K.l 1 x.name with | .ok i => .ok (.int .i64 (i:Int)) | .error y => .error y:=⟨_,rfl⟩
 have HRV:Hid (rv = match Sm.want K.l 1 x.name with | .ok i => .ok (.int .i64 (i:Int)) | .error y => .error y):=hrv
 have HRr:Hid (r = andThen wr fun b => .ok (tyV (defAt K.l b).ty,v,⟨t.sends,t.recvs ++ [b],t.calls⟩)):=by
  unfold Hid
  rw [hr.out,spoken,if_neg (by omega),if_neg (by omega),if_pos hk,hwr]
  cases Sm.want K.l 1 x.name <;> rfl
 obtain ⟨o,sn,rr,cc,h4⟩:=HB0.out.rows
 obtain ⟨c0,c1,c2,_⟩:=bd_cells h4.blk
 obtain ⟨y0,_,y2,_⟩:=four_cell HX0.out.1
 have hB0:K.B ≤ W0.heap.size:=by have:=HB0.out.base; have:=HB0.out.lt; omega
 have HS0:Hid (∀ w',W0.grownBy w' none → w'.cell? ⟨K.F,0,none⟩ = some (.slice K.a K.l.length K.c) ∧ w'.cell? ⟨K.F,1,none⟩ = some (.map (some K.M)) ∧ w'.cell? ⟨K.F,2,none⟩ = some (.int .i64 K.num) ∧ w'.cell? ⟨w.heap.size,2,none⟩ = some (.string x.name)):=fun w' hg => by
  have cF:∀ o,w'.cell? ⟨K.F,o,none⟩ = W0.cell? ⟨K.F,o,none⟩:=fun o => World.cell?_of_block (a:=⟨K.F,o,none⟩) (hg.block _ HB0.out.lt (by simp))
  have cX:∀ o,w'.cell? ⟨w.heap.size,o,none⟩ = W0.cell? ⟨w.heap.size,o,none⟩:=fun o => World.cell?_of_block (a:=⟨w.heap.size,o,none⟩) (hg.block _ (lt_of_block HX0.out.1) (by simp))
  rw [cF,cF,cF,cX]
  exact ⟨c0,c1,c2,y2⟩
 have e19:(x.kind == 19) = false:=by simp; omega
 have e22:(x.kind == 22) = false:=by simp; omega
 have e20:(x.kind == 20) = true:=by simpa using hk
 rw [← hwr] at hrv
 clear hr hwr h4 hk
 go_enter Tryz.func115,Tryz.ntmps115
 go_wp2_with fail
 rw [← HW0.out]
 refine wp_region_held_drew (S:=fun w' => w'.cell? ⟨K.F,0,none⟩ = some (.slice K.a K.l.length K.c) ∧ w'.cell? ⟨K.F,1,none⟩ = some (.map (some K.M)) ∧ w'.cell? ⟨K.F,2,none⟩ = some (.int .i64 K.num) ∧ w'.cell? ⟨w.heap.size,2,none⟩ = some (.string x.name)) (by kernel_rfl) ⟨c0,c1,c2,y2⟩ (fun hHeld => ?_)
 refine tk 0 (v:=?_) rfl ?_ (by assumption) ?_
 rotate_left
 ·intro w hSw
  (try dsimp only at hSw)
  go_simp
  (try with_reducible rfl)
 (try go_frame)
 refine tk 1 (v:=?_) rfl ?_ (by assumption) ?_
 rotate_left
 ·intro w hSw
  (try dsimp only at hSw)
  go_simp
  (try with_reducible rfl)
 (try go_frame)
 refine tk 2 (v:=?_) rfl ?_ (by assumption) ?_
 rotate_left
 ·intro w hSw
  (try dsimp only at hSw)
  go_simp
  (try with_reducible rfl)
 (try go_frame)
 refine tk 3 (v:=?_) rfl ?_ (by assumption) ?_
 rotate_left
 ·intro w hSw
  (try dsimp only at hSw)
  go_simp
  (try with_reducible rfl)
 (try go_frame)
 refine tk 4 (v:=?_) rfl ?_ (by assumption) ?_
 rotate_left
 ·intro w hSw
  (try dsimp only at hSw)
  go_simp
  (try with_reducible rfl)
 (try go_frame)
 refine tk 5 (v:=?_) rfl ?_ (by assumption) ?_
 rotate_left
 ·intro w hSw
  (try dsimp only at hSw)
  go_simp
  (try with_reducible rfl)
 (try go_frame)
 refine wpAnyH_ready (rs:=[6]) (by kernel_rfl) (by simp) ?_
 refine AllReadyH.cons (o:=_) rfl (fun K' hK => ?_) AllReadyH.nil
 go_simp
 refine (want_any K.B K.l K.a K.c K.M K.num 1 x.name K.R W0.drew rv (by exact HB0.out.drew.dfs) (by exact hB0) (by exact HB0.out.drew.mp) (by exact HB0.out.nums) HRV).mono ?_
 rintro e w1 ⟨hg1',he1⟩
 have hg1:W0.grownBy w1 none:=⟨hg1'.os,hg1'.tape,hg1'.output,hg1'.size,hg1'.block⟩
 have HG1:Hid (W0.grownBy w1 none):=hg1
 clear hg1'
 cases wr with
 | error y =>
  subst hrv
  obtain rfl:=he1
  have HE:Hid (Bf K w v r (.panicked [fltE y K.num]) w1):=by
   rw [HRr.out]
   exact ⟨HK0.out.trans (Kpt.grown HG1.out HB0.out.lt),rfl,v,t,HB0.out.grown HG1.out,List.prefix_refl _⟩
  clear hK hg1
  go_wp2
  exact ⟨rfl,HE.out⟩
 | ok i =>
  subst hrv
  obtain rfl:=he1
  have hi:=want_lt HWr.out.symm
  obtain ⟨D,hD⟩:∃ D,D = K.l[i]:=⟨_,rfl⟩
  have hDA:Hid (defAt K.l i = D):=by unfold Hid; rw [hD]; simp [defAt,List.getElem?_eq_getElem hi]
  have HB1:Hid (BW K w1 v t):=HB0.out.grown hg1
  have HK1:Hid (Kpt K w w1):=HK0.out.trans (Kpt.grown hg1 HB0.out.lt)
  obtain ⟨b,off,pa,pc,ba,bc,ha,hb,k0,k1,k2,k3,k4,k5,k6,k7,k8,hdf⟩:=HB1.out.dfs.2 i D (by rw [hD]; exact List.getElem?_eq_getElem hi)
  have HA:Hid (K.a = some ⟨b,off,none⟩):=ha
  have HZ1:=hid ((Kpt.grown HG1.out HB0.out.lt).at HZ0.out)
  have hS1:=HS0.out w1 hg1
  refine hK.out _ _ hS1 (fun hHeld => ?_)
  refine tk 7 (v:=?_) rfl ?_ (by assumption) ?_
  rotate_left
  ·intro w hSw
   (try dsimp only at hSw)
   go_simp
   (try with_reducible rfl)
  (try go_frame)
  refine wpAnyH_done (by kernel_rfl) ?_ _
  obtain ⟨ord,sn,rc,cl,h4⟩:=HB1.out.rows
  have H4:Hid (Rows4 K w1 v t ord sn rc cl):=h4
  obtain ⟨ca,cn,hcl⟩:=own_form h4.rcO
  subst hcl
  obtain ⟨i0,hif,hz0,hz1,hz2⟩:=info_parts Tryz.info3
  have hB1:K.B ≤ w1.heap.size:=by have:=HB1.out.base; have:=HB1.out.lt; omega
  have hcF:Hid ((Value.slice ca t.recvs.length cn).ownBlock ≠ some K.F):=fun e => by
   obtain ⟨_,_,cur,hc⟩:=own_lt h4.rcO _ e
   rw [h4.blk] at hc
   cases hc
  have hF1:=h4.lt
  obtain ⟨_,_,_,_,_,_,d6,_⟩:=bd_cells h4.blk
  obtain ⟨_,_,z6,_⟩:=bd_frozen h4.blk
  have htc:t.recvs.length ≤ 2000:=by have:=ht.out.2.1; omega
  have HSW:Hid (∀ (o2:Obj) (w4:World),(w1.alloc o2).grownBy w4 (Value.slice ca t.recvs.length cn).ownBlock → ∀ k,k < w1.heap.size → (Value.slice ca t.recvs.length cn).ownBlock ≠ some k → w4.heap[k]? = w1.heap[k]?):=fun o2 w4 hg k hk hne =>
   (hg.block k (by simp; omega) (fun e => hne e.symm)).trans (Below.heap_alloc _ _ _ hk)
  have HCB:Hid (∀ (o2:Obj) (w4:World),(w1.alloc o2).grownBy w4 (Value.slice ca t.recvs.length cn).ownBlock → w4.heap[K.F]? = some (K.obj ord sn (.slice ca t.recvs.length cn) cl) ∧ (∀ o,w4.cell? ⟨b,o,none⟩ = w1.cell? ⟨b,o,none⟩)):=fun o2 w4 hg => by
   exact ⟨(HSW.out o2 w4 hg _ hF1 hcF.out).trans H4.out.blk,fun o => World.cell?_of_block (a:=⟨b,o,none⟩) (HSW.out o2 w4 hg b (by omega) (fun e => by have:=(own_lt H4.out.rcO _ e).1; omega))⟩
  have hml:K.l.length ≤ maxLen:=HB1.out.dfs.1
  obtain ⟨L,hL⟩:∃ L,L = K.l.length:=⟨_,rfl⟩
  have HL:Hid (L = K.l.length):=hL
  have hiL:(i:Int) < (L:Int):=by omega
  rw [← hL] at hml
  have hbF:b ≠ K.F:=by have:=HB1.out.base; omega
  have HRd:Hid (r = .ok (tyV D.ty,v,⟨t.sends,t.recvs ++ [i],t.calls⟩)):=by unfold Hid; rw [HRr.out,andThen_ok,hDA.out]
  clear hK hg1 hS1 hD hdf ha h4 hL c0 c1 c2 y2 k0 k1 k4 k5 k6 k7 k8
  go_wp2_with (at_builtin; refine wpList_append_where rfl _ _ 94 rfl K.B 3 i0 _ 1 8 Tryz.underlying94 hif hz0 hz1 hz2 rfl (by decide) _ t.recvs.length (nats t.recvs) rfl (H4.out.rcO.alloc _) ⟨w1.heap.size,0,none⟩ 1 1 [.int .i64 (i:Int)] rfl rfl (one_news _ _ _) (one_int _) (by decide) (by unfold maxLen; omega) (by omega) (by simp; omega) ?_; intro g cap w4 hq4 hg4 hw4; have HT7:Hid _:=talk6 HB1.out H4.out (World.grownBy.refl _ _) hg4 hq4 hw4; have hz4:=hg4.size; obtain ⟨hF4,hcb4⟩:=HCB.out _ w4 hg4; obtain ⟨f0,f1,f2,_⟩:=bd_cells hF4; obtain ⟨_,_,f7,_⟩:=bd_frozen hF4; obtain ⟨_,_,_,f4,f5,f6,e6,_⟩:=bd_cells hF4; rw [HA.out,← HL.out] at f0; rw [← hcb4] at k2 k3; have hF4':=lt_of_block hF4; have HZ5:=hid (HT7.out.2.at HZ1.out); obtain ⟨ez0,ez1,ef0,ef1⟩:=two_cell HZ5.out.1; clear hq4 hg4 hw4 hF4 hcb4)
  have HTE:=hid (ty_end (y:=D.ty) (Z:=w.heap.size + 1) HT7.out.1 (HK1.out.trans HT7.out.2) HZ5.out (by omega) hBw hF HRd.out)
  obtain ⟨W9,hW9⟩:∃ W9,W9 = ((w4.setCell ⟨K.F,6,none⟩ (.slice (some ⟨g,0,none⟩) (t.recvs.length + 1) cap)).setCell ⟨w.heap.size + 1,0,none⟩ (.int .i64 (D.ty).kind)).setCell ⟨w.heap.size + 1,1,none⟩ (.string (D.ty).gen):=⟨_,rfl⟩
  have q9:=HTE.out.2
  rw [← hW9]
  rw [show twoS (w4.setCell ⟨K.F,6,none⟩ (.slice (some ⟨g,0,none⟩) (t.recvs.length + 1) cap)) (w.heap.size + 1) (.int .i64 (D.ty).kind) (.string (D.ty).gen) = W9 from hW9.symm] at q9
  refine bodyPost_ret (v:=tyV D.ty) (by simp [results,Tryz.results115,go_sem,World.cell?,q9]) rfl ?_
  rw [hW9]
  exact HTE.out.1
end Sm
end Go.Proofs.YtbioaoangfiijaaGreatDoor
