/- The walk of spoken: calls,starts,receives. -/
import Derived.Test.YtpnljpdpobbiiaaGreatDoorM25
set_option maxRecDepth 100000
set_option maxHeartbeats 4000000
namespace Go.Proofs.YtpnljpdpobbiiaaGreatDoor
open Go.RowKit
namespace Sm
abbrev zT:Obj:=.cells #[.int .i64 0,.string ⟨#[]⟩] 31 (0,0)
abbrev twoS (w:World) (N:Nat) (a0 a1:Value):World:=(w.setCell ⟨N,0,none⟩ a0).setCell ⟨N,1,none⟩ a1
theorem field_ty (D:Sy.Df) (pa:Option Addr) (pc:Nat) (ba:Option Addr) (bc:Nat) (w:World):(Instr.field 35 (dfV D pa pc ba bc) 2).run Tryz.prog w = .ok (tyV D.ty) w:=by kernel_rfl
theorem field_kind (D:Sy.Df) (pa:Option Addr) (pc:Nat) (ba:Option Addr) (bc:Nat) (w:World):(Instr.field 35 (dfV D pa pc ba bc) 0).run Tryz.prog w = .ok (.int .i64 D.kind) w:=by kernel_rfl
theorem field_takes (D:Sy.Df) (pa:Option Addr) (pc:Nat) (ba:Option Addr) (bc:Nat) (w:World):(Instr.field 35 (dfV D pa pc ba bc) 3).run Tryz.prog w = .ok (tyV D.takes) w:=by kernel_rfl
theorem ty_end {K:BK} {w wr:World} {v:Vars} {t:Tk} {y:Sy.Ty} {Z:Nat} {r:Except Int (Value × Vars × Tk)} (hB:BW K wr v t) (hK:Kpt K w wr) (hZ:wr.heap[Z]? = some zT ∧ Free K wr Z) (hz:w.heap.size ≤ Z) (hb:K.B ≤ Z) (hF:K.F < w.heap.size) (hr:r = .ok (tyV y,v,t)) :
  Bf K w v r (.returned (tyV y)) (twoS wr Z (.int .i64 y.kind) (.string y.gen)) ∧ (twoS wr Z (.int .i64 y.kind) (.string y.gen)).heap[Z]? = some (.cells #[.int .i64 y.kind,.string y.gen] 31 (0,0)):=by
 have hg:wr.grownBy (twoS wr Z (.int .i64 y.kind) (.string y.gen)) (some Z):=grown_trans (grown_at _ _ 0 _) (grown_at _ _ 1 _)
 have hFr:=hB.lt
 rw [hr]
 exact ⟨⟨hK.own hg hz (by omega) hFr,rfl,hB.own hg hZ.2 hZ.1 hb⟩,set_at (set_at hZ.1 0 _) 1 _⟩
theorem spoken_call
  (K:BK) (v:Vars) (d:Nat) (ex:Sy.Ex → Tk → Except Int (Sy.Ty × Tk)) (hC:Hid (CEx K v d ex)) (hle:Hid (ExLe d ex)) (me:Sy.Df) (x:Sy.Ex) (xa:Option Addr) (xc:Nat) (t:Tk) (n m:Nat) (w:World) (r:Except Int (Value × Vars × Tk)) (h:Hid (BW K w v t)) (hx:Hid (∃ h,ExIn K.B w h x xa)) (hn:Hid (Sy.runs (Sy.exW d) x.kids (n + 1) = .ok m)) (ht:Hid (TkLe t n)) (h2:n + 1 ≤ 2000)
    (hr:Hid (r = andThen (spoken K.l me ex x t) fun p => .ok (tyV p.1,v,p.2)))
  (hk:x.kind = 19) :
  Calls Tryz.prog 114 #[.pointer (some ⟨K.F,0,none⟩),exV x xa xc] w fun e w' => Bf K w v r e w'
  := by
 have hF:=h.out.lt
 obtain ⟨W0,hW0⟩:∃ W0,W0 = (w.alloc (exB x xa xc)).alloc zT:=⟨_,rfl⟩
 have HK0:Hid (Kpt K w W0):=by rw [hW0]; exact Kpt.grown (grown_a2 _ _) hF
 have HB0:Hid (BW K W0 v t):=by rw [hW0]; exact h.out.grown (grown_a2 _ _)
 have HX0:Hid (W0.heap[w.heap.size]? = some (exB x xa xc) ∧ Free K W0 w.heap.size):=by
  rw [hW0]
  exact (Kpt.alloc K _ _ (by simp; omega)).at (h.out.new _)
 have HZ0:Hid (W0.heap[w.heap.size + 1]? = some zT ∧ Free K W0 (w.heap.size + 1)):=by
  rw [hW0]
  refine ⟨?_,h.out.free (grown_a2 _ _) (by omega)⟩
  have:=heap_alloc_new (w.alloc (exB x xa xc)) zT
  simpa using this
 have HE0:Hid (∃ h,ExIn K.B W0 h x xa):=by
  obtain ⟨hh,hE⟩:=hx.out
  exact ⟨hh,hE.same (h.out.same HK0.out)⟩
 have HW0:Hid (W0 = _):=hW0
 have hBw:K.B ≤ w.heap.size + 1:=by have:=h.out.base; omega
 clear hW0
 obtain ⟨er,her⟩:∃ er,er = call K.l ex 2 x t:=⟨_,rfl⟩
 have HEr:Hid (er = call K.l ex 2 x t):=her
 have HRr:Hid (r = andThen er fun p => .ok (tyV p.1.ty,v,p.2)):=by
  unfold Hid
  rw [hr.out,spoken,if_pos hk,her]
  cases call K.l ex 2 x t <;> rfl
 obtain ⟨x0,x1,x2,x3⟩:=four_cell HX0.out.1
 have e19:(x.kind == 19) = true:=by simpa using hk
 clear hr her hk
 go_enter Tryz.func114,Tryz.ntmps114
 go_wp2_with fail
 rw [← HW0.out]
 refine (call_any K v d ex hC hle 2 x xa xc t n m _ er HB0 HE0 hn ht h2 HEr).mono ?_
 rintro e w1 ⟨hk1,he1⟩
 cases er with
 | error y =>
  obtain ⟨rfl,v2,t2,hb2,hp2⟩:=he1
  have HE:Hid (Bf K w v r (.panicked [fltE y K.num]) w1):=by
   rw [HRr.out]
   exact ⟨HK0.out.trans hk1,rfl,v2,t2,hb2,hp2⟩
  clear hk1 hb2 hp2
  go_wp2
  exact ⟨rfl,HE.out⟩
 | ok p =>
  obtain ⟨D,t1⟩:=p
  obtain ⟨⟨val,rfl,pa,pc,ba,bc,rfl,hdf⟩,hb1⟩:=he1
  have HB1:Hid (BW K w1 v t1):=hb1
  have HK1:Hid (Kpt K w w1):=HK0.out.trans hk1
  have HZ1:=hid (hk1.at HZ0.out)
  have HRe:Hid (r = .ok (tyV D.ty,v,t1)):=HRr.out
  have hfd:=field_ty D pa pc ba bc w1
  clear hk1 hb1 hdf
  have HTE:=hid (ty_end (y:=D.ty) (Z:=w.heap.size + 1) HB1.out HK1.out HZ1.out (by omega) hBw hF HRe.out)
  obtain ⟨W9,hW9⟩:∃ W9,W9 = (w1.setCell ⟨w.heap.size + 1,0,none⟩ (.int .i64 (D.ty).kind)).setCell ⟨w.heap.size + 1,1,none⟩ (.string (D.ty).gen):=⟨_,rfl⟩
  have HW9:Hid (W9 = _):=hW9
  obtain ⟨ez0,ez1,ef0,ef1⟩:=two_cell (HZ1.out).1
  clear hW9
  go_wp2
  rw [show (w1.setCell ⟨w.heap.size + 1,0,none⟩ (.int .i64 (D.ty).kind)).setCell ⟨w.heap.size + 1,1,none⟩ (.string (D.ty).gen) = W9 from HW9.out.symm]
  have q9:=HTE.out.2
  rw [show twoS w1 (w.heap.size + 1) (.int .i64 (D.ty).kind) (.string (D.ty).gen) = W9 from HW9.out.symm] at q9
  refine bodyPost_ret (v:=tyV D.ty) (by simp [results,Tryz.results114,go_sem,World.cell?,q9]) rfl ?_
  rw [HW9.out]
  exact HTE.out.1
theorem spoken_start
  (K:BK) (v:Vars) (d:Nat) (ex:Sy.Ex → Tk → Except Int (Sy.Ty × Tk)) (hC:Hid (CEx K v d ex)) (hle:Hid (ExLe d ex)) (me:Sy.Df) (x:Sy.Ex) (xa:Option Addr) (xc:Nat) (t:Tk) (n m:Nat) (w:World) (r:Except Int (Value × Vars × Tk)) (h:Hid (BW K w v t)) (hx:Hid (∃ h,ExIn K.B w h x xa)) (hn:Hid (Sy.runs (Sy.exW d) x.kids (n + 1) = .ok m)) (ht:Hid (TkLe t n)) (h2:n + 1 ≤ 2000)
    (hr:Hid (r = andThen (spoken K.l me ex x t) fun p => .ok (tyV p.1,v,p.2)))
  (hk:x.kind = 22) :
  Calls Tryz.prog 114 #[.pointer (some ⟨K.F,0,none⟩),exV x xa xc] w fun e w' => Bf K w v r e w'
  := by
 have hF:=h.out.lt
 obtain ⟨W0,hW0⟩:∃ W0,W0 = (w.alloc (exB x xa xc)).alloc zT:=⟨_,rfl⟩
 have HK0:Hid (Kpt K w W0):=by rw [hW0]; exact Kpt.grown (grown_a2 _ _) hF
 have HB0:Hid (BW K W0 v t):=by rw [hW0]; exact h.out.grown (grown_a2 _ _)
 have HX0:Hid (W0.heap[w.heap.size]? = some (exB x xa xc) ∧ Free K W0 w.heap.size):=by
  rw [hW0]
  exact (Kpt.alloc K _ _ (by simp; omega)).at (h.out.new _)
 have HZ0:Hid (W0.heap[w.heap.size + 1]? = some zT ∧ Free K W0 (w.heap.size + 1)):=by
  rw [hW0]
  refine ⟨?_,h.out.free (grown_a2 _ _) (by omega)⟩
  have:=heap_alloc_new (w.alloc (exB x xa xc)) zT
  simpa using this
 have HE0:Hid (∃ h,ExIn K.B W0 h x xa):=by
  obtain ⟨hh,hE⟩:=hx.out
  exact ⟨hh,hE.same (h.out.same HK0.out)⟩
 have HW0:Hid (W0 = _):=hW0
 have hBw:K.B ≤ w.heap.size + 1:=by have:=h.out.base; omega
 clear hW0
 obtain ⟨er,her⟩:∃ er,er = call K.l ex 3 x t:=⟨_,rfl⟩
 have HEr:Hid (er = call K.l ex 3 x t):=her
 have HRr:Hid (r = andThen er fun p => .ok (tyV ⟨3,x.name⟩,v,p.2)):=by
  unfold Hid
  rw [hr.out,spoken,if_neg (by omega),if_pos hk,her]
  cases call K.l ex 3 x t <;> rfl
 obtain ⟨x0,x1,x2,x3⟩:=four_cell HX0.out.1
 have e19:(x.kind == 19) = false:=by simp; omega
 have e22:(x.kind == 22) = true:=by simpa using hk
 clear hr her hk
 go_enter Tryz.func114,Tryz.ntmps114
 go_wp2_with fail
 rw [← HW0.out]
 refine (call_any K v d ex hC hle 3 x xa xc t n m _ er HB0 HE0 hn ht h2 HEr).mono ?_
 rintro e w1 ⟨hk1,he1⟩
 cases er with
 | error y =>
  obtain ⟨rfl,v2,t2,hb2,hp2⟩:=he1
  have HE:Hid (Bf K w v r (.panicked [fltE y K.num]) w1):=by
   rw [HRr.out]
   exact ⟨HK0.out.trans hk1,rfl,v2,t2,hb2,hp2⟩
  clear hk1 hb2 hp2
  go_wp2
  exact ⟨rfl,HE.out⟩
 | ok p =>
  obtain ⟨D,t1⟩:=p
  obtain ⟨⟨val,rfl,pa,pc,ba,bc,rfl,hdf⟩,hb1⟩:=he1
  have HB1:Hid (BW K w1 v t1):=hb1
  have HK1:Hid (Kpt K w w1):=HK0.out.trans hk1
  have HZ1:=hid (hk1.at HZ0.out)
  have HX1:=hid (hk1.at HX0.out)
  obtain ⟨_,_,u2,_⟩:=four_cell HX1.out.1
  have HRe:Hid (r = .ok (tyV ⟨3,x.name⟩,v,t1)):=HRr.out
  clear hk1 hb1 hdf
  have HTE:=hid (ty_end (y:=(⟨3,x.name⟩:Sy.Ty)) (Z:=w.heap.size + 1) HB1.out HK1.out HZ1.out (by omega) hBw hF HRe.out)
  obtain ⟨W9,hW9⟩:∃ W9,W9 = (w1.setCell ⟨w.heap.size + 1,0,none⟩ (.int .i64 ((⟨3,x.name⟩:Sy.Ty)).kind)).setCell ⟨w.heap.size + 1,1,none⟩ (.string ((⟨3,x.name⟩:Sy.Ty)).gen):=⟨_,rfl⟩
  have HW9:Hid (W9 = _):=hW9
  obtain ⟨ez0,ez1,ef0,ef1⟩:=two_cell (HZ1.out).1
  clear hW9
  go_wp2
  rw [show (w1.setCell ⟨w.heap.size + 1,0,none⟩ (.int .i64 ((⟨3,x.name⟩:Sy.Ty)).kind)).setCell ⟨w.heap.size + 1,1,none⟩ (.string ((⟨3,x.name⟩:Sy.Ty)).gen) = W9 from HW9.out.symm]
  have q9:=HTE.out.2
  rw [show twoS w1 (w.heap.size + 1) (.int .i64 ((⟨3,x.name⟩:Sy.Ty)).kind) (.string ((⟨3,x.name⟩:Sy.Ty)).gen) = W9 from HW9.out.symm] at q9
  refine bodyPost_ret (v:=tyV (⟨3,x.name⟩:Sy.Ty)) (by simp [results,Tryz.results114,go_sem,World.cell?,q9]) rfl ?_
  rw [HW9.out]
  exact HTE.out.1
theorem spoken_recv
  (K:BK) (v:Vars) (d:Nat) (ex:Sy.Ex → Tk → Except Int (Sy.Ty × Tk)) (_hC:Hid (CEx K v d ex)) (_hle:Hid (ExLe d ex)) (me:Sy.Df) (x:Sy.Ex) (xa:Option Addr) (xc:Nat) (t:Tk) (n m:Nat) (w:World) (r:Except Int (Value × Vars × Tk)) (h:Hid (BW K w v t)) (hx:Hid (∃ h,ExIn K.B w h x xa)) (_hn:Hid (Sy.runs (Sy.exW d) x.kids (n + 1) = .ok m)) (ht:Hid (TkLe t n)) (h2:n + 1 ≤ 2000)
    (hr:Hid (r = andThen (spoken K.l me ex x t) fun p => .ok (tyV p.1,v,p.2)))
  (hk:x.kind = 20) :
  Calls Tryz.prog 114 #[.pointer (some ⟨K.F,0,none⟩),exV x xa xc] w fun e w' => Bf K w v r e w'
  := by
 have hF:=h.out.lt
 obtain ⟨W0,hW0⟩:∃ W0,W0 = (w.alloc (exB x xa xc)).alloc zT:=⟨_,rfl⟩
 have HK0:Hid (Kpt K w W0):=by rw [hW0]; exact Kpt.grown (grown_a2 _ _) hF
 have HB0:Hid (BW K W0 v t):=by rw [hW0]; exact h.out.grown (grown_a2 _ _)
 have HX0:Hid (W0.heap[w.heap.size]? = some (exB x xa xc) ∧ Free K W0 w.heap.size):=by
  rw [hW0]
  exact (Kpt.alloc K _ _ (by simp; omega)).at (h.out.new _)
 have HZ0:Hid (W0.heap[w.heap.size + 1]? = some zT ∧ Free K W0 (w.heap.size + 1)):=by
  rw [hW0]
  refine ⟨?_,h.out.free (grown_a2 _ _) (by omega)⟩
  have:=heap_alloc_new (w.alloc (exB x xa xc)) zT
  simpa using this
 have HE0:Hid (∃ h,ExIn K.B W0 h x xa):=by
  obtain ⟨hh,hE⟩:=hx.out
  exact ⟨hh,hE.same (h.out.same HK0.out)⟩
 have HW0:Hid (W0 = _):=hW0
 have hBw:K.B ≤ w.heap.size + 1:=by have:=h.out.base; omega
 clear hW0
 obtain ⟨wr,hwr⟩:∃ wr,wr = Sm.want K.l 1 x.name:=⟨_,rfl⟩
 have HWr:Hid (wr = Sm.want K.l 1 x.name):=hwr
 obtain ⟨rv,hrv⟩:∃ rv:Except Int Value,rv = match Sm.want K.l 1 x.name with | .ok i => .ok (.int .i64 (i:Int)) | .error y => .error y:=⟨_,rfl⟩
 have HRV:Hid (rv = match Sm.want K.l 1 x.name with | .ok i => .ok (.int .i64 (i:Int)) | .error y => .error y):=hrv
 have HRr:Hid (r = andThen wr fun b => .ok (tyV (defAt K.l b).ty,v,⟨t.sends,t.recvs ++ [b],t.calls⟩)):=by
  unfold Hid
  rw [hr.out,spoken,if_neg (by omega),if_neg (by omega),if_pos hk,hwr]
  cases Sm.want K.l 1 x.name <;> rfl
 obtain ⟨o,sn,rr,cc,h4⟩:=HB0.out.rows
 obtain ⟨c0,c1,c2,_⟩:=bd_cells h4.blk
 obtain ⟨y0,_,y2,_⟩:=four_cell HX0.out.1
 have hB0:K.B ≤ W0.heap.size:=by have:=HB0.out.base; have:=HB0.out.lt; omega
 have HS0:Hid (∀ w',W0.grownBy w' none → w'.cell? ⟨K.F,0,none⟩ = some (.slice K.a K.l.length K.c) ∧ w'.cell? ⟨K.F,1,none⟩ = some (.map (some K.M)) ∧ w'.cell? ⟨K.F,2,none⟩ = some (.int .i64 K.num) ∧ w'.cell? ⟨w.heap.size,2,none⟩ = some (.string x.name)):=fun w' hg => by
  have cF:∀ o,w'.cell? ⟨K.F,o,none⟩ = W0.cell? ⟨K.F,o,none⟩:=fun o => World.cell?_of_block (a:=⟨K.F,o,none⟩) (hg.block _ HB0.out.lt (by simp))
  have cX:∀ o,w'.cell? ⟨w.heap.size,o,none⟩ = W0.cell? ⟨w.heap.size,o,none⟩:=fun o => World.cell?_of_block (a:=⟨w.heap.size,o,none⟩) (hg.block _ (lt_of_block HX0.out.1) (by simp))
  rw [cF,cF,cF,cX]
  exact ⟨c0,c1,c2,y2⟩
 have e19:(x.kind == 19) = false:=by simp; omega
 have e22:(x.kind == 22) = false:=by simp; omega
 have e20:(x.kind == 20) = true:=by simpa using hk
 rw [← hwr] at hrv
 clear hr hwr h4 hk
 go_enter Tryz.func114,Tryz.ntmps114
 go_wp2_with fail
 rw [← HW0.out]
 refine wp_region_held_drew (S:=fun w' => w'.cell? ⟨K.F,0,none⟩ = some (.slice K.a K.l.length K.c) ∧ w'.cell? ⟨K.F,1,none⟩ = some (.map (some K.M)) ∧ w'.cell? ⟨K.F,2,none⟩ = some (.int .i64 K.num) ∧ w'.cell? ⟨w.heap.size,2,none⟩ = some (.string x.name)) (by kernel_rfl) ⟨c0,c1,c2,y2⟩ (fun hHeld => ?_)
 refine wpAnyH_take (i:=0) (oi:=_) (v:=?_) rfl (by kernel_rfl) (by kernel_rfl) (by kernel_rfl) (fun _ _ _ h => h) (Or.inl ⟨by rfl,?_⟩) (by assumption) ?_
 rotate_left
 ·intro w hSw
  (try dsimp only at hSw)
  go_simp
  (try with_reducible rfl)
 (try go_frame)
 refine wpAnyH_take (i:=1) (oi:=_) (v:=?_) rfl (by kernel_rfl) (by kernel_rfl) (by kernel_rfl) (fun _ _ _ h => h) (Or.inl ⟨by rfl,?_⟩) (by assumption) ?_
 rotate_left
 ·intro w hSw
  (try dsimp only at hSw)
  go_simp
  (try with_reducible rfl)
 (try go_frame)
 refine wpAnyH_take (i:=2) (oi:=_) (v:=?_) rfl (by kernel_rfl) (by kernel_rfl) (by kernel_rfl) (fun _ _ _ h => h) (Or.inl ⟨by rfl,?_⟩) (by assumption) ?_
 rotate_left
 ·intro w hSw
  (try dsimp only at hSw)
  go_simp
  (try with_reducible rfl)
 (try go_frame)
 refine wpAnyH_take (i:=3) (oi:=_) (v:=?_) rfl (by kernel_rfl) (by kernel_rfl) (by kernel_rfl) (fun _ _ _ h => h) (Or.inl ⟨by rfl,?_⟩) (by assumption) ?_
 rotate_left
 ·intro w hSw
  (try dsimp only at hSw)
  go_simp
  (try with_reducible rfl)
 (try go_frame)
 refine wpAnyH_take (i:=4) (oi:=_) (v:=?_) rfl (by kernel_rfl) (by kernel_rfl) (by kernel_rfl) (fun _ _ _ h => h) (Or.inl ⟨by rfl,?_⟩) (by assumption) ?_
 rotate_left
 ·intro w hSw
  (try dsimp only at hSw)
  go_simp
  (try with_reducible rfl)
 (try go_frame)
 refine wpAnyH_take (i:=5) (oi:=_) (v:=?_) rfl (by kernel_rfl) (by kernel_rfl) (by kernel_rfl) (fun _ _ _ h => h) (Or.inl ⟨by rfl,?_⟩) (by assumption) ?_
 rotate_left
 ·intro w hSw
  (try dsimp only at hSw)
  go_simp
  (try with_reducible rfl)
 (try go_frame)
 refine wpAnyH_ready (rs:=[6]) (by kernel_rfl) (by simp) ?_
 refine AllReadyH.cons (o:=_) rfl (fun K' hK => ?_) AllReadyH.nil
 go_simp
 refine (want_any K.B K.l K.a K.c K.M K.num 1 x.name K.R W0.drew rv (by exact HB0.out.drew.dfs) (by exact hB0) (by exact HB0.out.drew.mp) (by exact HB0.out.nums) HRV).mono ?_
 rintro e w1 ⟨hg1',he1⟩
 have hg1:W0.grownBy w1 none:=⟨hg1'.os,hg1'.tape,hg1'.output,hg1'.size,hg1'.block⟩
 have HG1:Hid (W0.grownBy w1 none):=hg1
 clear hg1'
 cases wr with
 | error y =>
  subst hrv
  obtain rfl:=he1
  have HE:Hid (Bf K w v r (.panicked [fltE y K.num]) w1):=by
   rw [HRr.out]
   exact ⟨HK0.out.trans (Kpt.grown HG1.out HB0.out.lt),rfl,v,t,HB0.out.grown HG1.out,List.prefix_refl _⟩
  clear hK hg1
  go_wp2
  exact ⟨rfl,HE.out⟩
 | ok i =>
  subst hrv
  obtain rfl:=he1
  have hi:=want_lt HWr.out.symm
  obtain ⟨D,hD⟩:∃ D,D = K.l[i]:=⟨_,rfl⟩
  have hDA:Hid (defAt K.l i = D):=by unfold Hid; rw [hD]; simp [defAt,List.getElem?_eq_getElem hi]
  have HB1:Hid (BW K w1 v t):=HB0.out.grown hg1
  have HK1:Hid (Kpt K w w1):=HK0.out.trans (Kpt.grown hg1 HB0.out.lt)
  obtain ⟨b,off,pa,pc,ba,bc,ha,hb,k0,k1,k2,k3,k4,k5,k6,k7,k8,hdf⟩:=HB1.out.dfs.2 i D (by rw [hD]; exact List.getElem?_eq_getElem hi)
  have HA:Hid (K.a = some ⟨b,off,none⟩):=ha
  have HZ1:=hid ((Kpt.grown HG1.out HB0.out.lt).at HZ0.out)
  have hS1:=HS0.out w1 hg1
  refine hK.out _ _ hS1 (fun hHeld => ?_)
  refine wpAnyH_take (i:=7) (oi:=_) (v:=?_) rfl (by kernel_rfl) (by kernel_rfl) (by kernel_rfl) (fun _ _ _ h => h) (Or.inl ⟨by rfl,?_⟩) (by assumption) ?_
  rotate_left
  ·intro w hSw
   (try dsimp only at hSw)
   go_simp
   (try with_reducible rfl)
  (try go_frame)
  refine wpAnyH_done (by kernel_rfl) ?_ _
  obtain ⟨ord,sn,rc,cl,h4⟩:=HB1.out.rows
  have H4:Hid (Rows4 K w1 v t ord sn rc cl):=h4
  obtain ⟨ca,cn,hcl⟩:=own_form h4.rcO
  subst hcl
  obtain ⟨i0,hif,hz0,hz1,hz2⟩:=info_parts Tryz.info3
  have hB1:K.B ≤ w1.heap.size:=by have:=HB1.out.base; have:=HB1.out.lt; omega
  have hcF:Hid ((Value.slice ca t.recvs.length cn).ownBlock ≠ some K.F):=fun e => by
   obtain ⟨_,_,cur,hc⟩:=own_lt h4.rcO _ e
   rw [h4.blk] at hc
   cases hc
  have hF1:=h4.lt
  obtain ⟨_,_,_,_,_,_,d6,_⟩:=bd_cells h4.blk
  obtain ⟨_,_,z6,_⟩:=bd_frozen h4.blk
  have htc:t.recvs.length ≤ 2000:=by have:=ht.out.2.1; omega
  have HSW:Hid (∀ (o2:Obj) (w4:World),(w1.alloc o2).grownBy w4 (Value.slice ca t.recvs.length cn).ownBlock → ∀ k,k < w1.heap.size → (Value.slice ca t.recvs.length cn).ownBlock ≠ some k → w4.heap[k]? = w1.heap[k]?):=fun o2 w4 hg k hk hne =>
   (hg.block k (by simp; omega) (fun e => hne e.symm)).trans (Below.heap_alloc _ _ _ hk)
  have HCB:Hid (∀ (o2:Obj) (w4:World),(w1.alloc o2).grownBy w4 (Value.slice ca t.recvs.length cn).ownBlock → w4.heap[K.F]? = some (K.obj ord sn (.slice ca t.recvs.length cn) cl) ∧ (∀ o,w4.cell? ⟨b,o,none⟩ = w1.cell? ⟨b,o,none⟩)):=fun o2 w4 hg => by
   exact ⟨(HSW.out o2 w4 hg _ hF1 hcF.out).trans H4.out.blk,fun o => World.cell?_of_block (a:=⟨b,o,none⟩) (HSW.out o2 w4 hg b (by omega) (fun e => by have:=(own_lt H4.out.rcO _ e).1; omega))⟩
  have hml:K.l.length ≤ maxLen:=HB1.out.dfs.1
  obtain ⟨L,hL⟩:∃ L,L = K.l.length:=⟨_,rfl⟩
  have HL:Hid (L = K.l.length):=hL
  have hiL:(i:Int) < (L:Int):=by omega
  rw [← hL] at hml
  have hbF:b ≠ K.F:=by have:=HB1.out.base; omega
  have HRd:Hid (r = .ok (tyV D.ty,v,⟨t.sends,t.recvs ++ [i],t.calls⟩)):=by unfold Hid; rw [HRr.out,andThen_ok,hDA.out]
  clear hK hg1 hS1 hD hdf ha h4 hL c0 c1 c2 y2 k0 k1 k4 k5 k6 k7 k8
  go_wp2_with (at_builtin; refine wpList_append_where rfl _ _ 77 rfl K.B 3 i0 _ 1 8 Tryz.underlying77 hif hz0 hz1 hz2 rfl (by decide) _ t.recvs.length (nats t.recvs) rfl (H4.out.rcO.alloc _) ⟨w1.heap.size,0,none⟩ 1 1 [.int .i64 (i:Int)] rfl rfl (one_news _ _ _) (one_int _) (by decide) (by unfold maxLen; omega) (by omega) (by simp; omega) ?_; intro g cap w4 hq4 hg4 hw4; have HT7:Hid _:=talk6 HB1.out H4.out (World.grownBy.refl _ _) hg4 hq4 hw4; have hz4:=hg4.size; obtain ⟨hF4,hcb4⟩:=HCB.out _ w4 hg4; obtain ⟨f0,f1,f2,_⟩:=bd_cells hF4; obtain ⟨_,_,f7,_⟩:=bd_frozen hF4; obtain ⟨_,_,_,f4,f5,f6,e6,_⟩:=bd_cells hF4; rw [HA.out,← HL.out] at f0; rw [← hcb4] at k2 k3; have hF4':=lt_of_block hF4; have HZ5:=hid (HT7.out.2.at HZ1.out); obtain ⟨ez0,ez1,ef0,ef1⟩:=two_cell HZ5.out.1; clear hq4 hg4 hw4 hF4 hcb4)
  have HTE:=hid (ty_end (y:=D.ty) (Z:=w.heap.size + 1) HT7.out.1 (HK1.out.trans HT7.out.2) HZ5.out (by omega) hBw hF HRd.out)
  obtain ⟨W9,hW9⟩:∃ W9,W9 = ((w4.setCell ⟨K.F,6,none⟩ (.slice (some ⟨g,0,none⟩) (t.recvs.length + 1) cap)).setCell ⟨w.heap.size + 1,0,none⟩ (.int .i64 (D.ty).kind)).setCell ⟨w.heap.size + 1,1,none⟩ (.string (D.ty).gen):=⟨_,rfl⟩
  have q9:=HTE.out.2
  rw [← hW9]
  rw [show twoS (w4.setCell ⟨K.F,6,none⟩ (.slice (some ⟨g,0,none⟩) (t.recvs.length + 1) cap)) (w.heap.size + 1) (.int .i64 (D.ty).kind) (.string (D.ty).gen) = W9 from hW9.symm] at q9
  refine bodyPost_ret (v:=tyV D.ty) (by simp [results,Tryz.results114,go_sem,World.cell?,q9]) rfl ?_
  rw [hW9]
  exact HTE.out.1
end Sm
namespace Sm
theorem ks_one {K:BK} {w0 w:World} {v:Vars} {t:Tk} {kd:Sy.Ex} {ka:Option Addr} {kc N:Nat} {v0:Vars} {t0:Tk} (_:BW K w v t) (hN:w.heap[N]? = some (exB kd ka kc) ∧ Free K w N) (hE:∃ hh,ExIn K.B w0 hh kd ka ∧ BW K w0 v0 t0) (hk:Kpt K w0 w):KsAt K w [kd] (some ⟨N,0,none⟩):=fun i k hi => by
 obtain rfl:i = 0:=by have:=(List.getElem?_eq_some_iff.1 hi).1; simp at this; exact this
 simp at hi
 subst hi
 obtain ⟨g0,g1,g2,g3⟩:=four_cell hN.1
 obtain ⟨hh,hE,hB⟩:=hE
 exact ⟨N,0,ka,kc,rfl,lt_of_block hN.1,hN.2,by simpa using g0,by simpa using g1,by simpa using g2,by simpa using g3,hh,hE.same (hB.same hk)⟩
theorem spoken_yield
  (K:BK) (v:Vars) (d:Nat) (ex:Sy.Ex → Tk → Except Int (Sy.Ty × Tk)) (hC:Hid (CEx K v d ex)) (hle:Hid (ExLe d ex)) (me:Sy.Df) (x:Sy.Ex) (xa:Option Addr) (xc:Nat) (t:Tk) (n m:Nat) (w:World) (r:Except Int (Value × Vars × Tk)) (h:Hid (BW K w v t)) (hx:Hid (∃ h,ExIn K.B w h x xa)) (hn:Hid (Sy.runs (Sy.exW d) x.kids (n + 1) = .ok m)) (ht:Hid (TkLe t n)) (h2:n + 1 ≤ 2000)
    (hr:Hid (r = andThen (spoken K.l me ex x t) fun p => .ok (tyV p.1,v,p.2)))
  (hk:x.kind = 21) (hh:Sy.exHead x = 0) (i:Nat) (hi:Hid (K.num = (i:Int))) (HMe:Hid (K.l[i]? = some me)) :
  Calls Tryz.prog 114 #[.pointer (some ⟨K.F,0,none⟩),exV x xa xc] w fun e w' => Bf K w v r e w'
  := by
 obtain ⟨kd,hkd⟩:=kids_one hh (by omega)
 have hF:=h.out.lt
 obtain ⟨W0,hW0⟩:∃ W0,W0 = (w.alloc (exB x xa xc)).alloc zT:=⟨_,rfl⟩
 have HK0:Hid (Kpt K w W0):=by rw [hW0]; exact Kpt.grown (grown_a2 _ _) hF
 have HB0:Hid (BW K W0 v t):=by rw [hW0]; exact h.out.grown (grown_a2 _ _)
 have HX0:Hid (W0.heap[w.heap.size]? = some (exB x xa xc) ∧ Free K W0 w.heap.size):=by
  rw [hW0]
  exact (Kpt.alloc K _ _ (by simp; omega)).at (h.out.new _)
 have HZ0:Hid (W0.heap[w.heap.size + 1]? = some zT ∧ Free K W0 (w.heap.size + 1)):=by
  rw [hW0]
  refine ⟨?_,h.out.free (grown_a2 _ _) (by omega)⟩
  have:=heap_alloc_new (w.alloc (exB x xa xc)) zT
  simpa using this
 have HE0:Hid (∃ h,ExIn K.B W0 h x xa):=by
  obtain ⟨hh,hE⟩:=hx.out
  exact ⟨hh,hE.same (h.out.same HK0.out)⟩
 have HW0:Hid (W0 = _):=hW0
 have hBw:K.B ≤ w.heap.size + 1:=by have:=h.out.base; omega
 clear hW0
 have hx0:kid x 0 = kd:=by simp [kid,hkd]
 obtain ⟨er,her⟩:∃ er,er = must ex me.ty [kd] t:=⟨_,rfl⟩
 have HEr:Hid (er = must ex me.ty [kd] t):=her
 have HRr:Hid (r = andThen (fits (me.kind == 3)) fun _ => andThen er fun t => .ok (tyV me.takes,v,t)):=by
  unfold Hid
  rw [hr.out,spoken,if_neg (by omega),if_neg (by omega),if_neg (by omega),if_pos hk,hx0,her]
  cases fits (me.kind == 3) with
  | error e => rfl
  | ok u => cases must ex me.ty [kd] t <;> rfl
 have HX1:Hid (Sy.runs (Sy.exW d) [kd] (n + 1) = .ok m):=by rw [← hkd]; exact hn
 have HT1:Hid (TkLe t (n + 1)):=ht.out.mono (by omega)
 obtain ⟨o,sn,rr,cc,h4⟩:=h.out.rows
 obtain ⟨c0,c1,c2,_⟩:=bd_cells h4.blk
 rw [hi.out] at c2
 obtain ⟨y0,_,_,y3⟩:=four_cell HX0.out.1
 have hB0:K.B ≤ W0.heap.size:=by have:=HB0.out.base; have:=HB0.out.lt; omega
 have e19:(x.kind == 19) = false:=by simp; omega
 have e22:(x.kind == 22) = false:=by simp; omega
 have e20:(x.kind == 20) = false:=by simp; omega
 have e21:(x.kind == 21) = true:=by simpa using hk
 have HKD:Hid (x.kids = [kd]):=hkd
 have HD0:Hid (DfsIn K.B W0 K.l K.a):=HB0.out.dfs
 clear hr h4 hk hn hkd hh hx0 her
 go_enter Tryz.func114,Tryz.ntmps114
 go_wp2_with fail
 rw [← HW0.out]
 refine (def_any K.B K.l K.a K.c K.M i me W0 HD0 hB0 HMe).mono ?_
 rintro e w1 ⟨hg1,val,rfl,pa,pc,ba,bc,rfl,hdf⟩
 have HG1:Hid (W0.grownBy w1 none):=hg1
 have HB1:Hid (BW K w1 v t):=HB0.out.grown hg1
 have hfk:=field_kind me pa pc ba bc w1
 obtain ⟨o',sn',rr',cc',h4⟩:=HB1.out.rows
 have H4:Hid (w1.heap[K.F]? = some (K.obj o' sn' rr' cc')):=h4.blk
 obtain ⟨bk,hbk⟩:∃ bk,bk = (me.kind == 3):=⟨_,rfl⟩
 have HBK:Hid (bk = (me.kind == 3)):=hbk
 have hbk':=hbk.symm
 obtain ⟨rf,hrf⟩:∃ rf:Except Int Value,rf = match Sm.fits bk with | .ok _ => .ok (.tuple #[]) | .error e => .error e:=⟨_,rfl⟩
 have HRF:Hid (rf = match Sm.fits bk with | .ok _ => .ok (.tuple #[]) | .error e => .error e):=hrf
 clear hg1 hdf h4 hbk hrf
 go_wp2_with fail
 refine (fits_any K.F K.l.length K.a K.c K.M K.num K.T o' sn' rr' cc' bk w1 rf H4 HRF).mono ?_
 rintro e w2 ⟨hg2,he2⟩
 have HG2:Hid (w1.grownBy w2 none):=hg2
 have HK2:Hid (Kpt K w w2):=(HK0.out.trans (Kpt.grown HG1.out HB0.out.lt)).trans (Kpt.grown hg2 HB1.out.lt)
 have HB2:Hid (BW K w2 v t):=HB1.out.grown hg2
 cases bk with
 | false =>
  have hrf:rf = .error 8:=HRF.out
  subst hrf
  obtain rfl:=he2
  have HE:Hid (Bf K w v r (.panicked [fltE 8 K.num]) w2):=by
   rw [HRr.out,← HBK.out]
   exact ⟨HK2.out,rfl,v,t,HB2.out,List.prefix_refl _⟩
  clear hg2
  go_wp2
  exact ⟨rfl,HE.out⟩
 | true =>
  have hrf:rf = .ok (.tuple #[]):=HRF.out
  subst hrf
  obtain rfl:=he2
  have HRm:Hid (r = andThen er fun t => .ok (tyV me.takes,v,t)):=by unfold Hid; rw [HRr.out,← HBK.out]; rfl
  have hk02:=(Kpt.grown (K:=K) HG1.out HB0.out.lt).trans (Kpt.grown hg2 HB1.out.lt)
  have HX2:=hid (hk02.at HX0.out)
  have HZ2:=hid (hk02.at HZ0.out)
  obtain ⟨hh,kb,ko,ka,kc,hxa,hkb,q0,q1,q2,q3,hkx⟩:∃ hh kb ko ka kc,xa = some ⟨kb,ko,none⟩ ∧ kb < K.B ∧ w2.cell? ⟨kb,ko,none⟩ = some (.int .i64 kd.kind) ∧ w2.cell? ⟨kb,ko + 1,none⟩ = some (.int .i64 kd.n) ∧ w2.cell? ⟨kb,ko + 2,none⟩ = some (.string kd.name) ∧ w2.cell? ⟨kb,ko + 3,none⟩ = some (.slice ka kd.kids.length kc) ∧ ExIn K.B w2 hh kd ka:=by
   obtain ⟨hh,hE⟩:=HE0.out
   cases hh with
   | zero => exact hE.elim
   | succ hh =>
    obtain ⟨b',off',a',c',e1,e2,e3,e4,e5,e6,e7⟩:=(ExIn.same (HB0.out.same hk02) _ _ _ hE).2.2 0 kd (by rw [HKD.out]; rfl)
    simp only [Nat.zero_mul,Nat.add_zero] at e3 e4 e5 e6
    exact ⟨hh,b',off',a',c',e1,e2,e3,e4,e5,e6,e7⟩
  have HKX:Hid (∃ hh,ExIn K.B w2 hh kd ka ∧ BW K w2 v t):=⟨hh,hkx,HB2.out⟩
  have HXA:Hid (xa = some ⟨kb,ko,none⟩):=hxa
  have HS:Hid (∀ w' v' t',Kpt K w2 w' → BW K w' v' t' → w'.cell? ⟨K.F,0,none⟩ = some (.slice K.a K.l.length K.c) ∧ w'.cell? ⟨K.F,1,none⟩ = some (.map (some K.M)) ∧ w'.cell? ⟨K.F,2,none⟩ = some (.int .i64 (i:Int)) ∧ w'.cell? ⟨w.heap.size,3,none⟩ = some (.slice (some ⟨kb,ko,none⟩) 1 xc) ∧ w'.cell? ⟨kb,ko,none⟩ = some (.int .i64 kd.kind) ∧ w'.cell? ⟨kb,ko + 1,none⟩ = some (.int .i64 kd.n) ∧ w'.cell? ⟨kb,ko + 2,none⟩ = some (.string kd.name) ∧ w'.cell? ⟨kb,ko + 3,none⟩ = some (.slice ka kd.kids.length kc)):=fun w' v' t' hk hb => by
   obtain ⟨o,sn,rr,cc,h4⟩:=hb.rows
   obtain ⟨d0,d1,d2,_⟩:=bd_cells h4.blk
   obtain ⟨_,_,_,x3'⟩:=four_cell (hk.at HX2.out).1
   rw [hi.out] at d2
   rw [HKD.out,HXA.out] at x3'
   have old:∀ o,w'.cell? ⟨kb,o,none⟩ = w2.cell? ⟨kb,o,none⟩:=fun o => HB2.out.same hk kb o hkb
   rw [old,old,old,old]
   exact ⟨d0,d1,d2,x3',q0,q1,q2,q3⟩
  have hS2:=HS.out w2 v t (Kpt.refl _ _) HB2.out
  obtain ⟨d0,d1,d2,d3,_⟩:=hS2
  have hF2:=HB2.out.lt
  have hB2:K.B ≤ w2.heap.size:=by have:=HB2.out.base; omega
  clear hg2 hfk c0 c1 c2 hxa hkx
  go_wp2_with fail
  refine wp_region_held_drew (S:=fun w' => w'.cell? ⟨K.F,0,none⟩ = some (.slice K.a K.l.length K.c) ∧ w'.cell? ⟨K.F,1,none⟩ = some (.map (some K.M)) ∧ w'.cell? ⟨K.F,2,none⟩ = some (.int .i64 (i:Int)) ∧ w'.cell? ⟨w.heap.size,3,none⟩ = some (.slice (some ⟨kb,ko,none⟩) 1 xc) ∧ w'.cell? ⟨kb,ko,none⟩ = some (.int .i64 kd.kind) ∧ w'.cell? ⟨kb,ko + 1,none⟩ = some (.int .i64 kd.n) ∧ w'.cell? ⟨kb,ko + 2,none⟩ = some (.string kd.name) ∧ w'.cell? ⟨kb,ko + 3,none⟩ = some (.slice ka kd.kids.length kc)) (by kernel_rfl) (HS.out w2 v t (Kpt.refl _ _) HB2.out) (fun hHeld => ?_)
  refine wpAnyH_take (i:=0) (oi:=_) (v:=?_) rfl (by kernel_rfl) (by kernel_rfl) (by kernel_rfl) (fun _ _ _ h => h) (Or.inl ⟨by rfl,?_⟩) (by assumption) ?_
  rotate_left
  ·intro w hSw
   (try dsimp only at hSw)
   go_simp
   (try with_reducible rfl)
  (try go_frame)
  refine wpAnyH_take (i:=1) (oi:=_) (v:=?_) rfl (by kernel_rfl) (by kernel_rfl) (by kernel_rfl) (fun _ _ _ h => h) (Or.inl ⟨by rfl,?_⟩) (by assumption) ?_
  rotate_left
  ·intro w hSw
   (try dsimp only at hSw)
   go_simp
   (try with_reducible rfl)
  (try go_frame)
  refine wpAnyH_take (i:=2) (oi:=_) (v:=?_) rfl (by kernel_rfl) (by kernel_rfl) (by kernel_rfl) (fun _ _ _ h => h) (Or.inl ⟨by rfl,?_⟩) (by assumption) ?_
  rotate_left
  ·intro w hSw
   (try dsimp only at hSw)
   go_simp
   (try with_reducible rfl)
  (try go_frame)
  refine wpAnyH_take (i:=3) (oi:=_) (v:=?_) rfl (by kernel_rfl) (by kernel_rfl) (by kernel_rfl) (fun _ _ _ h => h) (Or.inl ⟨by rfl,?_⟩) (by assumption) ?_
  rotate_left
  ·intro w hSw
   (try dsimp only at hSw)
   go_simp
   (try with_reducible rfl)
  (try go_frame)
  refine wpAnyH_take (i:=4) (oi:=_) (v:=?_) rfl (by kernel_rfl) (by kernel_rfl) (by kernel_rfl) (fun _ _ _ h => h) (Or.inl ⟨by rfl,?_⟩) (by assumption) ?_
  rotate_left
  ·intro w hSw
   (try dsimp only at hSw)
   go_simp
   (try with_reducible rfl)
  (try go_frame)
  refine wpAnyH_take (i:=7) (oi:=_) (v:=?_) rfl (by kernel_rfl) (by kernel_rfl) (by kernel_rfl) (fun _ _ _ h => h) (Or.inl ⟨by rfl,?_⟩) (by assumption) ?_
  rotate_left
  ·intro w hSw
   (try dsimp only at hSw)
   go_simp
   (try with_reducible rfl)
  (try go_frame)
  refine wpAnyH_take (i:=8) (oi:=_) (v:=?_) rfl (by kernel_rfl) (by kernel_rfl) (by kernel_rfl) (fun _ _ _ h => h) (Or.inl ⟨by rfl,?_⟩) (by assumption) ?_
  rotate_left
  ·intro w hSw
   (try dsimp only at hSw)
   go_simp
   (try with_reducible rfl)
  (try go_frame)
  refine wpAnyH_take (i:=9) (oi:=_) (v:=?_) rfl (by kernel_rfl) (by kernel_rfl) (by kernel_rfl) (fun _ _ _ h => h) (Or.inl ⟨by rfl,?_⟩) (by assumption) ?_
  rotate_left
  ·intro w hSw
   (try dsimp only at hSw)
   go_simp
   (try with_reducible rfl)
  (try go_frame)
  refine wpAnyH_take (i:=10) (oi:=_) (v:=?_) rfl (by kernel_rfl) (by kernel_rfl) (by kernel_rfl) (fun _ _ _ h => h) (Or.inl ⟨by rfl,?_⟩) (by assumption) ?_
  rotate_left
  ·intro w hSw
   (try dsimp only at hSw)
   go_simp
   (try with_reducible rfl)
  (try go_frame)
  refine wpAnyH_ready (rs:=[5,11]) (by kernel_rfl) (by simp) ?_
  refine AllReadyH.cons (o:=_) rfl (fun K' hK => ?_) (AllReadyH.cons (o:=_) rfl (fun K' hK => ?_) AllReadyH.nil)
  ·go_simp
   refine (def_any K.B K.l K.a K.c K.M i me w2.drew (by exact HB2.out.drew.dfs) (by exact hB2) HMe).mono ?_
   rintro e w3 ⟨hg3',val,rfl,pa',pc',ba',bc',rfl,hdf'⟩
   have hg3:w2.grownBy w3 none:=⟨hg3'.os,hg3'.tape,hg3'.output,hg3'.size,hg3'.block⟩
   have HK3:Hid (Kpt K w2 w3):=Kpt.grown hg3 HB2.out.lt
   have HB3:Hid (BW K w3 v t):=HB2.out.grown hg3
   refine hK.out _ _ (HS.out w3 v t HK3.out HB3.out) (fun hHeld => ?_)
   have hfy:=fun w => field_ty me pa' pc' ba' bc' w
   clear hK hg3' hdf' hg3
   refine wpAnyH_take (i:=6) (oi:=_) (v:=?_) rfl (by kernel_rfl) (by kernel_rfl) (by kernel_rfl) (fun _ _ _ h => h) (Or.inl ⟨by rfl,?_⟩) (by assumption) ?_
   rotate_left
   ·intro w hSw
    (try dsimp only at hSw)
    go_simp
    (try with_reducible rfl)
   (try go_frame)
   refine wpAnyH_ready (rs:=[11]) (by kernel_rfl) (by simp) ?_
   refine AllReadyH.cons (o:=_) rfl (fun K' hK => ?_) AllReadyH.nil
   go_simp
   have HK4:Hid (Kpt K w2 (w3.alloc (exB kd ka kc))):=HK3.out.trans (Kpt.alloc K w3 _ HB3.out.lt)
   have HB4:Hid (BW K (w3.alloc (exB kd ka kc)) v t):=HB3.out.grown (grown_a _)
   have HN4:=hid (HB3.out.new (exB kd ka kc))
   refine hK.out _ _ (HS.out _ v t HK4.out HB4.out) (fun hHeld => ?_)
   clear hK
   refine wpAnyH_ready (rs:=[12]) (by kernel_rfl) (by simp) ?_
   refine AllReadyH.cons (o:=_) rfl (fun K' hK => ?_) AllReadyH.nil
   go_simp
   refine (must_any K v d ex hC hle [kd] (some ⟨w3.heap.size,0,none⟩) 1 me.ty t (n + 1) m _ _ HB4 (ks_one HB4.out HN4.out HKX.out HK4.out) (by simp) HX1 HT1 h2 (by rw [← HEr.out]; exact rfl)).mono ?_
   rintro e w9 ⟨hk9,he9⟩
   have HK9:Hid (Kpt K w2 w9):=HK4.out.trans hk9
   cases er with
   | error y =>
    obtain ⟨rfl,v2,t2,hb2,hp2⟩:=he9
    have HE:Hid (Bf K w v r (.panicked [fltE y K.num]) w9):=by
     rw [HRm.out]
     exact ⟨HK2.out.trans HK9.out,rfl,v2,t2,hb2,hp2⟩
    clear hK hk9 hb2 hp2
    go_wp2
    exact ⟨rfl,HE.out⟩
   | ok t2 =>
    obtain ⟨rfl,hb9⟩:=he9
    have HB9:Hid (BW K w9 v t2):=hb9
    have HRe:Hid (r = .ok (tyV me.takes,v,t2)):=HRm.out
    have hs9:=HS.out w9 v t2 HK9.out HB9.out
    refine hK.out _ _ hs9 (fun hHeld => ?_)
    clear hK hk9 hb9 hHeld
    refine wpAnyH_done (by kernel_rfl) ?_ _
    obtain ⟨g0,g1,g2,_⟩:=hs9
    go_wp2_with fail
    refine (def_any K.B K.l K.a K.c K.M i me w9 HB9.out.dfs (by have:=HB9.out.base; have:=HB9.out.lt; omega) HMe).mono ?_
    rintro e w10 ⟨hg10,val,rfl,pa',pc',ba',bc',rfl,hdf'⟩
    have HB10:Hid (BW K w10 v t2):=HB9.out.grown hg10
    have HK10:Hid (Kpt K w w10):=(HK2.out.trans HK9.out).trans (Kpt.grown hg10 HB9.out.lt)
    have HZ10:=hid ((Kpt.grown hg10 HB9.out.lt).at (HK9.out.at HZ2.out))
    have hfd:=field_takes me pa' pc' ba' bc' w10
    clear hg10 hdf'
    have HTE:=hid (ty_end (y:=me.takes) (Z:=w.heap.size + 1) HB10.out HK10.out HZ10.out (by omega) hBw hF HRe.out)
    obtain ⟨W9,hW9⟩:∃ W9,W9 = (w10.setCell ⟨w.heap.size + 1,0,none⟩ (.int .i64 (me.takes).kind)).setCell ⟨w.heap.size + 1,1,none⟩ (.string (me.takes).gen):=⟨_,rfl⟩
    have HW9:Hid (W9 = _):=hW9
    obtain ⟨ez0,ez1,ef0,ef1⟩:=two_cell (HZ10.out).1
    clear hW9
    go_wp2
    rw [show (w10.setCell ⟨w.heap.size + 1,0,none⟩ (.int .i64 (me.takes).kind)).setCell ⟨w.heap.size + 1,1,none⟩ (.string (me.takes).gen) = W9 from HW9.out.symm]
    have q9:=HTE.out.2
    rw [show twoS w10 (w.heap.size + 1) (.int .i64 (me.takes).kind) (.string (me.takes).gen) = W9 from HW9.out.symm] at q9
    refine bodyPost_ret (v:=tyV me.takes) (by simp [results,Tryz.results114,go_sem,World.cell?,q9]) rfl ?_
    rw [HW9.out]
    exact HTE.out.1
  ·go_simp
   have HK3:Hid (Kpt K w2 (w2.alloc (exB kd ka kc)).drew):=(Kpt.alloc K w2 _ HB2.out.lt).drew
   have HB3:Hid (BW K (w2.alloc (exB kd ka kc)).drew v t):=(HB2.out.grown (grown_a _)).drew
   have HN3:Hid ((w2.alloc (exB kd ka kc)).drew.heap[w2.heap.size]? = some (exB kd ka kc) ∧ Free K (w2.alloc (exB kd ka kc)).drew w2.heap.size):=HB2.out.new (exB kd ka kc)
   refine hK.out _ _ (HS.out _ v t HK3.out HB3.out) (fun hHeld => ?_)
   clear hK
   refine wpAnyH_ready (rs:=[5]) (by kernel_rfl) (by simp) ?_
   refine AllReadyH.cons (o:=_) rfl (fun K' hK => ?_) AllReadyH.nil
   go_simp
   refine (def_any K.B K.l K.a K.c K.M i me _ (by exact HB3.out.dfs) (by simp; omega) HMe).mono ?_
   rintro e w3 ⟨hg3,val,rfl,pa',pc',ba',bc',rfl,hdf'⟩
   have HK4:Hid (Kpt K w2 w3):=HK3.out.trans (Kpt.grown hg3 HB3.out.lt)
   have HB4:Hid (BW K w3 v t):=HB3.out.grown hg3
   have HN4:=hid ((Kpt.grown hg3 HB3.out.lt).at HN3.out)
   have hfy:=fun w => field_ty me pa' pc' ba' bc' w
   refine hK.out _ _ (HS.out _ v t HK4.out HB4.out) (fun hHeld => ?_)
   clear hK hg3 hdf'
   refine wpAnyH_take (i:=6) (oi:=_) (v:=?_) rfl (by kernel_rfl) (by kernel_rfl) (by kernel_rfl) (fun _ _ _ h => h) (Or.inl ⟨by rfl,?_⟩) (by assumption) ?_
   rotate_left
   ·intro w hSw
    (try dsimp only at hSw)
    go_simp
    (try with_reducible rfl)
   (try go_frame)
   refine wpAnyH_ready (rs:=[12]) (by kernel_rfl) (by simp) ?_
   refine AllReadyH.cons (o:=_) rfl (fun K' hK => ?_) AllReadyH.nil
   go_simp
   refine (must_any K v d ex hC hle [kd] (some ⟨w2.heap.size,0,none⟩) 1 me.ty t (n + 1) m _ _ HB4 (ks_one HB4.out HN4.out HKX.out HK4.out) (by simp) HX1 HT1 h2 (by rw [← HEr.out]; exact rfl)).mono ?_
   rintro e w9 ⟨hk9,he9⟩
   have HK9:Hid (Kpt K w2 w9):=HK4.out.trans hk9
   cases er with
   | error y =>
    obtain ⟨rfl,v2,t2,hb2,hp2⟩:=he9
    have HE:Hid (Bf K w v r (.panicked [fltE y K.num]) w9):=by
     rw [HRm.out]
     exact ⟨HK2.out.trans HK9.out,rfl,v2,t2,hb2,hp2⟩
    clear hK hk9 hb2 hp2
    go_wp2
    exact ⟨rfl,HE.out⟩
   | ok t2 =>
    obtain ⟨rfl,hb9⟩:=he9
    have HB9:Hid (BW K w9 v t2):=hb9
    have HRe:Hid (r = .ok (tyV me.takes,v,t2)):=HRm.out
    have hs9:=HS.out w9 v t2 HK9.out HB9.out
    refine hK.out _ _ hs9 (fun hHeld => ?_)
    clear hK hk9 hb9 hHeld
    refine wpAnyH_done (by kernel_rfl) ?_ _
    obtain ⟨g0,g1,g2,_⟩:=hs9
    go_wp2_with fail
    refine (def_any K.B K.l K.a K.c K.M i me w9 HB9.out.dfs (by have:=HB9.out.base; have:=HB9.out.lt; omega) HMe).mono ?_
    rintro e w10 ⟨hg10,val,rfl,pa',pc',ba',bc',rfl,hdf'⟩
    have HB10:Hid (BW K w10 v t2):=HB9.out.grown hg10
    have HK10:Hid (Kpt K w w10):=(HK2.out.trans HK9.out).trans (Kpt.grown hg10 HB9.out.lt)
    have HZ10:=hid ((Kpt.grown hg10 HB9.out.lt).at (HK9.out.at HZ2.out))
    have hfd:=field_takes me pa' pc' ba' bc' w10
    clear hg10 hdf'
    have HTE:=hid (ty_end (y:=me.takes) (Z:=w.heap.size + 1) HB10.out HK10.out HZ10.out (by omega) hBw hF HRe.out)
    obtain ⟨W9,hW9⟩:∃ W9,W9 = (w10.setCell ⟨w.heap.size + 1,0,none⟩ (.int .i64 (me.takes).kind)).setCell ⟨w.heap.size + 1,1,none⟩ (.string (me.takes).gen):=⟨_,rfl⟩
    have HW9:Hid (W9 = _):=hW9
    obtain ⟨ez0,ez1,ef0,ef1⟩:=two_cell (HZ10.out).1
    clear hW9
    go_wp2
    rw [show (w10.setCell ⟨w.heap.size + 1,0,none⟩ (.int .i64 (me.takes).kind)).setCell ⟨w.heap.size + 1,1,none⟩ (.string (me.takes).gen) = W9 from HW9.out.symm]
    have q9:=HTE.out.2
    rw [show twoS w10 (w.heap.size + 1) (.int .i64 (me.takes).kind) (.string (me.takes).gen) = W9 from HW9.out.symm] at q9
    refine bodyPost_ret (v:=tyV me.takes) (by simp [results,Tryz.results114,go_sem,World.cell?,q9]) rfl ?_
    rw [HW9.out]
    exact HTE.out.1
end Sm
end Go.Proofs.YtpnljpdpobbiiaaGreatDoor
