/- The walk of stat,kind by kind. -/
import Derived.Test.YtbioaoangfiijaaGreatDoorM13
set_option maxRecDepth 100000
set_option maxHeartbeats 4000000
namespace Go.Proofs.YtbioaoangfiijaaGreatDoor
open Go.RowKit
namespace Sm
theorem eight_cell {w:World} {b:Nat} {v0 v1 v2 v3 v4 v5 v6 v7:Value} {t:TypeId} (h:w.heap[b]? = some (.cells #[v0,v1,v2,v3,v4,v5,v6,v7] t (0,0))) :
  w.cell? ⟨b,0,none⟩ = some v0 ∧ w.cell? ⟨b,1,none⟩ = some v1 ∧ w.cell? ⟨b,2,none⟩ = some v2 ∧ w.cell? ⟨b,3,none⟩ = some v3 ∧ w.cell? ⟨b,4,none⟩ = some v4 ∧ w.cell? ⟨b,5,none⟩ = some v5 ∧ w.cell? ⟨b,6,none⟩ = some v6 ∧ w.cell? ⟨b,7,none⟩ = some v7:=by simp [World.cell?,h]
theorem st_x {B:Nat} {w:World} {s:Sy.St} {xa ba ea:Option Addr} (h:∃ h,StIn B w h s xa ba ea):∃ h,ExIn B w h s.x xa:=by
 obtain ⟨hh,hs⟩:=h
 cases hh with
 | zero => exact hs.elim
 | succ hh => exact hs.2.1
theorem st_let (K:BK) (me:Sy.Df) (d:Nat) (i:Nat) (hi:Hid (K.num = (i:Int))) (HMe:Hid (K.l[i]? = some me)) (_hB:Hid (CBl K me d)) (s:Sy.St) (xa ba ea:Option Addr) (xc bc ec:Nat) (v:Vars) (t:Tk) (n m m1:Nat) (w:World) (r:Except Int (Value × Vars × Tk)) (h:Hid (BW K w v t)) (hs:Hid (∃ h,StIn K.B w h s xa ba ea)) (hx1:Hid (Sy.exW d s.x (n + 1) = .ok m1)) (_htl:Hid (Sy.stTail (Sy.stW d) s m1 = .ok m)) (ht:Hid (TkLe t n)) (hv:Hid (v.length ≤ n + 10)) (h2:n + 1 ≤ 2000)
  (hr:Hid (r = andThen (stat K.l me (d + 1) s v t) fun p => .ok (.tuple #[],p.1,p.2)))
  (hk:s.kind = 1) :
  Calls Tryz.prog 93 #[.pointer (some ⟨K.F,0,none⟩),stV s xa xc ba bc ea ec] w fun e w' => Bf K w v r e w':=by
 have hF:=h.out.lt
 obtain ⟨W0,hW0⟩:∃ W0,W0 = w.alloc (stB s xa xc ba bc ea ec):=⟨_,rfl⟩
 have HK0:Hid (Kpt K w W0):=by rw [hW0]; exact Kpt.alloc K w _ hF
 have HB0:Hid (BW K W0 v t):=by rw [hW0]; exact h.out.grown (grown_a _)
 have HS0:Hid (W0.heap[w.heap.size]? = some (stB s xa xc ba bc ea ec) ∧ Free K W0 w.heap.size):=by rw [hW0]; exact h.out.new _
 have HE0:Hid (∃ h,ExIn K.B W0 h s.x xa):=by
  obtain ⟨hh,hE⟩:=st_x hs.out
  exact ⟨hh,hE.same (h.out.same HK0.out)⟩
 have HW0:Hid (W0 = _):=hW0
 have hC:=hid (expr_any K v me i hi HMe d)
 have HT1:Hid (TkLe t (n + 1)):=ht.out.mono (by omega)
 clear hW0
 obtain ⟨er,her⟩:∃ er,er = expr K.l me v d s.x t:=⟨_,rfl⟩
 have HEr:Hid (er = expr K.l me v d s.x t):=her
 have HRr:Hid (r = andThen er fun p => if (Sm.look v s.name).isSome = true then .error 7 else .ok (.tuple #[],v ++ [(s.name,p.1)],p.2)):=by
  unfold Hid
  rw [hr.out,stat,if_pos hk,her]
  cases expr K.l me v d s.x t with
  | error e => rfl
  | ok p => rw [andThen_ok,andThen_ok]; split <;> rfl
 have HS:Hid (∀ w',Kpt K W0 w' → w'.cell? ⟨w.heap.size,1,none⟩ = some (.string s.name) ∧ w'.cell? ⟨w.heap.size,2,none⟩ = some (.int .i64 s.x.kind) ∧ w'.cell? ⟨w.heap.size,3,none⟩ = some (.int .i64 s.x.n) ∧ w'.cell? ⟨w.heap.size,4,none⟩ = some (.string s.x.name) ∧ w'.cell? ⟨w.heap.size,5,none⟩ = some (.slice xa s.x.kids.length xc)):=fun w' hk => by
  obtain ⟨_,g1,g2,g3,g4,g5,_,_⟩:=eight_cell (hk.at HS0.out).1
  exact ⟨g1,g2,g3,g4,g5⟩
 have e1:(s.kind == 1) = true:=by rw [hk]; rfl
 clear hr her hk
 go_enter Tryz.func93,Tryz.ntmps93
 go_wp2_with fail
 rw [← HW0.out]
 refine wp_region_held_drew (S:=fun w' => w'.cell? ⟨w.heap.size,1,none⟩ = some (.string s.name) ∧ w'.cell? ⟨w.heap.size,2,none⟩ = some (.int .i64 s.x.kind) ∧ w'.cell? ⟨w.heap.size,3,none⟩ = some (.int .i64 s.x.n) ∧ w'.cell? ⟨w.heap.size,4,none⟩ = some (.string s.x.name) ∧ w'.cell? ⟨w.heap.size,5,none⟩ = some (.slice xa s.x.kids.length xc)) (by kernel_rfl) (HS.out W0 (Kpt.refl _ _)) (fun hHeld => ?_)
 refine tk 0 (v:=?_) rfl ?_ (by assumption) ?_
 rotate_left
 ·intro w hSw
  (try dsimp only at hSw)
  go_simp
  (try with_reducible rfl)
 (try go_frame)
 refine tk 1 (v:=?_) rfl ?_ (by assumption) ?_
 rotate_left
 ·intro w hSw
  (try dsimp only at hSw)
  go_simp
  (try with_reducible rfl)
 (try go_frame)
 refine tk 2 (v:=?_) rfl ?_ (by assumption) ?_
 rotate_left
 ·intro w hSw
  (try dsimp only at hSw)
  go_simp
  (try with_reducible rfl)
 (try go_frame)
 refine tk 3 (v:=?_) rfl ?_ (by assumption) ?_
 rotate_left
 ·intro w hSw
  (try dsimp only at hSw)
  go_simp
  (try with_reducible rfl)
 (try go_frame)
 refine tk 4 (v:=?_) rfl ?_ (by assumption) ?_
 rotate_left
 ·intro w hSw
  (try dsimp only at hSw)
  go_simp
  (try with_reducible rfl)
 (try go_frame)
 refine tk 5 (v:=?_) rfl ?_ (by assumption) ?_
 rotate_left
 ·intro w hSw
  (try dsimp only at hSw)
  go_simp
  (try with_reducible rfl)
 (try go_frame)
 refine wpAnyH_ready (rs:=[6]) (by kernel_rfl) (by simp) ?_
 refine AllReadyH.cons (o:=_) rfl (fun K' hK => ?_) AllReadyH.nil
 go_simp
 refine (hC.out s.x xa xc t (n + 1) m1 W0.drew _ (by exact HB0.out.drew) (by obtain ⟨hh,hE⟩:=HE0.out; exact ⟨hh,ExIn.same (w:=W0) (w':=W0.drew) (fun _ _ _ => rfl) _ _ _ hE⟩) hx1 HT1 h2 (by rw [← HEr.out]; exact rfl)).mono ?_
 rintro e w1 ⟨hk1',he1⟩
 have HK1:Hid (Kpt K W0 w1):=hk1'.ofDrew
 clear hk1'
 cases er with
 | error y =>
  obtain ⟨rfl,v2,t2,hb2,hp2⟩:=he1
  have HE:Hid (Bf K w v r (.panicked [fltE y K.num]) w1):=by
   rw [HRr.out]
   exact ⟨(HK0.out.trans HK1.out),rfl,v2,t2,hb2,hp2⟩
  clear hK hb2 hp2
  go_wp2
  exact ⟨rfl,HE.out⟩
 | ok p =>
  obtain ⟨ty,t1⟩:=p
  obtain ⟨rfl,hb1⟩:=he1
  have HB1:Hid (BW K w1 v t1):=hb1
  have HRn:Hid (r = if (Sm.look v s.name).isSome = true then .error 7 else .ok (.tuple #[],v ++ [(s.name,ty)],t1)):=HRr.out
  refine hK.out _ _ (HS.out w1 HK1.out) (fun hHeld => ?_)
  clear hK hb1
  refine wpAnyH_ready (rs:=[7]) (by kernel_rfl) (by simp) ?_
  refine AllReadyH.cons (o:=_) rfl (fun K' hK => ?_) AllReadyH.nil
  go_simp
  refine (naming_any K v t1 s.name ty w1 r HB1 (by have:=hv.out; omega) HRn).mono ?_
  rintro e w2 ⟨hk2,he2⟩
  have HK2:Hid (Kpt K w w2):=(HK0.out.trans HK1.out).trans hk2
  cases r with
  | error y =>
   obtain ⟨rfl,v2,t2,hb2,hp2⟩:=he2
   have HE:Hid (Bf K w v (.error y) (.panicked [fltE y K.num]) w2):=⟨HK2.out,rfl,v2,t2,hb2,hp2⟩
   clear hK hk2 hb2 hp2
   go_wp2
   exact ⟨rfl,HE.out⟩
  | ok q =>
   obtain ⟨qv,qn,qt⟩:=q
   obtain ⟨rfl,hb2⟩:=he2
   have hqv:qv = .tuple #[]:=by
    have:=HRn.out
    split at this
    ·cases this
    ·cases this; rfl
   subst hqv
   have HE:Hid (Bf K w v (.ok (.tuple #[],qn,qt)) (.returned (.tuple #[])) w2):=⟨HK2.out,rfl,hb2⟩
   refine hK.out _ _ (HS.out w2 (HK1.out.trans hk2)) (fun hHeld => ?_)
   clear hK hk2 hb2
   refine wpAnyH_done (by kernel_rfl) ?_ _
   go_wp2
   go_end0
   exact HE.out
theorem st_stop (K:BK) (me:Sy.Df) (d:Nat) (i:Nat) (hi:Hid (K.num = (i:Int))) (HMe:Hid (K.l[i]? = some me)) (_hB:Hid (CBl K me d)) (s:Sy.St) (xa ba ea:Option Addr) (xc bc ec:Nat) (v:Vars) (t:Tk) (n:Nat) (w:World) (r:Except Int (Value × Vars × Tk)) (h:Hid (BW K w v t)) (hs:Hid (∃ h,StIn K.B w h s xa ba ea)) (ht:Hid (TkLe t n)) (_hv:Hid (v.length ≤ n + 10)) (_h2:n + 1 ≤ 2000)
  (hr:Hid (r = andThen (stat K.l me (d + 1) s v t) fun p => .ok (.tuple #[],p.1,p.2)))
  (hk:s.kind = 6) :
  Calls Tryz.prog 93 #[.pointer (some ⟨K.F,0,none⟩),stV s xa xc ba bc ea ec] w fun e w' => Bf K w v r e w':=by
 have hF:=h.out.lt
 obtain ⟨W0,hW0⟩:∃ W0,W0 = w.alloc (stB s xa xc ba bc ea ec):=⟨_,rfl⟩
 have HK0:Hid (Kpt K w W0):=by rw [hW0]; exact Kpt.alloc K w _ hF
 have HB0:Hid (BW K W0 v t):=by rw [hW0]; exact h.out.grown (grown_a _)
 have HS0:Hid (W0.heap[w.heap.size]? = some (stB s xa xc ba bc ea ec) ∧ Free K W0 w.heap.size):=by rw [hW0]; exact h.out.new _
 have HE0:Hid (∃ h,ExIn K.B W0 h s.x xa):=by
  obtain ⟨hh,hE⟩:=st_x hs.out
  exact ⟨hh,hE.same (h.out.same HK0.out)⟩
 have HW0:Hid (W0 = _):=hW0
 have hC:=hid (expr_any K v me i hi HMe d)
 have HT1:Hid (TkLe t (n + 1)):=ht.out.mono (by omega)
 clear hW0
 have HRr:Hid (r = andThen (fits (me.kind != 2)) fun _ => .ok (.tuple #[],v,t)):=by
  unfold Hid
  rw [hr.out,stat,if_neg (by omega),if_neg (by omega),if_neg (by omega),if_neg (by omega),if_neg (by omega),if_pos hk]
  cases fits (me.kind != 2) <;> rfl
 obtain ⟨o,sn,rr,cc,h4⟩:=h.out.rows
 obtain ⟨c0,c1,c2,_⟩:=bd_cells h4.blk
 rw [hi.out] at c2
 have hB0:K.B ≤ W0.heap.size:=by have:=HB0.out.base; have:=HB0.out.lt; omega
 have HD0:Hid (DfsIn K.B W0 K.l K.a):=HB0.out.dfs
 have e1:(s.kind == 1) = false:=by rw [hk]; rfl
 have e2:(s.kind == 2) = false:=by rw [hk]; rfl
 have e3:(s.kind == 3) = false:=by rw [hk]; rfl
 have e4:(s.kind == 4) = false:=by rw [hk]; rfl
 have e5:(s.kind == 5) = false:=by rw [hk]; rfl
 have e6:(s.kind == 6) = true:=by rw [hk]; rfl
 clear hr h4 hk
 go_enter Tryz.func93,Tryz.ntmps93
 go_wp2_with fail
 rw [← HW0.out]
 refine (def_any K.B K.l K.a K.c K.M i me W0 HD0 hB0 HMe).mono ?_
 rintro e w1 ⟨hg1,val,rfl,pa,pc,ba',bc',rfl,hdf⟩
 have HG1:Hid (W0.grownBy w1 none):=hg1
 have HB1:Hid (BW K w1 v t):=HB0.out.grown hg1
 have hfk:=field_kind me pa pc ba' bc' w1
 obtain ⟨o',sn',rr',cc',h4⟩:=HB1.out.rows
 have H4:Hid (w1.heap[K.F]? = some (K.obj o' sn' rr' cc')):=h4.blk
 obtain ⟨bk,hbk⟩:∃ bk,bk = (me.kind != 2):=⟨_,rfl⟩
 have HBK:Hid (bk = (me.kind != 2)):=hbk
 have hbk':=hbk.symm
 obtain ⟨rf,hrf⟩:∃ rf:Except Int Value,rf = match Sm.fits bk with | .ok _ => .ok (.tuple #[]) | .error e => .error e:=⟨_,rfl⟩
 have HRF:Hid (rf = match Sm.fits bk with | .ok _ => .ok (.tuple #[]) | .error e => .error e):=hrf
 clear hg1 hdf h4 hbk hrf
 go_wp2_with fail
 refine (fits_any K.F K.l.length K.a K.c K.M K.num K.T o' sn' rr' cc' bk w1 rf H4 HRF).mono ?_
 rintro e w2 ⟨hg2,he2⟩
 have HG2:Hid (w1.grownBy w2 none):=hg2
 have HK02:Hid (Kpt K W0 w2):=(Kpt.grown HG1.out HB0.out.lt).trans (Kpt.grown hg2 HB1.out.lt)
 have HK2:Hid (Kpt K w w2):=HK0.out.trans HK02.out
 have HB2:Hid (BW K w2 v t):=HB1.out.grown hg2
 cases bk with
 | false =>
  have hrf:rf = .error 8:=HRF.out
  subst hrf
  obtain rfl:=he2
  have HE:Hid (Bf K w v r (.panicked [fltE 8 K.num]) w2):=by
   rw [HRr.out,← HBK.out]
   exact ⟨HK2.out,rfl,v,t,HB2.out,List.prefix_refl _⟩
  clear hg2
  go_wp2
  exact ⟨rfl,HE.out⟩
 | true =>
  have hrf:rf = .ok (.tuple #[]):=HRF.out
  subst hrf
  obtain rfl:=he2
  have HE:Hid (Bf K w v r (.returned (.tuple #[])) w2):=by
   rw [HRr.out,← HBK.out]
   exact ⟨HK2.out,rfl,HB2.out⟩
  clear hg2
  go_wp2
  go_end0
  exact HE.out
theorem st_do (K:BK) (me:Sy.Df) (d:Nat) (i:Nat) (hi:Hid (K.num = (i:Int))) (HMe:Hid (K.l[i]? = some me)) (_hB:Hid (CBl K me d)) (s:Sy.St) (xa ba ea:Option Addr) (xc bc ec:Nat) (v:Vars) (t:Tk) (n m m1:Nat) (w:World) (r:Except Int (Value × Vars × Tk)) (h:Hid (BW K w v t)) (hs:Hid (∃ h,StIn K.B w h s xa ba ea)) (hx1:Hid (Sy.exW d s.x (n + 1) = .ok m1)) (_htl:Hid (Sy.stTail (Sy.stW d) s m1 = .ok m)) (ht:Hid (TkLe t n)) (_hv:Hid (v.length ≤ n + 10)) (h2:n + 1 ≤ 2000)
  (hr:Hid (r = andThen (stat K.l me (d + 1) s v t) fun p => .ok (.tuple #[],p.1,p.2)))
  (hk:s.kind = 9) :
  Calls Tryz.prog 93 #[.pointer (some ⟨K.F,0,none⟩),stV s xa xc ba bc ea ec] w fun e w' => Bf K w v r e w':=by
 have hF:=h.out.lt
 obtain ⟨W0,hW0⟩:∃ W0,W0 = w.alloc (stB s xa xc ba bc ea ec):=⟨_,rfl⟩
 have HK0:Hid (Kpt K w W0):=by rw [hW0]; exact Kpt.alloc K w _ hF
 have HB0:Hid (BW K W0 v t):=by rw [hW0]; exact h.out.grown (grown_a _)
 have HS0:Hid (W0.heap[w.heap.size]? = some (stB s xa xc ba bc ea ec) ∧ Free K W0 w.heap.size):=by rw [hW0]; exact h.out.new _
 have HE0:Hid (∃ h,ExIn K.B W0 h s.x xa):=by
  obtain ⟨hh,hE⟩:=st_x hs.out
  exact ⟨hh,hE.same (h.out.same HK0.out)⟩
 have HW0:Hid (W0 = _):=hW0
 have hC:=hid (expr_any K v me i hi HMe d)
 have HT1:Hid (TkLe t (n + 1)):=ht.out.mono (by omega)
 clear hW0
 obtain ⟨er,her⟩:∃ er,er = expr K.l me v d s.x t:=⟨_,rfl⟩
 have HEr:Hid (er = expr K.l me v d s.x t):=her
 have HRr:Hid (r = andThen er fun p => .ok (.tuple #[],v,p.2)):=by
  unfold Hid
  rw [hr.out,stat,if_neg (by omega),if_neg (by omega),if_neg (by omega),if_neg (by omega),if_neg (by omega),if_neg (by omega),if_neg (by omega),if_neg (by omega),her]
  cases expr K.l me v d s.x t <;> rfl
 have e1:(s.kind == 1) = false:=by rw [hk]; rfl
 have e2:(s.kind == 2) = false:=by rw [hk]; rfl
 have e3:(s.kind == 3) = false:=by rw [hk]; rfl
 have e4:(s.kind == 4) = false:=by rw [hk]; rfl
 have e5:(s.kind == 5) = false:=by rw [hk]; rfl
 have e6:(s.kind == 6) = false:=by rw [hk]; rfl
 have e7:(s.kind == 7) = false:=by rw [hk]; rfl
 have e8:(s.kind == 8) = false:=by rw [hk]; rfl
 have e9:(s.kind == 9) = true:=by rw [hk]; rfl
 clear hr her hk
 go_enter Tryz.func93,Tryz.ntmps93
 go_wp2_with fail
 rw [← HW0.out]
 refine (hC.out s.x xa xc t (n + 1) m1 W0 _ HB0 HE0 hx1 HT1 h2 (by rw [← HEr.out]; exact rfl)).mono ?_
 rintro e w1 ⟨hk1,he1⟩
 cases er with
 | error y =>
  obtain ⟨rfl,v2,t2,hb2,hp2⟩:=he1
  have HE:Hid (Bf K w v r (.panicked [fltE y K.num]) w1):=by
   rw [HRr.out]
   exact ⟨(HK0.out.trans hk1),rfl,v2,t2,hb2,hp2⟩
  clear hk1 hb2 hp2
  go_wp2
  exact ⟨rfl,HE.out⟩
 | ok p =>
  obtain ⟨ty,t1⟩:=p
  obtain ⟨rfl,hb1⟩:=he1
  have HE:Hid (Bf K w v r (.returned (.tuple #[])) w1):=by
   rw [HRr.out]
   exact ⟨HK0.out.trans hk1,rfl,hb1⟩
  clear hk1 hb1
  go_wp2
  go_end0
  exact HE.out
theorem st_out (K:BK) (me:Sy.Df) (d:Nat) (i:Nat) (hi:Hid (K.num = (i:Int))) (HMe:Hid (K.l[i]? = some me)) (_hB:Hid (CBl K me d)) (s:Sy.St) (xa ba ea:Option Addr) (xc bc ec:Nat) (v:Vars) (t:Tk) (n m m1:Nat) (w:World) (r:Except Int (Value × Vars × Tk)) (h:Hid (BW K w v t)) (hs:Hid (∃ h,StIn K.B w h s xa ba ea)) (hx1:Hid (Sy.exW d s.x (n + 1) = .ok m1)) (_htl:Hid (Sy.stTail (Sy.stW d) s m1 = .ok m)) (ht:Hid (TkLe t n)) (_hv:Hid (v.length ≤ n + 10)) (h2:n + 1 ≤ 2000)
  (hr:Hid (r = andThen (stat K.l me (d + 1) s v t) fun p => .ok (.tuple #[],p.1,p.2)))
  (hk:s.kind = 8) :
  Calls Tryz.prog 93 #[.pointer (some ⟨K.F,0,none⟩),stV s xa xc ba bc ea ec] w fun e w' => Bf K w v r e w':=by
 have hF:=h.out.lt
 obtain ⟨W0,hW0⟩:∃ W0,W0 = w.alloc (stB s xa xc ba bc ea ec):=⟨_,rfl⟩
 have HK0:Hid (Kpt K w W0):=by rw [hW0]; exact Kpt.alloc K w _ hF
 have HB0:Hid (BW K W0 v t):=by rw [hW0]; exact h.out.grown (grown_a _)
 have HS0:Hid (W0.heap[w.heap.size]? = some (stB s xa xc ba bc ea ec) ∧ Free K W0 w.heap.size):=by rw [hW0]; exact h.out.new _
 have HE0:Hid (∃ h,ExIn K.B W0 h s.x xa):=by
  obtain ⟨hh,hE⟩:=st_x hs.out
  exact ⟨hh,hE.same (h.out.same HK0.out)⟩
 have HW0:Hid (W0 = _):=hW0
 have hC:=hid (expr_any K v me i hi HMe d)
 have HT1:Hid (TkLe t (n + 1)):=ht.out.mono (by omega)
 clear hW0
 obtain ⟨er,her⟩:∃ er,er = expr K.l me v d s.x t:=⟨_,rfl⟩
 have HEr:Hid (er = expr K.l me v d s.x t):=her
 have HRr:Hid (r = andThen er fun p => andThen (plain p.1) fun _ => .ok (.tuple #[],v,p.2)):=by
  unfold Hid
  rw [hr.out,stat,if_neg (by omega),if_neg (by omega),if_neg (by omega),if_neg (by omega),if_neg (by omega),if_neg (by omega),if_neg (by omega),if_pos hk,her]
  cases expr K.l me v d s.x t with
  | error e => rfl
  | ok p => rw [andThen_ok,andThen_ok]; cases plain p.1 <;> rfl
 have HS:Hid (∀ w' v' t',Kpt K W0 w' → BW K w' v' t' → w'.cell? ⟨K.F,0,none⟩ = some (.slice K.a K.l.length K.c) ∧ w'.cell? ⟨K.F,1,none⟩ = some (.map (some K.M)) ∧ w'.cell? ⟨K.F,2,none⟩ = some (.int .i64 (i:Int)) ∧ w'.cell? ⟨w.heap.size,2,none⟩ = some (.int .i64 s.x.kind) ∧ w'.cell? ⟨w.heap.size,3,none⟩ = some (.int .i64 s.x.n) ∧ w'.cell? ⟨w.heap.size,4,none⟩ = some (.string s.x.name) ∧ w'.cell? ⟨w.heap.size,5,none⟩ = some (.slice xa s.x.kids.length xc)):=fun w' v' t' hk hb => by
  obtain ⟨_,g1,g2,g3,g4,g5,_,_⟩:=eight_cell (hk.at HS0.out).1
  obtain ⟨o,sn,rr,cc,h4⟩:=hb.rows
  obtain ⟨d0,d1,d2,_⟩:=bd_cells h4.blk
  rw [hi.out] at d2
  exact ⟨d0,d1,d2,g2,g3,g4,g5⟩
 have e1:(s.kind == 1) = false:=by rw [hk]; rfl
 have e2:(s.kind == 2) = false:=by rw [hk]; rfl
 have e3:(s.kind == 3) = false:=by rw [hk]; rfl
 have e4:(s.kind == 4) = false:=by rw [hk]; rfl
 have e5:(s.kind == 5) = false:=by rw [hk]; rfl
 have e6:(s.kind == 6) = false:=by rw [hk]; rfl
 have e7:(s.kind == 7) = false:=by rw [hk]; rfl
 have e8:(s.kind == 8) = true:=by rw [hk]; rfl
 clear hr her hk
 go_enter Tryz.func93,Tryz.ntmps93
 go_wp2_with fail
 rw [← HW0.out]
 refine wp_region_held_drew (S:=fun w' => w'.cell? ⟨K.F,0,none⟩ = some (.slice K.a K.l.length K.c) ∧ w'.cell? ⟨K.F,1,none⟩ = some (.map (some K.M)) ∧ w'.cell? ⟨K.F,2,none⟩ = some (.int .i64 (i:Int)) ∧ w'.cell? ⟨w.heap.size,2,none⟩ = some (.int .i64 s.x.kind) ∧ w'.cell? ⟨w.heap.size,3,none⟩ = some (.int .i64 s.x.n) ∧ w'.cell? ⟨w.heap.size,4,none⟩ = some (.string s.x.name) ∧ w'.cell? ⟨w.heap.size,5,none⟩ = some (.slice xa s.x.kids.length xc)) (by kernel_rfl) (HS.out W0 v t (Kpt.refl _ _) HB0.out) (fun hHeld => ?_)
 refine tk 0 (v:=?_) rfl ?_ (by assumption) ?_
 rotate_left
 ·intro w hSw
  (try dsimp only at hSw)
  go_simp
  (try with_reducible rfl)
 (try go_frame)
 refine tk 1 (v:=?_) rfl ?_ (by assumption) ?_
 rotate_left
 ·intro w hSw
  (try dsimp only at hSw)
  go_simp
  (try with_reducible rfl)
 (try go_frame)
 refine tk 2 (v:=?_) rfl ?_ (by assumption) ?_
 rotate_left
 ·intro w hSw
  (try dsimp only at hSw)
  go_simp
  (try with_reducible rfl)
 (try go_frame)
 refine tk 3 (v:=?_) rfl ?_ (by assumption) ?_
 rotate_left
 ·intro w hSw
  (try dsimp only at hSw)
  go_simp
  (try with_reducible rfl)
 (try go_frame)
 refine tk 4 (v:=?_) rfl ?_ (by assumption) ?_
 rotate_left
 ·intro w hSw
  (try dsimp only at hSw)
  go_simp
  (try with_reducible rfl)
 (try go_frame)
 refine tk 5 (v:=?_) rfl ?_ (by assumption) ?_
 rotate_left
 ·intro w hSw
  (try dsimp only at hSw)
  go_simp
  (try with_reducible rfl)
 (try go_frame)
 refine tk 6 (v:=?_) rfl ?_ (by assumption) ?_
 rotate_left
 ·intro w hSw
  (try dsimp only at hSw)
  go_simp
  (try with_reducible rfl)
 (try go_frame)
 refine wpAnyH_ready (rs:=[7]) (by kernel_rfl) (by simp) ?_
 refine AllReadyH.cons (o:=_) rfl (fun K' hK => ?_) AllReadyH.nil
 go_simp
 refine (hC.out s.x xa xc t (n + 1) m1 W0.drew _ (by exact HB0.out.drew) (by obtain ⟨hh,hE⟩:=HE0.out; exact ⟨hh,ExIn.same (w:=W0) (w':=W0.drew) (fun _ _ _ => rfl) _ _ _ hE⟩) hx1 HT1 h2 (by rw [← HEr.out]; exact rfl)).mono ?_
 rintro e w1 ⟨hk1',he1⟩
 have HK1:Hid (Kpt K W0 w1):=hk1'.ofDrew
 clear hk1'
 cases er with
 | error y =>
  obtain ⟨rfl,v2,t2,hb2,hp2⟩:=he1
  have HE:Hid (Bf K w v r (.panicked [fltE y K.num]) w1):=by
   rw [HRr.out]
   exact ⟨(HK0.out.trans HK1.out),rfl,v2,t2,hb2,hp2⟩
  clear hK hb2 hp2
  go_wp2
  exact ⟨rfl,HE.out⟩
 | ok p =>
  obtain ⟨ty,t1⟩:=p
  obtain ⟨rfl,hb1⟩:=he1
  have HB1:Hid (BW K w1 v t1):=hb1
  have HRn:Hid (r = andThen (plain ty) fun _ => .ok (.tuple #[],v,t1)):=HRr.out
  obtain ⟨rv,hrv⟩:∃ rv:Except Int Value,rv = match Sm.plain ty with | .ok _ => .ok (.tuple #[]) | .error e => .error e:=⟨_,rfl⟩
  have HRV:Hid (rv = match Sm.plain ty with | .ok _ => .ok (.tuple #[]) | .error e => .error e):=hrv
  refine hK.out _ _ (HS.out w1 v t1 HK1.out HB1.out) (fun hHeld => ?_)
  clear hK hb1 hrv
  refine wpAnyH_ready (rs:=[8]) (by kernel_rfl) (by simp) ?_
  refine AllReadyH.cons (o:=_) rfl (fun K' hK => ?_) AllReadyH.nil
  go_simp
  refine (plain_any K.l.length K.a K.c K.M (i:Int) ty w1 rv HRV).mono ?_
  rintro e w2 ⟨hg2,he2⟩
  have HB2:Hid (BW K w2 v t1):=HB1.out.grown hg2
  have HK02:Hid (Kpt K W0 w2):=HK1.out.trans (Kpt.grown hg2 HB1.out.lt)
  have HK2:Hid (Kpt K w w2):=HK0.out.trans HK02.out
  cases hpl:Sm.plain ty with
  | error y =>
   have hrv:rv = .error y:=by rw [HRV.out,hpl]
   subst hrv
   obtain rfl:=he2
   have HE:Hid (Bf K w v r (.panicked [fltE y K.num]) w2):=by
    rw [HRn.out,hpl]
    exact ⟨HK2.out,rfl,v,t1,HB2.out,List.prefix_refl _⟩
   rw [hi.out] at HE
   clear hK hg2 hpl
   go_wp2
   exact ⟨rfl,HE.out⟩
  | ok u =>
   have hrv:rv = .ok (.tuple #[]):=by rw [HRV.out,hpl]
   subst hrv
   obtain rfl:=he2
   have HE:Hid (Bf K w v r (.returned (.tuple #[])) w2):=by
    rw [HRn.out,hpl]
    exact ⟨HK2.out,rfl,HB2.out⟩
   refine hK.out _ _ (HS.out w2 v t1 HK02.out HB2.out) (fun hHeld => ?_)
   clear hK hg2 hpl
   refine wpAnyH_done (by kernel_rfl) ?_ _
   go_wp2
   go_end0
   exact HE.out
end Sm
namespace Sm
theorem st_set (K:BK) (me:Sy.Df) (d:Nat) (i:Nat) (hi:Hid (K.num = (i:Int))) (HMe:Hid (K.l[i]? = some me)) (_hB:Hid (CBl K me d)) (s:Sy.St) (xa ba ea:Option Addr) (xc bc ec:Nat) (v:Vars) (t:Tk) (n m m1:Nat) (w:World) (r:Except Int (Value × Vars × Tk)) (h:Hid (BW K w v t)) (hs:Hid (∃ h,StIn K.B w h s xa ba ea)) (hx1:Hid (Sy.exW d s.x (n + 1) = .ok m1)) (_htl:Hid (Sy.stTail (Sy.stW d) s m1 = .ok m)) (ht:Hid (TkLe t n)) (_hv:Hid (v.length ≤ n + 10)) (h2:n + 1 ≤ 2000)
  (hr:Hid (r = andThen (stat K.l me (d + 1) s v t) fun p => .ok (.tuple #[],p.1,p.2)))
  (hk:s.kind = 2) :
  Calls Tryz.prog 93 #[.pointer (some ⟨K.F,0,none⟩),stV s xa xc ba bc ea ec] w fun e w' => Bf K w v r e w':=by
 have hF:=h.out.lt
 obtain ⟨W0,hW0⟩:∃ W0,W0 = w.alloc (stB s xa xc ba bc ea ec):=⟨_,rfl⟩
 have HK0:Hid (Kpt K w W0):=by rw [hW0]; exact Kpt.alloc K w _ hF
 have HB0:Hid (BW K W0 v t):=by rw [hW0]; exact h.out.grown (grown_a _)
 have HS0:Hid (W0.heap[w.heap.size]? = some (stB s xa xc ba bc ea ec) ∧ Free K W0 w.heap.size):=by rw [hW0]; exact h.out.new _
 have HE0:Hid (∃ h,ExIn K.B W0 h s.x xa):=by
  obtain ⟨hh,hE⟩:=st_x hs.out
  exact ⟨hh,hE.same (h.out.same HK0.out)⟩
 have HW0:Hid (W0 = _):=hW0
 have hC:=hid (expr_any K v me i hi HMe d)
 have HT1:Hid (TkLe t (n + 1)):=ht.out.mono (by omega)
 clear hW0
 have HXs:Hid (Sy.runs (Sy.exW d) [s.x] (n + 1) = .ok m1):=by unfold Hid; simp [Sy.runs,hx1.out]
 have HKX:Hid (∃ hh,ExIn K.B W0 hh s.x xa ∧ BW K W0 v t):=by
  obtain ⟨hh,hE⟩:=HE0.out
  exact ⟨hh,hE,HB0.out⟩
 obtain ⟨rv,hrv⟩:∃ rv:Except Int Value,rv = match Sm.known v s.name with | .ok y => .ok (tyV y) | .error e => .error e:=⟨_,rfl⟩
 have HRV:Hid (rv = match Sm.known v s.name with | .ok y => .ok (tyV y) | .error e => .error e):=hrv
 have HRr:Hid (r = andThen (Sm.known v s.name) fun y => andThen (must (expr K.l me v d) y [s.x] t) fun t => .ok (.tuple #[],v,t)):=by
  unfold Hid
  rw [hr.out,stat,if_neg (by omega),if_pos hk]
  cases Sm.known v s.name with
  | error e => rfl
  | ok y => rw [andThen_ok,andThen_ok]; cases must (expr K.l me v d) y [s.x] t <;> rfl
 have HS:Hid (∀ w',Kpt K W0 w' → w'.cell? ⟨w.heap.size,1,none⟩ = some (.string s.name) ∧ w'.cell? ⟨w.heap.size,2,none⟩ = some (.int .i64 s.x.kind) ∧ w'.cell? ⟨w.heap.size,3,none⟩ = some (.int .i64 s.x.n) ∧ w'.cell? ⟨w.heap.size,4,none⟩ = some (.string s.x.name) ∧ w'.cell? ⟨w.heap.size,5,none⟩ = some (.slice xa s.x.kids.length xc)):=fun w' hk => by
  obtain ⟨_,g1,g2,g3,g4,g5,_,_⟩:=eight_cell (hk.at HS0.out).1
  exact ⟨g1,g2,g3,g4,g5⟩
 have e1:(s.kind == 1) = false:=by rw [hk]; rfl
 have e2:(s.kind == 2) = true:=by rw [hk]; rfl
 clear hr hk hrv
 go_enter Tryz.func93,Tryz.ntmps93
 go_wp2_with fail
 rw [← HW0.out]
 refine wp_region_held_drew (S:=fun w' => w'.cell? ⟨w.heap.size,1,none⟩ = some (.string s.name) ∧ w'.cell? ⟨w.heap.size,2,none⟩ = some (.int .i64 s.x.kind) ∧ w'.cell? ⟨w.heap.size,3,none⟩ = some (.int .i64 s.x.n) ∧ w'.cell? ⟨w.heap.size,4,none⟩ = some (.string s.x.name) ∧ w'.cell? ⟨w.heap.size,5,none⟩ = some (.slice xa s.x.kids.length xc)) (by kernel_rfl) (HS.out W0 (Kpt.refl _ _)) (fun hHeld => ?_)
 refine tk 0 (v:=?_) rfl ?_ (by assumption) ?_
 rotate_left
 ·intro w hSw
  (try dsimp only at hSw)
  go_simp
  (try with_reducible rfl)
 (try go_frame)
 refine tk 1 (v:=?_) rfl ?_ (by assumption) ?_
 rotate_left
 ·intro w hSw
  (try dsimp only at hSw)
  go_simp
  (try with_reducible rfl)
 (try go_frame)
 refine tk 2 (v:=?_) rfl ?_ (by assumption) ?_
 rotate_left
 ·intro w hSw
  (try dsimp only at hSw)
  go_simp
  (try with_reducible rfl)
 (try go_frame)
 refine tk 3 (v:=?_) rfl ?_ (by assumption) ?_
 rotate_left
 ·intro w hSw
  (try dsimp only at hSw)
  go_simp
  (try with_reducible rfl)
 (try go_frame)
 refine tk 5 (v:=?_) rfl ?_ (by assumption) ?_
 rotate_left
 ·intro w hSw
  (try dsimp only at hSw)
  go_simp
  (try with_reducible rfl)
 (try go_frame)
 refine tk 6 (v:=?_) rfl ?_ (by assumption) ?_
 rotate_left
 ·intro w hSw
  (try dsimp only at hSw)
  go_simp
  (try with_reducible rfl)
 (try go_frame)
 refine wpAnyH_ready (rs:=[4,7]) (by kernel_rfl) (by simp) ?_
 refine AllReadyH.cons (o:=_) rfl (fun K' hK => ?_) (AllReadyH.cons (o:=_) rfl (fun K' hK => ?_) AllReadyH.nil)
 ·go_simp
  refine (known_any K v t s.name W0.drew rv (by exact HB0.out.drew) HRV).mono ?_
  rintro e w1 ⟨hg1',he1⟩
  have hg1:W0.grownBy w1 none:=⟨hg1'.os,hg1'.tape,hg1'.output,hg1'.size,hg1'.block⟩
  clear hg1'
  have HB1:Hid (BW K w1 v t):=HB0.out.grown hg1
  have HK1:Hid (Kpt K W0 w1):=Kpt.grown hg1 HB0.out.lt
  cases hkn:Sm.known v s.name with
  | error y =>
   have hrv:rv = .error y:=by rw [HRV.out,hkn]
   subst hrv
   obtain rfl:=he1
   have HE:Hid (Bf K w v r (.panicked [fltE y K.num]) w1):=by
    rw [HRr.out,hkn]
    exact ⟨HK0.out.trans HK1.out,rfl,v,t,HB1.out,List.prefix_refl _⟩
   clear hK hg1 hkn
   go_wp2
   exact ⟨rfl,HE.out⟩
  | ok y =>
   have hrv:rv = .ok (tyV y):=by rw [HRV.out,hkn]
   subst hrv
   obtain rfl:=he1
   obtain ⟨em,hem⟩:∃ em,em = must (expr K.l me v d) y [s.x] t:=⟨_,rfl⟩
   have HEm:Hid (em = must (expr K.l me v d) y [s.x] t):=hem
   have HRm:Hid (r = andThen em fun t => .ok (.tuple #[],v,t)):=by unfold Hid; rw [HRr.out,hkn,andThen_ok,hem]
   refine hK.out _ _ (HS.out w1 HK1.out) (fun hHeld => ?_)
   clear hK hg1 hkn hem
   refine wpAnyH_ready (rs:=[7]) (by kernel_rfl) (by simp) ?_
   refine AllReadyH.cons (o:=_) rfl (fun K' hK => ?_) AllReadyH.nil
   go_simp
   have HK2:Hid (Kpt K W0 (w1.alloc (exB s.x xa xc))):=HK1.out.trans (Kpt.alloc K w1 _ HB1.out.lt)
   have HB2:Hid (BW K (w1.alloc (exB s.x xa xc)) v t):=HB1.out.grown (grown_a _)
   have HN2:=hid (HB1.out.new (exB s.x xa xc))
   refine hK.out _ _ (HS.out _ HK2.out) (fun hHeld => ?_)
   clear hK
   refine wpAnyH_ready (rs:=[8]) (by kernel_rfl) (by simp) ?_
   refine AllReadyH.cons (o:=_) rfl (fun K' hK => ?_) AllReadyH.nil
   go_simp
   refine (must_any K v d (expr K.l me v d) hC (expr_le K.l me v d) [s.x] (some ⟨w1.heap.size,0,none⟩) 1 y t (n + 1) m1 _ _ HB2 (ks_one HB2.out HN2.out HKX.out HK2.out) (by simp) HXs HT1 h2 (by rw [← HEm.out]; exact rfl)).mono ?_
   rintro e w9 ⟨hk9,he9⟩
   have HK9:Hid (Kpt K W0 w9):=HK2.out.trans hk9
   cases em with
   | error y =>
    obtain ⟨rfl,v2,t2,hb2,hp2⟩:=he9
    have HE:Hid (Bf K w v r (.panicked [fltE y K.num]) w9):=by
     rw [HRm.out]
     exact ⟨(HK0.out.trans HK9.out),rfl,v2,t2,hb2,hp2⟩
    clear hK hk9 hb2 hp2
    go_wp2
    exact ⟨rfl,HE.out⟩
   | ok t2 =>
    obtain ⟨rfl,hb9⟩:=he9
    have HE:Hid (Bf K w v r (.returned (.tuple #[])) w9):=by
     rw [HRm.out]
     exact ⟨HK0.out.trans HK9.out,rfl,hb9⟩
    have HB9:Hid (BW K w9 v t2):=hb9
    refine hK.out _ _ (HS.out w9 HK9.out) (fun hHeld => ?_)
    clear hK hk9 hb9 hHeld
    refine wpAnyH_done (by kernel_rfl) ?_ _
    go_wp2
    go_end0
    exact HE.out
 ·go_simp
  have HK1:Hid (Kpt K W0 (W0.alloc (exB s.x xa xc)).drew):=(Kpt.alloc K W0 _ HB0.out.lt).drew
  have HB1:Hid (BW K (W0.alloc (exB s.x xa xc)).drew v t):=(HB0.out.grown (grown_a _)).drew
  have HN1:Hid ((W0.alloc (exB s.x xa xc)).drew.heap[W0.heap.size]? = some (exB s.x xa xc) ∧ Free K (W0.alloc (exB s.x xa xc)).drew W0.heap.size):=HB0.out.new _
  refine hK.out _ _ (HS.out _ HK1.out) (fun hHeld => ?_)
  clear hK
  refine wpAnyH_ready (rs:=[4]) (by kernel_rfl) (by simp) ?_
  refine AllReadyH.cons (o:=_) rfl (fun K' hK => ?_) AllReadyH.nil
  go_simp
  refine (known_any K v t s.name _ rv HB1 HRV).mono ?_
  rintro e w2 ⟨hg2,he1⟩
  have HB2:Hid (BW K w2 v t):=HB1.out.grown hg2
  have HK2:Hid (Kpt K W0 w2):=HK1.out.trans (Kpt.grown hg2 HB1.out.lt)
  have HN2:=hid ((Kpt.grown hg2 HB1.out.lt).at HN1.out)
  cases hkn:Sm.known v s.name with
  | error y =>
   have hrv:rv = .error y:=by rw [HRV.out,hkn]
   subst hrv
   obtain rfl:=he1
   have HE:Hid (Bf K w v r (.panicked [fltE y K.num]) w2):=by
    rw [HRr.out,hkn]
    exact ⟨HK0.out.trans HK2.out,rfl,v,t,HB2.out,List.prefix_refl _⟩
   clear hK hg2 hkn
   go_wp2
   exact ⟨rfl,HE.out⟩
  | ok y =>
   have hrv:rv = .ok (tyV y):=by rw [HRV.out,hkn]
   subst hrv
   obtain rfl:=he1
   obtain ⟨em,hem⟩:∃ em,em = must (expr K.l me v d) y [s.x] t:=⟨_,rfl⟩
   have HEm:Hid (em = must (expr K.l me v d) y [s.x] t):=hem
   have HRm:Hid (r = andThen em fun t => .ok (.tuple #[],v,t)):=by unfold Hid; rw [HRr.out,hkn,andThen_ok,hem]
   refine hK.out _ _ (HS.out w2 HK2.out) (fun hHeld => ?_)
   clear hK hg2 hkn hem
   refine wpAnyH_ready (rs:=[8]) (by kernel_rfl) (by simp) ?_
   refine AllReadyH.cons (o:=_) rfl (fun K' hK => ?_) AllReadyH.nil
   go_simp
   refine (must_any K v d (expr K.l me v d) hC (expr_le K.l me v d) [s.x] (some ⟨W0.heap.size,0,none⟩) 1 y t (n + 1) m1 _ _ HB2 (ks_one HB2.out HN2.out HKX.out HK2.out) (by simp) HXs HT1 h2 (by rw [← HEm.out]; exact rfl)).mono ?_
   rintro e w9 ⟨hk9,he9⟩
   have HK9:Hid (Kpt K W0 w9):=HK2.out.trans hk9
   cases em with
   | error y =>
    obtain ⟨rfl,v2,t2,hb2,hp2⟩:=he9
    have HE:Hid (Bf K w v r (.panicked [fltE y K.num]) w9):=by
     rw [HRm.out]
     exact ⟨(HK0.out.trans HK9.out),rfl,v2,t2,hb2,hp2⟩
    clear hK hk9 hb2 hp2
    go_wp2
    exact ⟨rfl,HE.out⟩
   | ok t2 =>
    obtain ⟨rfl,hb9⟩:=he9
    have HE:Hid (Bf K w v r (.returned (.tuple #[])) w9):=by
     rw [HRm.out]
     exact ⟨HK0.out.trans HK9.out,rfl,hb9⟩
    have HB9:Hid (BW K w9 v t2):=hb9
    refine hK.out _ _ (HS.out w9 HK9.out) (fun hHeld => ?_)
    clear hK hk9 hb9 hHeld
    refine wpAnyH_done (by kernel_rfl) ?_ _
    go_wp2
    go_end0
    exact HE.out
theorem st_ret (K:BK) (me:Sy.Df) (d:Nat) (i:Nat) (hi:Hid (K.num = (i:Int))) (HMe:Hid (K.l[i]? = some me)) (_hB:Hid (CBl K me d)) (s:Sy.St) (xa ba ea:Option Addr) (xc bc ec:Nat) (v:Vars) (t:Tk) (n m m1:Nat) (w:World) (r:Except Int (Value × Vars × Tk)) (h:Hid (BW K w v t)) (hs:Hid (∃ h,StIn K.B w h s xa ba ea)) (hx1:Hid (Sy.exW d s.x (n + 1) = .ok m1)) (_htl:Hid (Sy.stTail (Sy.stW d) s m1 = .ok m)) (ht:Hid (TkLe t n)) (_hv:Hid (v.length ≤ n + 10)) (h2:n + 1 ≤ 2000)
  (hr:Hid (r = andThen (stat K.l me (d + 1) s v t) fun p => .ok (.tuple #[],p.1,p.2)))
  (hk:s.kind = 5) :
  Calls Tryz.prog 93 #[.pointer (some ⟨K.F,0,none⟩),stV s xa xc ba bc ea ec] w fun e w' => Bf K w v r e w':=by
 have hF:=h.out.lt
 obtain ⟨W0,hW0⟩:∃ W0,W0 = w.alloc (stB s xa xc ba bc ea ec):=⟨_,rfl⟩
 have HK0:Hid (Kpt K w W0):=by rw [hW0]; exact Kpt.alloc K w _ hF
 have HB0:Hid (BW K W0 v t):=by rw [hW0]; exact h.out.grown (grown_a _)
 have HS0:Hid (W0.heap[w.heap.size]? = some (stB s xa xc ba bc ea ec) ∧ Free K W0 w.heap.size):=by rw [hW0]; exact h.out.new _
 have HE0:Hid (∃ h,ExIn K.B W0 h s.x xa):=by
  obtain ⟨hh,hE⟩:=st_x hs.out
  exact ⟨hh,hE.same (h.out.same HK0.out)⟩
 have HW0:Hid (W0 = _):=hW0
 have hC:=hid (expr_any K v me i hi HMe d)
 have HT1:Hid (TkLe t (n + 1)):=ht.out.mono (by omega)
 clear hW0
 have HXs:Hid (Sy.runs (Sy.exW d) [s.x] (n + 1) = .ok m1):=by unfold Hid; simp [Sy.runs,hx1.out]
 have HKX:Hid (∃ hh,ExIn K.B W0 hh s.x xa ∧ BW K W0 v t):=by
  obtain ⟨hh,hE⟩:=HE0.out
  exact ⟨hh,hE,HB0.out⟩
 obtain ⟨em,hem⟩:∃ em,em = must (expr K.l me v d) me.ty [s.x] t:=⟨_,rfl⟩
 have HEm:Hid (em = must (expr K.l me v d) me.ty [s.x] t):=hem
 have HRr:Hid (r = andThen (fits (me.kind == 2)) fun _ => andThen em fun t => .ok (.tuple #[],v,t)):=by
  unfold Hid
  rw [hr.out,stat,if_neg (by omega),if_neg (by omega),if_neg (by omega),if_neg (by omega),if_pos hk,hem]
  cases fits (me.kind == 2) with
  | error e => rfl
  | ok u => rw [andThen_ok,andThen_ok]; cases must (expr K.l me v d) me.ty [s.x] t <;> rfl
 obtain ⟨o,sn,rr,cc,h4⟩:=h.out.rows
 obtain ⟨c0,c1,c2,_⟩:=bd_cells h4.blk
 rw [hi.out] at c2
 have hB0:K.B ≤ W0.heap.size:=by have:=HB0.out.base; have:=HB0.out.lt; omega
 have HD0:Hid (DfsIn K.B W0 K.l K.a):=HB0.out.dfs
 have HS:Hid (∀ w' v' t',Kpt K W0 w' → BW K w' v' t' → w'.cell? ⟨K.F,0,none⟩ = some (.slice K.a K.l.length K.c) ∧ w'.cell? ⟨K.F,1,none⟩ = some (.map (some K.M)) ∧ w'.cell? ⟨K.F,2,none⟩ = some (.int .i64 (i:Int)) ∧ w'.cell? ⟨w.heap.size,2,none⟩ = some (.int .i64 s.x.kind) ∧ w'.cell? ⟨w.heap.size,3,none⟩ = some (.int .i64 s.x.n) ∧ w'.cell? ⟨w.heap.size,4,none⟩ = some (.string s.x.name) ∧ w'.cell? ⟨w.heap.size,5,none⟩ = some (.slice xa s.x.kids.length xc)):=fun w' v' t' hk hb => by
  obtain ⟨_,g1,g2,g3,g4,g5,_,_⟩:=eight_cell (hk.at HS0.out).1
  obtain ⟨o,sn,rr,cc,h4⟩:=hb.rows
  obtain ⟨d0,d1,d2,_⟩:=bd_cells h4.blk
  rw [hi.out] at d2
  exact ⟨d0,d1,d2,g2,g3,g4,g5⟩
 have e1:(s.kind == 1) = false:=by rw [hk]; rfl
 have e2:(s.kind == 2) = false:=by rw [hk]; rfl
 have e3:(s.kind == 3) = false:=by rw [hk]; rfl
 have e4:(s.kind == 4) = false:=by rw [hk]; rfl
 have e5:(s.kind == 5) = true:=by rw [hk]; rfl
 clear hr h4 hk hem
 go_enter Tryz.func93,Tryz.ntmps93
 go_wp2_with fail
 rw [← HW0.out]
 refine (def_any K.B K.l K.a K.c K.M i me W0 HD0 hB0 HMe).mono ?_
 rintro e w1 ⟨hg1,val,rfl,pa,pc,ba',bc',rfl,hdf⟩
 have HG1:Hid (W0.grownBy w1 none):=hg1
 have HB1:Hid (BW K w1 v t):=HB0.out.grown hg1
 have hfk:=field_kind me pa pc ba' bc' w1
 obtain ⟨o',sn',rr',cc',h4⟩:=HB1.out.rows
 have H4:Hid (w1.heap[K.F]? = some (K.obj o' sn' rr' cc')):=h4.blk
 obtain ⟨bk,hbk⟩:∃ bk,bk = (me.kind == 2):=⟨_,rfl⟩
 have HBK:Hid (bk = (me.kind == 2)):=hbk
 have hbk':=hbk.symm
 obtain ⟨rf,hrf⟩:∃ rf:Except Int Value,rf = match Sm.fits bk with | .ok _ => .ok (.tuple #[]) | .error e => .error e:=⟨_,rfl⟩
 have HRF:Hid (rf = match Sm.fits bk with | .ok _ => .ok (.tuple #[]) | .error e => .error e):=hrf
 clear hg1 hdf h4 hbk hrf
 go_wp2_with fail
 refine (fits_any K.F K.l.length K.a K.c K.M K.num K.T o' sn' rr' cc' bk w1 rf H4 HRF).mono ?_
 rintro e w2 ⟨hg2,he2⟩
 have HG2:Hid (w1.grownBy w2 none):=hg2
 have HK02:Hid (Kpt K W0 w2):=(Kpt.grown HG1.out HB0.out.lt).trans (Kpt.grown hg2 HB1.out.lt)
 have HK2:Hid (Kpt K w w2):=HK0.out.trans HK02.out
 have HB2:Hid (BW K w2 v t):=HB1.out.grown hg2
 cases bk with
 | false =>
  have hrf:rf = .error 8:=HRF.out
  subst hrf
  obtain rfl:=he2
  have HE:Hid (Bf K w v r (.panicked [fltE 8 K.num]) w2):=by
   rw [HRr.out,← HBK.out]
   exact ⟨HK2.out,rfl,v,t,HB2.out,List.prefix_refl _⟩
  clear hg2
  go_wp2
  exact ⟨rfl,HE.out⟩
 | true =>
  have hrf:rf = .ok (.tuple #[]):=HRF.out
  subst hrf
  obtain rfl:=he2
  have HRm:Hid (r = andThen em fun t => .ok (.tuple #[],v,t)):=by unfold Hid; rw [HRr.out,← HBK.out]; rfl
  obtain ⟨d0,d1,d2,_⟩:=HS.out w2 v t HK02.out HB2.out
  have hF2:=HB2.out.lt
  have hB2:K.B ≤ w2.heap.size:=by have:=HB2.out.base; omega
  clear hg2 hfk c0 c1 c2
  go_wp2_with fail
  refine wp_region_held_drew (S:=fun w' => w'.cell? ⟨K.F,0,none⟩ = some (.slice K.a K.l.length K.c) ∧ w'.cell? ⟨K.F,1,none⟩ = some (.map (some K.M)) ∧ w'.cell? ⟨K.F,2,none⟩ = some (.int .i64 (i:Int)) ∧ w'.cell? ⟨w.heap.size,2,none⟩ = some (.int .i64 s.x.kind) ∧ w'.cell? ⟨w.heap.size,3,none⟩ = some (.int .i64 s.x.n) ∧ w'.cell? ⟨w.heap.size,4,none⟩ = some (.string s.x.name) ∧ w'.cell? ⟨w.heap.size,5,none⟩ = some (.slice xa s.x.kids.length xc)) (by kernel_rfl) (HS.out w2 v t HK02.out HB2.out) (fun hHeld => ?_)
  refine tk 0 (v:=?_) rfl ?_ (by assumption) ?_
  rotate_left
  ·intro w hSw
   (try dsimp only at hSw)
   go_simp
   (try with_reducible rfl)
  (try go_frame)
  refine tk 1 (v:=?_) rfl ?_ (by assumption) ?_
  rotate_left
  ·intro w hSw
   (try dsimp only at hSw)
   go_simp
   (try with_reducible rfl)
  (try go_frame)
  refine tk 2 (v:=?_) rfl ?_ (by assumption) ?_
  rotate_left
  ·intro w hSw
   (try dsimp only at hSw)
   go_simp
   (try with_reducible rfl)
  (try go_frame)
  refine tk 3 (v:=?_) rfl ?_ (by assumption) ?_
  rotate_left
  ·intro w hSw
   (try dsimp only at hSw)
   go_simp
   (try with_reducible rfl)
  (try go_frame)
  refine tk 4 (v:=?_) rfl ?_ (by assumption) ?_
  rotate_left
  ·intro w hSw
   (try dsimp only at hSw)
   go_simp
   (try with_reducible rfl)
  (try go_frame)
  refine tk 7 (v:=?_) rfl ?_ (by assumption) ?_
  rotate_left
  ·intro w hSw
   (try dsimp only at hSw)
   go_simp
   (try with_reducible rfl)
  (try go_frame)
  refine tk 8 (v:=?_) rfl ?_ (by assumption) ?_
  rotate_left
  ·intro w hSw
   (try dsimp only at hSw)
   go_simp
   (try with_reducible rfl)
  (try go_frame)
  refine wpAnyH_ready (rs:=[5,9]) (by kernel_rfl) (by simp) ?_
  refine AllReadyH.cons (o:=_) rfl (fun K' hK => ?_) (AllReadyH.cons (o:=_) rfl (fun K' hK => ?_) AllReadyH.nil)
  ·go_simp
   refine (def_any K.B K.l K.a K.c K.M i me w2.drew (by exact HB2.out.drew.dfs) (by exact hB2) HMe).mono ?_
   rintro e w3 ⟨hg3',val,rfl,pa',pc',ba2,bc2,rfl,hdf'⟩
   have hg3:w2.grownBy w3 none:=⟨hg3'.os,hg3'.tape,hg3'.output,hg3'.size,hg3'.block⟩
   have HK3:Hid (Kpt K W0 w3):=HK02.out.trans (Kpt.grown hg3 HB2.out.lt)
   have HB3:Hid (BW K w3 v t):=HB2.out.grown hg3
   refine hK.out _ _ (HS.out w3 v t HK3.out HB3.out) (fun hHeld => ?_)
   have hfy:=fun w => field_ty me pa' pc' ba2 bc2 w
   clear hK hg3' hdf' hg3
   refine tk 6 (v:=?_) rfl ?_ (by assumption) ?_
   rotate_left
   ·intro w hSw
    (try dsimp only at hSw)
    go_simp
    (try with_reducible rfl)
   (try go_frame)
   refine wpAnyH_ready (rs:=[9]) (by kernel_rfl) (by simp) ?_
   refine AllReadyH.cons (o:=_) rfl (fun K' hK => ?_) AllReadyH.nil
   go_simp
   have HK4:Hid (Kpt K W0 (w3.alloc (exB s.x xa xc))):=HK3.out.trans (Kpt.alloc K w3 _ HB3.out.lt)
   have HB4:Hid (BW K (w3.alloc (exB s.x xa xc)) v t):=HB3.out.grown (grown_a _)
   have HN4:=hid (HB3.out.new (exB s.x xa xc))
   refine hK.out _ _ (HS.out _ v t HK4.out HB4.out) (fun hHeld => ?_)
   clear hK
   refine wpAnyH_ready (rs:=[10]) (by kernel_rfl) (by simp) ?_
   refine AllReadyH.cons (o:=_) rfl (fun K' hK => ?_) AllReadyH.nil
   go_simp
   refine (must_any K v d (expr K.l me v d) hC (expr_le K.l me v d) [s.x] (some ⟨w3.heap.size,0,none⟩) 1 me.ty t (n + 1) m1 _ _ HB4 (ks_one HB4.out HN4.out HKX.out HK4.out) (by simp) HXs HT1 h2 (by rw [← HEm.out]; exact rfl)).mono ?_
   rintro e w9 ⟨hk9,he9⟩
   have HK9:Hid (Kpt K W0 w9):=HK4.out.trans hk9
   cases em with
   | error y =>
    obtain ⟨rfl,v2,t2,hb2,hp2⟩:=he9
    have HE:Hid (Bf K w v r (.panicked [fltE y K.num]) w9):=by
     rw [HRm.out]
     exact ⟨(HK0.out.trans HK9.out),rfl,v2,t2,hb2,hp2⟩
    clear hK hk9 hb2 hp2
    go_wp2
    exact ⟨rfl,HE.out⟩
   | ok t2 =>
    obtain ⟨rfl,hb9⟩:=he9
    have HE:Hid (Bf K w v r (.returned (.tuple #[])) w9):=by
     rw [HRm.out]
     exact ⟨HK0.out.trans HK9.out,rfl,hb9⟩
    have HB9:Hid (BW K w9 v t2):=hb9
    refine hK.out _ _ (HS.out w9 v t2 HK9.out HB9.out) (fun hHeld => ?_)
    clear hK hk9 hb9 hHeld
    refine wpAnyH_done (by kernel_rfl) ?_ _
    go_wp2
    go_end0
    exact HE.out
  ·go_simp
   have HK3:Hid (Kpt K w2 (w2.alloc (exB s.x xa xc)).drew):=(Kpt.alloc K w2 _ HB2.out.lt).drew
   have HB3:Hid (BW K (w2.alloc (exB s.x xa xc)).drew v t):=(HB2.out.grown (grown_a _)).drew
   have HN3:Hid ((w2.alloc (exB s.x xa xc)).drew.heap[w2.heap.size]? = some (exB s.x xa xc) ∧ Free K (w2.alloc (exB s.x xa xc)).drew w2.heap.size):=HB2.out.new _
   refine hK.out _ _ (HS.out _ v t (HK02.out.trans HK3.out) HB3.out) (fun hHeld => ?_)
   clear hK
   refine wpAnyH_ready (rs:=[5]) (by kernel_rfl) (by simp) ?_
   refine AllReadyH.cons (o:=_) rfl (fun K' hK => ?_) AllReadyH.nil
   go_simp
   refine (def_any K.B K.l K.a K.c K.M i me _ (by exact HB3.out.dfs) (by simp; omega) HMe).mono ?_
   rintro e w3 ⟨hg3,val,rfl,pa',pc',ba2,bc2,rfl,hdf'⟩
   have HK4:Hid (Kpt K W0 w3):=(HK02.out.trans HK3.out).trans (Kpt.grown hg3 HB3.out.lt)
   have HB4:Hid (BW K w3 v t):=HB3.out.grown hg3
   have HN4:=hid ((Kpt.grown hg3 HB3.out.lt).at HN3.out)
   have hfy:=fun w => field_ty me pa' pc' ba2 bc2 w
   refine hK.out _ _ (HS.out _ v t HK4.out HB4.out) (fun hHeld => ?_)
   clear hK hg3 hdf'
   refine tk 6 (v:=?_) rfl ?_ (by assumption) ?_
   rotate_left
   ·intro w hSw
    (try dsimp only at hSw)
    go_simp
    (try with_reducible rfl)
   (try go_frame)
   refine wpAnyH_ready (rs:=[10]) (by kernel_rfl) (by simp) ?_
   refine AllReadyH.cons (o:=_) rfl (fun K' hK => ?_) AllReadyH.nil
   go_simp
   refine (must_any K v d (expr K.l me v d) hC (expr_le K.l me v d) [s.x] (some ⟨w2.heap.size,0,none⟩) 1 me.ty t (n + 1) m1 _ _ HB4 (ks_one HB4.out HN4.out HKX.out HK4.out) (by simp) HXs HT1 h2 (by rw [← HEm.out]; exact rfl)).mono ?_
   rintro e w9 ⟨hk9,he9⟩
   have HK9:Hid (Kpt K W0 w9):=HK4.out.trans hk9
   cases em with
   | error y =>
    obtain ⟨rfl,v2,t2,hb2,hp2⟩:=he9
    have HE:Hid (Bf K w v r (.panicked [fltE y K.num]) w9):=by
     rw [HRm.out]
     exact ⟨(HK0.out.trans HK9.out),rfl,v2,t2,hb2,hp2⟩
    clear hK hk9 hb2 hp2
    go_wp2
    exact ⟨rfl,HE.out⟩
   | ok t2 =>
    obtain ⟨rfl,hb9⟩:=he9
    have HE:Hid (Bf K w v r (.returned (.tuple #[])) w9):=by
     rw [HRm.out]
     exact ⟨HK0.out.trans HK9.out,rfl,hb9⟩
    have HB9:Hid (BW K w9 v t2):=hb9
    refine hK.out _ _ (HS.out w9 v t2 HK9.out HB9.out) (fun hHeld => ?_)
    clear hK hk9 hb9 hHeld
    refine wpAnyH_done (by kernel_rfl) ?_ _
    go_wp2
    go_end0
    exact HE.out
end Sm
end Go.Proofs.YtbioaoangfiijaaGreatDoor
