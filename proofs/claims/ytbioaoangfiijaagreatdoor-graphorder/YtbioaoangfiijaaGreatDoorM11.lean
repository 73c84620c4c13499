/- The walk of spoken: yields and resumes. -/
import Derived.Test.YtbioaoangfiijaaGreatDoorM10
set_option maxRecDepth 100000
set_option maxHeartbeats 4000000
namespace Go.Proofs.YtbioaoangfiijaaGreatDoor
open Go.RowKit
namespace Sm
theorem ks_one {K:BK} {w0 w:World} {v:Vars} {t:Tk} {kd:Sy.Ex} {ka:Option Addr} {kc N:Nat} {v0:Vars} {t0:Tk} (_:BW K w v t) (hN:w.heap[N]? = some (exB kd ka kc) ∧ Free K w N) (hE:∃ hh,ExIn K.B w0 hh kd ka ∧ BW K w0 v0 t0) (hk:Kpt K w0 w):KsAt K w [kd] (some ⟨N,0,none⟩):=fun i k hi => by
 obtain rfl:i = 0:=by have:=(List.getElem?_eq_some_iff.1 hi).1; simp at this; exact this
 simp at hi
 subst hi
 obtain ⟨g0,g1,g2,g3⟩:=four_cell hN.1
 obtain ⟨hh,hE,hB⟩:=hE
 exact ⟨N,0,ka,kc,rfl,lt_of_block hN.1,hN.2,by simpa using g0,by simpa using g1,by simpa using g2,by simpa using g3,hh,hE.same (hB.same hk)⟩
theorem spoken_yield
  (K:BK) (v:Vars) (d:Nat) (ex:Sy.Ex → Tk → Except Int (Sy.Ty × Tk)) (hC:Hid (CEx K v d ex)) (hle:Hid (ExLe d ex)) (me:Sy.Df) (x:Sy.Ex) (xa:Option Addr) (xc:Nat) (t:Tk) (n m:Nat) (w:World) (r:Except Int (Value × Vars × Tk)) (h:Hid (BW K w v t)) (hx:Hid (∃ h,ExIn K.B w h x xa)) (hn:Hid (Sy.runs (Sy.exW d) x.kids (n + 1) = .ok m)) (ht:Hid (TkLe t n)) (h2:n + 1 ≤ 2000)
    (hr:Hid (r = andThen (spoken K.l me ex x t) fun p => .ok (tyV p.1,v,p.2)))
  (hk:x.kind = 21) (hh:Sy.exHead x = 0) (i:Nat) (hi:Hid (K.num = (i:Int))) (HMe:Hid (K.l[i]? = some me)) :
  Calls Tryz.prog 115 #[.pointer (some ⟨K.F,0,none⟩),exV x xa xc] w fun e w' => Bf K w v r e w'
  := by
 obtain ⟨kd,hkd⟩:=kids_one hh (by omega)
 have hF:=h.out.lt
 obtain ⟨W0,hW0⟩:∃ W0,W0 = (w.alloc (exB x xa xc)).alloc zT:=⟨_,rfl⟩
 have HK0:Hid (Kpt K w W0):=by rw [hW0]; exact Kpt.grown (grown_a2 _ _) hF
 have HB0:Hid (BW K W0 v t):=by rw [hW0]; exact h.out.grown (grown_a2 _ _)
 have HX0:Hid (W0.heap[w.heap.size]? = some (exB x xa xc) ∧ Free K W0 w.heap.size):=by
  rw [hW0]
  exact (Kpt.alloc K _ _ (by simp; omega)).at (h.out.new _)
 have HZ0:Hid (W0.heap[w.heap.size + 1]? = some zT ∧ Free K W0 (w.heap.size + 1)):=by
  rw [hW0]
  refine ⟨?_,h.out.free (grown_a2 _ _) (by omega)⟩
  have:=heap_alloc_new (w.alloc (exB x xa xc)) zT
  simpa using this
 have HE0:Hid (∃ h,ExIn K.B W0 h x xa):=by
  obtain ⟨hh,hE⟩:=hx.out
  exact ⟨hh,hE.same (h.out.same HK0.out)⟩
 have HW0:Hid (W0 = _):=hW0
 have hBw:K.B ≤ w.heap.size + 1:=by have:=h.out.base; omega
 clear hW0
 have hx0:kid x 0 = kd:=by simp [kid,hkd]
 obtain ⟨er,her⟩:∃ er,er = must ex me.ty [kd] t:=⟨_,rfl⟩
 have HEr:Hid (er = must ex me.ty [kd] t):=her
 have HRr:Hid (r = andThen (fits (me.kind == 3)) fun _ => andThen er fun t => .ok (tyV me.takes,v,t)):=by
  unfold Hid
  rw [hr.out,spoken,if_neg (by omega),if_neg (by omega),if_neg (by omega),if_pos hk,hx0,her]
  cases fits (me.kind == 3) with
  | error e => rfl
  | ok u => cases must ex me.ty [kd] t <;> rfl
 have HX1:Hid (Sy.runs (Sy.exW d) [kd] (n + 1) = .ok m):=by rw [← hkd]; exact hn
 have HT1:Hid (TkLe t (n + 1)):=ht.out.mono (by omega)
 obtain ⟨o,sn,rr,cc,h4⟩:=h.out.rows
 obtain ⟨c0,c1,c2,_⟩:=bd_cells h4.blk
 rw [hi.out] at c2
 obtain ⟨y0,_,_,y3⟩:=four_cell HX0.out.1
 have hB0:K.B ≤ W0.heap.size:=by have:=HB0.out.base; have:=HB0.out.lt; omega
 have e19:(x.kind == 19) = false:=by simp; omega
 have e22:(x.kind == 22) = false:=by simp; omega
 have e20:(x.kind == 20) = false:=by simp; omega
 have e21:(x.kind == 21) = true:=by simpa using hk
 have HKD:Hid (x.kids = [kd]):=hkd
 have HD0:Hid (DfsIn K.B W0 K.l K.a):=HB0.out.dfs
 clear hr h4 hk hn hkd hh hx0 her
 go_enter Tryz.func115,Tryz.ntmps115
 go_wp2_with fail
 rw [← HW0.out]
 refine (def_any K.B K.l K.a K.c K.M i me W0 HD0 hB0 HMe).mono ?_
 rintro e w1 ⟨hg1,val,rfl,pa,pc,ba,bc,rfl,hdf⟩
 have HG1:Hid (W0.grownBy w1 none):=hg1
 have HB1:Hid (BW K w1 v t):=HB0.out.grown hg1
 have hfk:=field_kind me pa pc ba bc w1
 obtain ⟨o',sn',rr',cc',h4⟩:=HB1.out.rows
 have H4:Hid (w1.heap[K.F]? = some (K.obj o' sn' rr' cc')):=h4.blk
 obtain ⟨bk,hbk⟩:∃ bk,bk = (me.kind == 3):=⟨_,rfl⟩
 have HBK:Hid (bk = (me.kind == 3)):=hbk
 have hbk':=hbk.symm
 obtain ⟨rf,hrf⟩:∃ rf:Except Int Value,rf = match Sm.fits bk with | .ok _ => .ok (.tuple #[]) | .error e => .error e:=⟨_,rfl⟩
 have HRF:Hid (rf = match Sm.fits bk with | .ok _ => .ok (.tuple #[]) | .error e => .error e):=hrf
 clear hg1 hdf h4 hbk hrf
 go_wp2_with fail
 refine (fits_any K.F K.l.length K.a K.c K.M K.num K.T o' sn' rr' cc' bk w1 rf H4 HRF).mono ?_
 rintro e w2 ⟨hg2,he2⟩
 have HG2:Hid (w1.grownBy w2 none):=hg2
 have HK2:Hid (Kpt K w w2):=(HK0.out.trans (Kpt.grown HG1.out HB0.out.lt)).trans (Kpt.grown hg2 HB1.out.lt)
 have HB2:Hid (BW K w2 v t):=HB1.out.grown hg2
 cases bk with
 | false =>
  have hrf:rf = .error 8:=HRF.out
  subst hrf
  obtain rfl:=he2
  have HE:Hid (Bf K w v r (.panicked [fltE 8 K.num]) w2):=by
   rw [HRr.out,← HBK.out]
   exact ⟨HK2.out,rfl,v,t,HB2.out,List.prefix_refl _⟩
  clear hg2
  go_wp2
  exact ⟨rfl,HE.out⟩
 | true =>
  have hrf:rf = .ok (.tuple #[]):=HRF.out
  subst hrf
  obtain rfl:=he2
  have HRm:Hid (r = andThen er fun t => .ok (tyV me.takes,v,t)):=by unfold Hid; rw [HRr.out,← HBK.out]; rfl
  have hk02:=(Kpt.grown (K:=K) HG1.out HB0.out.lt).trans (Kpt.grown hg2 HB1.out.lt)
  have HX2:=hid (hk02.at HX0.out)
  have HZ2:=hid (hk02.at HZ0.out)
  obtain ⟨hh,kb,ko,ka,kc,hxa,hkb,q0,q1,q2,q3,hkx⟩:∃ hh kb ko ka kc,xa = some ⟨kb,ko,none⟩ ∧ kb < K.B ∧ w2.cell? ⟨kb,ko,none⟩ = some (.int .i64 kd.kind) ∧ w2.cell? ⟨kb,ko + 1,none⟩ = some (.int .i64 kd.n) ∧ w2.cell? ⟨kb,ko + 2,none⟩ = some (.string kd.name) ∧ w2.cell? ⟨kb,ko + 3,none⟩ = some (.slice ka kd.kids.length kc) ∧ ExIn K.B w2 hh kd ka:=by
   obtain ⟨hh,hE⟩:=HE0.out
   cases hh with
   | zero => exact hE.elim
   | succ hh =>
    obtain ⟨b',off',a',c',e1,e2,e3,e4,e5,e6,e7⟩:=(ExIn.same (HB0.out.same hk02) _ _ _ hE).2.2 0 kd (by rw [HKD.out]; rfl)
    simp only [Nat.zero_mul,Nat.add_zero] at e3 e4 e5 e6
    exact ⟨hh,b',off',a',c',e1,e2,e3,e4,e5,e6,e7⟩
  have HKX:Hid (∃ hh,ExIn K.B w2 hh kd ka ∧ BW K w2 v t):=⟨hh,hkx,HB2.out⟩
  have HXA:Hid (xa = some ⟨kb,ko,none⟩):=hxa
  have HS:Hid (∀ w' v' t',Kpt K w2 w' → BW K w' v' t' → w'.cell? ⟨K.F,0,none⟩ = some (.slice K.a K.l.length K.c) ∧ w'.cell? ⟨K.F,1,none⟩ = some (.map (some K.M)) ∧ w'.cell? ⟨K.F,2,none⟩ = some (.int .i64 (i:Int)) ∧ w'.cell? ⟨w.heap.size,3,none⟩ = some (.slice (some ⟨kb,ko,none⟩) 1 xc) ∧ w'.cell? ⟨kb,ko,none⟩ = some (.int .i64 kd.kind) ∧ w'.cell? ⟨kb,ko + 1,none⟩ = some (.int .i64 kd.n) ∧ w'.cell? ⟨kb,ko + 2,none⟩ = some (.string kd.name) ∧ w'.cell? ⟨kb,ko + 3,none⟩ = some (.slice ka kd.kids.length kc)):=fun w' v' t' hk hb => by
   obtain ⟨o,sn,rr,cc,h4⟩:=hb.rows
   obtain ⟨d0,d1,d2,_⟩:=bd_cells h4.blk
   obtain ⟨_,_,_,x3'⟩:=four_cell (hk.at HX2.out).1
   rw [hi.out] at d2
   rw [HKD.out,HXA.out] at x3'
   have old:∀ o,w'.cell? ⟨kb,o,none⟩ = w2.cell? ⟨kb,o,none⟩:=fun o => HB2.out.same hk kb o hkb
   rw [old,old,old,old]
   exact ⟨d0,d1,d2,x3',q0,q1,q2,q3⟩
  have hS2:=HS.out w2 v t (Kpt.refl _ _) HB2.out
  obtain ⟨d0,d1,d2,d3,_⟩:=hS2
  have hF2:=HB2.out.lt
  have hB2:K.B ≤ w2.heap.size:=by have:=HB2.out.base; omega
  clear hg2 hfk c0 c1 c2 hxa hkx
  go_wp2_with fail
  refine wp_region_held_drew (S:=fun w' => w'.cell? ⟨K.F,0,none⟩ = some (.slice K.a K.l.length K.c) ∧ w'.cell? ⟨K.F,1,none⟩ = some (.map (some K.M)) ∧ w'.cell? ⟨K.F,2,none⟩ = some (.int .i64 (i:Int)) ∧ w'.cell? ⟨w.heap.size,3,none⟩ = some (.slice (some ⟨kb,ko,none⟩) 1 xc) ∧ w'.cell? ⟨kb,ko,none⟩ = some (.int .i64 kd.kind) ∧ w'.cell? ⟨kb,ko + 1,none⟩ = some (.int .i64 kd.n) ∧ w'.cell? ⟨kb,ko + 2,none⟩ = some (.string kd.name) ∧ w'.cell? ⟨kb,ko + 3,none⟩ = some (.slice ka kd.kids.length kc)) (by kernel_rfl) (HS.out w2 v t (Kpt.refl _ _) HB2.out) (fun hHeld => ?_)
  refine tk 0 (v:=?_) rfl ?_ (by assumption) ?_
  rotate_left
  ·intro w hSw
   (try dsimp only at hSw)
   go_simp
   (try with_reducible rfl)
  (try go_frame)
  refine tk 1 (v:=?_) rfl ?_ (by assumption) ?_
  rotate_left
  ·intro w hSw
   (try dsimp only at hSw)
   go_simp
   (try with_reducible rfl)
  (try go_frame)
  refine tk 2 (v:=?_) rfl ?_ (by assumption) ?_
  rotate_left
  ·intro w hSw
   (try dsimp only at hSw)
   go_simp
   (try with_reducible rfl)
  (try go_frame)
  refine tk 3 (v:=?_) rfl ?_ (by assumption) ?_
  rotate_left
  ·intro w hSw
   (try dsimp only at hSw)
   go_simp
   (try with_reducible rfl)
  (try go_frame)
  refine tk 4 (v:=?_) rfl ?_ (by assumption) ?_
  rotate_left
  ·intro w hSw
   (try dsimp only at hSw)
   go_simp
   (try with_reducible rfl)
  (try go_frame)
  refine tk 7 (v:=?_) rfl ?_ (by assumption) ?_
  rotate_left
  ·intro w hSw
   (try dsimp only at hSw)
   go_simp
   (try with_reducible rfl)
  (try go_frame)
  refine tk 8 (v:=?_) rfl ?_ (by assumption) ?_
  rotate_left
  ·intro w hSw
   (try dsimp only at hSw)
   go_simp
   (try with_reducible rfl)
  (try go_frame)
  refine tk 9 (v:=?_) rfl ?_ (by assumption) ?_
  rotate_left
  ·intro w hSw
   (try dsimp only at hSw)
   go_simp
   (try with_reducible rfl)
  (try go_frame)
  refine tk 10 (v:=?_) rfl ?_ (by assumption) ?_
  rotate_left
  ·intro w hSw
   (try dsimp only at hSw)
   go_simp
   (try with_reducible rfl)
  (try go_frame)
  refine wpAnyH_ready (rs:=[5,11]) (by kernel_rfl) (by simp) ?_
  refine AllReadyH.cons (o:=_) rfl (fun K' hK => ?_) (AllReadyH.cons (o:=_) rfl (fun K' hK => ?_) AllReadyH.nil)
  ·go_simp
   refine (def_any K.B K.l K.a K.c K.M i me w2.drew (by exact HB2.out.drew.dfs) (by exact hB2) HMe).mono ?_
   rintro e w3 ⟨hg3',val,rfl,pa',pc',ba',bc',rfl,hdf'⟩
   have hg3:w2.grownBy w3 none:=⟨hg3'.os,hg3'.tape,hg3'.output,hg3'.size,hg3'.block⟩
   have HK3:Hid (Kpt K w2 w3):=Kpt.grown hg3 HB2.out.lt
   have HB3:Hid (BW K w3 v t):=HB2.out.grown hg3
   refine hK.out _ _ (HS.out w3 v t HK3.out HB3.out) (fun hHeld => ?_)
   have hfy:=fun w => field_ty me pa' pc' ba' bc' w
   clear hK hg3' hdf' hg3
   refine tk 6 (v:=?_) rfl ?_ (by assumption) ?_
   rotate_left
   ·intro w hSw
    (try dsimp only at hSw)
    go_simp
    (try with_reducible rfl)
   (try go_frame)
   refine wpAnyH_ready (rs:=[11]) (by kernel_rfl) (by simp) ?_
   refine AllReadyH.cons (o:=_) rfl (fun K' hK => ?_) AllReadyH.nil
   go_simp
   have HK4:Hid (Kpt K w2 (w3.alloc (exB kd ka kc))):=HK3.out.trans (Kpt.alloc K w3 _ HB3.out.lt)
   have HB4:Hid (BW K (w3.alloc (exB kd ka kc)) v t):=HB3.out.grown (grown_a _)
   have HN4:=hid (HB3.out.new (exB kd ka kc))
   refine hK.out _ _ (HS.out _ v t HK4.out HB4.out) (fun hHeld => ?_)
   clear hK
   refine wpAnyH_ready (rs:=[12]) (by kernel_rfl) (by simp) ?_
   refine AllReadyH.cons (o:=_) rfl (fun K' hK => ?_) AllReadyH.nil
   go_simp
   refine (must_any K v d ex hC hle [kd] (some ⟨w3.heap.size,0,none⟩) 1 me.ty t (n + 1) m _ _ HB4 (ks_one HB4.out HN4.out HKX.out HK4.out) (by simp) HX1 HT1 h2 (by rw [← HEr.out]; exact rfl)).mono ?_
   rintro e w9 ⟨hk9,he9⟩
   have HK9:Hid (Kpt K w2 w9):=HK4.out.trans hk9
   cases er with
   | error y =>
    obtain ⟨rfl,v2,t2,hb2,hp2⟩:=he9
    have HE:Hid (Bf K w v r (.panicked [fltE y K.num]) w9):=by
     rw [HRm.out]
     exact ⟨HK2.out.trans HK9.out,rfl,v2,t2,hb2,hp2⟩
    clear hK hk9 hb2 hp2
    go_wp2
    exact ⟨rfl,HE.out⟩
   | ok t2 =>
    obtain ⟨rfl,hb9⟩:=he9
    have HB9:Hid (BW K w9 v t2):=hb9
    have HRe:Hid (r = .ok (tyV me.takes,v,t2)):=HRm.out
    have hs9:=HS.out w9 v t2 HK9.out HB9.out
    refine hK.out _ _ hs9 (fun hHeld => ?_)
    clear hK hk9 hb9 hHeld
    refine wpAnyH_done (by kernel_rfl) ?_ _
    obtain ⟨g0,g1,g2,_⟩:=hs9
    go_wp2_with fail
    refine (def_any K.B K.l K.a K.c K.M i me w9 HB9.out.dfs (by have:=HB9.out.base; have:=HB9.out.lt; omega) HMe).mono ?_
    rintro e w10 ⟨hg10,val,rfl,pa',pc',ba',bc',rfl,hdf'⟩
    have HB10:Hid (BW K w10 v t2):=HB9.out.grown hg10
    have HK10:Hid (Kpt K w w10):=(HK2.out.trans HK9.out).trans (Kpt.grown hg10 HB9.out.lt)
    have HZ10:=hid ((Kpt.grown hg10 HB9.out.lt).at (HK9.out.at HZ2.out))
    have hfd:=field_takes me pa' pc' ba' bc' w10
    clear hg10 hdf'
    have HTE:=hid (ty_end (y:=me.takes) (Z:=w.heap.size + 1) HB10.out HK10.out HZ10.out (by omega) hBw hF HRe.out)
    obtain ⟨W9,hW9⟩:∃ W9,W9 = (w10.setCell ⟨w.heap.size + 1,0,none⟩ (.int .i64 (me.takes).kind)).setCell ⟨w.heap.size + 1,1,none⟩ (.string (me.takes).gen):=⟨_,rfl⟩
    have HW9:Hid (W9 = _):=hW9
    obtain ⟨ez0,ez1,ef0,ef1⟩:=two_cell (HZ10.out).1
    clear hW9
    go_wp2
    rw [show (w10.setCell ⟨w.heap.size + 1,0,none⟩ (.int .i64 (me.takes).kind)).setCell ⟨w.heap.size + 1,1,none⟩ (.string (me.takes).gen) = W9 from HW9.out.symm]
    have q9:=HTE.out.2
    rw [show twoS w10 (w.heap.size + 1) (.int .i64 (me.takes).kind) (.string (me.takes).gen) = W9 from HW9.out.symm] at q9
    refine bodyPost_ret (v:=tyV me.takes) (by simp [results,Tryz.results115,go_sem,World.cell?,q9]) rfl ?_
    rw [HW9.out]
    exact HTE.out.1
  ·go_simp
   have HK3:Hid (Kpt K w2 (w2.alloc (exB kd ka kc)).drew):=(Kpt.alloc K w2 _ HB2.out.lt).drew
   have HB3:Hid (BW K (w2.alloc (exB kd ka kc)).drew v t):=(HB2.out.grown (grown_a _)).drew
   have HN3:Hid ((w2.alloc (exB kd ka kc)).drew.heap[w2.heap.size]? = some (exB kd ka kc) ∧ Free K (w2.alloc (exB kd ka kc)).drew w2.heap.size):=HB2.out.new (exB kd ka kc)
   refine hK.out _ _ (HS.out _ v t HK3.out HB3.out) (fun hHeld => ?_)
   clear hK
   refine wpAnyH_ready (rs:=[5]) (by kernel_rfl) (by simp) ?_
   refine AllReadyH.cons (o:=_) rfl (fun K' hK => ?_) AllReadyH.nil
   go_simp
   refine (def_any K.B K.l K.a K.c K.M i me _ (by exact HB3.out.dfs) (by simp; omega) HMe).mono ?_
   rintro e w3 ⟨hg3,val,rfl,pa',pc',ba',bc',rfl,hdf'⟩
   have HK4:Hid (Kpt K w2 w3):=HK3.out.trans (Kpt.grown hg3 HB3.out.lt)
   have HB4:Hid (BW K w3 v t):=HB3.out.grown hg3
   have HN4:=hid ((Kpt.grown hg3 HB3.out.lt).at HN3.out)
   have hfy:=fun w => field_ty me pa' pc' ba' bc' w
   refine hK.out _ _ (HS.out _ v t HK4.out HB4.out) (fun hHeld => ?_)
   clear hK hg3 hdf'
   refine tk 6 (v:=?_) rfl ?_ (by assumption) ?_
   rotate_left
   ·intro w hSw
    (try dsimp only at hSw)
    go_simp
    (try with_reducible rfl)
   (try go_frame)
   refine wpAnyH_ready (rs:=[12]) (by kernel_rfl) (by simp) ?_
   refine AllReadyH.cons (o:=_) rfl (fun K' hK => ?_) AllReadyH.nil
   go_simp
   refine (must_any K v d ex hC hle [kd] (some ⟨w2.heap.size,0,none⟩) 1 me.ty t (n + 1) m _ _ HB4 (ks_one HB4.out HN4.out HKX.out HK4.out) (by simp) HX1 HT1 h2 (by rw [← HEr.out]; exact rfl)).mono ?_
   rintro e w9 ⟨hk9,he9⟩
   have HK9:Hid (Kpt K w2 w9):=HK4.out.trans hk9
   cases er with
   | error y =>
    obtain ⟨rfl,v2,t2,hb2,hp2⟩:=he9
    have HE:Hid (Bf K w v r (.panicked [fltE y K.num]) w9):=by
     rw [HRm.out]
     exact ⟨HK2.out.trans HK9.out,rfl,v2,t2,hb2,hp2⟩
    clear hK hk9 hb2 hp2
    go_wp2
    exact ⟨rfl,HE.out⟩
   | ok t2 =>
    obtain ⟨rfl,hb9⟩:=he9
    have HB9:Hid (BW K w9 v t2):=hb9
    have HRe:Hid (r = .ok (tyV me.takes,v,t2)):=HRm.out
    have hs9:=HS.out w9 v t2 HK9.out HB9.out
    refine hK.out _ _ hs9 (fun hHeld => ?_)
    clear hK hk9 hb9 hHeld
    refine wpAnyH_done (by kernel_rfl) ?_ _
    obtain ⟨g0,g1,g2,_⟩:=hs9
    go_wp2_with fail
    refine (def_any K.B K.l K.a K.c K.M i me w9 HB9.out.dfs (by have:=HB9.out.base; have:=HB9.out.lt; omega) HMe).mono ?_
    rintro e w10 ⟨hg10,val,rfl,pa',pc',ba',bc',rfl,hdf'⟩
    have HB10:Hid (BW K w10 v t2):=HB9.out.grown hg10
    have HK10:Hid (Kpt K w w10):=(HK2.out.trans HK9.out).trans (Kpt.grown hg10 HB9.out.lt)
    have HZ10:=hid ((Kpt.grown hg10 HB9.out.lt).at (HK9.out.at HZ2.out))
    have hfd:=field_takes me pa' pc' ba' bc' w10
    clear hg10 hdf'
    have HTE:=hid (ty_end (y:=me.takes) (Z:=w.heap.size + 1) HB10.out HK10.out HZ10.out (by omega) hBw hF HRe.out)
    obtain ⟨W9,hW9⟩:∃ W9,W9 = (w10.setCell ⟨w.heap.size + 1,0,none⟩ (.int .i64 (me.takes).kind)).setCell ⟨w.heap.size + 1,1,none⟩ (.string (me.takes).gen):=⟨_,rfl⟩
    have HW9:Hid (W9 = _):=hW9
    obtain ⟨ez0,ez1,ef0,ef1⟩:=two_cell (HZ10.out).1
    clear hW9
    go_wp2
    rw [show (w10.setCell ⟨w.heap.size + 1,0,none⟩ (.int .i64 (me.takes).kind)).setCell ⟨w.heap.size + 1,1,none⟩ (.string (me.takes).gen) = W9 from HW9.out.symm]
    have q9:=HTE.out.2
    rw [show twoS w10 (w.heap.size + 1) (.int .i64 (me.takes).kind) (.string (me.takes).gen) = W9 from HW9.out.symm] at q9
    refine bodyPost_ret (v:=tyV me.takes) (by simp [results,Tryz.results115,go_sem,World.cell?,q9]) rfl ?_
    rw [HW9.out]
    exact HTE.out.1
end Sm
namespace Sm
theorem spoken_resume
  (K:BK) (v:Vars) (d:Nat) (ex:Sy.Ex → Tk → Except Int (Sy.Ty × Tk)) (hC:Hid (CEx K v d ex)) (hle:Hid (ExLe d ex)) (me:Sy.Df) (x:Sy.Ex) (xa:Option Addr) (xc:Nat) (t:Tk) (n m:Nat) (w:World) (r:Except Int (Value × Vars × Tk)) (h:Hid (BW K w v t)) (hx:Hid (∃ h,ExIn K.B w h x xa)) (hn:Hid (Sy.runs (Sy.exW d) x.kids (n + 1) = .ok m)) (ht:Hid (TkLe t n)) (h2:n + 1 ≤ 2000)
    (hr:Hid (r = andThen (spoken K.l me ex x t) fun p => .ok (tyV p.1,v,p.2)))
  (hk:x.kind = 23) (hh:Sy.exHead x = 0) :
  Calls Tryz.prog 115 #[.pointer (some ⟨K.F,0,none⟩),exV x xa xc] w fun e w' => Bf K w v r e w'
  := by
 obtain ⟨kd,ke,hkd⟩:=kids_two hh (by omega)
 have hF:=h.out.lt
 obtain ⟨W0,hW0⟩:∃ W0,W0 = (w.alloc (exB x xa xc)).alloc zT:=⟨_,rfl⟩
 have HK0:Hid (Kpt K w W0):=by rw [hW0]; exact Kpt.grown (grown_a2 _ _) hF
 have HB0:Hid (BW K W0 v t):=by rw [hW0]; exact h.out.grown (grown_a2 _ _)
 have HX0:Hid (W0.heap[w.heap.size]? = some (exB x xa xc) ∧ Free K W0 w.heap.size):=by
  rw [hW0]
  exact (Kpt.alloc K _ _ (by simp; omega)).at (h.out.new _)
 have HZ0:Hid (W0.heap[w.heap.size + 1]? = some zT ∧ Free K W0 (w.heap.size + 1)):=by
  rw [hW0]
  refine ⟨?_,h.out.free (grown_a2 _ _) (by omega)⟩
  have:=heap_alloc_new (w.alloc (exB x xa xc)) zT
  simpa using this
 have HE0:Hid (∃ h,ExIn K.B W0 h x xa):=by
  obtain ⟨hh,hE⟩:=hx.out
  exact ⟨hh,hE.same (h.out.same HK0.out)⟩
 have HW0:Hid (W0 = _):=hW0
 have hBw:K.B ≤ w.heap.size + 1:=by have:=h.out.base; omega
 clear hW0
 have hx0:kid x 0 = kd:=by simp [kid,hkd]
 have hx1:kid x 1 = ke:=by simp [kid,hkd]
 obtain ⟨er,her⟩:∃ er,er = started K.l ex kd t:=⟨_,rfl⟩
 have HEr:Hid (er = started K.l ex kd t):=her
 have HRr:Hid (r = andThen er fun g => andThen (must ex g.1.takes [ke] g.2) fun t => .ok (tyV g.1.ty,v,t)):=by
  unfold Hid
  rw [hr.out,spoken,if_neg (by omega),if_neg (by omega),if_neg (by omega),if_neg (by omega),hx0,hx1,her]
  cases started K.l ex kd t with
  | error e => rfl
  | ok g => rw [andThen_ok,andThen_ok]; cases must ex g.1.takes [ke] g.2 <;> rfl
 have hn':=hn.out
 rw [hkd] at hn'
 obtain ⟨n1,hn1,hn2⟩:=runs_cons hn'
 have HX1:Hid (Sy.exW d kd (n + 1) = .ok n1):=hn1
 have HX2':Hid (Sy.runs (Sy.exW d) [ke] n1 = .ok m):=hn2
 have h12:n1 ≤ 2000:=Sy.exW_le d kd (n + 1) n1 h2 hn1
 have HT1:Hid (TkLe t (n + 1)):=ht.out.mono (by omega)
 have HKD:Hid (x.kids = [kd,ke]):=hkd
 obtain ⟨hh',kb,ko,ka,kc,kl,km,hxa,hkb,q0,q1,q2,q3,hkx,p0,p1,p2,p3,hky⟩:∃ hh kb ko ka kc kl km,xa = some ⟨kb,ko,none⟩ ∧ kb < K.B ∧ w.cell? ⟨kb,ko,none⟩ = some (.int .i64 kd.kind) ∧ w.cell? ⟨kb,ko + 1,none⟩ = some (.int .i64 kd.n) ∧ w.cell? ⟨kb,ko + 2,none⟩ = some (.string kd.name) ∧ w.cell? ⟨kb,ko + 3,none⟩ = some (.slice ka kd.kids.length kc) ∧ ExIn K.B w hh kd ka ∧ w.cell? ⟨kb,ko + 4,none⟩ = some (.int .i64 ke.kind) ∧ w.cell? ⟨kb,ko + 5,none⟩ = some (.int .i64 ke.n) ∧ w.cell? ⟨kb,ko + 6,none⟩ = some (.string ke.name) ∧ w.cell? ⟨kb,ko + 7,none⟩ = some (.slice kl ke.kids.length km) ∧ ExIn K.B w hh ke kl:=by
  obtain ⟨hh,hE⟩:=hx.out
  cases hh with
  | zero => exact hE.elim
  | succ hh =>
   obtain ⟨b',off',a',c',e1,e2,e3,e4,e5,e6,e7⟩:=hE.2.2 0 kd (by rw [hkd]; rfl)
   obtain ⟨b2,off2,a2,c2,f1,f2,f3,f4,f5,f6,f7⟩:=hE.2.2 1 ke (by rw [hkd]; rfl)
   rw [e1] at f1
   cases f1
   simp only [Nat.zero_mul,Nat.add_zero] at e3 e4 e5 e6
   simp only [Nat.one_mul,Nat.add_assoc,Nat.reduceAdd] at f3 f4 f5 f6
   exact ⟨hh,b',off',a',c',a2,c2,e1,e2,e3,e4,e5,e6,e7,f3,f4,f5,f6,f7⟩
 have HKX:Hid (∃ h,ExIn K.B W0 h kd ka):=⟨hh',hkx.same (h.out.same HK0.out)⟩
 have HKY:Hid (ExIn K.B w hh' ke kl):=hky
 have HXA:Hid (xa = some ⟨kb,ko,none⟩):=hxa
 have hkbw:kb < w.heap.size:=by have:=h.out.base; omega
 have e19:(x.kind == 19) = false:=by simp; omega
 have e22:(x.kind == 22) = false:=by simp; omega
 have e20:(x.kind == 20) = false:=by simp; omega
 have e21:(x.kind == 21) = false:=by simp; omega
 have hl2:x.kids.length = 2:=by rw [hkd]; rfl
 have HQ:Hid (∀ o,o < 8 → W0.cell? ⟨kb,ko + o,none⟩ = w.cell? ⟨kb,ko + o,none⟩):=fun o _ => h.out.same HK0.out kb _ hkb
 have l0:(0:Int) < (x.kids.length:Int):=by omega
 have l1:(1:Int) < (x.kids.length:Int):=by omega
 subst hxa
 clear hr hk hn hn' hkd hh hx0 hx1 her hn1 hn2 hkx hky hl2
 go_enter Tryz.func115,Tryz.ntmps115
 go_wp2_with fail
 rw [← HW0.out]
 refine (started_any K v d ex hC kd ka kc t (n + 1) n1 W0 er HB0 HKX HX1 HT1 h2 HEr).mono ?_
 rintro e w1 ⟨hk1,he1⟩
 have HK01:Hid (Kpt K W0 w1):=hk1
 have HK1:Hid (Kpt K w w1):=HK0.out.trans hk1
 clear hk1
 cases er with
 | error y =>
  obtain ⟨rfl,v2,t2,hb2,hp2⟩:=he1
  have HE:Hid (Bf K w v r (.panicked [fltE y K.num]) w1):=by
   rw [HRr.out]
   exact ⟨HK1.out,rfl,v2,t2,hb2,hp2⟩
  clear hb2 hp2
  go_wp2
  exact ⟨rfl,HE.out⟩
 | ok p =>
  obtain ⟨D,t1⟩:=p
  obtain ⟨⟨val,rfl,pa,pc,ba,bc,rfl,hdf⟩,hb1⟩:=he1
  have HB1:Hid (BW K w1 v t1):=hb1
  have HTL:Hid (TkLe t1 n1):=started_le hle.out HX1.out HT1.out HEr.out.symm
  obtain ⟨em,hem⟩:∃ em,em = must ex D.takes [ke] t1:=⟨_,rfl⟩
  have HEm:Hid (em = must ex D.takes [ke] t1):=hem
  have HRm:Hid (r = andThen em fun t => .ok (tyV D.ty,v,t)):=by unfold Hid; rw [HRr.out,andThen_ok,hem]
  obtain ⟨W2,hW2⟩:∃ W2,W2 = w1.alloc (dfB D pa pc ba bc):=⟨_,rfl⟩
  have HW2:Hid (W2 = _):=hW2
  have HK12:Hid (Kpt K w1 W2):=by rw [hW2]; exact Kpt.alloc K w1 _ HB1.out.lt
  have HK2:Hid (Kpt K w W2):=HK1.out.trans HK12.out
  have HB2:Hid (BW K W2 v t1):=by rw [hW2]; exact HB1.out.grown (grown_a _)
  have HX2:=hid (HK12.out.at (HK01.out.at HX0.out))
  have HZ2:=hid (HK12.out.at (HK01.out.at HZ0.out))
  have HD2:Hid (W2.heap[w1.heap.size]? = some (dfB D pa pc ba bc) ∧ Free K W2 w1.heap.size):=by rw [hW2]; exact HB1.out.new _
  have HS:Hid (∀ w',Kpt K W2 w' → w'.cell? ⟨w1.heap.size,4,none⟩ = some (.int .i64 D.takes.kind) ∧ w'.cell? ⟨w1.heap.size,5,none⟩ = some (.string D.takes.gen) ∧ w'.cell? ⟨w.heap.size,3,none⟩ = some (.slice (some ⟨kb,ko,none⟩) x.kids.length xc) ∧ w'.cell? ⟨kb,ko + 4,none⟩ = some (.int .i64 ke.kind) ∧ w'.cell? ⟨kb,ko + 5,none⟩ = some (.int .i64 ke.n) ∧ w'.cell? ⟨kb,ko + 6,none⟩ = some (.string ke.name) ∧ w'.cell? ⟨kb,ko + 7,none⟩ = some (.slice kl ke.kids.length km)):=fun w' hk => by
   obtain ⟨_,_,_,_,g4,g5,_⟩:=nine_cell (hk.at HD2.out).1
   obtain ⟨_,_,_,x3'⟩:=four_cell (hk.at HX2.out).1
   have old:∀ o,w'.cell? ⟨kb,o,none⟩ = w.cell? ⟨kb,o,none⟩:=fun o => h.out.same (HK2.out.trans hk) kb o hkb
   rw [old,old,old,old]
   exact ⟨g4,g5,x3',p0,p1,p2,p3⟩
  have hS2:=HS.out W2 (Kpt.refl _ _)
  clear hb1 hdf hem hW2 q0 q1 q2 q3
  go_wp2_with fail
  rw [← HW2.out]
  refine wp_region_held_drew (S:=fun w' => w'.cell? ⟨w1.heap.size,4,none⟩ = some (.int .i64 D.takes.kind) ∧ w'.cell? ⟨w1.heap.size,5,none⟩ = some (.string D.takes.gen) ∧ w'.cell? ⟨w.heap.size,3,none⟩ = some (.slice (some ⟨kb,ko,none⟩) x.kids.length xc) ∧ w'.cell? ⟨kb,ko + 4,none⟩ = some (.int .i64 ke.kind) ∧ w'.cell? ⟨kb,ko + 5,none⟩ = some (.int .i64 ke.n) ∧ w'.cell? ⟨kb,ko + 6,none⟩ = some (.string ke.name) ∧ w'.cell? ⟨kb,ko + 7,none⟩ = some (.slice kl ke.kids.length km)) (by kernel_rfl) hS2 (fun hHeld => ?_)
  refine tk 0 (v:=?_) rfl ?_ (by assumption) ?_
  rotate_left
  ·intro w hSw
   (try dsimp only at hSw)
   go_simp
   (try with_reducible rfl)
  (try go_frame)
  refine tk 1 (v:=?_) rfl ?_ (by assumption) ?_
  rotate_left
  ·intro w hSw
   (try dsimp only at hSw)
   go_simp
   (try with_reducible rfl)
  (try go_frame)
  refine tk 2 (v:=?_) rfl ?_ (by assumption) ?_
  rotate_left
  ·intro w hSw
   (try dsimp only at hSw)
   go_simp
   (try with_reducible rfl)
  (try go_frame)
  refine tk 3 (v:=?_) rfl ?_ (by assumption) ?_
  rotate_left
  ·intro w hSw
   (try dsimp only at hSw)
   go_simp
   (try with_reducible rfl)
  (try go_frame)
  refine tk 4 (v:=?_) rfl ?_ (by assumption) ?_
  rotate_left
  ·intro w hSw
   (try dsimp only at hSw)
   go_simp
   (try with_reducible rfl)
  (try go_frame)
  refine tk 5 (v:=?_) rfl ?_ (by assumption) ?_
  rotate_left
  ·intro w hSw
   (try dsimp only at hSw)
   go_simp
   (try with_reducible rfl)
  (try go_frame)
  refine tk 6 (v:=?_) rfl ?_ (by assumption) ?_
  rotate_left
  ·intro w hSw
   (try dsimp only at hSw)
   go_simp
   (try with_reducible rfl)
  (try go_frame)
  refine wpAnyH_ready (rs:=[7]) (by kernel_rfl) (by simp) ?_
  refine AllReadyH.cons (o:=_) rfl (fun K' hK => ?_) AllReadyH.nil
  go_simp
  have HK3:Hid (Kpt K W2 (W2.alloc (exB ke kl km)).drew):=(Kpt.alloc K W2 _ HB2.out.lt).drew
  have HB3:Hid (BW K (W2.alloc (exB ke kl km)).drew v t1):=(HB2.out.grown (grown_a _)).drew
  have HN3:Hid ((W2.alloc (exB ke kl km)).drew.heap[W2.heap.size]? = some (exB ke kl km) ∧ Free K (W2.alloc (exB ke kl km)).drew W2.heap.size):=HB2.out.new (exB ke kl km)
  refine hK.out _ _ (HS.out _ HK3.out) (fun hHeld => ?_)
  clear hK
  refine wpAnyH_ready (rs:=[8]) (by kernel_rfl) (by simp) ?_
  refine AllReadyH.cons (o:=_) rfl (fun K' hK => ?_) AllReadyH.nil
  go_simp
  refine (must_any K v d ex hC hle [ke] (some ⟨W2.heap.size,0,none⟩) 1 D.takes t1 n1 m _ _ HB3 (ks_one HB3.out HN3.out ⟨hh',HKY.out,h.out⟩ (HK2.out.trans HK3.out)) (by simp) HX2' HTL h12 (by rw [← HEm.out]; exact rfl)).mono ?_
  rintro e w9 ⟨hk9,he9⟩
  have HK9:Hid (Kpt K W2 w9):=HK3.out.trans hk9
  cases em with
  | error y =>
   obtain ⟨rfl,v2,t2,hb2,hp2⟩:=he9
   have HE:Hid (Bf K w v r (.panicked [fltE y K.num]) w9):=by
    rw [HRm.out]
    exact ⟨HK2.out.trans HK9.out,rfl,v2,t2,hb2,hp2⟩
   clear hK hk9 hb2 hp2
   go_wp2
   exact ⟨rfl,HE.out⟩
  | ok t2 =>
   obtain ⟨rfl,hb9⟩:=he9
   have HB9:Hid (BW K w9 v t2):=hb9
   have HRe:Hid (r = .ok (tyV D.ty,v,t2)):=HRm.out
   have HKw:Hid (Kpt K w w9):=HK2.out.trans HK9.out
   have HZ9:=hid (HK9.out.at HZ2.out)
   obtain ⟨_,_,g2,g3,_⟩:=nine_cell (HK9.out.at HD2.out).1
   refine hK.out _ _ (HS.out w9 HK9.out) (fun hHeld => ?_)
   clear hK hk9 hb9 hHeld
   refine wpAnyH_done (by kernel_rfl) ?_ _
   have HTE:=hid (ty_end (y:=D.ty) (Z:=w.heap.size + 1) HB9.out HKw.out HZ9.out (by omega) hBw hF HRe.out)
   obtain ⟨W9,hW9⟩:∃ W9,W9 = (w9.setCell ⟨w.heap.size + 1,0,none⟩ (.int .i64 (D.ty).kind)).setCell ⟨w.heap.size + 1,1,none⟩ (.string (D.ty).gen):=⟨_,rfl⟩
   have HW9:Hid (W9 = _):=hW9
   obtain ⟨ez0,ez1,ef0,ef1⟩:=two_cell (HZ9.out).1
   clear hW9
   go_wp2
   rw [show (w9.setCell ⟨w.heap.size + 1,0,none⟩ (.int .i64 (D.ty).kind)).setCell ⟨w.heap.size + 1,1,none⟩ (.string (D.ty).gen) = W9 from HW9.out.symm]
   have q9:=HTE.out.2
   rw [show twoS w9 (w.heap.size + 1) (.int .i64 (D.ty).kind) (.string (D.ty).gen) = W9 from HW9.out.symm] at q9
   refine bodyPost_ret (v:=tyV D.ty) (by simp [results,Tryz.results115,go_sem,World.cell?,q9]) rfl ?_
   rw [HW9.out]
   exact HTE.out.1
theorem spoken_any
  (K:BK) (v:Vars) (d:Nat) (ex:Sy.Ex → Tk → Except Int (Sy.Ty × Tk)) (hC:Hid (CEx K v d ex)) (hle:Hid (ExLe d ex)) (me:Sy.Df) (x:Sy.Ex) (xa:Option Addr) (xc:Nat) (t:Tk) (n m:Nat) (w:World) (r:Except Int (Value × Vars × Tk)) (h:Hid (BW K w v t)) (hx:Hid (∃ h,ExIn K.B w h x xa)) (hn:Hid (Sy.runs (Sy.exW d) x.kids (n + 1) = .ok m)) (ht:Hid (TkLe t n)) (h2:n + 1 ≤ 2000)
    (hr:Hid (r = andThen (spoken K.l me ex x t) fun p => .ok (tyV p.1,v,p.2)))
  (hk:19 ≤ x.kind ∧ x.kind ≤ 23) (hh:Sy.exHead x = 0) (i:Nat) (hi:Hid (K.num = (i:Int))) (HMe:Hid (K.l[i]? = some me)) :
  Calls Tryz.prog 115 #[.pointer (some ⟨K.F,0,none⟩),exV x xa xc] w fun e w' => Bf K w v r e w'
  := by
 by_cases h19:x.kind = 19
 ·exact spoken_call K v d ex hC hle me x xa xc t n m w r h hx hn ht h2 hr h19
 ·by_cases h22:x.kind = 22
  ·exact spoken_start K v d ex hC hle me x xa xc t n m w r h hx hn ht h2 hr h22
  ·by_cases h20:x.kind = 20
   ·exact spoken_recv K v d ex hC hle me x xa xc t n m w r h hx hn ht h2 hr h20
   ·by_cases h21:x.kind = 21
    ·exact spoken_yield K v d ex hC hle me x xa xc t n m w r h hx hn ht h2 hr h21 hh i hi HMe
    ·exact spoken_resume K v d ex hC hle me x xa xc t n m w r h hx hn ht h2 hr (by omega) hh
end Sm
end Go.Proofs.YtbioaoangfiijaaGreatDoor
