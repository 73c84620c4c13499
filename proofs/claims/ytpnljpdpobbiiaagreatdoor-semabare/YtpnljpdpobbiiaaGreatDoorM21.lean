/- The walk of stat: sends. WHAT stat AND block DO. -/
import Derived.Test.YtpnljpdpobbiiaaGreatDoorM20
set_option maxRecDepth 100000
set_option maxHeartbeats 4000000
namespace Go.Proofs.YtpnljpdpobbiiaaGreatDoor
open Go.RowKit
namespace Sm
theorem st_send (K:BK) (me:Sy.Df) (d:Nat) (i:Nat) (hi:Hid (K.num = (i:Int))) (HMe:Hid (K.l[i]? = some me)) (_hB:Hid (CBl K me d)) (s:Sy.St) (xa ba ea:Option Addr) (xc bc ec:Nat) (v:Vars) (t:Tk) (n m m1:Nat) (w:World) (r:Except Int (Value × Vars × Tk)) (h:Hid (BW K w v t)) (hs:Hid (∃ h,StIn K.B w h s xa ba ea)) (hx1:Hid (Sy.exW d s.x (n + 1) = .ok m1)) (_htl:Hid (Sy.stTail (Sy.stW d) s m1 = .ok m)) (ht:Hid (TkLe t n)) (_hv:Hid (v.length ≤ n + 10)) (h2:n + 1 ≤ 2000)
  (hr:Hid (r = andThen (stat K.l me (d + 1) s v t) fun p => .ok (.tuple #[],p.1,p.2)))
  (hk:s.kind = 7) :
  Calls Tryz.prog 76 #[.pointer (some ⟨K.F,0,none⟩),stV s xa xc ba bc ea ec] w fun e w' => Bf K w v r e w':=by
 have hF:=h.out.lt
 obtain ⟨W0,hW0⟩:∃ W0,W0 = w.alloc (stB s xa xc ba bc ea ec):=⟨_,rfl⟩
 have HK0:Hid (Kpt K w W0):=by rw [hW0]; exact Kpt.alloc K w _ hF
 have HB0:Hid (BW K W0 v t):=by rw [hW0]; exact h.out.grown (grown_a _)
 have HS0:Hid (W0.heap[w.heap.size]? = some (stB s xa xc ba bc ea ec) ∧ Free K W0 w.heap.size):=by rw [hW0]; exact h.out.new _
 have HE0:Hid (∃ h,ExIn K.B W0 h s.x xa):=by
  obtain ⟨hh,hE⟩:=st_x hs.out
  exact ⟨hh,hE.same (h.out.same HK0.out)⟩
 have HW0:Hid (W0 = _):=hW0
 have hC:=hid (expr_any K v me i hi HMe d)
 have HT1:Hid (TkLe t (n + 1)):=ht.out.mono (by omega)
 clear hW0
 have HXs:Hid (Sy.runs (Sy.exW d) [s.x] (n + 1) = .ok m1):=by unfold Hid; simp [Sy.runs,hx1.out]
 have HKX:Hid (∃ hh,ExIn K.B W0 hh s.x xa ∧ BW K W0 v t):=by
  obtain ⟨hh,hE⟩:=HE0.out
  exact ⟨hh,hE,HB0.out⟩
 obtain ⟨wr,hwr⟩:∃ wr,wr = Sm.want K.l 1 s.name:=⟨_,rfl⟩
 have HWr:Hid (wr = Sm.want K.l 1 s.name):=hwr
 obtain ⟨rv,hrv⟩:∃ rv:Except Int Value,rv = match Sm.want K.l 1 s.name with | .ok i => .ok (.int .i64 (i:Int)) | .error y => .error y:=⟨_,rfl⟩
 have HRV:Hid (rv = match Sm.want K.l 1 s.name with | .ok i => .ok (.int .i64 (i:Int)) | .error y => .error y):=hrv
 have HRr:Hid (r = andThen wr fun b => andThen (must (expr K.l me v d) (defAt K.l b).ty [s.x] ⟨t.sends ++ [b],t.recvs,t.calls⟩) fun t => .ok (.tuple #[],v,t)):=by
  unfold Hid
  rw [hr.out,stat,if_neg (by omega),if_neg (by omega),if_neg (by omega),if_neg (by omega),if_neg (by omega),if_neg (by omega),if_pos hk,hwr]
  cases Sm.want K.l 1 s.name with
  | error e => rfl
  | ok b => rw [andThen_ok,andThen_ok]; cases must (expr K.l me v d) (defAt K.l b).ty [s.x] ⟨t.sends ++ [b],t.recvs,t.calls⟩ <;> rfl
 have hB0:K.B ≤ W0.heap.size:=by have:=HB0.out.base; have:=HB0.out.lt; omega
 have HSF:Hid (∀ w' v' t',Kpt K W0 w' → BW K w' v' t' → w'.cell? ⟨K.F,0,none⟩ = some (.slice K.a K.l.length K.c) ∧ w'.cell? ⟨K.F,1,none⟩ = some (.map (some K.M)) ∧ w'.cell? ⟨K.F,2,none⟩ = some (.int .i64 K.num) ∧ w'.cell? ⟨w.heap.size,1,none⟩ = some (.string s.name)):=fun w' v' t' hk hb => by
  obtain ⟨_,g1,_⟩:=eight_cell (hk.at HS0.out).1
  obtain ⟨o,sn,rr,cc,h4⟩:=hb.rows
  obtain ⟨d0,d1,d2,_⟩:=bd_cells h4.blk
  exact ⟨d0,d1,d2,g1⟩
 have e1:(s.kind == 1) = false:=by rw [hk]; rfl
 have e2:(s.kind == 2) = false:=by rw [hk]; rfl
 have e3:(s.kind == 3) = false:=by rw [hk]; rfl
 have e4:(s.kind == 4) = false:=by rw [hk]; rfl
 have e5:(s.kind == 5) = false:=by rw [hk]; rfl
 have e6:(s.kind == 6) = false:=by rw [hk]; rfl
 have e7:(s.kind == 7) = true:=by rw [hk]; rfl
 rw [← hwr] at hrv
 clear hr hwr hk
 go_enter Tryz.func76,Tryz.ntmps76
 go_wp2_with fail
 rw [← HW0.out]
 refine wp_region_held_drew (S:=fun w' => w'.cell? ⟨K.F,0,none⟩ = some (.slice K.a K.l.length K.c) ∧ w'.cell? ⟨K.F,1,none⟩ = some (.map (some K.M)) ∧ w'.cell? ⟨K.F,2,none⟩ = some (.int .i64 K.num) ∧ w'.cell? ⟨w.heap.size,1,none⟩ = some (.string s.name)) (by kernel_rfl) (HSF.out W0 v t (Kpt.refl _ _) HB0.out) (fun hHeld => ?_)
 refine tk 0 (v:=?_) rfl ?_ (by assumption) ?_
 rotate_left
 ·intro w hSw
  (try dsimp only at hSw)
  go_simp
  (try with_reducible rfl)
 (try go_frame)
 refine tk 1 (v:=?_) rfl ?_ (by assumption) ?_
 rotate_left
 ·intro w hSw
  (try dsimp only at hSw)
  go_simp
  (try with_reducible rfl)
 (try go_frame)
 refine tk 2 (v:=?_) rfl ?_ (by assumption) ?_
 rotate_left
 ·intro w hSw
  (try dsimp only at hSw)
  go_simp
  (try with_reducible rfl)
 (try go_frame)
 refine tk 3 (v:=?_) rfl ?_ (by assumption) ?_
 rotate_left
 ·intro w hSw
  (try dsimp only at hSw)
  go_simp
  (try with_reducible rfl)
 (try go_frame)
 refine tk 4 (v:=?_) rfl ?_ (by assumption) ?_
 rotate_left
 ·intro w hSw
  (try dsimp only at hSw)
  go_simp
  (try with_reducible rfl)
 (try go_frame)
 refine tk 5 (v:=?_) rfl ?_ (by assumption) ?_
 rotate_left
 ·intro w hSw
  (try dsimp only at hSw)
  go_simp
  (try with_reducible rfl)
 (try go_frame)
 refine wpAnyH_ready (rs:=[6]) (by kernel_rfl) (by simp) ?_
 refine AllReadyH.cons (o:=_) rfl (fun K' hK => ?_) AllReadyH.nil
 go_simp
 refine (want_any K.B K.l K.a K.c K.M K.num 1 s.name K.R W0.drew rv (by exact HB0.out.drew.dfs) (by exact hB0) (by exact HB0.out.drew.mp) (by exact HB0.out.nums) HRV).mono ?_
 rintro e w1 ⟨hg1',he1⟩
 have hg1:W0.grownBy w1 none:=⟨hg1'.os,hg1'.tape,hg1'.output,hg1'.size,hg1'.block⟩
 have HG1:Hid (W0.grownBy w1 none):=hg1
 clear hg1'
 have HB1:Hid (BW K w1 v t):=HB0.out.grown hg1
 have HK01:Hid (Kpt K W0 w1):=Kpt.grown hg1 HB0.out.lt
 cases wr with
 | error y =>
  subst hrv
  obtain rfl:=he1
  have HE:Hid (Bf K w v r (.panicked [fltE y K.num]) w1):=by
   rw [HRr.out]
   exact ⟨HK0.out.trans HK01.out,rfl,v,t,HB1.out,List.prefix_refl _⟩
  clear hK hg1
  go_wp2
  exact ⟨rfl,HE.out⟩
 | ok j =>
  subst hrv
  obtain rfl:=he1
  have hj:=want_lt HWr.out.symm
  obtain ⟨D,hD⟩:∃ D,D = K.l[j]:=⟨_,rfl⟩
  have hDA:Hid (defAt K.l j = D):=by unfold Hid; rw [hD]; simp [defAt,List.getElem?_eq_getElem hj]
  obtain ⟨b,off,pa,pc,ba',bc',ha,hb,_,_,k2,k3,_,_,_,_,_,_⟩:=HB1.out.dfs.2 j D (by rw [hD]; exact List.getElem?_eq_getElem hj)
  have HA:Hid (K.a = some ⟨b,off,none⟩):=ha
  refine hK.out _ _ (HSF.out w1 v t HK01.out HB1.out) (fun hHeld => ?_)
  refine tk 7 (v:=?_) rfl ?_ (by assumption) ?_
  rotate_left
  ·intro w hSw
   (try dsimp only at hSw)
   go_simp
   (try with_reducible rfl)
  (try go_frame)
  refine wpAnyH_done (by kernel_rfl) ?_ _
  obtain ⟨ord,sn,rc,cl,h4⟩:=HB1.out.rows
  have H4:Hid (Rows4 K w1 v t ord sn rc cl):=h4
  obtain ⟨ca,cn,hcl⟩:=own_form h4.snO
  subst hcl
  obtain ⟨i0,hif,hz0,hz1,hz2⟩:=info_parts Tryz.info3
  have hB1:K.B ≤ w1.heap.size:=by have:=HB1.out.base; have:=HB1.out.lt; omega
  have hcF:Hid ((Value.slice ca t.sends.length cn).ownBlock ≠ some K.F):=fun e => by
   obtain ⟨_,_,cur,hc⟩:=own_lt h4.snO _ e
   rw [h4.blk] at hc
   cases hc
  have hF1:=h4.lt
  obtain ⟨_,_,_,_,_,d5,_,_⟩:=bd_cells h4.blk
  obtain ⟨_,z5,_,_⟩:=bd_frozen h4.blk
  have htc:t.sends.length ≤ 2000:=by have:=ht.out.1; omega
  have HCB:Hid (∀ (o2:Obj) (w4:World),(w1.alloc o2).grownBy w4 (Value.slice ca t.sends.length cn).ownBlock → w4.heap[K.F]? = some (K.obj ord (.slice ca t.sends.length cn) rc cl)):=fun o2 w4 hg =>
   ((hg.block K.F (by simp; omega) (fun e => hcF.out e.symm)).trans (Below.heap_alloc _ _ _ hF1)).trans H4.out.blk
  have hml:K.l.length ≤ maxLen:=HB1.out.dfs.1
  obtain ⟨L,hL⟩:∃ L,L = K.l.length:=⟨_,rfl⟩
  have HL:Hid (L = K.l.length):=hL
  have hjL:(j:Int) < (L:Int):=by omega
  rw [← hL] at hml
  obtain ⟨em,hem⟩:∃ em,em = must (expr K.l me v d) D.ty [s.x] ⟨t.sends ++ [j],t.recvs,t.calls⟩:=⟨_,rfl⟩
  have HEm:Hid (em = must (expr K.l me v d) D.ty [s.x] ⟨t.sends ++ [j],t.recvs,t.calls⟩):=hem
  have HRm:Hid (r = andThen em fun t => .ok (.tuple #[],v,t)):=by unfold Hid; rw [HRr.out,andThen_ok,hDA.out,hem]
  have HT5:Hid (TkLe ⟨t.sends ++ [j],t.recvs,t.calls⟩ (n + 1)):=⟨by have:=ht.out.1; simp; omega,by have:=ht.out.2.1; dsimp; omega,by have:=ht.out.2.2; dsimp; omega⟩
  have HDC:Hid (∀ w',Kpt K w1 w' → w'.cell? ⟨b,off + j * 9 + 2,none⟩ = some (.int .i64 D.ty.kind) ∧ w'.cell? ⟨b,off + j * 9 + 3,none⟩ = some (.string D.ty.gen)):=fun w' hk => by
   have old:∀ o,w'.cell? ⟨b,o,none⟩ = w1.cell? ⟨b,o,none⟩:=fun o => HB1.out.same hk b o hb
   rw [old,old]
   exact ⟨k2,k3⟩
  have HS:Hid (∀ w' v' t',Kpt K w1 w' → BW K w' v' t' → w'.cell? ⟨K.F,0,none⟩ = some (.slice (some ⟨b,off,none⟩) L K.c) ∧ w'.cell? ⟨b,off + j * 9 + 2,none⟩ = some (.int .i64 D.ty.kind) ∧ w'.cell? ⟨b,off + j * 9 + 3,none⟩ = some (.string D.ty.gen) ∧ w'.cell? ⟨w.heap.size,2,none⟩ = some (.int .i64 s.x.kind) ∧ w'.cell? ⟨w.heap.size,3,none⟩ = some (.int .i64 s.x.n) ∧ w'.cell? ⟨w.heap.size,4,none⟩ = some (.string s.x.name) ∧ w'.cell? ⟨w.heap.size,5,none⟩ = some (.slice xa s.x.kids.length xc)):=fun w' v' t' hk hbw => by
   obtain ⟨_,_,g2,g3,g4,g5,_,_⟩:=eight_cell ((HK01.out.trans hk).at HS0.out).1
   obtain ⟨o,sn,rr,cc,h4⟩:=hbw.rows
   obtain ⟨d0,_⟩:=bd_cells h4.blk
   rw [HA.out,← HL.out] at d0
   exact ⟨d0,(HDC.out w' hk).1,(HDC.out w' hk).2,g2,g3,g4,g5⟩
  clear hK hg1 hD ha h4 hL hem k2 k3
  go_wp2_with (at_builtin; refine wpList_append_where rfl _ _ 77 rfl K.B 3 i0 _ 1 8 Tryz.underlying77 hif hz0 hz1 hz2 rfl (by decide) _ t.sends.length (nats t.sends) rfl (H4.out.snO.alloc _) ⟨w1.heap.size,0,none⟩ 1 1 [.int .i64 (j:Int)] rfl rfl (one_news _ _ _) (one_int _) (by decide) (by unfold maxLen; omega) (by omega) (by simp; omega) ?_; intro g cap w4 hq4 hg4 hw4; have HT7:Hid _:=talk5 HB1.out H4.out (World.grownBy.refl _ _) hg4 hq4 hw4; have hF4:=HCB.out _ w4 hg4; obtain ⟨_,f7,_,_⟩:=bd_frozen hF4; obtain ⟨_,_,_,_,_,e5,_,_⟩:=bd_cells hF4; have hF4':=lt_of_block hF4; clear hq4 hg4 hw4 hF4)
  obtain ⟨w5,hw5⟩:∃ w5,w5 = w4.setCell ⟨K.F,5,none⟩ (.slice (some ⟨g,0,none⟩) (t.sends.length + 1) cap):=⟨_,rfl⟩
  rw [← hw5]
  rw [← hw5] at HT7
  have HK5:Hid (Kpt K w1 w5):=HT7.out.2
  have HB5:Hid (BW K w5 v ⟨t.sends ++ [j],t.recvs,t.calls⟩):=HT7.out.1
  clear hw5
  refine wp_region_held_drew (S:=fun w' => w'.cell? ⟨K.F,0,none⟩ = some (.slice (some ⟨b,off,none⟩) L K.c) ∧ w'.cell? ⟨b,off + j * 9 + 2,none⟩ = some (.int .i64 D.ty.kind) ∧ w'.cell? ⟨b,off + j * 9 + 3,none⟩ = some (.string D.ty.gen) ∧ w'.cell? ⟨w.heap.size,2,none⟩ = some (.int .i64 s.x.kind) ∧ w'.cell? ⟨w.heap.size,3,none⟩ = some (.int .i64 s.x.n) ∧ w'.cell? ⟨w.heap.size,4,none⟩ = some (.string s.x.name) ∧ w'.cell? ⟨w.heap.size,5,none⟩ = some (.slice xa s.x.kids.length xc)) (by kernel_rfl) (HS.out w5 v _ HK5.out HB5.out) (fun hHeld => ?_)
  refine tk 0 (v:=?_) rfl ?_ (by assumption) ?_
  rotate_left
  ·intro w hSw
   (try dsimp only at hSw)
   go_simp
   (try with_reducible rfl)
  (try go_frame)
  refine tk 1 (v:=?_) rfl ?_ (by assumption) ?_
  rotate_left
  ·intro w hSw
   (try dsimp only at hSw)
   go_simp
   (try with_reducible rfl)
  (try go_frame)
  refine tk 2 (v:=?_) rfl ?_ (by assumption) ?_
  rotate_left
  ·intro w hSw
   (try dsimp only at hSw)
   go_simp
   (try with_reducible rfl)
  (try go_frame)
  refine tk 3 (v:=?_) rfl ?_ (by assumption) ?_
  rotate_left
  ·intro w hSw
   (try dsimp only at hSw)
   go_simp
   (try with_reducible rfl)
  (try go_frame)
  refine tk 4 (v:=?_) rfl ?_ (by assumption) ?_
  rotate_left
  ·intro w hSw
   (try dsimp only at hSw)
   go_simp
   (try with_reducible rfl)
  (try go_frame)
  refine tk 5 (v:=?_) rfl ?_ (by assumption) ?_
  rotate_left
  ·intro w hSw
   (try dsimp only at hSw)
   go_simp
   (try with_reducible rfl)
  (try go_frame)
  refine tk 6 (v:=?_) rfl ?_ (by assumption) ?_
  rotate_left
  ·intro w hSw
   (try dsimp only at hSw)
   go_simp
   (try with_reducible rfl)
  (try go_frame)
  refine tk 7 (v:=?_) rfl ?_ (by assumption) ?_
  rotate_left
  ·intro w hSw
   (try dsimp only at hSw)
   go_simp
   (try with_reducible rfl)
  (try go_frame)
  refine tk 8 (v:=?_) rfl ?_ (by assumption) ?_
  rotate_left
  ·intro w hSw
   (try dsimp only at hSw)
   go_simp
   (try with_reducible rfl)
  (try go_frame)
  refine tk 9 (v:=?_) rfl ?_ (by assumption) ?_
  rotate_left
  ·intro w hSw
   (try dsimp only at hSw)
   go_simp
   (try with_reducible rfl)
  (try go_frame)
  refine tk 10 (v:=?_) rfl ?_ (by assumption) ?_
  rotate_left
  ·intro w hSw
   (try dsimp only at hSw)
   go_simp
   (try with_reducible rfl)
  (try go_frame)
  refine tk 11 (v:=?_) rfl ?_ (by assumption) ?_
  rotate_left
  ·intro w hSw
   (try dsimp only at hSw)
   go_simp
   (try with_reducible rfl)
  (try go_frame)
  refine tk 12 (v:=?_) rfl ?_ (by assumption) ?_
  rotate_left
  ·intro w hSw
   (try dsimp only at hSw)
   go_simp
   (try with_reducible rfl)
  (try go_frame)
  refine wpAnyH_ready (rs:=[13]) (by kernel_rfl) (by simp) ?_
  refine AllReadyH.cons (o:=_) rfl (fun K' hK => ?_) AllReadyH.nil
  go_simp
  have HK6:Hid (Kpt K w5 (w5.alloc (exB s.x xa xc)).drew):=(Kpt.alloc K w5 _ HB5.out.lt).drew
  have HB6:Hid (BW K (w5.alloc (exB s.x xa xc)).drew v ⟨t.sends ++ [j],t.recvs,t.calls⟩):=(HB5.out.grown (grown_a _)).drew
  have HN6:Hid ((w5.alloc (exB s.x xa xc)).drew.heap[w5.heap.size]? = some (exB s.x xa xc) ∧ Free K (w5.alloc (exB s.x xa xc)).drew w5.heap.size):=HB5.out.new _
  refine hK.out _ _ (HS.out _ v _ (HK5.out.trans HK6.out) HB6.out) (fun hHeld => ?_)
  clear hK
  refine wpAnyH_ready (rs:=[14]) (by kernel_rfl) (by simp) ?_
  refine AllReadyH.cons (o:=_) rfl (fun K' hK => ?_) AllReadyH.nil
  go_simp
  refine (must_any K v d (expr K.l me v d) hC (expr_le K.l me v d) [s.x] (some ⟨w5.heap.size,0,none⟩) 1 D.ty _ (n + 1) m1 _ _ HB6 (ks_one HB6.out HN6.out HKX.out ((HK01.out.trans HK5.out).trans HK6.out)) (by simp) HXs HT5 h2 (by rw [← HEm.out]; exact rfl)).mono ?_
  rintro e w9 ⟨hk9,he9⟩
  have HK19:Hid (Kpt K w1 w9):=(HK5.out.trans HK6.out).trans hk9
  have HK9:Hid (Kpt K w w9):=(HK0.out.trans HK01.out).trans HK19.out
  cases em with
  | error y =>
   obtain ⟨rfl,v2,t2,hb2,hp2⟩:=he9
   have HE:Hid (Bf K w v r (.panicked [fltE y K.num]) w9):=by
    rw [HRm.out]
    exact ⟨HK9.out,rfl,v2,t2,hb2,hp2⟩
   clear hK hk9 hb2 hp2
   go_wp2
   exact ⟨rfl,HE.out⟩
  | ok t2 =>
   obtain ⟨rfl,hb9⟩:=he9
   have HE:Hid (Bf K w v r (.returned (.tuple #[])) w9):=by
    rw [HRm.out]
    exact ⟨HK9.out,rfl,hb9⟩
   refine hK.out _ _ (HS.out w9 v t2 HK19.out hb9) (fun hHeld => ?_)
   clear hK hk9 hb9 hHeld
   refine wpAnyH_done (by kernel_rfl) ?_ _
   go_wp2
   go_end0
   exact HE.out
theorem stat_any (K:BK) (me:Sy.Df) (i:Nat) (hi:Hid (K.num = (i:Int))) (HMe:Hid (K.l[i]? = some me)):∀ d,CSt K me d
 | 0 => fun s xa ba ea xc bc ec v t n m w r _ _ hn _ _ _ _ => by
  have:=hn.out
  unfold Sy.stW at this
  cases this
 | d + 1 => fun s xa ba ea xc bc ec v t n m w r h hs hn ht hv h2 hr => by
  have hB:=hid (block_any K me d (hid (stat_any K me i hi HMe d)))
  obtain ⟨k1,k9,h3,ho⟩:=stW_open hn.out
  rcases ho with ⟨h6,rfl⟩ | ⟨h6,m1,hx,htl⟩
  ·exact st_stop K me d i hi HMe hB s xa ba ea xc bc ec v t n w r h hs ht hv h3 hr h6
  ·have HX:=hid hx
   have HL:=hid htl
   by_cases h1:s.kind = 1
   ·exact st_let K me d i hi HMe hB s xa ba ea xc bc ec v t n m m1 w r h hs HX HL ht hv h3 hr h1
   by_cases h2:s.kind = 2
   ·exact st_set K me d i hi HMe hB s xa ba ea xc bc ec v t n m m1 w r h hs HX HL ht hv h3 hr h2
   by_cases h4:s.kind = 3
   ·exact st_if K me d i hi HMe hB s xa ba ea xc bc ec v t n m m1 w r h hs HX HL ht hv h3 hr h4
   by_cases h5:s.kind = 4
   ·exact st_while K me d i hi HMe hB s xa ba ea xc bc ec v t n m m1 w r h hs HX HL ht hv h3 hr h5
   by_cases h7:s.kind = 5
   ·exact st_ret K me d i hi HMe hB s xa ba ea xc bc ec v t n m m1 w r h hs HX HL ht hv h3 hr h7
   by_cases h8:s.kind = 7
   ·exact st_send K me d i hi HMe hB s xa ba ea xc bc ec v t n m m1 w r h hs HX HL ht hv h3 hr h8
   by_cases h9:s.kind = 8
   ·exact st_out K me d i hi HMe hB s xa ba ea xc bc ec v t n m m1 w r h hs HX HL ht hv h3 hr h9
   ·exact st_do K me d i hi HMe hB s xa ba ea xc bc ec v t n m m1 w r h hs HX HL ht hv h3 hr (by omega)
end Sm
namespace Sm
def fv {α:Type} (r:Except Int α):Except Int Value:=match r with | .ok _ => .ok (.tuple #[]) | .error e => .error e
abbrev lkB (n:Nat) (a:Option Addr) (c M:Nat) (i:Int):Obj:=.cells #[.slice a n c,.map (some M),.int .i64 i] 76 (0,0)
def cnts (seen:List ByteArray):Ms.Row:=seen.map (fun s => (s,.int .i64 1))
theorem cnts_val (k:ByteArray):∀ seen:List ByteArray,Ms.val (cnts seen) k = if seen.any (fun s => decide (s = k)) = true then some (.int .i64 1) else none
 | [] => rfl
 | s :: seen => by
  have ih:=cnts_val k seen
  unfold cnts at *
  rw [List.map_cons,Ms.val_cons,ih]
  by_cases h:k = s
  ·subst h; simp
  ·have h':¬ s = k:=fun e => h e.symm
   rw [if_neg h,List.any_cons,decide_eq_false h',Bool.false_or]
theorem cnts_app (seen:List ByteArray) (k:ByteArray):cnts (seen ++ [k]) = cnts seen ++ [(k,.int .i64 1)]:=by simp [cnts]
theorem at_set {k:ByteArray} {v:Value}:∀ {l:Ms.Row} {b i:Nat} {v0:Value},Ms.at' l k b = some (b + i,v0) → Ms.at' (l.set i (k,v)) k b = some (b + i,v)
 | [],b,i,v0,h => by cases h
 | p :: l,b,i,v0,h => by
  rw [Ms.at'] at h
  by_cases hp:k = p.1
  ·rw [if_pos hp] at h
   obtain rfl:i = 0:=by simp at h; omega
   simp [Ms.at']
  ·rw [if_neg hp] at h
   obtain ⟨q,hq,_⟩:=Ms.at_some h
   obtain ⟨j,rfl⟩:∃ j,i = j + 1:=⟨i - 1,by omega⟩
   rw [List.set_cons_succ,Ms.at',if_neg hp,show b + (j + 1) = b + 1 + j by omega]
   exact at_set (by rw [h]; congr 2; omega)
theorem grown_own {a b c:World} {M:Nat} (h:a.grownBy b none) (k:b.grownBy c (some M)) (hM:a.heap.size ≤ M):a.grownBy c none :=
 ⟨k.os.trans h.os,k.tape.trans h.tape,k.output.trans h.output,Nat.le_trans h.size k.size,fun j hj _ => (k.block j (by have:=h.size; omega) (by simp; omega)).trans (h.block j hj (by simp))⟩
theorem params_any (B:Nat) (l:List Sy.Df) (a:Option Addr) (c M:Nat) (num:Int) (ps:List Sy.Pm) (pa:Option Addr) (pc:Nat) (R:Ms.Row) (w:World) (r:Except Int Value) (hD:Hid (DfsIn B w l a)) (hB:B ≤ w.heap.size) (hM:Hid (Ms.In w M R)) (hR:Hid (∀ s,Ms.val R s = (numOf l s).map (fun i => .int .i64 (i:Int))))
  (hP:Hid (PmsIn B w ps pa)) (hr:Hid (r = fv (Sm.params l ps []))) :
  Calls Tryz.prog 53 #[lkV l.length a c M num,.slice pa ps.length pc] w fun e w' => Fe num r w e w':=by
 have hmm:∀ w:World,(Instr.makeMap 48 Option.none).run Tryz.prog w = .ok (.map (some w.heap.size)) (w.alloc (.map #[] 0)):=fun _ => rfl
 have hz:∀ w',(zeroValue 3).run Tryz.prog w' = .ok (.int .i64 0) w':=fun w' => by kernel_rfl
 obtain ⟨W0,hW0⟩:∃ W0,W0 = (w.alloc (lkB l.length a c M num)).alloc (.map #[] 0):=⟨_,rfl⟩
 have HG0:Hid (w.grownBy W0 none):=by rw [hW0]; exact grown_a2 _ _
 have HIn0:Hid (Ms.In W0 (w.heap.size + 1) (cnts [])):=by
  rw [hW0]
  have:=Ms.In.new (w.alloc (lkB l.length a c M num))
  rw [World.size_alloc] at this
  exact this
 have HLk:Hid (W0.heap[w.heap.size]? = some (lkB l.length a c M num)):=by rw [hW0]; exact (Below.heap_alloc _ _ _ (by simp)).trans (heap_alloc_new _ _)
 have HW0:Hid (W0 = _):=hW0
 have hMlt:=hM.out.lt
 have hpl:ps.length ≤ maxLen:=hP.out.1
 obtain ⟨np,hnp⟩:∃ np,np = ps.length:=⟨_,rfl⟩
 have HNP:Hid (np = ps.length):=hnp
 rw [← hnp] at hpl ⊢
 clear hW0 hnp
 go_enter Tryz.func53,Tryz.ntmps53
 go_wp2
 rw [← HW0.out]
 go_loopw [10] (fun q wr => ∃ (j:Nat) (seen:List ByteArray),q = .int .i64 j ∧ j ≤ np ∧ Hid (Ms.In wr (w.heap.size + 1) (cnts seen)) ∧ Hid (W0.grownBy wr (some (w.heap.size + 1))) ∧ Hid (r = fv (Sm.params l (ps.drop j) seen))) (fun q _ => np - (intOf q).toNat)
 case atStart => exact ⟨0,[],rfl,Nat.zero_le _,HIn0,World.grownBy.refl _ _,by rw [List.drop_zero]; exact hr⟩
 case round =>
  obtain ⟨j,seen,rfl,hj,HI,HG,HR⟩:=hrel
  have HGw:Hid (w.grownBy wr none):=grown_own HG0.out HG.out (by omega)
  have hLb:wr.heap[w.heap.size]? = some (lkB l.length a c M num):=(HG.out.block _ (lt_of_block HLk.out) (by simp)).trans HLk.out
  have hLlt:=lt_of_block hLb
  by_cases hlt:j < np
  ·have hj1:j < ps.length:=by rw [← HNP.out]; exact hlt
   obtain ⟨p,hp⟩:∃ p,ps[j]? = some p:=⟨_,List.getElem?_eq_getElem hj1⟩
   have hdr:ps.drop j = p :: ps.drop (j + 1):=by rw [List.drop_eq_getElem_cons hj1,(List.getElem?_eq_some_iff.1 hp).2]
   obtain ⟨pb,po,hpa,hpb,p0,p1,p2,_⟩:=(hP.out.same (same_grown HGw.out (by simp) hB)).2 j p hp
   obtain ⟨sb,hsb⟩:∃ sb,sb = seen.any (fun s => decide (s = p.name)):=⟨_,rfl⟩
   have HRr:Hid (r = fv (if sb = true then .error 7 else if p.ty.kind = 3 then andThen (Sm.want l 3 p.ty.gen) fun _ => Sm.params l (ps.drop (j + 1)) (seen ++ [p.name]) else Sm.params l (ps.drop (j + 1)) (seen ++ [p.name]))):=by
    unfold Hid
    rw [HR.out,hdr,Sm.params,hsb]
   have HI1:Ms.In (wr.alloc (pmB p)) (w.heap.size + 1) (cnts seen):=HI.out.grow (grown_a _)
   have hL1:=(Ms.run_lookup Tryz.underlying48 Tryz.underlying9 (k:=p.name) HI1 (hz _)).1
   rw [cnts_val,← hsb] at hL1
   have hpbw:pb < wr.heap.size:=by have:=HGw.out.size; omega
   have HJ:Hid (j + 1 ≤ np):=hlt
   have hj9:j + 1 ≤ 9223372036854775807:=by unfold maxLen at hpl; omega
   have hjp:(j:Int) < (np:Int):=by omega
   have hilt:=HI.out.lt
   subst hpa
   cases sb with
   | true =>
    have HRe:Hid (r = .error 7):=HRr.out
    have hv:Ms.val (cnts seen) p.name = some (.int .i64 1):=by rw [cnts_val,← hsb]; rfl
    obtain ⟨ix,hix⟩:∃ ix,Ms.at' (cnts seen) p.name 0 = some (ix,.int .i64 1):=by
     unfold Ms.val at hv
     cases ha:Ms.at' (cnts seen) p.name 0 with
     | none => rw [ha] at hv; cases hv
     | some x => rw [ha] at hv; obtain ⟨x1,x2⟩:=x; simp at hv; exact ⟨x1,by rw [hv]⟩
    obtain ⟨w2,hup,hI2,hg2⟩:=Ms.run_set Tryz.underlying48 Tryz.underlying9 (k:=p.name) (v:=.int .i64 2) HI1 hix
    have hv2:Ms.val ((cnts seen).set ix (p.name,.int .i64 2)) p.name = some (.int .i64 2):=by
     unfold Ms.val
     have:=at_set (v:=.int .i64 2) (b:=0) (i:=ix) (v0:=.int .i64 1) (by rw [Nat.zero_add]; exact hix)
     rw [this]
     rfl
    have hL2:=(Ms.run_lookup Tryz.underlying48 Tryz.underlying9 (k:=p.name) hI2 (hz _)).1
    rw [hv2] at hL2
    simp only [if_true,Option.getD_some] at hL1 hL2
    have hb2:w2.heap[wr.heap.size]? = some (pmB p):=(hg2.block _ (by simp) (by simp; omega)).trans (heap_alloc_new _ _)
    obtain ⟨t0,t1,t2⟩:=three_cell hb2
    obtain ⟨u0,u1,u2⟩:=three_cell ((hg2.block _ (by simp; omega) (by simp)).trans ((Below.heap_alloc wr (pmB p) _ hLlt).trans hLb))
    have HG2:Hid (w.grownBy w2 none):=grown_own (grown_trans HGw.out (grown_a _)) hg2 (by omega)
    clear hdr hp hsb HI1 hI2 hg2 hv hix hv2 hb2 hLb
    go_wp2_with fail
    refine (fail_any l.length a c M num 7 _).mono ?_
    rintro e w9 ⟨rfl,hg9⟩
    have HE:Hid (Fe num r w (.panicked [fltE 7 num]) w9):=⟨grown_trans HG2.out hg9,by rw [HRe.out]⟩
    clear hg9
    go_wp2
    exact ⟨rfl,HE.out⟩
   | false =>
    have hv:Ms.val (cnts seen) p.name = none:=by rw [cnts_val,← hsb]; rfl
    obtain ⟨w2,hup,hI2,hg2⟩:=Ms.run_add Tryz.underlying48 Tryz.underlying9 (k:=p.name) (v:=.int .i64 1) HI1 hv
    rw [← cnts_app] at hI2
    have hL2:=(Ms.run_lookup Tryz.underlying48 Tryz.underlying9 (k:=p.name) hI2 (hz _)).1
    rw [cnts_val] at hL2
    simp only [List.any_append,List.any_cons,List.any_nil,decide_true,Bool.or_true,Bool.true_or,if_true,Option.getD_some] at hL2
    simp only [Bool.false_eq_true,if_false,Option.getD_none] at hL1
    have hb2:w2.heap[wr.heap.size]? = some (pmB p):=(hg2.block _ (by simp) (by simp; omega)).trans (heap_alloc_new _ _)
    obtain ⟨t0,t1,t2⟩:=three_cell hb2
    obtain ⟨u0,u1,u2⟩:=three_cell ((hg2.block _ (by simp; omega) (by simp)).trans ((Below.heap_alloc wr (pmB p) _ hLlt).trans hLb))
    have HI2:Hid (Ms.In w2 (w.heap.size + 1) (cnts (seen ++ [p.name]))):=hI2
    have HG02:Hid (W0.grownBy w2 (some (w.heap.size + 1))):=grown_trans (HG.out.andThen (grown_a (pmB p)) (fun j e => by cases e)) hg2
    have HG2:Hid (w.grownBy w2 none):=grown_own (grown_trans HGw.out (grown_a _)) hg2 (by omega)
    have hw2l:w.heap.size < w2.heap.size:=by have:=HG2.out.size; have:=hI2.lt; omega
    clear hdr hp hsb HI1 hI2 hg2 hv hb2 hLb
    by_cases h3:p.ty.kind = 3
    ·have e3:(p.ty.kind == 3) = true:=by simpa using h3
     obtain ⟨rv,hrv⟩:∃ rv:Except Int Value,rv = match Sm.want l 3 p.ty.gen with | .ok i => .ok (.int .i64 (i:Int)) | .error y => .error y:=⟨_,rfl⟩
     have HRV:Hid (rv = match Sm.want l 3 p.ty.gen with | .ok i => .ok (.int .i64 (i:Int)) | .error y => .error y):=hrv
     have HRw:Hid (r = fv (andThen (Sm.want l 3 p.ty.gen) fun _ => Sm.params l (ps.drop (j + 1)) (seen ++ [p.name]))):=by
      have:=HRr.out
      rw [if_neg (by decide),if_pos h3] at this
      exact this
     have HD2:Hid (DfsIn B w2 l a):=hD.out.same (same_grown HG2.out (by simp) hB)
     have HM2:Hid (Ms.In w2 M R):=hM.out.grow HG2.out
     have hB2:B ≤ w2.heap.size:=by omega
     clear h3 hrv
     go_wp2_with fail
     refine (want_any B l a c M num 3 p.ty.gen R w2 rv HD2 hB2 HM2 hR HRV).mono ?_
     rintro e w3 ⟨hg3,he3⟩
     have HG3:Hid (w.grownBy w3 none):=grown_trans HG2.out hg3
     cases hwt:Sm.want l 3 p.ty.gen with
     | error y =>
      have hrv:rv = .error y:=by rw [HRV.out,hwt]
      subst hrv
      obtain rfl:=he3
      have HE:Hid (Fe num r w (.panicked [fltE y num]) w3):=⟨HG3.out,by rw [HRw.out,hwt]; rfl⟩
      clear hg3 hwt
      go_wp2
      exact ⟨rfl,HE.out⟩
     | ok i =>
      have hrv:rv = .ok (.int .i64 (i:Int)):=by rw [HRV.out,hwt]
      subst hrv
      obtain rfl:=he3
      have HRn:Hid (r = fv (Sm.params l (ps.drop (j + 1)) (seen ++ [p.name]))):=by unfold Hid; rw [HRw.out,hwt]; rfl
      have HI3:Hid (Ms.In w3 (w.heap.size + 1) (cnts (seen ++ [p.name]))):=HI2.out.grow hg3
      have HG03:Hid (W0.grownBy w3 (some (w.heap.size + 1))):=HG02.out.andThen hg3 (fun j e => by cases e)
      clear hg3 hwt
      go_wp2
      go_roundw
      case rel => exact ⟨j + 1,seen ++ [p.name],by go_num,HJ.out,HI3,HG03,HRn⟩
      case measure => have:=HJ.out; simp [intOf]; omega
    ·have e3:(p.ty.kind == 3) = false:=by simpa using h3
     have HRn:Hid (r = fv (Sm.params l (ps.drop (j + 1)) (seen ++ [p.name]))):=by
      have:=HRr.out
      rw [if_neg (by decide),if_neg h3] at this
      exact this
     clear h3
     go_wp2
     go_roundw
     case rel => exact ⟨j + 1,seen ++ [p.name],by go_num,HJ.out,HI2,HG02,HRn⟩
     case measure => have:=HJ.out; simp [intOf]; omega
  ·have HRe:Hid (r = .ok (.tuple #[])):=by
    have h1:=HR.out
    have h2:=HNP.out
    rw [List.drop_of_length_le (by omega)] at h1
    exact h1
   have hjp:¬ (j:Int) < (np:Int):=by omega
   go_wp2
   go_end0
   exact ⟨HGw.out,by rw [HRe.out]⟩
end Sm
namespace Sm
theorem head_any (B:Nat) (l:List Sy.Df) (a:Option Addr) (c M i:Nat) (me:Sy.Df) (R:Ms.Row) (w:World) (r:Except Int Value) (hD:Hid (DfsIn B w l a)) (hB:B ≤ w.heap.size) (hM:Hid (Ms.In w M R)) (hR:Hid (∀ s,Ms.val R s = (numOf l s).map (fun i => .int .i64 (i:Int))))
  (hme:Hid (l[i]? = some me)) (hr:Hid (r = fv (Sm.head l me))) :
  Calls Tryz.prog 30 #[lkV l.length a c M (i:Int)] w fun e w' => Fe (i:Int) r w e w':=by
 obtain ⟨W0,hW0⟩:∃ W0,W0 = w.alloc (lkB l.length a c M (i:Int)):=⟨_,rfl⟩
 have HG0:Hid (w.grownBy W0 none):=by rw [hW0]; exact grown_a _
 have HLk0:Hid (W0.heap[w.heap.size]? = some (lkB l.length a c M (i:Int))):=by rw [hW0]; exact heap_alloc_new _ _
 have HD0:Hid (DfsIn B W0 l a):=hD.out.same (same_grown HG0.out (by simp) hB)
 have hB0:B ≤ W0.heap.size:=by have:=HG0.out.size; omega
 have HW0:Hid (W0 = _):=hW0
 clear hW0
 go_enter Tryz.func30,Tryz.ntmps30
 go_wp2_with fail
 rw [← HW0.out]
 refine (def_any B l a c M i me W0 HD0 hB0 hme).mono ?_
 rintro e w1 ⟨hg1,val,rfl,pa,pc,ba,bc,rfl,hdf⟩
 obtain ⟨W2,hW2⟩:∃ W2,W2 = w1.alloc (dfB me pa pc ba bc):=⟨_,rfl⟩
 have HW2:Hid (W2 = _):=hW2
 have HG2:Hid (w.grownBy W2 none):=by rw [hW2]; exact grown_trans (grown_trans HG0.out hg1) (grown_a _)
 have HD:Hid (W2.heap[w1.heap.size]? = some (dfB me pa pc ba bc)):=by rw [hW2]; exact heap_alloc_new _ _
 have hl1:w1.heap[w.heap.size]? = some (lkB l.length a c M (i:Int)):=(hg1.block _ (lt_of_block HLk0.out) (by simp)).trans HLk0.out
 have HLk:Hid (W2.heap[w.heap.size]? = some (lkB l.length a c M (i:Int))):=by rw [hW2]; exact (Below.heap_alloc _ _ _ (lt_of_block hl1)).trans hl1
 have HPm:Hid (PmsIn B W2 me.params pa):=hdf.2.2.2.1.same (same_grown (grown_trans hg1 (by rw [hW2]; exact grown_a _)) (by simp) hB0)
 obtain ⟨m0,m1,m2⟩:=three_cell hl1
 have hwl:=lt_of_block hl1
 clear hg1 hdf hW2 hl1
 by_cases h1:me.kind = 1
 ·have HRr:Hid (r = fv (Sm.plain me.ty)):=by unfold Hid; rw [hr.out,Sm.head,if_pos h1]
  have e1:(me.kind == 1) = true:=by simpa using h1
  clear h1 hr
  obtain ⟨rv1,hrv1⟩:∃ rv:Except Int Value,rv = match Sm.plain me.ty with | .ok _ => .ok (.tuple #[]) | .error e => .error e:=⟨_,rfl⟩
  have HRV1:Hid (rv1 = match Sm.plain me.ty with | .ok _ => .ok (.tuple #[]) | .error e => .error e):=hrv1
  clear hrv1
  go_wp2_with fail
  refine (plain_any l.length a c M (i:Int) me.ty _ rv1 HRV1).mono ?_
  rintro e w4 ⟨hg4,he4⟩
  have HG4:Hid (w.grownBy w4 none):=grown_trans (by rw [HW2.out] at HG2; exact HG2.out) hg4
  cases hpl1:Sm.plain me.ty with
  | error y =>
   have hrv:rv1 = .error y:=by rw [HRV1.out,hpl1]
   subst hrv
   obtain rfl:=he4
   have HE:Hid (Fe (i:Int) r w (.panicked [fltE y (i:Int)]) w4):=⟨HG4.out,by rw [HRr.out,hpl1]; rfl⟩
   clear hg4 hpl1
   go_wp2
   exact ⟨rfl,HE.out⟩
  | ok u1 =>
   have hrv:rv1 = .ok (.tuple #[]):=by rw [HRV1.out,hpl1]
   subst hrv
   obtain rfl:=he4
   have HE:Hid (Fe (i:Int) r w (.returned (.tuple #[])) w4):=⟨HG4.out,by rw [HRr.out,hpl1]; rfl⟩
   clear hg4 hpl1
   go_wp2
   go_end0
   exact HE.out
 ·have e1:(me.kind == 1) = false:=by simpa using h1
  by_cases h2:me.kind = 2
  ·have HRr:Hid (r = fv (andThen (Sm.params l me.params []) fun _ => Sm.plain me.ty)):=by unfold Hid; rw [hr.out,Sm.head,if_neg h1,if_pos h2]
   have e2:(me.kind == 2) = true:=by simpa using h2
   clear h1 h2 hr
   obtain ⟨rp,hrp⟩:∃ rp:Except Int Value,rp = fv (Sm.params l me.params []):=⟨_,rfl⟩
   have HRP:Hid (rp = fv (Sm.params l me.params [])):=hrp
   have HD2:Hid (DfsIn B W2 l a):=hD.out.same (same_grown HG2.out (by simp) hB)
   have HM2:Hid (Ms.In W2 M R):=hM.out.grow HG2.out
   have hB2:B ≤ W2.heap.size:=by have:=HG2.out.size; omega
   clear hrp
   go_wp2_with fail
   rw [← HW2.out]
   refine (params_any B l a c M (i:Int) me.params pa pc R W2 rp HD2 hB2 HM2 hR HPm HRP).mono ?_
   rintro e w3 ⟨hg3,he3⟩
   have HG3:Hid (w.grownBy w3 none):=grown_trans HG2.out hg3
   have hd3:=(hg3.block _ (lt_of_block HD.out) (by simp)).trans HD.out
   have hl3:=(hg3.block _ (lt_of_block HLk.out) (by simp)).trans HLk.out
   obtain ⟨n0,n1,n2,n3,n4,n5,n6,n7,n8⟩:=nine_cell hd3
   obtain ⟨k0,k1,k2⟩:=three_cell hl3
   have HD3:Hid (w3.heap[w1.heap.size]? = some (dfB me pa pc ba bc)):=hd3
   have HL3:Hid (w3.heap[w.heap.size]? = some (lkB l.length a c M (i:Int))):=hl3
   cases hpp:Sm.params l me.params [] with
   | error y =>
    have hrv:rp = .error y:=by rw [HRP.out,hpp]; rfl
    subst hrv
    obtain rfl:=he3
    have HE:Hid (Fe (i:Int) r w (.panicked [fltE y (i:Int)]) w3):=⟨HG3.out,by rw [HRr.out,hpp]; rfl⟩
    clear hg3 hpp hd3 hl3
    go_wp2
    exact ⟨rfl,HE.out⟩
   | ok up =>
    have hrv:rp = .ok (.tuple #[]):=by rw [HRP.out,hpp]; rfl
    subst hrv
    obtain rfl:=he3
    have HRq:Hid (r = fv (Sm.plain me.ty)):=by unfold Hid; rw [HRr.out,hpp]; rfl
    clear hg3 hpp hd3 hl3 m0 m1 m2
    obtain ⟨rv1,hrv1⟩:∃ rv:Except Int Value,rv = match Sm.plain me.ty with | .ok _ => .ok (.tuple #[]) | .error e => .error e:=⟨_,rfl⟩
    have HRV1:Hid (rv1 = match Sm.plain me.ty with | .ok _ => .ok (.tuple #[]) | .error e => .error e):=hrv1
    clear hrv1
    go_wp2_with fail
    refine (plain_any l.length a c M (i:Int) me.ty _ rv1 HRV1).mono ?_
    rintro e w4 ⟨hg4,he4⟩
    have HG4:Hid (w.grownBy w4 none):=grown_trans HG3.out hg4
    cases hpl1:Sm.plain me.ty with
    | error y =>
     have hrv:rv1 = .error y:=by rw [HRV1.out,hpl1]
     subst hrv
     obtain rfl:=he4
     have HE:Hid (Fe (i:Int) r w (.panicked [fltE y (i:Int)]) w4):=⟨HG4.out,by rw [HRq.out,hpl1]; rfl⟩
     clear hg4 hpl1
     go_wp2
     exact ⟨rfl,HE.out⟩
    | ok u1 =>
     have hrv:rv1 = .ok (.tuple #[]):=by rw [HRV1.out,hpl1]
     subst hrv
     obtain rfl:=he4
     have HE:Hid (Fe (i:Int) r w (.returned (.tuple #[])) w4):=⟨HG4.out,by rw [HRq.out,hpl1]; rfl⟩
     clear hg4 hpl1
     go_wp2
     go_end0
     exact HE.out
  ·have e2:(me.kind == 2) = false:=by simpa using h2
   by_cases h3:me.kind = 3
   ·have HRr:Hid (r = fv (andThen (Sm.params l me.params []) fun _ => andThen (Sm.plain me.takes) fun _ => Sm.plain me.ty)):=by unfold Hid; rw [hr.out,Sm.head,if_neg h1,if_neg h2,if_pos h3]
    have e3:(me.kind == 3) = true:=by simpa using h3
    clear h1 h2 h3 hr
    obtain ⟨rp,hrp⟩:∃ rp:Except Int Value,rp = fv (Sm.params l me.params []):=⟨_,rfl⟩
    have HRP:Hid (rp = fv (Sm.params l me.params [])):=hrp
    have HD2:Hid (DfsIn B W2 l a):=hD.out.same (same_grown HG2.out (by simp) hB)
    have HM2:Hid (Ms.In W2 M R):=hM.out.grow HG2.out
    have hB2:B ≤ W2.heap.size:=by have:=HG2.out.size; omega
    clear hrp
    go_wp2_with fail
    rw [← HW2.out]
    refine (params_any B l a c M (i:Int) me.params pa pc R W2 rp HD2 hB2 HM2 hR HPm HRP).mono ?_
    rintro e w3 ⟨hg3,he3⟩
    have HG3:Hid (w.grownBy w3 none):=grown_trans HG2.out hg3
    have hd3:=(hg3.block _ (lt_of_block HD.out) (by simp)).trans HD.out
    have hl3:=(hg3.block _ (lt_of_block HLk.out) (by simp)).trans HLk.out
    obtain ⟨n0,n1,n2,n3,n4,n5,n6,n7,n8⟩:=nine_cell hd3
    obtain ⟨k0,k1,k2⟩:=three_cell hl3
    have HD3:Hid (w3.heap[w1.heap.size]? = some (dfB me pa pc ba bc)):=hd3
    have HL3:Hid (w3.heap[w.heap.size]? = some (lkB l.length a c M (i:Int))):=hl3
    cases hpp:Sm.params l me.params [] with
    | error y =>
     have hrv:rp = .error y:=by rw [HRP.out,hpp]; rfl
     subst hrv
     obtain rfl:=he3
     have HE:Hid (Fe (i:Int) r w (.panicked [fltE y (i:Int)]) w3):=⟨HG3.out,by rw [HRr.out,hpp]; rfl⟩
     clear hg3 hpp hd3 hl3
     go_wp2
     exact ⟨rfl,HE.out⟩
    | ok up =>
     have hrv:rp = .ok (.tuple #[]):=by rw [HRP.out,hpp]; rfl
     subst hrv
     obtain rfl:=he3
     have HRq:Hid (r = fv (andThen (Sm.plain me.takes) fun _ => Sm.plain me.ty)):=by unfold Hid; rw [HRr.out,hpp]; rfl
     clear hg3 hpp hd3 hl3 m0 m1 m2
     obtain ⟨rv1,hrv1⟩:∃ rv:Except Int Value,rv = match Sm.plain me.takes with | .ok _ => .ok (.tuple #[]) | .error e => .error e:=⟨_,rfl⟩
     have HRV1:Hid (rv1 = match Sm.plain me.takes with | .ok _ => .ok (.tuple #[]) | .error e => .error e):=hrv1
     clear hrv1
     go_wp2_with fail
     refine (plain_any l.length a c M (i:Int) me.takes _ rv1 HRV1).mono ?_
     rintro e w4 ⟨hg4,he4⟩
     have HG4:Hid (w.grownBy w4 none):=grown_trans HG3.out hg4
     cases hpl1:Sm.plain me.takes with
     | error y =>
      have hrv:rv1 = .error y:=by rw [HRV1.out,hpl1]
      subst hrv
      obtain rfl:=he4
      have HE:Hid (Fe (i:Int) r w (.panicked [fltE y (i:Int)]) w4):=⟨HG4.out,by rw [HRq.out,hpl1]; rfl⟩
      clear hg4 hpl1
      go_wp2
      exact ⟨rfl,HE.out⟩
     | ok u1 =>
      have hrv:rv1 = .ok (.tuple #[]):=by rw [HRV1.out,hpl1]
      subst hrv
      obtain rfl:=he4
      have HRs:Hid (r = fv (Sm.plain me.ty)):=by unfold Hid; rw [HRq.out,hpl1]; rfl
      obtain ⟨_,_,o2,o3,_⟩:=nine_cell ((hg4.block _ (lt_of_block HD3.out) (by simp)).trans HD3.out)
      obtain ⟨l0,l1,l2⟩:=three_cell ((hg4.block _ (lt_of_block HL3.out) (by simp)).trans HL3.out)
      clear hg4 hpl1
      obtain ⟨rv2,hrv2⟩:∃ rv:Except Int Value,rv = match Sm.plain me.ty with | .ok _ => .ok (.tuple #[]) | .error e => .error e:=⟨_,rfl⟩
      have HRV2:Hid (rv2 = match Sm.plain me.ty with | .ok _ => .ok (.tuple #[]) | .error e => .error e):=hrv2
      clear hrv2
      go_wp2_with fail
      refine (plain_any l.length a c M (i:Int) me.ty _ rv2 HRV2).mono ?_
      rintro e w5 ⟨hg5,he5⟩
      have HG5:Hid (w.grownBy w5 none):=grown_trans HG4.out hg5
      cases hpl2:Sm.plain me.ty with
      | error y =>
       have hrv:rv2 = .error y:=by rw [HRV2.out,hpl2]
       subst hrv
       obtain rfl:=he5
       have HE:Hid (Fe (i:Int) r w (.panicked [fltE y (i:Int)]) w5):=⟨HG5.out,by rw [HRs.out,hpl2]; rfl⟩
       clear hg5 hpl2
       go_wp2
       exact ⟨rfl,HE.out⟩
      | ok u2 =>
       have hrv:rv2 = .ok (.tuple #[]):=by rw [HRV2.out,hpl2]
       subst hrv
       obtain rfl:=he5
       have HE:Hid (Fe (i:Int) r w (.returned (.tuple #[])) w5):=⟨HG5.out,by rw [HRs.out,hpl2]; rfl⟩
       clear hg5 hpl2
       go_wp2
       go_end0
       exact HE.out
   ·have e3:(me.kind == 3) = false:=by simpa using h3
    have HRr:Hid (r = .ok (.tuple #[])):=by unfold Hid; rw [hr.out,Sm.head,if_neg h1,if_neg h2,if_neg h3]; rfl
    clear h1 h2 h3 hr
    rw [HW2.out] at HG2
    go_wp2
    go_end0
    exact ⟨HG2.out,by rw [HRr.out]⟩
end Sm
end Go.Proofs.YtpnljpdpobbiiaaGreatDoor
