/- The walk of expr: what is held against its like,alive,what is spoken. WHAT expr ANSWERS. -/
import Derived.Test.YtpnljpdpobbiiaaGreatDoorM18
set_option maxRecDepth 100000
set_option maxHeartbeats 4000000
namespace Go.Proofs.YtpnljpdpobbiiaaGreatDoor
open Go.RowKit
namespace Sm
theorem two_kids {B:Nat} {w:World} {x kd ke:Sy.Ex} {xa:Option Addr} (hx:∃ h,ExIn B w h x xa) (hkd:x.kids = [kd,ke]):∃ hh kb ko ka kc kl km,xa = some ⟨kb,ko,none⟩ ∧ kb < B ∧ w.cell? ⟨kb,ko,none⟩ = some (.int .i64 kd.kind) ∧ w.cell? ⟨kb,ko + 1,none⟩ = some (.int .i64 kd.n) ∧ w.cell? ⟨kb,ko + 2,none⟩ = some (.string kd.name) ∧ w.cell? ⟨kb,ko + 3,none⟩ = some (.slice ka kd.kids.length kc) ∧ ExIn B w hh kd ka ∧ w.cell? ⟨kb,ko + 4,none⟩ = some (.int .i64 ke.kind) ∧ w.cell? ⟨kb,ko + 5,none⟩ = some (.int .i64 ke.n) ∧ w.cell? ⟨kb,ko + 6,none⟩ = some (.string ke.name) ∧ w.cell? ⟨kb,ko + 7,none⟩ = some (.slice kl ke.kids.length km) ∧ ExIn B w hh ke kl:=by
 obtain ⟨hh,hE⟩:=hx
 cases hh with
 | zero => exact hE.elim
 | succ hh =>
  obtain ⟨b',off',a',c',e1,e2,e3,e4,e5,e6,e7⟩:=hE.2.2 0 kd (by rw [hkd]; rfl)
  obtain ⟨b2,off2,a2,c2,f1,f2,f3,f4,f5,f6,f7⟩:=hE.2.2 1 ke (by rw [hkd]; rfl)
  rw [e1] at f1
  cases f1
  simp only [Nat.zero_mul,Nat.add_zero] at e3 e4 e5 e6
  simp only [Nat.one_mul,Nat.add_assoc,Nat.reduceAdd] at f3 f4 f5 f6
  exact ⟨hh,b',off',a',c',a2,c2,e1,e2,e3,e4,e5,e6,e7,f3,f4,f5,f6,f7⟩
theorem one_kid {B:Nat} {w:World} {x kd:Sy.Ex} {xa:Option Addr} (hx:∃ h,ExIn B w h x xa) (hkd:x.kids = [kd]):∃ hh kb ko ka kc,xa = some ⟨kb,ko,none⟩ ∧ kb < B ∧ w.cell? ⟨kb,ko,none⟩ = some (.int .i64 kd.kind) ∧ w.cell? ⟨kb,ko + 1,none⟩ = some (.int .i64 kd.n) ∧ w.cell? ⟨kb,ko + 2,none⟩ = some (.string kd.name) ∧ w.cell? ⟨kb,ko + 3,none⟩ = some (.slice ka kd.kids.length kc) ∧ ExIn B w hh kd ka:=by
 obtain ⟨hh,hE⟩:=hx
 cases hh with
 | zero => exact hE.elim
 | succ hh =>
  obtain ⟨b',off',a',c',e1,e2,e3,e4,e5,e6,e7⟩:=hE.2.2 0 kd (by rw [hkd]; rfl)
  simp only [Nat.zero_mul,Nat.add_zero] at e3 e4 e5 e6
  exact ⟨hh,b',off',a',c',e1,e2,e3,e4,e5,e6,e7⟩
theorem expr_eq
  (K:BK) (v:Vars) (d:Nat) (me:Sy.Df) (hC:Hid (CEx K v d (expr K.l me v d))) (x:Sy.Ex) (xa:Option Addr) (xc:Nat) (t:Tk) (n m:Nat) (w:World) (r:Except Int (Value × Vars × Tk)) (h:Hid (BW K w v t)) (hx:Hid (∃ h,ExIn K.B w h x xa)) (hn:Hid (Sy.runs (Sy.exW d) x.kids (n + 1) = .ok m)) (ht:Hid (TkLe t n)) (h2:n + 1 ≤ 2000)
    (hr:Hid (r = andThen (expr K.l me v (d + 1) x t) fun p => .ok (tyV p.1,v,p.2)))
  (hk:x.kind = 11 ∨ x.kind = 12) (hh:Sy.exHead x = 0) :
  Calls Tryz.prog 99 #[.pointer (some ⟨K.F,0,none⟩),exV x xa xc] w fun e w' => Bf K w v r e w'
  := by
 obtain ⟨kd,ke,hkd⟩:=kids_two hh (by omega)
 have hF:=h.out.lt
 obtain ⟨W0,hW0⟩:∃ W0,W0 = (w.alloc (exB x xa xc)).alloc zT:=⟨_,rfl⟩
 have HK0:Hid (Kpt K w W0):=by rw [hW0]; exact Kpt.grown (grown_a2 _ _) hF
 have HB0:Hid (BW K W0 v t):=by rw [hW0]; exact h.out.grown (grown_a2 _ _)
 have HX0:Hid (W0.heap[w.heap.size]? = some (exB x xa xc) ∧ Free K W0 w.heap.size):=by
  rw [hW0]
  exact (Kpt.alloc K _ _ (by simp; omega)).at (h.out.new _)
 have HZ0:Hid (W0.heap[w.heap.size + 1]? = some zT ∧ Free K W0 (w.heap.size + 1)):=by
  rw [hW0]
  refine ⟨?_,h.out.free (grown_a2 _ _) (by omega)⟩
  have:=heap_alloc_new (w.alloc (exB x xa xc)) zT
  simpa using this
 have HE0:Hid (∃ h,ExIn K.B W0 h x xa):=by
  obtain ⟨hh,hE⟩:=hx.out
  exact ⟨hh,hE.same (h.out.same HK0.out)⟩
 have HW0:Hid (W0 = _):=hW0
 have hBw:K.B ≤ w.heap.size + 1:=by have:=h.out.base; omega
 clear hW0
 have hx0:kid x 0 = kd:=by simp [kid,hkd]
 have hx1:kid x 1 = ke:=by simp [kid,hkd]
 obtain ⟨r1,hr1⟩:∃ r1,r1 = expr K.l me v d kd t:=⟨_,rfl⟩
 have HE1:Hid (r1 = expr K.l me v d kd t):=hr1
 have HRr:Hid (r = andThen r1 fun a => andThen (expr K.l me v d ke a.2) fun b => andThen (plain a.1) fun _ => if Sm.same a.1 b.1 = true then .ok (tyV (⟨2,⟨#[]⟩⟩:Sy.Ty),v,b.2) else .error 9):=by
  unfold Hid
  rw [hr.out,expr,if_neg (by omega),if_neg (by omega),if_neg (by omega),if_neg (by omega),if_neg (by omega),if_neg (by omega),if_pos (by omega),hx0,hx1,hr1]
  cases expr K.l me v d kd t with
  | error e => rfl
  | ok a =>
   rw [andThen_ok,andThen_ok]
   cases expr K.l me v d ke a.2 with
   | error e => rfl
   | ok b =>
    rw [andThen_ok,andThen_ok]
    cases plain a.1 with
    | error e => rfl
    | ok u => rw [andThen_ok,andThen_ok]; split <;> rfl
 have hn':=hn.out
 rw [hkd] at hn'
 obtain ⟨n1,hn1,hn2⟩:=runs_cons hn'
 have HX1:Hid (Sy.exW d kd (n + 1) = .ok n1):=hn1
 have HX2:Hid (Sy.exW d ke n1 = .ok m):=by
  obtain ⟨k2,hk2,hk3⟩:=runs_cons hn2
  cases hk3
  exact hk2
 have h12:n1 ≤ 2000:=Sy.exW_le d kd (n + 1) n1 h2 hn1
 have HT1:Hid (TkLe t (n + 1)):=ht.out.mono (by omega)
 obtain ⟨hh',kb,ko,ka,kc,kl,km,hxa,hkb,q0,q1,q2,q3,hkx,p0,p1,p2,p3,hky⟩:=two_kids HE0.out hkd
 have HKX:Hid (∃ h,ExIn K.B W0 h kd ka):=⟨hh',hkx⟩
 have HKY:Hid (∃ h,ExIn K.B W0 h ke kl):=⟨hh',hky⟩
 have hl2:x.kids.length = 2:=by rw [hkd]; rfl
 have l0:(0:Int) < (x.kids.length:Int):=by omega
 have l1:(1:Int) < (x.kids.length:Int):=by omega
 have l0n:0 < x.kids.length:=by omega
 have l1n:1 < x.kids.length:=by omega
 subst hxa
 have HS:Hid (∀ w',Kpt K W0 w' → w'.cell? ⟨w.heap.size,3,none⟩ = some (.slice (some ⟨kb,ko,none⟩) x.kids.length xc) ∧ w'.cell? ⟨kb,ko,none⟩ = some (.int .i64 kd.kind) ∧ w'.cell? ⟨kb,ko + 1,none⟩ = some (.int .i64 kd.n) ∧ w'.cell? ⟨kb,ko + 2,none⟩ = some (.string kd.name) ∧ w'.cell? ⟨kb,ko + 3,none⟩ = some (.slice ka kd.kids.length kc) ∧ w'.cell? ⟨kb,ko + 4,none⟩ = some (.int .i64 ke.kind) ∧ w'.cell? ⟨kb,ko + 5,none⟩ = some (.int .i64 ke.n) ∧ w'.cell? ⟨kb,ko + 6,none⟩ = some (.string ke.name) ∧ w'.cell? ⟨kb,ko + 7,none⟩ = some (.slice kl ke.kids.length km)):=fun w' hk => by
  obtain ⟨_,_,_,x3'⟩:=four_cell (hk.at HX0.out).1
  have old:∀ o,w'.cell? ⟨kb,o,none⟩ = W0.cell? ⟨kb,o,none⟩:=fun o => HB0.out.same hk kb o hkb
  rw [old,old,old,old,old,old,old,old]
  exact ⟨x3',q0,q1,q2,q3,p0,p1,p2,p3⟩
 clear hr hn hn' hkd hh hx0 hx1 hr1 hn1 hn2 hkx hky hl2 q0 q1 q2 q3 p0 p1 p2 p3
 rcases hk with hk | hk
 ·have e1:(x.kind == 1) = false:=by rw [hk]; rfl
  have e2:(x.kind == 2) = false:=by rw [hk]; rfl
  have e3:(x.kind == 3) = false:=by rw [hk]; rfl
  have e4:(x.kind == 4) = false:=by rw [hk]; rfl
  have e6:(x.kind == 6) = false:=by rw [hk]; rfl
  have e7:(x.kind == 7) = false:=by rw [hk]; rfl
  have e8:(x.kind == 8) = false:=by rw [hk]; rfl
  have e9:(x.kind == 9) = false:=by rw [hk]; rfl
  have e10:(x.kind == 10) = false:=by rw [hk]; rfl
  have e13:(x.kind == 13) = false:=by rw [hk]; rfl
  have e14:(x.kind == 14) = false:=by rw [hk]; rfl
  have e15:(x.kind == 15) = false:=by rw [hk]; rfl
  have e16:(x.kind == 16) = false:=by rw [hk]; rfl
  have e5:(x.kind == 5) = false:=by rw [hk]; rfl
  have e17:(x.kind == 17) = false:=by rw [hk]; rfl
  have e18:(x.kind == 18) = false:=by rw [hk]; rfl
  have e11:(x.kind == 11) = true:=by rw [hk]; rfl
  clear hk
  go_enter Tryz.func99,Tryz.ntmps99
  go_wp2_with fail
  rw [← HW0.out]
  refine wp_region_held_drew (S:=fun w' => w'.cell? ⟨w.heap.size,3,none⟩ = some (.slice (some ⟨kb,ko,none⟩) x.kids.length xc) ∧ w'.cell? ⟨kb,ko,none⟩ = some (.int .i64 kd.kind) ∧ w'.cell? ⟨kb,ko + 1,none⟩ = some (.int .i64 kd.n) ∧ w'.cell? ⟨kb,ko + 2,none⟩ = some (.string kd.name) ∧ w'.cell? ⟨kb,ko + 3,none⟩ = some (.slice ka kd.kids.length kc) ∧ w'.cell? ⟨kb,ko + 4,none⟩ = some (.int .i64 ke.kind) ∧ w'.cell? ⟨kb,ko + 5,none⟩ = some (.int .i64 ke.n) ∧ w'.cell? ⟨kb,ko + 6,none⟩ = some (.string ke.name) ∧ w'.cell? ⟨kb,ko + 7,none⟩ = some (.slice kl ke.kids.length km)) (by kernel_rfl) (HS.out W0 (Kpt.refl _ _)) (fun hHeld => ?_)
  refine tk 0 (v:=?_) rfl ?_ (by assumption) ?_
  rotate_left
  ·intro w hSw
   (try dsimp only at hSw)
   go_simp
   (try with_reducible rfl)
  (try go_frame)
  refine tk 1 (v:=?_) rfl ?_ (by assumption) ?_
  rotate_left
  ·intro w hSw
   (try dsimp only at hSw)
   go_simp
   (try with_reducible rfl)
  (try go_frame)
  refine tk 2 (v:=?_) rfl ?_ (by assumption) ?_
  rotate_left
  ·intro w hSw
   (try dsimp only at hSw)
   go_simp
   (try with_reducible rfl)
  (try go_frame)
  refine tk 3 (v:=?_) rfl ?_ (by assumption) ?_
  rotate_left
  ·intro w hSw
   (try dsimp only at hSw)
   go_simp
   (try with_reducible rfl)
  (try go_frame)
  refine tk 4 (v:=?_) rfl ?_ (by assumption) ?_
  rotate_left
  ·intro w hSw
   (try dsimp only at hSw)
   go_simp
   (try with_reducible rfl)
  (try go_frame)
  refine tk 5 (v:=?_) rfl ?_ (by assumption) ?_
  rotate_left
  ·intro w hSw
   (try dsimp only at hSw)
   go_simp
   (try with_reducible rfl)
  (try go_frame)
  refine tk 7 (v:=?_) rfl ?_ (by assumption) ?_
  rotate_left
  ·intro w hSw
   (try dsimp only at hSw)
   go_simp
   (try with_reducible rfl)
  (try go_frame)
  refine tk 8 (v:=?_) rfl ?_ (by assumption) ?_
  rotate_left
  ·intro w hSw
   (try dsimp only at hSw)
   go_simp
   (try with_reducible rfl)
  (try go_frame)
  refine tk 9 (v:=?_) rfl ?_ (by assumption) ?_
  rotate_left
  ·intro w hSw
   (try dsimp only at hSw)
   go_simp
   (try with_reducible rfl)
  (try go_frame)
  refine tk 10 (v:=?_) rfl ?_ (by assumption) ?_
  rotate_left
  ·intro w hSw
   (try dsimp only at hSw)
   go_simp
   (try with_reducible rfl)
  (try go_frame)
  refine tk 11 (v:=?_) rfl ?_ (by assumption) ?_
  rotate_left
  ·intro w hSw
   (try dsimp only at hSw)
   go_simp
   (try with_reducible rfl)
  (try go_frame)
  refine wpAnyH_ready (rs:=[6]) (by kernel_rfl) (by simp) ?_
  refine AllReadyH.cons (o:=_) rfl (fun K' hK => ?_) AllReadyH.nil
  go_simp
  refine (hC.out kd ka kc t (n + 1) n1 W0.drew _ (by exact HB0.out.drew) (by obtain ⟨hh,hE⟩:=HKX.out; exact ⟨hh,ExIn.same (w:=W0) (w':=W0.drew) (fun _ _ _ => rfl) _ _ _ hE⟩) HX1 HT1 h2 (by rw [← HE1.out]; exact rfl)).mono ?_
  rintro e w1 ⟨hk1',he1⟩
  have HK1:Hid (Kpt K W0 w1):=hk1'.ofDrew
  clear hk1'
  cases r1 with
  | error y =>
   obtain ⟨rfl,v2,t2,hb2,hp2⟩:=he1
   have HE:Hid (Bf K w v r (.panicked [fltE y K.num]) w1):=by
    rw [HRr.out]
    exact ⟨HK0.out.trans HK1.out,rfl,v2,t2,hb2,hp2⟩
   clear hK hb2 hp2
   go_wp2
   exact ⟨rfl,HE.out⟩
  | ok p =>
   obtain ⟨ya,t1⟩:=p
   obtain ⟨rfl,hb1⟩:=he1
   have HB1:Hid (BW K w1 v t1):=hb1
   have HT2:Hid (TkLe t1 n1):=expr_le K.l me v d kd t (n + 1) n1 ya t1 HX1.out HT1.out HE1.out.symm
   obtain ⟨r2,hr2⟩:∃ r2,r2 = expr K.l me v d ke t1:=⟨_,rfl⟩
   have HE2:Hid (r2 = expr K.l me v d ke t1):=hr2
   have HRs:Hid (r = andThen r2 fun b => andThen (plain ya) fun _ => if Sm.same ya b.1 = true then .ok (tyV (⟨2,⟨#[]⟩⟩:Sy.Ty),v,b.2) else .error 9):=by unfold Hid; rw [HRr.out,andThen_ok,hr2]
   have HKY1:Hid (∃ h,ExIn K.B w1 h ke kl):=by
    obtain ⟨hh,hE⟩:=HKY.out
    exact ⟨hh,hE.same (HB0.out.same HK1.out)⟩
   refine hK.out _ _ (HS.out w1 HK1.out) (fun hHeld => ?_)
   clear hK hb1 hr2
   refine wpAnyH_ready (rs:=[12]) (by kernel_rfl) (by simp) ?_
   refine AllReadyH.cons (o:=_) rfl (fun K' hK => ?_) AllReadyH.nil
   go_simp
   refine (hC.out ke kl km t1 n1 m w1 _ HB1 HKY1 HX2 HT2 h12 (by rw [← HE2.out]; exact rfl)).mono ?_
   rintro e w2 ⟨hk2,he2⟩
   have HK2:Hid (Kpt K W0 w2):=HK1.out.trans hk2
   clear hk2
   cases r2 with
   | error y =>
    obtain ⟨rfl,v2,t2,hb2,hp2⟩:=he2
    have HE:Hid (Bf K w v r (.panicked [fltE y K.num]) w2):=by
     rw [HRs.out]
     exact ⟨HK0.out.trans HK2.out,rfl,v2,t2,hb2,hp2⟩
    clear hK hb2 hp2
    go_wp2
    exact ⟨rfl,HE.out⟩
   | ok p =>
    obtain ⟨yb,t2⟩:=p
    obtain ⟨rfl,hb2⟩:=he2
    have HB2:Hid (BW K w2 v t2):=hb2
    obtain ⟨rv,hrv⟩:∃ rv:Except Int Value,rv = match Sm.plain ya with | .error e => .error e | .ok _ => if Sm.same ya yb = true then .ok (.tuple #[]) else .error 9:=⟨_,rfl⟩
    have HRV:Hid (rv = match Sm.plain ya with | .error e => .error e | .ok _ => if Sm.same ya yb = true then .ok (.tuple #[]) else .error 9):=hrv
    have HRf:Hid (r = andThen rv fun _ => .ok (tyV (⟨2,⟨#[]⟩⟩:Sy.Ty),v,t2)):=by
     unfold Hid
     rw [HRs.out,andThen_ok,hrv]
     cases Sm.plain ya with
     | error e => rfl
     | ok u => dsimp only [andThen]; split <;> rfl
    refine hK.out _ _ (HS.out w2 HK2.out) (fun hHeld => ?_)
    clear hK hb2 hrv
    refine wpAnyH_ready (rs:=[13]) (by kernel_rfl) (by simp) ?_
    refine AllReadyH.cons (o:=_) rfl (fun K' hK => ?_) AllReadyH.nil
    go_simp
    refine (alike_any K v t2 ya yb w2 rv HB2 HRV).mono ?_
    rintro e w3 ⟨hg3,he3⟩
    have HB3:Hid (BW K w3 v t2):=HB2.out.grown hg3
    have HK03:Hid (Kpt K W0 w3):=HK2.out.trans (Kpt.grown hg3 HB2.out.lt)
    have HK3:Hid (Kpt K w w3):=HK0.out.trans HK03.out
    cases rv with
    | error y =>
     obtain rfl:=he3
     have HE:Hid (Bf K w v r (.panicked [fltE y K.num]) w3):=by
      rw [HRf.out]
      exact ⟨HK3.out,rfl,v,t2,HB3.out,List.prefix_refl _⟩
     clear hK hg3
     go_wp2
     exact ⟨rfl,HE.out⟩
    | ok u =>
     obtain rfl:=he3
     have HRe:Hid (r = .ok (tyV (⟨2,⟨#[]⟩⟩:Sy.Ty),v,t2)):=HRf.out
     have HZ3:=hid (HK03.out.at HZ0.out)
     obtain ⟨_,g0,g1,g2,g3⟩:=HB3.out.grd.2
     refine hK.out _ _ (HS.out w3 HK03.out) (fun hHeld => ?_)
     clear hK hg3 hHeld
     refine wpAnyH_done (by kernel_rfl) ?_ _
     have HTE:=hid (ty_end (y:=(⟨2,⟨#[]⟩⟩:Sy.Ty)) (Z:=w.heap.size + 1) HB3.out HK3.out HZ3.out (by omega) hBw hF HRe.out)
     obtain ⟨W9,hW9⟩:∃ W9,W9 = (w3.setCell ⟨w.heap.size + 1,0,none⟩ (.int .i64 ((⟨2,⟨#[]⟩⟩:Sy.Ty)).kind)).setCell ⟨w.heap.size + 1,1,none⟩ (.string ((⟨2,⟨#[]⟩⟩:Sy.Ty)).gen):=⟨_,rfl⟩
     have HW9:Hid (W9 = _):=hW9
     obtain ⟨ez0,ez1,ef0,ef1⟩:=two_cell (HZ3.out).1
     clear hW9
     go_wp2
     rw [show (w3.setCell ⟨w.heap.size + 1,0,none⟩ (.int .i64 ((⟨2,⟨#[]⟩⟩:Sy.Ty)).kind)).setCell ⟨w.heap.size + 1,1,none⟩ (.string ((⟨2,⟨#[]⟩⟩:Sy.Ty)).gen) = W9 from HW9.out.symm]
     have q9:=HTE.out.2
     rw [show twoS w3 (w.heap.size + 1) (.int .i64 ((⟨2,⟨#[]⟩⟩:Sy.Ty)).kind) (.string ((⟨2,⟨#[]⟩⟩:Sy.Ty)).gen) = W9 from HW9.out.symm] at q9
     refine bodyPost_ret (v:=tyV (⟨2,⟨#[]⟩⟩:Sy.Ty)) (by simp [results,Tryz.results99,go_sem,World.cell?,q9]) rfl ?_
     rw [HW9.out]
     exact HTE.out.1
 ·have e1:(x.kind == 1) = false:=by rw [hk]; rfl
  have e2:(x.kind == 2) = false:=by rw [hk]; rfl
  have e3:(x.kind == 3) = false:=by rw [hk]; rfl
  have e4:(x.kind == 4) = false:=by rw [hk]; rfl
  have e6:(x.kind == 6) = false:=by rw [hk]; rfl
  have e7:(x.kind == 7) = false:=by rw [hk]; rfl
  have e8:(x.kind == 8) = false:=by rw [hk]; rfl
  have e9:(x.kind == 9) = false:=by rw [hk]; rfl
  have e10:(x.kind == 10) = false:=by rw [hk]; rfl
  have e13:(x.kind == 13) = false:=by rw [hk]; rfl
  have e14:(x.kind == 14) = false:=by rw [hk]; rfl
  have e15:(x.kind == 15) = false:=by rw [hk]; rfl
  have e16:(x.kind == 16) = false:=by rw [hk]; rfl
  have e5:(x.kind == 5) = false:=by rw [hk]; rfl
  have e17:(x.kind == 17) = false:=by rw [hk]; rfl
  have e18:(x.kind == 18) = false:=by rw [hk]; rfl
  have e11:(x.kind == 11) = false:=by rw [hk]; rfl
  have e12:(x.kind == 12) = true:=by rw [hk]; rfl
  clear hk
  go_enter Tryz.func99,Tryz.ntmps99
  go_wp2_with fail
  rw [← HW0.out]
  refine wp_region_held_drew (S:=fun w' => w'.cell? ⟨w.heap.size,3,none⟩ = some (.slice (some ⟨kb,ko,none⟩) x.kids.length xc) ∧ w'.cell? ⟨kb,ko,none⟩ = some (.int .i64 kd.kind) ∧ w'.cell? ⟨kb,ko + 1,none⟩ = some (.int .i64 kd.n) ∧ w'.cell? ⟨kb,ko + 2,none⟩ = some (.string kd.name) ∧ w'.cell? ⟨kb,ko + 3,none⟩ = some (.slice ka kd.kids.length kc) ∧ w'.cell? ⟨kb,ko + 4,none⟩ = some (.int .i64 ke.kind) ∧ w'.cell? ⟨kb,ko + 5,none⟩ = some (.int .i64 ke.n) ∧ w'.cell? ⟨kb,ko + 6,none⟩ = some (.string ke.name) ∧ w'.cell? ⟨kb,ko + 7,none⟩ = some (.slice kl ke.kids.length km)) (by kernel_rfl) (HS.out W0 (Kpt.refl _ _)) (fun hHeld => ?_)
  refine tk 0 (v:=?_) rfl ?_ (by assumption) ?_
  rotate_left
  ·intro w hSw
   (try dsimp only at hSw)
   go_simp
   (try with_reducible rfl)
  (try go_frame)
  refine tk 1 (v:=?_) rfl ?_ (by assumption) ?_
  rotate_left
  ·intro w hSw
   (try dsimp only at hSw)
   go_simp
   (try with_reducible rfl)
  (try go_frame)
  refine tk 2 (v:=?_) rfl ?_ (by assumption) ?_
  rotate_left
  ·intro w hSw
   (try dsimp only at hSw)
   go_simp
   (try with_reducible rfl)
  (try go_frame)
  refine tk 3 (v:=?_) rfl ?_ (by assumption) ?_
  rotate_left
  ·intro w hSw
   (try dsimp only at hSw)
   go_simp
   (try with_reducible rfl)
  (try go_frame)
  refine tk 4 (v:=?_) rfl ?_ (by assumption) ?_
  rotate_left
  ·intro w hSw
   (try dsimp only at hSw)
   go_simp
   (try with_reducible rfl)
  (try go_frame)
  refine tk 5 (v:=?_) rfl ?_ (by assumption) ?_
  rotate_left
  ·intro w hSw
   (try dsimp only at hSw)
   go_simp
   (try with_reducible rfl)
  (try go_frame)
  refine tk 7 (v:=?_) rfl ?_ (by assumption) ?_
  rotate_left
  ·intro w hSw
   (try dsimp only at hSw)
   go_simp
   (try with_reducible rfl)
  (try go_frame)
  refine tk 8 (v:=?_) rfl ?_ (by assumption) ?_
  rotate_left
  ·intro w hSw
   (try dsimp only at hSw)
   go_simp
   (try with_reducible rfl)
  (try go_frame)
  refine tk 9 (v:=?_) rfl ?_ (by assumption) ?_
  rotate_left
  ·intro w hSw
   (try dsimp only at hSw)
   go_simp
   (try with_reducible rfl)
  (try go_frame)
  refine tk 10 (v:=?_) rfl ?_ (by assumption) ?_
  rotate_left
  ·intro w hSw
   (try dsimp only at hSw)
   go_simp
   (try with_reducible rfl)
  (try go_frame)
  refine tk 11 (v:=?_) rfl ?_ (by assumption) ?_
  rotate_left
  ·intro w hSw
   (try dsimp only at hSw)
   go_simp
   (try with_reducible rfl)
  (try go_frame)
  refine wpAnyH_ready (rs:=[6]) (by kernel_rfl) (by simp) ?_
  refine AllReadyH.cons (o:=_) rfl (fun K' hK => ?_) AllReadyH.nil
  go_simp
  refine (hC.out kd ka kc t (n + 1) n1 W0.drew _ (by exact HB0.out.drew) (by obtain ⟨hh,hE⟩:=HKX.out; exact ⟨hh,ExIn.same (w:=W0) (w':=W0.drew) (fun _ _ _ => rfl) _ _ _ hE⟩) HX1 HT1 h2 (by rw [← HE1.out]; exact rfl)).mono ?_
  rintro e w1 ⟨hk1',he1⟩
  have HK1:Hid (Kpt K W0 w1):=hk1'.ofDrew
  clear hk1'
  cases r1 with
  | error y =>
   obtain ⟨rfl,v2,t2,hb2,hp2⟩:=he1
   have HE:Hid (Bf K w v r (.panicked [fltE y K.num]) w1):=by
    rw [HRr.out]
    exact ⟨HK0.out.trans HK1.out,rfl,v2,t2,hb2,hp2⟩
   clear hK hb2 hp2
   go_wp2
   exact ⟨rfl,HE.out⟩
  | ok p =>
   obtain ⟨ya,t1⟩:=p
   obtain ⟨rfl,hb1⟩:=he1
   have HB1:Hid (BW K w1 v t1):=hb1
   have HT2:Hid (TkLe t1 n1):=expr_le K.l me v d kd t (n + 1) n1 ya t1 HX1.out HT1.out HE1.out.symm
   obtain ⟨r2,hr2⟩:∃ r2,r2 = expr K.l me v d ke t1:=⟨_,rfl⟩
   have HE2:Hid (r2 = expr K.l me v d ke t1):=hr2
   have HRs:Hid (r = andThen r2 fun b => andThen (plain ya) fun _ => if Sm.same ya b.1 = true then .ok (tyV (⟨2,⟨#[]⟩⟩:Sy.Ty),v,b.2) else .error 9):=by unfold Hid; rw [HRr.out,andThen_ok,hr2]
   have HKY1:Hid (∃ h,ExIn K.B w1 h ke kl):=by
    obtain ⟨hh,hE⟩:=HKY.out
    exact ⟨hh,hE.same (HB0.out.same HK1.out)⟩
   refine hK.out _ _ (HS.out w1 HK1.out) (fun hHeld => ?_)
   clear hK hb1 hr2
   refine wpAnyH_ready (rs:=[12]) (by kernel_rfl) (by simp) ?_
   refine AllReadyH.cons (o:=_) rfl (fun K' hK => ?_) AllReadyH.nil
   go_simp
   refine (hC.out ke kl km t1 n1 m w1 _ HB1 HKY1 HX2 HT2 h12 (by rw [← HE2.out]; exact rfl)).mono ?_
   rintro e w2 ⟨hk2,he2⟩
   have HK2:Hid (Kpt K W0 w2):=HK1.out.trans hk2
   clear hk2
   cases r2 with
   | error y =>
    obtain ⟨rfl,v2,t2,hb2,hp2⟩:=he2
    have HE:Hid (Bf K w v r (.panicked [fltE y K.num]) w2):=by
     rw [HRs.out]
     exact ⟨HK0.out.trans HK2.out,rfl,v2,t2,hb2,hp2⟩
    clear hK hb2 hp2
    go_wp2
    exact ⟨rfl,HE.out⟩
   | ok p =>
    obtain ⟨yb,t2⟩:=p
    obtain ⟨rfl,hb2⟩:=he2
    have HB2:Hid (BW K w2 v t2):=hb2
    obtain ⟨rv,hrv⟩:∃ rv:Except Int Value,rv = match Sm.plain ya with | .error e => .error e | .ok _ => if Sm.same ya yb = true then .ok (.tuple #[]) else .error 9:=⟨_,rfl⟩
    have HRV:Hid (rv = match Sm.plain ya with | .error e => .error e | .ok _ => if Sm.same ya yb = true then .ok (.tuple #[]) else .error 9):=hrv
    have HRf:Hid (r = andThen rv fun _ => .ok (tyV (⟨2,⟨#[]⟩⟩:Sy.Ty),v,t2)):=by
     unfold Hid
     rw [HRs.out,andThen_ok,hrv]
     cases Sm.plain ya with
     | error e => rfl
     | ok u => dsimp only [andThen]; split <;> rfl
    refine hK.out _ _ (HS.out w2 HK2.out) (fun hHeld => ?_)
    clear hK hb2 hrv
    refine wpAnyH_ready (rs:=[13]) (by kernel_rfl) (by simp) ?_
    refine AllReadyH.cons (o:=_) rfl (fun K' hK => ?_) AllReadyH.nil
    go_simp
    refine (alike_any K v t2 ya yb w2 rv HB2 HRV).mono ?_
    rintro e w3 ⟨hg3,he3⟩
    have HB3:Hid (BW K w3 v t2):=HB2.out.grown hg3
    have HK03:Hid (Kpt K W0 w3):=HK2.out.trans (Kpt.grown hg3 HB2.out.lt)
    have HK3:Hid (Kpt K w w3):=HK0.out.trans HK03.out
    cases rv with
    | error y =>
     obtain rfl:=he3
     have HE:Hid (Bf K w v r (.panicked [fltE y K.num]) w3):=by
      rw [HRf.out]
      exact ⟨HK3.out,rfl,v,t2,HB3.out,List.prefix_refl _⟩
     clear hK hg3
     go_wp2
     exact ⟨rfl,HE.out⟩
    | ok u =>
     obtain rfl:=he3
     have HRe:Hid (r = .ok (tyV (⟨2,⟨#[]⟩⟩:Sy.Ty),v,t2)):=HRf.out
     have HZ3:=hid (HK03.out.at HZ0.out)
     obtain ⟨_,g0,g1,g2,g3⟩:=HB3.out.grd.2
     refine hK.out _ _ (HS.out w3 HK03.out) (fun hHeld => ?_)
     clear hK hg3 hHeld
     refine wpAnyH_done (by kernel_rfl) ?_ _
     have HTE:=hid (ty_end (y:=(⟨2,⟨#[]⟩⟩:Sy.Ty)) (Z:=w.heap.size + 1) HB3.out HK3.out HZ3.out (by omega) hBw hF HRe.out)
     obtain ⟨W9,hW9⟩:∃ W9,W9 = (w3.setCell ⟨w.heap.size + 1,0,none⟩ (.int .i64 ((⟨2,⟨#[]⟩⟩:Sy.Ty)).kind)).setCell ⟨w.heap.size + 1,1,none⟩ (.string ((⟨2,⟨#[]⟩⟩:Sy.Ty)).gen):=⟨_,rfl⟩
     have HW9:Hid (W9 = _):=hW9
     obtain ⟨ez0,ez1,ef0,ef1⟩:=two_cell (HZ3.out).1
     clear hW9
     go_wp2
     rw [show (w3.setCell ⟨w.heap.size + 1,0,none⟩ (.int .i64 ((⟨2,⟨#[]⟩⟩:Sy.Ty)).kind)).setCell ⟨w.heap.size + 1,1,none⟩ (.string ((⟨2,⟨#[]⟩⟩:Sy.Ty)).gen) = W9 from HW9.out.symm]
     have q9:=HTE.out.2
     rw [show twoS w3 (w.heap.size + 1) (.int .i64 ((⟨2,⟨#[]⟩⟩:Sy.Ty)).kind) (.string ((⟨2,⟨#[]⟩⟩:Sy.Ty)).gen) = W9 from HW9.out.symm] at q9
     refine bodyPost_ret (v:=tyV (⟨2,⟨#[]⟩⟩:Sy.Ty)) (by simp [results,Tryz.results99,go_sem,World.cell?,q9]) rfl ?_
     rw [HW9.out]
     exact HTE.out.1
theorem expr_alive
  (K:BK) (v:Vars) (d:Nat) (me:Sy.Df) (hC:Hid (CEx K v d (expr K.l me v d))) (x:Sy.Ex) (xa:Option Addr) (xc:Nat) (t:Tk) (n m:Nat) (w:World) (r:Except Int (Value × Vars × Tk)) (h:Hid (BW K w v t)) (hx:Hid (∃ h,ExIn K.B w h x xa)) (hn:Hid (Sy.runs (Sy.exW d) x.kids (n + 1) = .ok m)) (ht:Hid (TkLe t n)) (h2:n + 1 ≤ 2000)
    (hr:Hid (r = andThen (expr K.l me v (d + 1) x t) fun p => .ok (tyV p.1,v,p.2)))
  (hk:x.kind = 24) (hh:Sy.exHead x = 0) :
  Calls Tryz.prog 99 #[.pointer (some ⟨K.F,0,none⟩),exV x xa xc] w fun e w' => Bf K w v r e w'
  := by
 obtain ⟨kd,hkd⟩:=kids_one hh (by omega)
 have hF:=h.out.lt
 obtain ⟨W0,hW0⟩:∃ W0,W0 = (w.alloc (exB x xa xc)).alloc zT:=⟨_,rfl⟩
 have HK0:Hid (Kpt K w W0):=by rw [hW0]; exact Kpt.grown (grown_a2 _ _) hF
 have HB0:Hid (BW K W0 v t):=by rw [hW0]; exact h.out.grown (grown_a2 _ _)
 have HX0:Hid (W0.heap[w.heap.size]? = some (exB x xa xc) ∧ Free K W0 w.heap.size):=by
  rw [hW0]
  exact (Kpt.alloc K _ _ (by simp; omega)).at (h.out.new _)
 have HZ0:Hid (W0.heap[w.heap.size + 1]? = some zT ∧ Free K W0 (w.heap.size + 1)):=by
  rw [hW0]
  refine ⟨?_,h.out.free (grown_a2 _ _) (by omega)⟩
  have:=heap_alloc_new (w.alloc (exB x xa xc)) zT
  simpa using this
 have HE0:Hid (∃ h,ExIn K.B W0 h x xa):=by
  obtain ⟨hh,hE⟩:=hx.out
  exact ⟨hh,hE.same (h.out.same HK0.out)⟩
 have HW0:Hid (W0 = _):=hW0
 have hBw:K.B ≤ w.heap.size + 1:=by have:=h.out.base; omega
 clear hW0
 have hx0:kid x 0 = kd:=by simp [kid,hkd]
 obtain ⟨er,her⟩:∃ er,er = started K.l (expr K.l me v d) kd t:=⟨_,rfl⟩
 have HEr:Hid (er = started K.l (expr K.l me v d) kd t):=her
 have HRr:Hid (r = andThen er fun p => .ok (tyV (⟨2,⟨#[]⟩⟩:Sy.Ty),v,p.2)):=by
  unfold Hid
  rw [hr.out,expr,if_neg (by omega),if_neg (by omega),if_neg (by omega),if_neg (by omega),if_neg (by omega),if_neg (by omega),if_neg (by omega),if_pos hk,hx0,her]
  cases started K.l (expr K.l me v d) kd t <;> rfl
 have hn':=hn.out
 rw [hkd] at hn'
 obtain ⟨n1,hn1,hn2⟩:=runs_cons hn'
 have HX1:Hid (Sy.exW d kd (n + 1) = .ok n1):=hn1
 have HT1:Hid (TkLe t (n + 1)):=ht.out.mono (by omega)
 obtain ⟨hh',kb,ko,ka,kc,hxa,hkb,q0,q1,q2,q3,hkx⟩:=one_kid hx.out hkd
 have HKX:Hid (∃ h,ExIn K.B W0 h kd ka):=⟨hh',hkx.same (h.out.same HK0.out)⟩
 have hl2:x.kids.length = 1:=by rw [hkd]; rfl
 have l0:(0:Int) < (x.kids.length:Int):=by omega
 have hkbw:kb < w.heap.size:=by have:=h.out.base; omega
 subst hxa
 have e1:(x.kind == 1) = false:=by rw [hk]; rfl
 have e2:(x.kind == 2) = false:=by rw [hk]; rfl
 have e3:(x.kind == 3) = false:=by rw [hk]; rfl
 have e4:(x.kind == 4) = false:=by rw [hk]; rfl
 have e6:(x.kind == 6) = false:=by rw [hk]; rfl
 have e7:(x.kind == 7) = false:=by rw [hk]; rfl
 have e8:(x.kind == 8) = false:=by rw [hk]; rfl
 have e9:(x.kind == 9) = false:=by rw [hk]; rfl
 have e10:(x.kind == 10) = false:=by rw [hk]; rfl
 have e13:(x.kind == 13) = false:=by rw [hk]; rfl
 have e14:(x.kind == 14) = false:=by rw [hk]; rfl
 have e15:(x.kind == 15) = false:=by rw [hk]; rfl
 have e16:(x.kind == 16) = false:=by rw [hk]; rfl
 have e5:(x.kind == 5) = false:=by rw [hk]; rfl
 have e17:(x.kind == 17) = false:=by rw [hk]; rfl
 have e18:(x.kind == 18) = false:=by rw [hk]; rfl
 have e11:(x.kind == 11) = false:=by rw [hk]; rfl
 have e12:(x.kind == 12) = false:=by rw [hk]; rfl
 have e24:(x.kind == 24) = true:=by rw [hk]; rfl
 clear hr hk hn hn' hkd hh hx0 her hn1 hn2 hkx hl2
 go_enter Tryz.func99,Tryz.ntmps99
 go_wp2_with fail
 rw [← HW0.out]
 refine (started_any K v d (expr K.l me v d) hC kd ka kc t (n + 1) n1 W0 er HB0 HKX HX1 HT1 h2 HEr).mono ?_
 rintro e w9 ⟨hk9,he9⟩
 have HK9:Hid (Kpt K w w9):=HK0.out.trans hk9
 have HZ9:=hid (hk9.at HZ0.out)
 clear hk9
 cases er with
 | error y =>
  obtain ⟨rfl,v2,t2,hb2,hp2⟩:=he9
  have HE:Hid (Bf K w v r (.panicked [fltE y K.num]) w9):=by
   rw [HRr.out]
   exact ⟨HK9.out,rfl,v2,t2,hb2,hp2⟩
  clear hb2 hp2
  go_wp2
  exact ⟨rfl,HE.out⟩
 | ok p =>
  obtain ⟨D,t1⟩:=p
  obtain ⟨⟨val,rfl,pa,pc,ba,bc,rfl,hdf⟩,hb1⟩:=he9
  have HB9:Hid (BW K w9 v t1):=hb1
  have HRe:Hid (r = .ok (tyV (⟨2,⟨#[]⟩⟩:Sy.Ty),v,t1)):=HRr.out
  obtain ⟨_,g0,g1,g2,g3⟩:=hb1.grd.2
  clear hb1 hdf
  have HTE:=hid (ty_end (y:=(⟨2,⟨#[]⟩⟩:Sy.Ty)) (Z:=w.heap.size + 1) HB9.out HK9.out HZ9.out (by omega) hBw hF HRe.out)
  obtain ⟨W9,hW9⟩:∃ W9,W9 = (w9.setCell ⟨w.heap.size + 1,0,none⟩ (.int .i64 ((⟨2,⟨#[]⟩⟩:Sy.Ty)).kind)).setCell ⟨w.heap.size + 1,1,none⟩ (.string ((⟨2,⟨#[]⟩⟩:Sy.Ty)).gen):=⟨_,rfl⟩
  have HW9:Hid (W9 = _):=hW9
  obtain ⟨ez0,ez1,ef0,ef1⟩:=two_cell (HZ9.out).1
  clear hW9
  go_wp2
  rw [show (w9.setCell ⟨w.heap.size + 1,0,none⟩ (.int .i64 ((⟨2,⟨#[]⟩⟩:Sy.Ty)).kind)).setCell ⟨w.heap.size + 1,1,none⟩ (.string ((⟨2,⟨#[]⟩⟩:Sy.Ty)).gen) = W9 from HW9.out.symm]
  have q9:=HTE.out.2
  rw [show twoS w9 (w.heap.size + 1) (.int .i64 ((⟨2,⟨#[]⟩⟩:Sy.Ty)).kind) (.string ((⟨2,⟨#[]⟩⟩:Sy.Ty)).gen) = W9 from HW9.out.symm] at q9
  refine bodyPost_ret (v:=tyV (⟨2,⟨#[]⟩⟩:Sy.Ty)) (by simp [results,Tryz.results99,go_sem,World.cell?,q9]) rfl ?_
  rw [HW9.out]
  exact HTE.out.1
theorem expr_sp
  (K:BK) (v:Vars) (d:Nat) (me:Sy.Df) (hC:Hid (CEx K v d (expr K.l me v d))) (x:Sy.Ex) (xa:Option Addr) (xc:Nat) (t:Tk) (n m:Nat) (w:World) (r:Except Int (Value × Vars × Tk)) (h:Hid (BW K w v t)) (hx:Hid (∃ h,ExIn K.B w h x xa)) (hn:Hid (Sy.runs (Sy.exW d) x.kids (n + 1) = .ok m)) (ht:Hid (TkLe t n)) (h2:n + 1 ≤ 2000)
    (hr:Hid (r = andThen (expr K.l me v (d + 1) x t) fun p => .ok (tyV p.1,v,p.2)))
  (hk:19 ≤ x.kind ∧ x.kind ≤ 23) (hh:Sy.exHead x = 0) (i:Nat) (hi:Hid (K.num = (i:Int))) (HMe:Hid (K.l[i]? = some me)) :
  Calls Tryz.prog 99 #[.pointer (some ⟨K.F,0,none⟩),exV x xa xc] w fun e w' => Bf K w v r e w'
  := by
 have hF:=h.out.lt
 obtain ⟨W0,hW0⟩:∃ W0,W0 = (w.alloc (exB x xa xc)).alloc zT:=⟨_,rfl⟩
 have HK0:Hid (Kpt K w W0):=by rw [hW0]; exact Kpt.grown (grown_a2 _ _) hF
 have HB0:Hid (BW K W0 v t):=by rw [hW0]; exact h.out.grown (grown_a2 _ _)
 have HX0:Hid (W0.heap[w.heap.size]? = some (exB x xa xc) ∧ Free K W0 w.heap.size):=by
  rw [hW0]
  exact (Kpt.alloc K _ _ (by simp; omega)).at (h.out.new _)
 have HZ0:Hid (W0.heap[w.heap.size + 1]? = some zT ∧ Free K W0 (w.heap.size + 1)):=by
  rw [hW0]
  refine ⟨?_,h.out.free (grown_a2 _ _) (by omega)⟩
  have:=heap_alloc_new (w.alloc (exB x xa xc)) zT
  simpa using this
 have HE0:Hid (∃ h,ExIn K.B W0 h x xa):=by
  obtain ⟨hh,hE⟩:=hx.out
  exact ⟨hh,hE.same (h.out.same HK0.out)⟩
 have HW0:Hid (W0 = _):=hW0
 have hBw:K.B ≤ w.heap.size + 1:=by have:=h.out.base; omega
 clear hW0
 obtain ⟨er,her⟩:∃ er,er = spoken K.l me (expr K.l me v d) x t:=⟨_,rfl⟩
 have HEr:Hid (er = spoken K.l me (expr K.l me v d) x t):=her
 have HRr:Hid (r = andThen er fun p => .ok (tyV p.1,v,p.2)):=by
  unfold Hid
  rw [hr.out,expr,if_neg (by omega),if_neg (by omega),if_neg (by omega),if_neg (by omega),if_neg (by omega),if_neg (by omega),if_neg (by omega),if_neg (by omega),her]
 have e1:(x.kind == 1) = false:=by simp; omega
 have e2:(x.kind == 2) = false:=by simp; omega
 have e3:(x.kind == 3) = false:=by simp; omega
 have e4:(x.kind == 4) = false:=by simp; omega
 have e6:(x.kind == 6) = false:=by simp; omega
 have e7:(x.kind == 7) = false:=by simp; omega
 have e8:(x.kind == 8) = false:=by simp; omega
 have e9:(x.kind == 9) = false:=by simp; omega
 have e10:(x.kind == 10) = false:=by simp; omega
 have e13:(x.kind == 13) = false:=by simp; omega
 have e14:(x.kind == 14) = false:=by simp; omega
 have e15:(x.kind == 15) = false:=by simp; omega
 have e16:(x.kind == 16) = false:=by simp; omega
 have e5:(x.kind == 5) = false:=by simp; omega
 have e17:(x.kind == 17) = false:=by simp; omega
 have e18:(x.kind == 18) = false:=by simp; omega
 have e11:(x.kind == 11) = false:=by simp; omega
 have e12:(x.kind == 12) = false:=by simp; omega
 have e24:(x.kind == 24) = false:=by simp; omega
 clear hr her
 go_enter Tryz.func99,Tryz.ntmps99
 go_wp2_with fail
 rw [← HW0.out]
 refine (spoken_any K v d (expr K.l me v d) hC (expr_le K.l me v d) me x xa xc t n m W0 _ HB0 HE0 hn ht h2 (by rw [← HEr.out]; exact rfl) hk hh i hi HMe).mono ?_
 rintro e w9 ⟨hk9,he9⟩
 have HK9:Hid (Kpt K w w9):=HK0.out.trans hk9
 have HZ9:=hid (hk9.at HZ0.out)
 clear hk9
 cases er with
 | error y =>
  obtain ⟨rfl,v2,t2,hb2,hp2⟩:=he9
  have HE:Hid (Bf K w v r (.panicked [fltE y K.num]) w9):=by
   rw [HRr.out]
   exact ⟨HK9.out,rfl,v2,t2,hb2,hp2⟩
  clear hb2 hp2
  go_wp2
  exact ⟨rfl,HE.out⟩
 | ok p =>
  obtain ⟨y,t1⟩:=p
  obtain ⟨rfl,hb1⟩:=he9
  have HB9:Hid (BW K w9 v t1):=hb1
  have HRe:Hid (r = .ok (tyV y,v,t1)):=HRr.out
  clear hb1
  have HTE:=hid (ty_end (y:=y) (Z:=w.heap.size + 1) HB9.out HK9.out HZ9.out (by omega) hBw hF HRe.out)
  obtain ⟨W9,hW9⟩:∃ W9,W9 = (w9.setCell ⟨w.heap.size + 1,0,none⟩ (.int .i64 (y).kind)).setCell ⟨w.heap.size + 1,1,none⟩ (.string (y).gen):=⟨_,rfl⟩
  have HW9:Hid (W9 = _):=hW9
  obtain ⟨ez0,ez1,ef0,ef1⟩:=two_cell (HZ9.out).1
  clear hW9
  go_wp2
  rw [show (w9.setCell ⟨w.heap.size + 1,0,none⟩ (.int .i64 (y).kind)).setCell ⟨w.heap.size + 1,1,none⟩ (.string (y).gen) = W9 from HW9.out.symm]
  have q9:=HTE.out.2
  rw [show twoS w9 (w.heap.size + 1) (.int .i64 (y).kind) (.string (y).gen) = W9 from HW9.out.symm] at q9
  refine bodyPost_ret (v:=tyV y) (by simp [results,Tryz.results99,go_sem,World.cell?,q9]) rfl ?_
  rw [HW9.out]
  exact HTE.out.1
theorem expr_any (K:BK) (v:Vars) (me:Sy.Df) (i:Nat) (hi:Hid (K.num = (i:Int))) (HMe:Hid (K.l[i]? = some me)):∀ d,CEx K v d (expr K.l me v d)
 | 0 => fun x xa xc t n m w r _ _ hn _ _ _ => by
  have:=hn.out
  unfold Sy.exW at this
  cases this
 | d + 1 => fun x xa xc t n m w r h hx hn ht h2 hr => by
  obtain ⟨hk1,hk2,hh,hn'⟩:=exW_open hn.out
  have hm:m ≤ 2000:=Sy.exW_le (d + 1) x n m h2 hn.out
  have h3:n + 1 ≤ 2000:=by have:=runs_ge (fun a n m => exW_ge d a n m) x.kids (n + 1) m hn'; omega
  have hC:=hid (expr_any K v me i hi HMe d)
  have HN:=hid hn'
  by_cases h1:x.kind = 1
  ·exact expr_num K v d me hC x xa xc t n m w r h hx HN ht h3 hr h1
  by_cases h2:x.kind = 2
  ·exact expr_bool K v d me hC x xa xc t n m w r h hx HN ht h3 hr h2
  by_cases h4:x.kind = 3
  ·exact expr_var K v d me hC x xa xc t n m w r h hx HN ht h3 hr h4
  by_cases h5:x.kind = 4 ∨ 6 ≤ x.kind ∧ x.kind ≤ 10
  ·exact expr_arith K v d me hC x xa xc t n m w r h hx HN ht h3 hr h5
  by_cases h6:13 ≤ x.kind ∧ x.kind ≤ 16
  ·exact expr_less K v d me hC x xa xc t n m w r h hx HN ht h3 hr h6
  by_cases h7:x.kind = 5 ∨ x.kind = 17 ∨ x.kind = 18
  ·exact expr_logic K v d me hC x xa xc t n m w r h hx HN ht h3 hr h7
  by_cases h8:x.kind = 11 ∨ x.kind = 12
  ·exact expr_eq K v d me hC x xa xc t n m w r h hx HN ht h3 hr h8 hh
  by_cases h9:x.kind = 24
  ·exact expr_alive K v d me hC x xa xc t n m w r h hx HN ht h3 hr h9 hh
  ·exact expr_sp K v d me hC x xa xc t n m w r h hx HN ht h3 hr (by omega) hh i hi HMe
end Sm
end Go.Proofs.YtpnljpdpobbiiaaGreatDoor
namespace Go.Proofs.YtpnljpdpobbiiaaGreatDoor
namespace Sm
open Sy
def StLe (d:Nat) (st:St → Vars → Tk → Except Int (Vars × Tk)):Prop:=∀ s v t n m v' t',stW d s n = .ok m → TkLe t n → st s v t = .ok (v',t') → TkLe t' m ∧ v'.length + n ≤ v.length + m ∧ v <+: v'
theorem stW_open {d:Nat} {s:St} {n m:Nat} (h:stW (d + 1) s n = .ok m):1 ≤ s.kind ∧ s.kind ≤ 9 ∧ n + 1 ≤ 2000 ∧ (s.kind = 6 ∧ m = n + 1 ∨ s.kind ≠ 6 ∧ ∃ m1,exW d s.x (n + 1) = .ok m1 ∧ stTail (stW d) s m1 = .ok m):=by
 unfold stW at h
 by_cases h0:nodeW s.kind 9 (d + 1) n ≠ 0
 ·rw [if_pos h0] at h; cases h
 ·rw [if_neg h0] at h
  have h1:¬ (2000 < n + 1 ∨ d + 1 = 0) ∧ ¬ (s.kind < 1 ∨ 9 < s.kind):=by
   unfold nodeW at h0
   refine ⟨fun hc => h0 (by rw [if_pos hc]; decide),fun hc => h0 ?_⟩
   by_cases hc2:2000 < n + 1 ∨ d + 1 = 0
   ·rw [if_pos hc2]; decide
   ·rw [if_neg hc2,if_pos hc]; decide
  refine ⟨by omega,by omega,by omega,?_⟩
  split at h
  ·cases h
  ·by_cases h6:s.kind = 6
   ·rw [if_pos h6] at h
    cases h
    exact .inl ⟨h6,rfl⟩
   ·rw [if_neg h6] at h
    refine .inr ⟨h6,?_⟩
    cases he:exW d s.x (n + 1) with
    | error e => rw [he] at h; cases h
    | ok m1 => rw [he] at h; exact ⟨m1,rfl,h⟩
theorem tail_plain {f:St → Nat → Except Int Nat} {s:St} {m1 m:Nat} (h:stTail f s m1 = .ok m) (hk:¬ (s.kind = 3 ∨ s.kind = 4)):m = m1:=by
 unfold stTail at h
 rw [if_neg hk] at h
 cases h
 rfl
theorem bodyOf_open {f:St → Nat → Except Int Nat} {l:List St} {n m:Nat} (h:bodyOf f l n = .ok m):l.length ≤ 50 ∧ runs f l n = .ok m:=by
 unfold bodyOf at h
 split at h
 ·cases h
 ·exact ⟨by omega,h⟩
theorem tail_while {f:St → Nat → Except Int Nat} {s:St} {m1 m:Nat} (h:stTail f s m1 = .ok m) (hk:s.kind = 4):bodyOf f s.body m1 = .ok m:=by
 unfold stTail at h
 rw [if_pos (.inr hk)] at h
 cases hb:bodyOf f s.body m1 with
 | error e => rw [hb] at h; cases h
 | ok m2 =>
  rw [hb] at h
  dsimp only at h
  rw [if_neg (by omega)] at h
  exact h
theorem tail_if {f:St → Nat → Except Int Nat} {s:St} {m1 m:Nat} (h:stTail f s m1 = .ok m) (hk:s.kind = 3):∃ m2,bodyOf f s.body m1 = .ok m2 ∧ bodyOf f s.els m2 = .ok m:=by
 unfold stTail at h
 rw [if_pos (.inl hk)] at h
 cases hb:bodyOf f s.body m1 with
 | error e => rw [hb] at h; cases h
 | ok m2 =>
  rw [hb] at h
  dsimp only at h
  rw [if_pos hk] at h
  exact ⟨m2,rfl,h⟩
theorem stW_ge:∀ (d:Nat) (s:St) (n m:Nat),stW d s n = .ok m → n + 1 ≤ m
 | 0,s,n,m,h => by unfold stW at h; cases h
 | d + 1,s,n,m,h => by
  obtain ⟨_,_,_,h1⟩:=stW_open h
  rcases h1 with ⟨_,rfl⟩ | ⟨_,m1,h2,h3⟩
  ·exact Nat.le_refl _
  ·have h4:=exW_ge d s.x (n + 1) m1 h2
   have key:∀ l n m,bodyOf (stW d) l n = .ok m → n ≤ m:=fun l n m hb => runs_ge (fun a n m h => by have:=stW_ge d a n m h; omega) l n m (bodyOf_open hb).2
   by_cases hk3:s.kind = 3
   ·obtain ⟨m2,h5,h6⟩:=tail_if h3 hk3
    have:=key _ _ _ h5
    have:=key _ _ _ h6
    omega
   ·by_cases hk4:s.kind = 4
    ·have:=key _ _ _ (tail_while h3 hk4)
     omega
    ·have:=tail_plain h3 (by omega)
     omega
theorem block_le {d:Nat} {st:St → Vars → Tk → Except Int (Vars × Tk)} (hst:StLe d st):∀ (l:List St) (v:Vars) (t:Tk) (n m:Nat) (v':Vars) (t':Tk),runs (stW d) l n = .ok m → TkLe t n → block st l v t = .ok (v',t') → TkLe t' m ∧ v'.length + n ≤ v.length + m ∧ v <+: v'
 | [],v,t,n,m,v',t',h,ht,hb => by
  cases h
  cases hb
  exact ⟨ht,Nat.le_refl _,List.prefix_refl _⟩
 | s :: l,v,t,n,m,v',t',h,ht,hb => by
  obtain ⟨k,h1,h2⟩:=runs_cons h
  obtain ⟨⟨v1,t1⟩,h3,h4⟩:=andThen_yes (show andThen (st s v t) (fun p => block st l p.1 p.2) = .ok (v',t') from hb)
  obtain ⟨a1,a2,a3⟩:=hst s v t n k v1 t1 h1 ht h3
  obtain ⟨b1,b2,b3⟩:=block_le hst l v1 t1 k m v' t' h2 a1 h4
  exact ⟨b1,by omega,a3.trans b3⟩
theorem inner_le {d:Nat} {st:St → Vars → Tk → Except Int (Vars × Tk)} (hst:StLe d st) {l:List St} {v:Vars} {t:Tk} {n m:Nat} {t':Tk} (h:bodyOf (stW d) l n = .ok m) (ht:TkLe t n) (hb:inner st l v t = .ok t'):TkLe t' m:=by
 obtain ⟨⟨v1,t1⟩,h1,h2⟩:=andThen_yes (show andThen (block st l v t) (fun p => .ok p.2) = .ok t' from hb)
 cases h2
 exact (block_le hst l v t n m v1 t1 (bodyOf_open h).2 ht h1).1
theorem stat_le (l:List Df) (me:Df):∀ d,StLe d (stat l me d)
 | 0 => fun s v t n m v' t' h => by unfold stW at h; cases h
 | d + 1 => fun s v t n m v' t' h ht hs => by
  have ih:=stat_le l me d
  have hge:=stW_ge (d + 1) s n m h
  obtain ⟨k1,k9,h2,h3⟩:=stW_open h
  have same:∀ {t1:Tk},TkLe t1 m → TkLe t1 m ∧ v.length + n ≤ v.length + m ∧ v <+: v:=fun h => ⟨h,by omega,List.prefix_refl _⟩
  unfold stat at hs
  have hex:=expr_le l me v d
  have mono1:TkLe t (n + 1):=ht.mono (by omega)
  have one:∀ {m1:Nat} {y:Ty} {t0 t1:Tk},exW d s.x (n + 1) = .ok m1 → TkLe t0 (n + 1) → must (expr l me v d) y [s.x] t0 = .ok t1 → TkLe t1 m1:=fun {m1 y t0 t1} hx h0 hm => must_le hex y [s.x] t0 (n + 1) m1 t1 (by simp [runs,hx]) h0 hm
  rcases h3 with ⟨h6,rfl⟩ | ⟨h6,m1,hx,htl⟩
  ·rw [if_neg (by omega),if_neg (by omega),if_neg (by omega),if_neg (by omega),if_neg (by omega),if_pos h6] at hs
   obtain ⟨u,_,h5⟩:=andThen_yes hs
   cases h5
   exact same mono1
  ·by_cases e1:s.kind = 1
   ·rw [if_pos e1] at hs
    have hm:=tail_plain htl (by omega)
    subst hm
    obtain ⟨p,h4,h5⟩:=andThen_yes hs
    split at h5
    ·cases h5
    ·cases h5
     exact ⟨hex s.x t (n + 1) _ p.1 p.2 hx mono1 h4,by simp; omega,List.prefix_append _ _⟩
   ·rw [if_neg e1] at hs
    by_cases e2:s.kind = 2
    ·rw [if_pos e2] at hs
     have hm:=tail_plain htl (by omega)
     subst hm
     obtain ⟨y,_,h5⟩:=andThen_yes hs
     obtain ⟨t1,h6,h7⟩:=andThen_yes h5
     cases h7
     exact same (one hx mono1 h6)
    ·rw [if_neg e2] at hs
     by_cases e3:s.kind = 3
     ·rw [if_pos e3] at hs
      obtain ⟨m2,hb1,hb2⟩:=tail_if htl e3
      obtain ⟨t1,h6,h7⟩:=andThen_yes hs
      obtain ⟨t2,h8,h9⟩:=andThen_yes h7
      obtain ⟨t3,h10,h11⟩:=andThen_yes h9
      cases h11
      exact same (inner_le ih hb2 (inner_le ih hb1 (one hx mono1 h6) h8) h10)
     ·rw [if_neg e3] at hs
      by_cases e4:s.kind = 4
      ·rw [if_pos e4] at hs
       obtain ⟨t1,h6,h7⟩:=andThen_yes hs
       obtain ⟨t2,h8,h9⟩:=andThen_yes h7
       cases h9
       exact same (inner_le ih (tail_while htl e4) (one hx mono1 h6) h8)
      ·have hm:=tail_plain htl (by omega)
       subst hm
       rw [if_neg e4] at hs
       by_cases e5:s.kind = 5
       ·rw [if_pos e5] at hs
        obtain ⟨u,_,h5⟩:=andThen_yes hs
        obtain ⟨t1,h7,h8⟩:=andThen_yes h5
        cases h8
        exact same (one hx mono1 h7)
       ·rw [if_neg e5,if_neg h6] at hs
        by_cases e7:s.kind = 7
        ·rw [if_pos e7] at hs
         obtain ⟨b,_,h5⟩:=andThen_yes hs
         obtain ⟨t1,h7,h8⟩:=andThen_yes h5
         cases h8
         exact same (one hx ⟨by have:=ht.1; simp; omega,by have:=ht.2.1; dsimp; omega,by have:=ht.2.2; dsimp; omega⟩ h7)
        ·rw [if_neg e7] at hs
         by_cases e8:s.kind = 8
         ·rw [if_pos e8] at hs
          obtain ⟨p,h4,h5⟩:=andThen_yes hs
          obtain ⟨u,_,h7⟩:=andThen_yes h5
          cases h7
          exact same (hex s.x t (n + 1) _ p.1 p.2 hx mono1 h4)
         ·rw [if_neg e8] at hs
          obtain ⟨p,h4,h5⟩:=andThen_yes hs
          cases h5
          exact same (hex s.x t (n + 1) _ p.1 p.2 hx mono1 h4)
end Sm
end Go.Proofs.YtpnljpdpobbiiaaGreatDoor
namespace Go.Proofs.YtpnljpdpobbiiaaGreatDoor
open Go.RowKit
namespace Sm
abbrev stB (s:Sy.St) (xa:Option Addr) (xc:Nat) (ba:Option Addr) (bc:Nat) (ea:Option Addr) (ec:Nat):Obj:=.cells #[.int .i64 s.kind,.string s.name,.int .i64 s.x.kind,.int .i64 s.x.n,.string s.x.name,.slice xa s.x.kids.length xc,.slice ba s.body.length bc,.slice ea s.els.length ec] 94 (0,0)
def CSt (K:BK) (me:Sy.Df) (d:Nat):Prop :=
 ∀ (s:Sy.St) (xa ba ea:Option Addr) (xc bc ec:Nat) (v:Vars) (t:Tk) (n m:Nat) (w:World) (r:Except Int (Value × Vars × Tk)),Hid (BW K w v t) → Hid (∃ h,StIn K.B w h s xa ba ea) → Hid (Sy.stW d s n = .ok m) → Hid (TkLe t n) → Hid (v.length ≤ n + 10) → n ≤ 2000 →
  Hid (r = andThen (stat K.l me d s v t) fun p => .ok (.tuple #[],p.1,p.2)) → Calls Tryz.prog 76 #[.pointer (some ⟨K.F,0,none⟩),stV s xa xc ba bc ea ec] w fun e w' => Bf K w v r e w'
def CBl (K:BK) (me:Sy.Df) (d:Nat):Prop :=
 ∀ (l:List Sy.St) (a:Option Addr) (c:Nat) (v:Vars) (t:Tk) (n m:Nat) (w:World) (r:Except Int (Value × Vars × Tk)),Hid (BW K w v t) → Hid (∃ h,RowIn K.B w (StIn K.B w h) l a) → Hid (Sy.bodyOf (Sy.stW d) l n = .ok m) → Hid (TkLe t n) → Hid (v.length ≤ n + 10) → n ≤ 2000 →
  Hid (r = andThen (inner (stat K.l me d) l v t) fun t => .ok (.tuple #[],v,t)) → Calls Tryz.prog 58 #[.pointer (some ⟨K.F,0,none⟩),.slice a l.length c] w fun e w' => Bf K w v r e w'
theorem take_pre {v v':Vars} (h:v <+: v'):v'.take v.length = v:=by
 obtain ⟨x,rfl⟩:=h
 simp
theorem block_any (K:BK) (me:Sy.Df) (d:Nat) (hS:Hid (CSt K me d)):CBl K me d:=by
 intro l a c v t n m w r h hrow hn ht hv h2 hr
 have hF:=h.out.lt
 obtain ⟨hl50,hn'⟩:=bodyOf_open hn.out
 obtain ⟨W0,hW0⟩:∃ W0,W0 = (w.alloc (pO K.F)).alloc (nO v.length):=⟨_,rfl⟩
 have HK0:Hid (Kpt K w W0):=by rw [hW0]; exact Kpt.grown (grown_a2 _ _) hF
 have HB0:Hid (BW K W0 v t):=by rw [hW0]; exact h.out.grown (grown_a2 _ _)
 have HP1:Hid (W0.heap[w.heap.size]? = some (pO K.F) ∧ Free K W0 w.heap.size):=by
  rw [hW0]
  exact (Kpt.alloc K _ _ (by simp; omega)).at (h.out.new _)
 have HP2:Hid (W0.heap[w.heap.size + 1]? = some (nO v.length) ∧ Free K W0 (w.heap.size + 1)):=by
  rw [hW0]
  refine ⟨?_,h.out.free (grown_a2 _ _) (by omega)⟩
  have:=heap_alloc_new (w.alloc (pO K.F)) (nO v.length)
  simpa using this
 have HRow:Hid (∃ h,RowIn K.B W0 (StIn K.B W0 h) l a):=by
  obtain ⟨hh,hR⟩:=hrow.out
  have hs:=h.out.same HK0.out
  exact ⟨hh,hR.same hs (fun s x b e => StIn.same hs hh s x b e)⟩
 have HR0:Hid (r = andThen (andThen (block (stat K.l me d) l v t) fun p => .ok p.2) fun t => .ok (.tuple #[],v,t)):=hr.out
 have HN0:Hid (Sy.runs (Sy.stW d) l n = .ok m):=hn'
 have HW0:Hid (W0 = _):=hW0
 obtain ⟨nl,hnl⟩:∃ nl,nl = l.length:=⟨_,rfl⟩
 have HNL:Hid (nl = l.length):=hnl
 have hl:nl ≤ 50:=by rw [hnl]; exact hl50
 rw [← hnl]
 clear hr hn' hW0 hl50 hnl
 go_enter_defers Tryz.func58,Tryz.ntmps58
 go_wp2_with fail
 refine (open_any K v t w h).mono ?_
 rintro e w1 ⟨rfl,hw1⟩
 rw [← HW0.out] at hw1
 have hw2:=hw1.symm
 subst hw2
 go_wp2
 go_loopw [12] (fun q wr => ∃ (j:Nat) (v':Vars) (t':Tk) (n':Nat),q = .int .i64 j ∧ j ≤ nl ∧ n' ≤ 2000 ∧ Hid (BW K wr v' t') ∧ Hid (Kpt K W0 wr) ∧ Hid (TkLe t' n') ∧ Hid (v'.length ≤ n' + 10) ∧ Hid (v <+: v') ∧ Hid (Sy.runs (Sy.stW d) (l.drop j) n' = .ok m) ∧ Hid (r = andThen (andThen (block (stat K.l me d) (l.drop j) v' t') fun p => .ok p.2) fun t => .ok (.tuple #[],v,t))) (fun q _ => nl - (intOf q).toNat)
 case atStart => exact ⟨0,v,t,n,rfl,Nat.zero_le _,h2,HB0,Kpt.refl _ _,ht,hv,List.prefix_refl _,by rw [List.drop_zero]; exact HN0,by rw [List.drop_zero]; exact HR0⟩
 case round =>
  obtain ⟨j,v',t',n',rfl,hj,hn2,HB,HK,HT,HV,HP,HN,HR⟩:=hrel
  have HP1':=hid (HK.out.at HP1.out)
  have HP2':=hid (HK.out.at HP2.out)
  have hFr:=HB.out.lt
  by_cases hlt:j < nl
  ·have hj1:j < l.length:=by rw [← HNL.out]; exact hlt
   obtain ⟨s,hs⟩:∃ s,l[j]? = some s:=⟨_,List.getElem?_eq_getElem hj1⟩
   have hdr:l.drop j = s :: l.drop (j + 1):=by rw [List.drop_eq_getElem_cons hj1,(List.getElem?_eq_some_iff.1 hs).2]
   have hsame:=HB0.out.same HK.out
   obtain ⟨hh,hRow⟩:=HRow.out
   obtain ⟨b,off,xa,xc,ba,bc,ea,ec,ha,hb,k0,k1,k2,k3,k4,k5,k6,k7,hst⟩:=(hRow.same hsame (fun s x b e => StIn.same hsame hh s x b e)) j s hs
   obtain ⟨n1,hx1,hn1⟩:=runs_cons (by have:=HN.out; rw [hdr] at this; exact this)
   have hn12:n1 ≤ 2000:=Sy.stW_le d s n' n1 hn2 hx1
   obtain ⟨er,her⟩:∃ er,er = stat K.l me d s v' t':=⟨_,rfl⟩
   have HEr:Hid (er = stat K.l me d s v' t'):=her
   have HRr:Hid (r = andThen er fun p => andThen (andThen (block (stat K.l me d) (l.drop (j + 1)) p.1 p.2) fun p => .ok p.2) fun t => .ok (.tuple #[],v,t)):=by
    unfold Hid
    rw [HR.out,hdr,block,her]
    cases stat K.l me d s v' t' <;> rfl
   have HX1:Hid (Sy.stW d s n' = .ok n1):=hx1
   have HN1:Hid (Sy.runs (Sy.stW d) (l.drop (j + 1)) n1 = .ok m):=hn1
   obtain ⟨W2,hW2⟩:∃ W2,W2 = wr.alloc (stB s xa xc ba bc ea ec):=⟨_,rfl⟩
   have HW2:Hid (W2 = _):=hW2
   have HK2:Hid (Kpt K wr W2):=by rw [hW2]; exact Kpt.alloc K wr _ hFr
   have HB2:Hid (BW K W2 v' t'):=by rw [hW2]; exact HB.out.grown (grown_a _)
   have HS2:Hid (∃ h,StIn K.B W2 h s xa ba ea):=⟨hh,StIn.same (HB.out.same HK2.out) hh s xa ba ea hst⟩
   have hbw:b < wr.heap.size:=by have:=HB.out.base; omega
   have HJ:Hid (j + 1 ≤ nl):=hlt
   have hjp:(j:Int) < (nl:Int):=by omega
   subst ha
   clear hdr hs hsame hRow hx1 hn1 her hW2 hst
   go_wp2_with fail
   rw [← HW2.out]
   refine (hS.out s xa ba ea xc bc ec v' t' n' n1 W2 _ HB2 HS2 HX1 HT HV hn2 (by rw [← HEr.out]; exact rfl)).mono ?_
   rintro e w3 ⟨hk3,he3⟩
   have HK03:Hid (Kpt K W0 w3):=(HK.out.trans HK2.out).trans hk3
   have HP13:=hid (HK03.out.at HP1.out)
   have HP23:=hid (HK03.out.at HP2.out)
   cases er with
   | error y =>
    obtain ⟨rfl,v2,t2,hb2,hp2⟩:=he3
    have HB3:Hid (BW K w3 v2 t2):=hb2
    have HPP:Hid (v <+: v2):=HP.out.trans hp2
    have HRy:Hid (r = .error y):=HRr.out
    clear hk3 hb2 hp2
    go_wp2
    refine leaves_cons (f:=97) (args:=#[.pointer (some ⟨w.heap.size,0,none⟩),.pointer (some ⟨w.heap.size + 1,0,none⟩)]) (by simp) (by simp [go_sem]) ?_
    refine (close_any K v2 t2 v.length w.heap.size (w.heap.size + 1) _ _ HB3 HPP.out.length_le (hid HP13.out.1) (hid HP23.out.1) (hid HP13.out.2) (hid HP23.out.2)).mono ?_
    rintro e u' w4 ⟨rfl,rfl,hb4,hk4⟩
    rw [take_pre HPP.out] at hb4
    refine ⟨(HK0.out.trans HK03.out).trans hk4,?_⟩
    rw [HRy.out]
    exact ⟨rfl,v,t2,hb4,List.prefix_refl _⟩
   | ok p =>
    obtain ⟨v1,t1⟩:=p
    obtain ⟨rfl,hb3⟩:=he3
    have HB3:Hid (BW K w3 v1 t1):=hb3
    obtain ⟨l1,l2,l3⟩:=stat_le K.l me d s v' t' n' n1 v1 t1 HX1.out HT.out HEr.out.symm
    have HT1:Hid (TkLe t1 n1):=l1
    have HV1:Hid (v1.length ≤ n1 + 10):=by have:=HV.out; unfold Hid; omega
    have HPv:Hid (v <+: v1):=HP.out.trans l3
    have HRn:Hid (r = andThen (andThen (block (stat K.l me d) (l.drop (j + 1)) v1 t1) fun p => .ok p.2) fun t => .ok (.tuple #[],v,t)):=HRr.out
    clear hk3 hb3 l1 l2 l3
    go_wp2
    go_roundw
    case rel => exact ⟨j + 1,v1,t1,n1,by go_num,HJ.out,hn12,HB3,HK03,HT1,HV1,HPv,HN1,HRn⟩
    case measure => have:=HJ.out; simp [intOf]; omega
  ·have HRe:Hid (r = .ok (.tuple #[],v,t')):=by
    have h1:=HR.out
    have h2:=HNL.out
    rw [List.drop_of_length_le (by omega)] at h1
    exact h1
   have hjp:¬ (j:Int) < (nl:Int):=by omega
   go_wp2
   refine leaves_cons (f:=97) (args:=#[.pointer (some ⟨w.heap.size,0,none⟩),.pointer (some ⟨w.heap.size + 1,0,none⟩)]) (by simp) (by simp [go_sem]) ?_
   refine (close_any K v' t' v.length w.heap.size (w.heap.size + 1) _ _ HB HP.out.length_le (hid HP1'.out.1) (hid HP2'.out.1) (hid HP1'.out.2) (hid HP2'.out.2)).mono ?_
   rintro e u' w4 ⟨rfl,rfl,hb4,hk4⟩
   rw [take_pre HP.out] at hb4
   show Leaves _ _ _ _ [] .returning _
   refine ⟨.tuple #[],by simp [results,Tryz.results58,go_sem],(HK0.out.trans HK.out).trans hk4,?_⟩
   rw [HRe.out]
   exact ⟨rfl,hb4⟩
end Sm
end Go.Proofs.YtpnljpdpobbiiaaGreatDoor
