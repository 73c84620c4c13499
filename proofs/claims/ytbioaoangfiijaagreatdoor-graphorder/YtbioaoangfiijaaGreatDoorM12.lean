/- The walk of expr,kind by kind,given that of expr one level below. -/
import Derived.Deep.Cut
import Derived.Deep.DeepCutAuto
import Derived.Test.YtbioaoangfiijaaGreatDoorM11
set_option maxRecDepth 100000
set_option maxHeartbeats 2000000
namespace Go.Proofs.YtbioaoangfiijaaGreatDoor
open Go.RowKit
namespace Sm
theorem ks_in {K:BK} {w:World} {v:Vars} {t:Tk} {x:Sy.Ex} {xa:Option Addr} (hB:BW K w v t) (hE:∃ h,ExIn K.B w h x xa):KsAt K w x.kids xa:=fun i k hi => by
 obtain ⟨hh,hE⟩:=hE
 cases hh with
 | zero => exact hE.elim
 | succ hh =>
  obtain ⟨b,off,a',c',e1,e2,e3,e4,e5,e6,e7⟩:=hE.2.2 i k hi
  exact ⟨b,off,a',c',e1,by have:=hB.base; have:=hB.lt; omega,hB.low e2,e3,e4,e5,e6,hh,e7⟩
theorem ex_len {B:Nat} {w:World} {x:Sy.Ex} {xa:Option Addr} (hE:∃ h,ExIn B w h x xa):x.kids.length ≤ 9223372036854775807:=by
 obtain ⟨hh,hE⟩:=hE
 cases hh with
 | zero => exact hE.elim
 | succ hh => have:=hE.2.1; unfold maxLen at this; omega
theorem expr_num
  (K:BK) (v:Vars) (d:Nat) (me:Sy.Df) (_hC:Hid (CEx K v d (expr K.l me v d))) (x:Sy.Ex) (xa:Option Addr) (xc:Nat) (t:Tk) (n m:Nat) (w:World) (r:Except Int (Value × Vars × Tk)) (h:Hid (BW K w v t)) (hx:Hid (∃ h,ExIn K.B w h x xa)) (_hn:Hid (Sy.runs (Sy.exW d) x.kids (n + 1) = .ok m)) (_ht:Hid (TkLe t n)) (_h2:n + 1 ≤ 2000)
    (hr:Hid (r = andThen (expr K.l me v (d + 1) x t) fun p => .ok (tyV p.1,v,p.2)))
  (hk:x.kind = 1) :
  Calls Tryz.prog 106 #[.pointer (some ⟨K.F,0,none⟩),exV x xa xc] w fun e w' => Bf K w v r e w'
  := by
 have hF:=h.out.lt
 obtain ⟨W0,hW0⟩:∃ W0,W0 = (w.alloc (exB x xa xc)).alloc zT:=⟨_,rfl⟩
 have HK0:Hid (Kpt K w W0):=by rw [hW0]; exact Kpt.grown (grown_a2 _ _) hF
 have HB0:Hid (BW K W0 v t):=by rw [hW0]; exact h.out.grown (grown_a2 _ _)
 have HX0:Hid (W0.heap[w.heap.size]? = some (exB x xa xc) ∧ Free K W0 w.heap.size):=by
  rw [hW0]
  exact (Kpt.alloc K _ _ (by simp; omega)).at (h.out.new _)
 have HZ0:Hid (W0.heap[w.heap.size + 1]? = some zT ∧ Free K W0 (w.heap.size + 1)):=by
  rw [hW0]
  refine ⟨?_,h.out.free (grown_a2 _ _) (by omega)⟩
  have:=heap_alloc_new (w.alloc (exB x xa xc)) zT
  simpa using this
 have HE0:Hid (∃ h,ExIn K.B W0 h x xa):=by
  obtain ⟨hh,hE⟩:=hx.out
  exact ⟨hh,hE.same (h.out.same HK0.out)⟩
 have HW0:Hid (W0 = _):=hW0
 have hBw:K.B ≤ w.heap.size + 1:=by have:=h.out.base; omega
 clear hW0
 have HRe:Hid (r = .ok (tyV (⟨1,⟨#[]⟩⟩:Sy.Ty),v,t)):=by
  unfold Hid
  rw [hr.out,expr,if_pos hk]
  rfl
 obtain ⟨hgb,g0,g1,g2,g3⟩:=HB0.out.grd.2
 have e1:(x.kind == 1) = true:=by rw [hk]; rfl
 rw [HW0.out] at g0 g1 g2 g3
 clear hr hk
 go_enter Tryz.func106,Tryz.ntmps106
 go_wp2
 refine bodyPost_ret (v:=tyV (⟨1,⟨#[]⟩⟩:Sy.Ty)) (by simp [results,Tryz.results106,go_sem]) rfl ?_
 exact Bf.good h.out (grown_a2 _ _) HRe.out
theorem expr_bool
  (K:BK) (v:Vars) (d:Nat) (me:Sy.Df) (_hC:Hid (CEx K v d (expr K.l me v d))) (x:Sy.Ex) (xa:Option Addr) (xc:Nat) (t:Tk) (n m:Nat) (w:World) (r:Except Int (Value × Vars × Tk)) (h:Hid (BW K w v t)) (hx:Hid (∃ h,ExIn K.B w h x xa)) (_hn:Hid (Sy.runs (Sy.exW d) x.kids (n + 1) = .ok m)) (_ht:Hid (TkLe t n)) (_h2:n + 1 ≤ 2000)
    (hr:Hid (r = andThen (expr K.l me v (d + 1) x t) fun p => .ok (tyV p.1,v,p.2)))
  (hk:x.kind = 2) :
  Calls Tryz.prog 106 #[.pointer (some ⟨K.F,0,none⟩),exV x xa xc] w fun e w' => Bf K w v r e w'
  := by
 have hF:=h.out.lt
 obtain ⟨W0,hW0⟩:∃ W0,W0 = (w.alloc (exB x xa xc)).alloc zT:=⟨_,rfl⟩
 have HK0:Hid (Kpt K w W0):=by rw [hW0]; exact Kpt.grown (grown_a2 _ _) hF
 have HB0:Hid (BW K W0 v t):=by rw [hW0]; exact h.out.grown (grown_a2 _ _)
 have HX0:Hid (W0.heap[w.heap.size]? = some (exB x xa xc) ∧ Free K W0 w.heap.size):=by
  rw [hW0]
  exact (Kpt.alloc K _ _ (by simp; omega)).at (h.out.new _)
 have HZ0:Hid (W0.heap[w.heap.size + 1]? = some zT ∧ Free K W0 (w.heap.size + 1)):=by
  rw [hW0]
  refine ⟨?_,h.out.free (grown_a2 _ _) (by omega)⟩
  have:=heap_alloc_new (w.alloc (exB x xa xc)) zT
  simpa using this
 have HE0:Hid (∃ h,ExIn K.B W0 h x xa):=by
  obtain ⟨hh,hE⟩:=hx.out
  exact ⟨hh,hE.same (h.out.same HK0.out)⟩
 have HW0:Hid (W0 = _):=hW0
 have hBw:K.B ≤ w.heap.size + 1:=by have:=h.out.base; omega
 clear hW0
 have HRe:Hid (r = .ok (tyV (⟨2,⟨#[]⟩⟩:Sy.Ty),v,t)):=by
  unfold Hid
  rw [hr.out,expr,if_neg (by omega),if_pos hk]
  rfl
 obtain ⟨hgb,g0,g1,g2,g3⟩:=HB0.out.grd.2
 have e1:(x.kind == 1) = false:=by rw [hk]; rfl
 have e2:(x.kind == 2) = true:=by rw [hk]; rfl
 rw [HW0.out] at g0 g1 g2 g3
 clear hr hk
 go_enter Tryz.func106,Tryz.ntmps106
 go_wp2
 refine bodyPost_ret (v:=tyV (⟨2,⟨#[]⟩⟩:Sy.Ty)) (by simp [results,Tryz.results106,go_sem]) rfl ?_
 exact Bf.good h.out (grown_a2 _ _) HRe.out
theorem expr_var
  (K:BK) (v:Vars) (d:Nat) (me:Sy.Df) (_hC:Hid (CEx K v d (expr K.l me v d))) (x:Sy.Ex) (xa:Option Addr) (xc:Nat) (t:Tk) (n m:Nat) (w:World) (r:Except Int (Value × Vars × Tk)) (h:Hid (BW K w v t)) (hx:Hid (∃ h,ExIn K.B w h x xa)) (_hn:Hid (Sy.runs (Sy.exW d) x.kids (n + 1) = .ok m)) (_ht:Hid (TkLe t n)) (_h2:n + 1 ≤ 2000)
    (hr:Hid (r = andThen (expr K.l me v (d + 1) x t) fun p => .ok (tyV p.1,v,p.2)))
  (hk:x.kind = 3) :
  Calls Tryz.prog 106 #[.pointer (some ⟨K.F,0,none⟩),exV x xa xc] w fun e w' => Bf K w v r e w'
  := by
 have hF:=h.out.lt
 obtain ⟨W0,hW0⟩:∃ W0,W0 = (w.alloc (exB x xa xc)).alloc zT:=⟨_,rfl⟩
 have HK0:Hid (Kpt K w W0):=by rw [hW0]; exact Kpt.grown (grown_a2 _ _) hF
 have HB0:Hid (BW K W0 v t):=by rw [hW0]; exact h.out.grown (grown_a2 _ _)
 have HX0:Hid (W0.heap[w.heap.size]? = some (exB x xa xc) ∧ Free K W0 w.heap.size):=by
  rw [hW0]
  exact (Kpt.alloc K _ _ (by simp; omega)).at (h.out.new _)
 have HZ0:Hid (W0.heap[w.heap.size + 1]? = some zT ∧ Free K W0 (w.heap.size + 1)):=by
  rw [hW0]
  refine ⟨?_,h.out.free (grown_a2 _ _) (by omega)⟩
  have:=heap_alloc_new (w.alloc (exB x xa xc)) zT
  simpa using this
 have HE0:Hid (∃ h,ExIn K.B W0 h x xa):=by
  obtain ⟨hh,hE⟩:=hx.out
  exact ⟨hh,hE.same (h.out.same HK0.out)⟩
 have HW0:Hid (W0 = _):=hW0
 have hBw:K.B ≤ w.heap.size + 1:=by have:=h.out.base; omega
 clear hW0
 obtain ⟨rv,hrv⟩:∃ rv:Except Int Value,rv = match Sm.known v x.name with | .ok y => .ok (tyV y) | .error e => .error e:=⟨_,rfl⟩
 have HRV:Hid (rv = match Sm.known v x.name with | .ok y => .ok (tyV y) | .error e => .error e):=hrv
 have HRr:Hid (r = andThen (Sm.known v x.name) fun y => .ok (tyV y,v,t)):=by
  unfold Hid
  rw [hr.out,expr,if_neg (by omega),if_neg (by omega),if_pos hk]
  cases Sm.known v x.name <;> rfl
 have e1:(x.kind == 1) = false:=by rw [hk]; rfl
 have e2:(x.kind == 2) = false:=by rw [hk]; rfl
 have e3:(x.kind == 3) = true:=by rw [hk]; rfl
 clear hr hk hrv
 go_enter Tryz.func106,Tryz.ntmps106
 go_wp2_with fail
 rw [← HW0.out]
 refine (known_any K v t x.name W0 rv HB0 HRV).mono ?_
 rintro e w9 ⟨hg9,he9⟩
 have HB9:Hid (BW K w9 v t):=HB0.out.grown hg9
 have HK9:Hid (Kpt K w w9):=HK0.out.trans (Kpt.grown hg9 HB0.out.lt)
 have HZ9:=hid ((Kpt.grown hg9 HB0.out.lt).at HZ0.out)
 cases hkn:Sm.known v x.name with
 | error y =>
  have hrv:rv = .error y:=by rw [HRV.out,hkn]
  subst hrv
  obtain rfl:=he9
  have HE:Hid (Bf K w v r (.panicked [fltE y K.num]) w9):=by
   rw [HRr.out,hkn]
   exact ⟨HK9.out,rfl,v,t,HB9.out,List.prefix_refl _⟩
  clear hg9 hkn
  go_wp2
  exact ⟨rfl,HE.out⟩
 | ok y =>
  have hrv:rv = .ok (tyV y):=by rw [HRV.out,hkn]
  subst hrv
  obtain rfl:=he9
  have HRe:Hid (r = .ok (tyV y,v,t)):=by unfold Hid; rw [HRr.out,hkn]; rfl
  clear hg9 hkn
  have HTE:=hid (ty_end (y:=y) (Z:=w.heap.size + 1) HB9.out HK9.out HZ9.out (by omega) hBw hF HRe.out)
  obtain ⟨W9,hW9⟩:∃ W9,W9 = (w9.setCell ⟨w.heap.size + 1,0,none⟩ (.int .i64 (y).kind)).setCell ⟨w.heap.size + 1,1,none⟩ (.string (y).gen):=⟨_,rfl⟩
  have HW9:Hid (W9 = _):=hW9
  obtain ⟨ez0,ez1,ef0,ef1⟩:=two_cell (HZ9.out).1
  clear hW9
  go_wp2
  rw [show (w9.setCell ⟨w.heap.size + 1,0,none⟩ (.int .i64 (y).kind)).setCell ⟨w.heap.size + 1,1,none⟩ (.string (y).gen) = W9 from HW9.out.symm]
  have q9:=HTE.out.2
  rw [show twoS w9 (w.heap.size + 1) (.int .i64 (y).kind) (.string (y).gen) = W9 from HW9.out.symm] at q9
  refine bodyPost_ret (v:=tyV y) (by simp [results,Tryz.results106,go_sem,World.cell?,q9]) rfl ?_
  rw [HW9.out]
  exact HTE.out.1
theorem expr_arith
  (K:BK) (v:Vars) (d:Nat) (me:Sy.Df) (hC:Hid (CEx K v d (expr K.l me v d))) (x:Sy.Ex) (xa:Option Addr) (xc:Nat) (t:Tk) (n m:Nat) (w:World) (r:Except Int (Value × Vars × Tk)) (h:Hid (BW K w v t)) (hx:Hid (∃ h,ExIn K.B w h x xa)) (hn:Hid (Sy.runs (Sy.exW d) x.kids (n + 1) = .ok m)) (ht:Hid (TkLe t n)) (h2:n + 1 ≤ 2000)
    (hr:Hid (r = andThen (expr K.l me v (d + 1) x t) fun p => .ok (tyV p.1,v,p.2)))
  (hk:x.kind = 4 ∨ 6 ≤ x.kind ∧ x.kind ≤ 10) :
  Calls Tryz.prog 106 #[.pointer (some ⟨K.F,0,none⟩),exV x xa xc] w fun e w' => Bf K w v r e w'
  := by
 have hF:=h.out.lt
 obtain ⟨W0,hW0⟩:∃ W0,W0 = (w.alloc (exB x xa xc)).alloc zT:=⟨_,rfl⟩
 have HK0:Hid (Kpt K w W0):=by rw [hW0]; exact Kpt.grown (grown_a2 _ _) hF
 have HB0:Hid (BW K W0 v t):=by rw [hW0]; exact h.out.grown (grown_a2 _ _)
 have HX0:Hid (W0.heap[w.heap.size]? = some (exB x xa xc) ∧ Free K W0 w.heap.size):=by
  rw [hW0]
  exact (Kpt.alloc K _ _ (by simp; omega)).at (h.out.new _)
 have HZ0:Hid (W0.heap[w.heap.size + 1]? = some zT ∧ Free K W0 (w.heap.size + 1)):=by
  rw [hW0]
  refine ⟨?_,h.out.free (grown_a2 _ _) (by omega)⟩
  have:=heap_alloc_new (w.alloc (exB x xa xc)) zT
  simpa using this
 have HE0:Hid (∃ h,ExIn K.B W0 h x xa):=by
  obtain ⟨hh,hE⟩:=hx.out
  exact ⟨hh,hE.same (h.out.same HK0.out)⟩
 have HW0:Hid (W0 = _):=hW0
 have hBw:K.B ≤ w.heap.size + 1:=by have:=h.out.base; omega
 clear hW0
 obtain ⟨er,her⟩:∃ er,er = must (expr K.l me v d) num x.kids t:=⟨_,rfl⟩
 have HEr:Hid (er = must (expr K.l me v d) num x.kids t):=her
 have HRr:Hid (r = andThen er fun t => .ok (tyV (⟨1,⟨#[]⟩⟩:Sy.Ty),v,t)):=by
  unfold Hid
  rw [hr.out,expr,if_neg (by omega),if_neg (by omega),if_neg (by omega),if_pos (by omega),her]
  cases must (expr K.l me v d) num x.kids t <;> rfl
 have HT1:Hid (TkLe t (n + 1)):=ht.out.mono (by omega)
 have HKs:Hid (KsAt K W0 x.kids xa):=ks_in HB0.out HE0.out
 have hlen:x.kids.length ≤ 9223372036854775807:=ex_len HE0.out
 obtain ⟨hgb,g0,g1,g2,g3⟩:=h.out.grd.2
 have hgb1:2 < w.heap.size:=by have:=h.out.base; omega
 have hgb2:1 < w.heap.size:=by have:=h.out.base; omega
 have hgb0:0 < w.heap.size:=by omega
 clear hr her
 have hks:x.kind = 4 ∨ x.kind = 6 ∨ x.kind = 7 ∨ x.kind = 8 ∨ x.kind = 9 ∨ x.kind = 10:=by omega
 have e1:(x.kind == 1) = false:=by simp; omega
 have e2:(x.kind == 2) = false:=by simp; omega
 have e3:(x.kind == 3) = false:=by simp; omega
 clear hk
 go_enter Tryz.func106,Tryz.ntmps106
 go_upto_if 19 with fail
 rw [← HW0.out]
 go_cut [19] (fun u wx => u = .bool true ∧ wx = W0)
 case first =>
  rcases hks with hk | hk | hk | hk | hk | hk
  ·have e4:(x.kind == 4) = true:=by rw [hk]; rfl
   clear hk
   go_wp2_with fail
   go_meet
   exact ⟨by first | rfl | rw [e4],rfl⟩
  ·have e4:(x.kind == 4) = false:=by rw [hk]; rfl
   have e6:(x.kind == 6) = true:=by rw [hk]; rfl
   clear hk
   go_wp2_with fail
   go_meet
   exact ⟨by first | rfl | rw [e6],rfl⟩
  ·have e4:(x.kind == 4) = false:=by rw [hk]; rfl
   have e6:(x.kind == 6) = false:=by rw [hk]; rfl
   have e7:(x.kind == 7) = true:=by rw [hk]; rfl
   clear hk
   go_wp2_with fail
   go_meet
   exact ⟨by first | rfl | rw [e7],rfl⟩
  ·have e4:(x.kind == 4) = false:=by rw [hk]; rfl
   have e6:(x.kind == 6) = false:=by rw [hk]; rfl
   have e7:(x.kind == 7) = false:=by rw [hk]; rfl
   have e8:(x.kind == 8) = true:=by rw [hk]; rfl
   clear hk
   go_wp2_with fail
   go_meet
   exact ⟨by first | rfl | rw [e8],rfl⟩
  ·have e4:(x.kind == 4) = false:=by rw [hk]; rfl
   have e6:(x.kind == 6) = false:=by rw [hk]; rfl
   have e7:(x.kind == 7) = false:=by rw [hk]; rfl
   have e8:(x.kind == 8) = false:=by rw [hk]; rfl
   have e9:(x.kind == 9) = true:=by rw [hk]; rfl
   clear hk
   go_wp2_with fail
   go_meet
   exact ⟨by first | rfl | rw [e9],rfl⟩
  ·have e4:(x.kind == 4) = false:=by rw [hk]; rfl
   have e6:(x.kind == 6) = false:=by rw [hk]; rfl
   have e7:(x.kind == 7) = false:=by rw [hk]; rfl
   have e8:(x.kind == 8) = false:=by rw [hk]; rfl
   have e9:(x.kind == 9) = false:=by rw [hk]; rfl
   have e10:(x.kind == 10) = true:=by rw [hk]; rfl
   clear hk
   go_wp2_with fail
   go_meet
   exact ⟨by first | rfl | rw [e10],rfl⟩
 case rest =>
  obtain ⟨rfl,hw⟩:=hcut
  clear g0 g1 g2 g3
  obtain ⟨_,g0,g1,g2,g3⟩:=HB0.out.grd.2
  have x3:W0.cell? ⟨w.heap.size,3,none⟩ = some (.slice xa x.kids.length xc):=by simp [World.cell?,HX0.out.1]
  subst hw
  go_wp2_with fail
  refine (must_any K v d (expr K.l me v d) hC (expr_le K.l me v d) x.kids xa xc num t (n + 1) m _ _ HB0 HKs hlen hn HT1 h2 (by rw [← HEr.out]; exact rfl)).mono ?_
  rintro e w9 ⟨hk9,he9⟩
  have HK9:Hid (Kpt K w w9):=HK0.out.trans hk9
  cases er with
  | error y =>
   obtain ⟨rfl,v2,t2,hb2,hp2⟩:=he9
   have HE:Hid (Bf K w v r (.panicked [fltE y K.num]) w9):=by
    rw [HRr.out]
    exact ⟨HK9.out,rfl,v2,t2,hb2,hp2⟩
   clear hk9 hb2 hp2
   go_wp2
   exact ⟨rfl,HE.out⟩
  | ok t2 =>
   obtain ⟨rfl,hb9⟩:=he9
   have HB9:Hid (BW K w9 v t2):=hb9
   have HRe:Hid (r = .ok (tyV (⟨1,⟨#[]⟩⟩:Sy.Ty),v,t2)):=HRr.out
   have HZ9:=hid (hk9.at HZ0.out)
   obtain ⟨_,g0,g1,g2,g3⟩:=hb9.grd.2
   clear hk9 hb9
   have HTE:=hid (ty_end (y:=(⟨1,⟨#[]⟩⟩:Sy.Ty)) (Z:=w.heap.size + 1) HB9.out HK9.out HZ9.out (by omega) hBw hF HRe.out)
   obtain ⟨W9,hW9⟩:∃ W9,W9 = (w9.setCell ⟨w.heap.size + 1,0,none⟩ (.int .i64 ((⟨1,⟨#[]⟩⟩:Sy.Ty)).kind)).setCell ⟨w.heap.size + 1,1,none⟩ (.string ((⟨1,⟨#[]⟩⟩:Sy.Ty)).gen):=⟨_,rfl⟩
   have HW9:Hid (W9 = _):=hW9
   obtain ⟨ez0,ez1,ef0,ef1⟩:=two_cell (HZ9.out).1
   clear hW9
   go_wp2
   rw [show (w9.setCell ⟨w.heap.size + 1,0,none⟩ (.int .i64 ((⟨1,⟨#[]⟩⟩:Sy.Ty)).kind)).setCell ⟨w.heap.size + 1,1,none⟩ (.string ((⟨1,⟨#[]⟩⟩:Sy.Ty)).gen) = W9 from HW9.out.symm]
   have q9:=HTE.out.2
   rw [show twoS w9 (w.heap.size + 1) (.int .i64 ((⟨1,⟨#[]⟩⟩:Sy.Ty)).kind) (.string ((⟨1,⟨#[]⟩⟩:Sy.Ty)).gen) = W9 from HW9.out.symm] at q9
   refine bodyPost_ret (v:=tyV (⟨1,⟨#[]⟩⟩:Sy.Ty)) (by simp [results,Tryz.results106,go_sem,World.cell?,q9]) rfl ?_
   rw [HW9.out]
   exact HTE.out.1
theorem expr_less
  (K:BK) (v:Vars) (d:Nat) (me:Sy.Df) (hC:Hid (CEx K v d (expr K.l me v d))) (x:Sy.Ex) (xa:Option Addr) (xc:Nat) (t:Tk) (n m:Nat) (w:World) (r:Except Int (Value × Vars × Tk)) (h:Hid (BW K w v t)) (hx:Hid (∃ h,ExIn K.B w h x xa)) (hn:Hid (Sy.runs (Sy.exW d) x.kids (n + 1) = .ok m)) (ht:Hid (TkLe t n)) (h2:n + 1 ≤ 2000)
    (hr:Hid (r = andThen (expr K.l me v (d + 1) x t) fun p => .ok (tyV p.1,v,p.2)))
  (hk:13 ≤ x.kind ∧ x.kind ≤ 16) :
  Calls Tryz.prog 106 #[.pointer (some ⟨K.F,0,none⟩),exV x xa xc] w fun e w' => Bf K w v r e w'
  := by
 have hF:=h.out.lt
 obtain ⟨W0,hW0⟩:∃ W0,W0 = (w.alloc (exB x xa xc)).alloc zT:=⟨_,rfl⟩
 have HK0:Hid (Kpt K w W0):=by rw [hW0]; exact Kpt.grown (grown_a2 _ _) hF
 have HB0:Hid (BW K W0 v t):=by rw [hW0]; exact h.out.grown (grown_a2 _ _)
 have HX0:Hid (W0.heap[w.heap.size]? = some (exB x xa xc) ∧ Free K W0 w.heap.size):=by
  rw [hW0]
  exact (Kpt.alloc K _ _ (by simp; omega)).at (h.out.new _)
 have HZ0:Hid (W0.heap[w.heap.size + 1]? = some zT ∧ Free K W0 (w.heap.size + 1)):=by
  rw [hW0]
  refine ⟨?_,h.out.free (grown_a2 _ _) (by omega)⟩
  have:=heap_alloc_new (w.alloc (exB x xa xc)) zT
  simpa using this
 have HE0:Hid (∃ h,ExIn K.B W0 h x xa):=by
  obtain ⟨hh,hE⟩:=hx.out
  exact ⟨hh,hE.same (h.out.same HK0.out)⟩
 have HW0:Hid (W0 = _):=hW0
 have hBw:K.B ≤ w.heap.size + 1:=by have:=h.out.base; omega
 clear hW0
 obtain ⟨er,her⟩:∃ er,er = must (expr K.l me v d) num x.kids t:=⟨_,rfl⟩
 have HEr:Hid (er = must (expr K.l me v d) num x.kids t):=her
 have HRr:Hid (r = andThen er fun t => .ok (tyV (⟨2,⟨#[]⟩⟩:Sy.Ty),v,t)):=by
  unfold Hid
  rw [hr.out,expr,if_neg (by omega),if_neg (by omega),if_neg (by omega),if_neg (by omega),if_pos (by omega),her]
  cases must (expr K.l me v d) num x.kids t <;> rfl
 have HT1:Hid (TkLe t (n + 1)):=ht.out.mono (by omega)
 have HKs:Hid (KsAt K W0 x.kids xa):=ks_in HB0.out HE0.out
 have hlen:x.kids.length ≤ 9223372036854775807:=ex_len HE0.out
 obtain ⟨hgb,g0,g1,g2,g3⟩:=h.out.grd.2
 have hgb1:2 < w.heap.size:=by have:=h.out.base; omega
 have hgb2:1 < w.heap.size:=by have:=h.out.base; omega
 have hgb0:0 < w.heap.size:=by omega
 clear hr her
 have hks:x.kind = 13 ∨ x.kind = 14 ∨ x.kind = 15 ∨ x.kind = 16:=by omega
 have e1:(x.kind == 1) = false:=by simp; omega
 have e2:(x.kind == 2) = false:=by simp; omega
 have e3:(x.kind == 3) = false:=by simp; omega
 have e4:(x.kind == 4) = false:=by simp; omega
 have e6:(x.kind == 6) = false:=by simp; omega
 have e7:(x.kind == 7) = false:=by simp; omega
 have e8:(x.kind == 8) = false:=by simp; omega
 have e9:(x.kind == 9) = false:=by simp; omega
 have e10:(x.kind == 10) = false:=by simp; omega
 clear hk
 go_enter Tryz.func106,Tryz.ntmps106
 go_upto_if 32 with fail
 rw [← HW0.out]
 go_cut [32] (fun u wx => u = .bool true ∧ wx = W0)
 case first =>
  rcases hks with hk | hk | hk | hk
  ·have e13:(x.kind == 13) = true:=by rw [hk]; rfl
   clear hk
   go_wp2_with fail
   go_meet
   exact ⟨by first | rfl | rw [e13],rfl⟩
  ·have e13:(x.kind == 13) = false:=by rw [hk]; rfl
   have e14:(x.kind == 14) = true:=by rw [hk]; rfl
   clear hk
   go_wp2_with fail
   go_meet
   exact ⟨by first | rfl | rw [e14],rfl⟩
  ·have e13:(x.kind == 13) = false:=by rw [hk]; rfl
   have e14:(x.kind == 14) = false:=by rw [hk]; rfl
   have e15:(x.kind == 15) = true:=by rw [hk]; rfl
   clear hk
   go_wp2_with fail
   go_meet
   exact ⟨by first | rfl | rw [e15],rfl⟩
  ·have e13:(x.kind == 13) = false:=by rw [hk]; rfl
   have e14:(x.kind == 14) = false:=by rw [hk]; rfl
   have e15:(x.kind == 15) = false:=by rw [hk]; rfl
   have e16:(x.kind == 16) = true:=by rw [hk]; rfl
   clear hk
   go_wp2_with fail
   go_meet
   exact ⟨by first | rfl | rw [e16],rfl⟩
 case rest =>
  obtain ⟨rfl,hw⟩:=hcut
  clear g0 g1 g2 g3
  obtain ⟨_,g0,g1,g2,g3⟩:=HB0.out.grd.2
  have x3:W0.cell? ⟨w.heap.size,3,none⟩ = some (.slice xa x.kids.length xc):=by simp [World.cell?,HX0.out.1]
  subst hw
  go_wp2_with fail
  refine (must_any K v d (expr K.l me v d) hC (expr_le K.l me v d) x.kids xa xc num t (n + 1) m _ _ HB0 HKs hlen hn HT1 h2 (by rw [← HEr.out]; exact rfl)).mono ?_
  rintro e w9 ⟨hk9,he9⟩
  have HK9:Hid (Kpt K w w9):=HK0.out.trans hk9
  cases er with
  | error y =>
   obtain ⟨rfl,v2,t2,hb2,hp2⟩:=he9
   have HE:Hid (Bf K w v r (.panicked [fltE y K.num]) w9):=by
    rw [HRr.out]
    exact ⟨HK9.out,rfl,v2,t2,hb2,hp2⟩
   clear hk9 hb2 hp2
   go_wp2
   exact ⟨rfl,HE.out⟩
  | ok t2 =>
   obtain ⟨rfl,hb9⟩:=he9
   have HB9:Hid (BW K w9 v t2):=hb9
   have HRe:Hid (r = .ok (tyV (⟨2,⟨#[]⟩⟩:Sy.Ty),v,t2)):=HRr.out
   have HZ9:=hid (hk9.at HZ0.out)
   obtain ⟨_,g0,g1,g2,g3⟩:=hb9.grd.2
   clear hk9 hb9
   have HTE:=hid (ty_end (y:=(⟨2,⟨#[]⟩⟩:Sy.Ty)) (Z:=w.heap.size + 1) HB9.out HK9.out HZ9.out (by omega) hBw hF HRe.out)
   obtain ⟨W9,hW9⟩:∃ W9,W9 = (w9.setCell ⟨w.heap.size + 1,0,none⟩ (.int .i64 ((⟨2,⟨#[]⟩⟩:Sy.Ty)).kind)).setCell ⟨w.heap.size + 1,1,none⟩ (.string ((⟨2,⟨#[]⟩⟩:Sy.Ty)).gen):=⟨_,rfl⟩
   have HW9:Hid (W9 = _):=hW9
   obtain ⟨ez0,ez1,ef0,ef1⟩:=two_cell (HZ9.out).1
   clear hW9
   go_wp2
   rw [show (w9.setCell ⟨w.heap.size + 1,0,none⟩ (.int .i64 ((⟨2,⟨#[]⟩⟩:Sy.Ty)).kind)).setCell ⟨w.heap.size + 1,1,none⟩ (.string ((⟨2,⟨#[]⟩⟩:Sy.Ty)).gen) = W9 from HW9.out.symm]
   have q9:=HTE.out.2
   rw [show twoS w9 (w.heap.size + 1) (.int .i64 ((⟨2,⟨#[]⟩⟩:Sy.Ty)).kind) (.string ((⟨2,⟨#[]⟩⟩:Sy.Ty)).gen) = W9 from HW9.out.symm] at q9
   refine bodyPost_ret (v:=tyV (⟨2,⟨#[]⟩⟩:Sy.Ty)) (by simp [results,Tryz.results106,go_sem,World.cell?,q9]) rfl ?_
   rw [HW9.out]
   exact HTE.out.1
theorem expr_logic
  (K:BK) (v:Vars) (d:Nat) (me:Sy.Df) (hC:Hid (CEx K v d (expr K.l me v d))) (x:Sy.Ex) (xa:Option Addr) (xc:Nat) (t:Tk) (n m:Nat) (w:World) (r:Except Int (Value × Vars × Tk)) (h:Hid (BW K w v t)) (hx:Hid (∃ h,ExIn K.B w h x xa)) (hn:Hid (Sy.runs (Sy.exW d) x.kids (n + 1) = .ok m)) (ht:Hid (TkLe t n)) (h2:n + 1 ≤ 2000)
    (hr:Hid (r = andThen (expr K.l me v (d + 1) x t) fun p => .ok (tyV p.1,v,p.2)))
  (hk:x.kind = 5 ∨ x.kind = 17 ∨ x.kind = 18) :
  Calls Tryz.prog 106 #[.pointer (some ⟨K.F,0,none⟩),exV x xa xc] w fun e w' => Bf K w v r e w'
  := by
 have hF:=h.out.lt
 obtain ⟨W0,hW0⟩:∃ W0,W0 = (w.alloc (exB x xa xc)).alloc zT:=⟨_,rfl⟩
 have HK0:Hid (Kpt K w W0):=by rw [hW0]; exact Kpt.grown (grown_a2 _ _) hF
 have HB0:Hid (BW K W0 v t):=by rw [hW0]; exact h.out.grown (grown_a2 _ _)
 have HX0:Hid (W0.heap[w.heap.size]? = some (exB x xa xc) ∧ Free K W0 w.heap.size):=by
  rw [hW0]
  exact (Kpt.alloc K _ _ (by simp; omega)).at (h.out.new _)
 have HZ0:Hid (W0.heap[w.heap.size + 1]? = some zT ∧ Free K W0 (w.heap.size + 1)):=by
  rw [hW0]
  refine ⟨?_,h.out.free (grown_a2 _ _) (by omega)⟩
  have:=heap_alloc_new (w.alloc (exB x xa xc)) zT
  simpa using this
 have HE0:Hid (∃ h,ExIn K.B W0 h x xa):=by
  obtain ⟨hh,hE⟩:=hx.out
  exact ⟨hh,hE.same (h.out.same HK0.out)⟩
 have HW0:Hid (W0 = _):=hW0
 have hBw:K.B ≤ w.heap.size + 1:=by have:=h.out.base; omega
 clear hW0
 obtain ⟨er,her⟩:∃ er,er = must (expr K.l me v d) tru x.kids t:=⟨_,rfl⟩
 have HEr:Hid (er = must (expr K.l me v d) tru x.kids t):=her
 have HRr:Hid (r = andThen er fun t => .ok (tyV (⟨2,⟨#[]⟩⟩:Sy.Ty),v,t)):=by
  unfold Hid
  rw [hr.out,expr,if_neg (by omega),if_neg (by omega),if_neg (by omega),if_neg (by omega),if_neg (by omega),if_pos (by omega),her]
  cases must (expr K.l me v d) tru x.kids t <;> rfl
 have HT1:Hid (TkLe t (n + 1)):=ht.out.mono (by omega)
 have HKs:Hid (KsAt K W0 x.kids xa):=ks_in HB0.out HE0.out
 have hlen:x.kids.length ≤ 9223372036854775807:=ex_len HE0.out
 obtain ⟨hgb,g0,g1,g2,g3⟩:=h.out.grd.2
 have hgb1:2 < w.heap.size:=by have:=h.out.base; omega
 have hgb2:1 < w.heap.size:=by have:=h.out.base; omega
 have hgb0:0 < w.heap.size:=by omega
 clear hr her
 have hks:x.kind = 5 ∨ x.kind = 17 ∨ x.kind = 18:=by omega
 have e1:(x.kind == 1) = false:=by simp; omega
 have e2:(x.kind == 2) = false:=by simp; omega
 have e3:(x.kind == 3) = false:=by simp; omega
 have e4:(x.kind == 4) = false:=by simp; omega
 have e6:(x.kind == 6) = false:=by simp; omega
 have e7:(x.kind == 7) = false:=by simp; omega
 have e8:(x.kind == 8) = false:=by simp; omega
 have e9:(x.kind == 9) = false:=by simp; omega
 have e10:(x.kind == 10) = false:=by simp; omega
 have e13:(x.kind == 13) = false:=by simp; omega
 have e14:(x.kind == 14) = false:=by simp; omega
 have e15:(x.kind == 15) = false:=by simp; omega
 have e16:(x.kind == 16) = false:=by simp; omega
 clear hk
 go_enter Tryz.func106,Tryz.ntmps106
 go_upto_if 43 with fail
 rw [← HW0.out]
 go_cut [43] (fun u wx => u = .bool true ∧ wx = W0)
 case first =>
  rcases hks with hk | hk | hk
  ·have e5:(x.kind == 5) = true:=by rw [hk]; rfl
   clear hk
   go_wp2_with fail
   go_meet
   exact ⟨by first | rfl | rw [e5],rfl⟩
  ·have e5:(x.kind == 5) = false:=by rw [hk]; rfl
   have e17:(x.kind == 17) = true:=by rw [hk]; rfl
   clear hk
   go_wp2_with fail
   go_meet
   exact ⟨by first | rfl | rw [e17],rfl⟩
  ·have e5:(x.kind == 5) = false:=by rw [hk]; rfl
   have e17:(x.kind == 17) = false:=by rw [hk]; rfl
   have e18:(x.kind == 18) = true:=by rw [hk]; rfl
   clear hk
   go_wp2_with fail
   go_meet
   exact ⟨by first | rfl | rw [e18],rfl⟩
 case rest =>
  obtain ⟨rfl,hw⟩:=hcut
  clear g0 g1 g2 g3
  obtain ⟨_,g0,g1,g2,g3⟩:=HB0.out.grd.2
  have x3:W0.cell? ⟨w.heap.size,3,none⟩ = some (.slice xa x.kids.length xc):=by simp [World.cell?,HX0.out.1]
  subst hw
  go_wp2_with fail
  refine (must_any K v d (expr K.l me v d) hC (expr_le K.l me v d) x.kids xa xc tru t (n + 1) m _ _ HB0 HKs hlen hn HT1 h2 (by rw [← HEr.out]; exact rfl)).mono ?_
  rintro e w9 ⟨hk9,he9⟩
  have HK9:Hid (Kpt K w w9):=HK0.out.trans hk9
  cases er with
  | error y =>
   obtain ⟨rfl,v2,t2,hb2,hp2⟩:=he9
   have HE:Hid (Bf K w v r (.panicked [fltE y K.num]) w9):=by
    rw [HRr.out]
    exact ⟨HK9.out,rfl,v2,t2,hb2,hp2⟩
   clear hk9 hb2 hp2
   go_wp2
   exact ⟨rfl,HE.out⟩
  | ok t2 =>
   obtain ⟨rfl,hb9⟩:=he9
   have HB9:Hid (BW K w9 v t2):=hb9
   have HRe:Hid (r = .ok (tyV (⟨2,⟨#[]⟩⟩:Sy.Ty),v,t2)):=HRr.out
   have HZ9:=hid (hk9.at HZ0.out)
   obtain ⟨_,g0,g1,g2,g3⟩:=hb9.grd.2
   clear hk9 hb9
   have HTE:=hid (ty_end (y:=(⟨2,⟨#[]⟩⟩:Sy.Ty)) (Z:=w.heap.size + 1) HB9.out HK9.out HZ9.out (by omega) hBw hF HRe.out)
   obtain ⟨W9,hW9⟩:∃ W9,W9 = (w9.setCell ⟨w.heap.size + 1,0,none⟩ (.int .i64 ((⟨2,⟨#[]⟩⟩:Sy.Ty)).kind)).setCell ⟨w.heap.size + 1,1,none⟩ (.string ((⟨2,⟨#[]⟩⟩:Sy.Ty)).gen):=⟨_,rfl⟩
   have HW9:Hid (W9 = _):=hW9
   obtain ⟨ez0,ez1,ef0,ef1⟩:=two_cell (HZ9.out).1
   clear hW9
   go_wp2
   rw [show (w9.setCell ⟨w.heap.size + 1,0,none⟩ (.int .i64 ((⟨2,⟨#[]⟩⟩:Sy.Ty)).kind)).setCell ⟨w.heap.size + 1,1,none⟩ (.string ((⟨2,⟨#[]⟩⟩:Sy.Ty)).gen) = W9 from HW9.out.symm]
   have q9:=HTE.out.2
   rw [show twoS w9 (w.heap.size + 1) (.int .i64 ((⟨2,⟨#[]⟩⟩:Sy.Ty)).kind) (.string ((⟨2,⟨#[]⟩⟩:Sy.Ty)).gen) = W9 from HW9.out.symm] at q9
   refine bodyPost_ret (v:=tyV (⟨2,⟨#[]⟩⟩:Sy.Ty)) (by simp [results,Tryz.results106,go_sem,World.cell?,q9]) rfl ?_
   rw [HW9.out]
   exact HTE.out.1
end Sm
namespace Sm
theorem two_kids {B:Nat} {w:World} {x kd ke:Sy.Ex} {xa:Option Addr} (hx:∃ h,ExIn B w h x xa) (hkd:x.kids = [kd,ke]):∃ hh kb ko ka kc kl km,xa = some ⟨kb,ko,none⟩ ∧ kb < B ∧ w.cell? ⟨kb,ko,none⟩ = some (.int .i64 kd.kind) ∧ w.cell? ⟨kb,ko + 1,none⟩ = some (.int .i64 kd.n) ∧ w.cell? ⟨kb,ko + 2,none⟩ = some (.string kd.name) ∧ w.cell? ⟨kb,ko + 3,none⟩ = some (.slice ka kd.kids.length kc) ∧ ExIn B w hh kd ka ∧ w.cell? ⟨kb,ko + 4,none⟩ = some (.int .i64 ke.kind) ∧ w.cell? ⟨kb,ko + 5,none⟩ = some (.int .i64 ke.n) ∧ w.cell? ⟨kb,ko + 6,none⟩ = some (.string ke.name) ∧ w.cell? ⟨kb,ko + 7,none⟩ = some (.slice kl ke.kids.length km) ∧ ExIn B w hh ke kl:=by
 obtain ⟨hh,hE⟩:=hx
 cases hh with
 | zero => exact hE.elim
 | succ hh =>
  obtain ⟨b',off',a',c',e1,e2,e3,e4,e5,e6,e7⟩:=hE.2.2 0 kd (by rw [hkd]; rfl)
  obtain ⟨b2,off2,a2,c2,f1,f2,f3,f4,f5,f6,f7⟩:=hE.2.2 1 ke (by rw [hkd]; rfl)
  rw [e1] at f1
  cases f1
  simp only [Nat.zero_mul,Nat.add_zero] at e3 e4 e5 e6
  simp only [Nat.one_mul,Nat.add_assoc,Nat.reduceAdd] at f3 f4 f5 f6
  exact ⟨hh,b',off',a',c',a2,c2,e1,e2,e3,e4,e5,e6,e7,f3,f4,f5,f6,f7⟩
theorem one_kid {B:Nat} {w:World} {x kd:Sy.Ex} {xa:Option Addr} (hx:∃ h,ExIn B w h x xa) (hkd:x.kids = [kd]):∃ hh kb ko ka kc,xa = some ⟨kb,ko,none⟩ ∧ kb < B ∧ w.cell? ⟨kb,ko,none⟩ = some (.int .i64 kd.kind) ∧ w.cell? ⟨kb,ko + 1,none⟩ = some (.int .i64 kd.n) ∧ w.cell? ⟨kb,ko + 2,none⟩ = some (.string kd.name) ∧ w.cell? ⟨kb,ko + 3,none⟩ = some (.slice ka kd.kids.length kc) ∧ ExIn B w hh kd ka:=by
 obtain ⟨hh,hE⟩:=hx
 cases hh with
 | zero => exact hE.elim
 | succ hh =>
  obtain ⟨b',off',a',c',e1,e2,e3,e4,e5,e6,e7⟩:=hE.2.2 0 kd (by rw [hkd]; rfl)
  simp only [Nat.zero_mul,Nat.add_zero] at e3 e4 e5 e6
  exact ⟨hh,b',off',a',c',e1,e2,e3,e4,e5,e6,e7⟩
theorem expr_eq
  (K:BK) (v:Vars) (d:Nat) (me:Sy.Df) (hC:Hid (CEx K v d (expr K.l me v d))) (x:Sy.Ex) (xa:Option Addr) (xc:Nat) (t:Tk) (n m:Nat) (w:World) (r:Except Int (Value × Vars × Tk)) (h:Hid (BW K w v t)) (hx:Hid (∃ h,ExIn K.B w h x xa)) (hn:Hid (Sy.runs (Sy.exW d) x.kids (n + 1) = .ok m)) (ht:Hid (TkLe t n)) (h2:n + 1 ≤ 2000)
    (hr:Hid (r = andThen (expr K.l me v (d + 1) x t) fun p => .ok (tyV p.1,v,p.2)))
  (hk:x.kind = 11 ∨ x.kind = 12) (hh:Sy.exHead x = 0) :
  Calls Tryz.prog 106 #[.pointer (some ⟨K.F,0,none⟩),exV x xa xc] w fun e w' => Bf K w v r e w'
  := by
 obtain ⟨kd,ke,hkd⟩:=kids_two hh (by omega)
 have hF:=h.out.lt
 obtain ⟨W0,hW0⟩:∃ W0,W0 = (w.alloc (exB x xa xc)).alloc zT:=⟨_,rfl⟩
 have HK0:Hid (Kpt K w W0):=by rw [hW0]; exact Kpt.grown (grown_a2 _ _) hF
 have HB0:Hid (BW K W0 v t):=by rw [hW0]; exact h.out.grown (grown_a2 _ _)
 have HX0:Hid (W0.heap[w.heap.size]? = some (exB x xa xc) ∧ Free K W0 w.heap.size):=by
  rw [hW0]
  exact (Kpt.alloc K _ _ (by simp; omega)).at (h.out.new _)
 have HZ0:Hid (W0.heap[w.heap.size + 1]? = some zT ∧ Free K W0 (w.heap.size + 1)):=by
  rw [hW0]
  refine ⟨?_,h.out.free (grown_a2 _ _) (by omega)⟩
  have:=heap_alloc_new (w.alloc (exB x xa xc)) zT
  simpa using this
 have HE0:Hid (∃ h,ExIn K.B W0 h x xa):=by
  obtain ⟨hh,hE⟩:=hx.out
  exact ⟨hh,hE.same (h.out.same HK0.out)⟩
 have HW0:Hid (W0 = _):=hW0
 have hBw:K.B ≤ w.heap.size + 1:=by have:=h.out.base; omega
 clear hW0
 have hx0:kid x 0 = kd:=by simp [kid,hkd]
 have hx1:kid x 1 = ke:=by simp [kid,hkd]
 obtain ⟨r1,hr1⟩:∃ r1,r1 = expr K.l me v d kd t:=⟨_,rfl⟩
 have HE1:Hid (r1 = expr K.l me v d kd t):=hr1
 have HRr:Hid (r = andThen r1 fun a => andThen (expr K.l me v d ke a.2) fun b => andThen (plain a.1) fun _ => if Sm.same a.1 b.1 = true then .ok (tyV (⟨2,⟨#[]⟩⟩:Sy.Ty),v,b.2) else .error 9):=by
  unfold Hid
  rw [hr.out,expr,if_neg (by omega),if_neg (by omega),if_neg (by omega),if_neg (by omega),if_neg (by omega),if_neg (by omega),if_pos (by omega),hx0,hx1,hr1]
  cases expr K.l me v d kd t with
  | error e => rfl
  | ok a =>
   rw [andThen_ok,andThen_ok]
   cases expr K.l me v d ke a.2 with
   | error e => rfl
   | ok b =>
    rw [andThen_ok,andThen_ok]
    cases plain a.1 with
    | error e => rfl
    | ok u => rw [andThen_ok,andThen_ok]; split <;> rfl
 have hn':=hn.out
 rw [hkd] at hn'
 obtain ⟨n1,hn1,hn2⟩:=runs_cons hn'
 have HX1:Hid (Sy.exW d kd (n + 1) = .ok n1):=hn1
 have HX2:Hid (Sy.exW d ke n1 = .ok m):=by
  obtain ⟨k2,hk2,hk3⟩:=runs_cons hn2
  cases hk3
  exact hk2
 have h12:n1 ≤ 2000:=Sy.exW_le d kd (n + 1) n1 h2 hn1
 have HT1:Hid (TkLe t (n + 1)):=ht.out.mono (by omega)
 obtain ⟨hh',kb,ko,ka,kc,kl,km,hxa,hkb,q0,q1,q2,q3,hkx,p0,p1,p2,p3,hky⟩:=two_kids HE0.out hkd
 have HKX:Hid (∃ h,ExIn K.B W0 h kd ka):=⟨hh',hkx⟩
 have HKY:Hid (∃ h,ExIn K.B W0 h ke kl):=⟨hh',hky⟩
 have hl2:x.kids.length = 2:=by rw [hkd]; rfl
 have l0:(0:Int) < (x.kids.length:Int):=by omega
 have l1:(1:Int) < (x.kids.length:Int):=by omega
 have l0n:0 < x.kids.length:=by omega
 have l1n:1 < x.kids.length:=by omega
 subst hxa
 have HS:Hid (∀ w',Kpt K W0 w' → w'.cell? ⟨w.heap.size,3,none⟩ = some (.slice (some ⟨kb,ko,none⟩) x.kids.length xc) ∧ w'.cell? ⟨kb,ko,none⟩ = some (.int .i64 kd.kind) ∧ w'.cell? ⟨kb,ko + 1,none⟩ = some (.int .i64 kd.n) ∧ w'.cell? ⟨kb,ko + 2,none⟩ = some (.string kd.name) ∧ w'.cell? ⟨kb,ko + 3,none⟩ = some (.slice ka kd.kids.length kc) ∧ w'.cell? ⟨kb,ko + 4,none⟩ = some (.int .i64 ke.kind) ∧ w'.cell? ⟨kb,ko + 5,none⟩ = some (.int .i64 ke.n) ∧ w'.cell? ⟨kb,ko + 6,none⟩ = some (.string ke.name) ∧ w'.cell? ⟨kb,ko + 7,none⟩ = some (.slice kl ke.kids.length km)):=fun w' hk => by
  obtain ⟨_,_,_,x3'⟩:=four_cell (hk.at HX0.out).1
  have old:∀ o,w'.cell? ⟨kb,o,none⟩ = W0.cell? ⟨kb,o,none⟩:=fun o => HB0.out.same hk kb o hkb
  rw [old,old,old,old,old,old,old,old]
  exact ⟨x3',q0,q1,q2,q3,p0,p1,p2,p3⟩
 clear hr hn hn' hkd hh hx0 hx1 hr1 hn1 hn2 hkx hky hl2 q0 q1 q2 q3 p0 p1 p2 p3
 rcases hk with hk | hk
 ·have e1:(x.kind == 1) = false:=by rw [hk]; rfl
  have e2:(x.kind == 2) = false:=by rw [hk]; rfl
  have e3:(x.kind == 3) = false:=by rw [hk]; rfl
  have e4:(x.kind == 4) = false:=by rw [hk]; rfl
  have e6:(x.kind == 6) = false:=by rw [hk]; rfl
  have e7:(x.kind == 7) = false:=by rw [hk]; rfl
  have e8:(x.kind == 8) = false:=by rw [hk]; rfl
  have e9:(x.kind == 9) = false:=by rw [hk]; rfl
  have e10:(x.kind == 10) = false:=by rw [hk]; rfl
  have e13:(x.kind == 13) = false:=by rw [hk]; rfl
  have e14:(x.kind == 14) = false:=by rw [hk]; rfl
  have e15:(x.kind == 15) = false:=by rw [hk]; rfl
  have e16:(x.kind == 16) = false:=by rw [hk]; rfl
  have e5:(x.kind == 5) = false:=by rw [hk]; rfl
  have e17:(x.kind == 17) = false:=by rw [hk]; rfl
  have e18:(x.kind == 18) = false:=by rw [hk]; rfl
  have e11:(x.kind == 11) = true:=by rw [hk]; rfl
  clear hk
  go_enter Tryz.func106,Tryz.ntmps106
  go_wp2_with fail
  rw [← HW0.out]
  refine wp_region_held_drew (S:=fun w' => w'.cell? ⟨w.heap.size,3,none⟩ = some (.slice (some ⟨kb,ko,none⟩) x.kids.length xc) ∧ w'.cell? ⟨kb,ko,none⟩ = some (.int .i64 kd.kind) ∧ w'.cell? ⟨kb,ko + 1,none⟩ = some (.int .i64 kd.n) ∧ w'.cell? ⟨kb,ko + 2,none⟩ = some (.string kd.name) ∧ w'.cell? ⟨kb,ko + 3,none⟩ = some (.slice ka kd.kids.length kc) ∧ w'.cell? ⟨kb,ko + 4,none⟩ = some (.int .i64 ke.kind) ∧ w'.cell? ⟨kb,ko + 5,none⟩ = some (.int .i64 ke.n) ∧ w'.cell? ⟨kb,ko + 6,none⟩ = some (.string ke.name) ∧ w'.cell? ⟨kb,ko + 7,none⟩ = some (.slice kl ke.kids.length km)) (by kernel_rfl) (HS.out W0 (Kpt.refl _ _)) (fun hHeld => ?_)
  refine tk 0 (v:=?_) rfl ?_ (by assumption) ?_
  rotate_left
  ·intro w hSw
   (try dsimp only at hSw)
   go_simp
   (try with_reducible rfl)
  (try go_frame)
  refine tk 1 (v:=?_) rfl ?_ (by assumption) ?_
  rotate_left
  ·intro w hSw
   (try dsimp only at hSw)
   go_simp
   (try with_reducible rfl)
  (try go_frame)
  refine tk 2 (v:=?_) rfl ?_ (by assumption) ?_
  rotate_left
  ·intro w hSw
   (try dsimp only at hSw)
   go_simp
   (try with_reducible rfl)
  (try go_frame)
  refine tk 3 (v:=?_) rfl ?_ (by assumption) ?_
  rotate_left
  ·intro w hSw
   (try dsimp only at hSw)
   go_simp
   (try with_reducible rfl)
  (try go_frame)
  refine tk 4 (v:=?_) rfl ?_ (by assumption) ?_
  rotate_left
  ·intro w hSw
   (try dsimp only at hSw)
   go_simp
   (try with_reducible rfl)
  (try go_frame)
  refine tk 5 (v:=?_) rfl ?_ (by assumption) ?_
  rotate_left
  ·intro w hSw
   (try dsimp only at hSw)
   go_simp
   (try with_reducible rfl)
  (try go_frame)
  refine tk 7 (v:=?_) rfl ?_ (by assumption) ?_
  rotate_left
  ·intro w hSw
   (try dsimp only at hSw)
   go_simp
   (try with_reducible rfl)
  (try go_frame)
  refine tk 8 (v:=?_) rfl ?_ (by assumption) ?_
  rotate_left
  ·intro w hSw
   (try dsimp only at hSw)
   go_simp
   (try with_reducible rfl)
  (try go_frame)
  refine tk 9 (v:=?_) rfl ?_ (by assumption) ?_
  rotate_left
  ·intro w hSw
   (try dsimp only at hSw)
   go_simp
   (try with_reducible rfl)
  (try go_frame)
  refine tk 10 (v:=?_) rfl ?_ (by assumption) ?_
  rotate_left
  ·intro w hSw
   (try dsimp only at hSw)
   go_simp
   (try with_reducible rfl)
  (try go_frame)
  refine tk 11 (v:=?_) rfl ?_ (by assumption) ?_
  rotate_left
  ·intro w hSw
   (try dsimp only at hSw)
   go_simp
   (try with_reducible rfl)
  (try go_frame)
  refine wpAnyH_ready (rs:=[6]) (by kernel_rfl) (by simp) ?_
  refine AllReadyH.cons (o:=_) rfl (fun K' hK => ?_) AllReadyH.nil
  go_simp
  refine (hC.out kd ka kc t (n + 1) n1 W0.drew _ (by exact HB0.out.drew) (by obtain ⟨hh,hE⟩:=HKX.out; exact ⟨hh,ExIn.same (w:=W0) (w':=W0.drew) (fun _ _ _ => rfl) _ _ _ hE⟩) HX1 HT1 h2 (by rw [← HE1.out]; exact rfl)).mono ?_
  rintro e w1 ⟨hk1',he1⟩
  have HK1:Hid (Kpt K W0 w1):=hk1'.ofDrew
  clear hk1'
  cases r1 with
  | error y =>
   obtain ⟨rfl,v2,t2,hb2,hp2⟩:=he1
   have HE:Hid (Bf K w v r (.panicked [fltE y K.num]) w1):=by
    rw [HRr.out]
    exact ⟨HK0.out.trans HK1.out,rfl,v2,t2,hb2,hp2⟩
   clear hK hb2 hp2
   go_wp2
   exact ⟨rfl,HE.out⟩
  | ok p =>
   obtain ⟨ya,t1⟩:=p
   obtain ⟨rfl,hb1⟩:=he1
   have HB1:Hid (BW K w1 v t1):=hb1
   have HT2:Hid (TkLe t1 n1):=expr_le K.l me v d kd t (n + 1) n1 ya t1 HX1.out HT1.out HE1.out.symm
   obtain ⟨r2,hr2⟩:∃ r2,r2 = expr K.l me v d ke t1:=⟨_,rfl⟩
   have HE2:Hid (r2 = expr K.l me v d ke t1):=hr2
   have HRs:Hid (r = andThen r2 fun b => andThen (plain ya) fun _ => if Sm.same ya b.1 = true then .ok (tyV (⟨2,⟨#[]⟩⟩:Sy.Ty),v,b.2) else .error 9):=by unfold Hid; rw [HRr.out,andThen_ok,hr2]
   have HKY1:Hid (∃ h,ExIn K.B w1 h ke kl):=by
    obtain ⟨hh,hE⟩:=HKY.out
    exact ⟨hh,hE.same (HB0.out.same HK1.out)⟩
   refine hK.out _ _ (HS.out w1 HK1.out) (fun hHeld => ?_)
   clear hK hb1 hr2
   refine wpAnyH_ready (rs:=[12]) (by kernel_rfl) (by simp) ?_
   refine AllReadyH.cons (o:=_) rfl (fun K' hK => ?_) AllReadyH.nil
   go_simp
   refine (hC.out ke kl km t1 n1 m w1 _ HB1 HKY1 HX2 HT2 h12 (by rw [← HE2.out]; exact rfl)).mono ?_
   rintro e w2 ⟨hk2,he2⟩
   have HK2:Hid (Kpt K W0 w2):=HK1.out.trans hk2
   clear hk2
   cases r2 with
   | error y =>
    obtain ⟨rfl,v2,t2,hb2,hp2⟩:=he2
    have HE:Hid (Bf K w v r (.panicked [fltE y K.num]) w2):=by
     rw [HRs.out]
     exact ⟨HK0.out.trans HK2.out,rfl,v2,t2,hb2,hp2⟩
    clear hK hb2 hp2
    go_wp2
    exact ⟨rfl,HE.out⟩
   | ok p =>
    obtain ⟨yb,t2⟩:=p
    obtain ⟨rfl,hb2⟩:=he2
    have HB2:Hid (BW K w2 v t2):=hb2
    obtain ⟨rv,hrv⟩:∃ rv:Except Int Value,rv = match Sm.plain ya with | .error e => .error e | .ok _ => if Sm.same ya yb = true then .ok (.tuple #[]) else .error 9:=⟨_,rfl⟩
    have HRV:Hid (rv = match Sm.plain ya with | .error e => .error e | .ok _ => if Sm.same ya yb = true then .ok (.tuple #[]) else .error 9):=hrv
    have HRf:Hid (r = andThen rv fun _ => .ok (tyV (⟨2,⟨#[]⟩⟩:Sy.Ty),v,t2)):=by
     unfold Hid
     rw [HRs.out,andThen_ok,hrv]
     cases Sm.plain ya with
     | error e => rfl
     | ok u => dsimp only [andThen]; split <;> rfl
    refine hK.out _ _ (HS.out w2 HK2.out) (fun hHeld => ?_)
    clear hK hb2 hrv
    refine wpAnyH_ready (rs:=[13]) (by kernel_rfl) (by simp) ?_
    refine AllReadyH.cons (o:=_) rfl (fun K' hK => ?_) AllReadyH.nil
    go_simp
    refine (alike_any K v t2 ya yb w2 rv HB2 HRV).mono ?_
    rintro e w3 ⟨hg3,he3⟩
    have HB3:Hid (BW K w3 v t2):=HB2.out.grown hg3
    have HK03:Hid (Kpt K W0 w3):=HK2.out.trans (Kpt.grown hg3 HB2.out.lt)
    have HK3:Hid (Kpt K w w3):=HK0.out.trans HK03.out
    cases rv with
    | error y =>
     obtain rfl:=he3
     have HE:Hid (Bf K w v r (.panicked [fltE y K.num]) w3):=by
      rw [HRf.out]
      exact ⟨HK3.out,rfl,v,t2,HB3.out,List.prefix_refl _⟩
     clear hK hg3
     go_wp2
     exact ⟨rfl,HE.out⟩
    | ok u =>
     obtain rfl:=he3
     have HRe:Hid (r = .ok (tyV (⟨2,⟨#[]⟩⟩:Sy.Ty),v,t2)):=HRf.out
     have HZ3:=hid (HK03.out.at HZ0.out)
     obtain ⟨_,g0,g1,g2,g3⟩:=HB3.out.grd.2
     refine hK.out _ _ (HS.out w3 HK03.out) (fun hHeld => ?_)
     clear hK hg3 hHeld
     refine wpAnyH_done (by kernel_rfl) ?_ _
     have HTE:=hid (ty_end (y:=(⟨2,⟨#[]⟩⟩:Sy.Ty)) (Z:=w.heap.size + 1) HB3.out HK3.out HZ3.out (by omega) hBw hF HRe.out)
     obtain ⟨W9,hW9⟩:∃ W9,W9 = (w3.setCell ⟨w.heap.size + 1,0,none⟩ (.int .i64 ((⟨2,⟨#[]⟩⟩:Sy.Ty)).kind)).setCell ⟨w.heap.size + 1,1,none⟩ (.string ((⟨2,⟨#[]⟩⟩:Sy.Ty)).gen):=⟨_,rfl⟩
     have HW9:Hid (W9 = _):=hW9
     obtain ⟨ez0,ez1,ef0,ef1⟩:=two_cell (HZ3.out).1
     clear hW9
     go_wp2
     rw [show (w3.setCell ⟨w.heap.size + 1,0,none⟩ (.int .i64 ((⟨2,⟨#[]⟩⟩:Sy.Ty)).kind)).setCell ⟨w.heap.size + 1,1,none⟩ (.string ((⟨2,⟨#[]⟩⟩:Sy.Ty)).gen) = W9 from HW9.out.symm]
     have q9:=HTE.out.2
     rw [show twoS w3 (w.heap.size + 1) (.int .i64 ((⟨2,⟨#[]⟩⟩:Sy.Ty)).kind) (.string ((⟨2,⟨#[]⟩⟩:Sy.Ty)).gen) = W9 from HW9.out.symm] at q9
     refine bodyPost_ret (v:=tyV (⟨2,⟨#[]⟩⟩:Sy.Ty)) (by simp [results,Tryz.results106,go_sem,World.cell?,q9]) rfl ?_
     rw [HW9.out]
     exact HTE.out.1
 ·have e1:(x.kind == 1) = false:=by rw [hk]; rfl
  have e2:(x.kind == 2) = false:=by rw [hk]; rfl
  have e3:(x.kind == 3) = false:=by rw [hk]; rfl
  have e4:(x.kind == 4) = false:=by rw [hk]; rfl
  have e6:(x.kind == 6) = false:=by rw [hk]; rfl
  have e7:(x.kind == 7) = false:=by rw [hk]; rfl
  have e8:(x.kind == 8) = false:=by rw [hk]; rfl
  have e9:(x.kind == 9) = false:=by rw [hk]; rfl
  have e10:(x.kind == 10) = false:=by rw [hk]; rfl
  have e13:(x.kind == 13) = false:=by rw [hk]; rfl
  have e14:(x.kind == 14) = false:=by rw [hk]; rfl
  have e15:(x.kind == 15) = false:=by rw [hk]; rfl
  have e16:(x.kind == 16) = false:=by rw [hk]; rfl
  have e5:(x.kind == 5) = false:=by rw [hk]; rfl
  have e17:(x.kind == 17) = false:=by rw [hk]; rfl
  have e18:(x.kind == 18) = false:=by rw [hk]; rfl
  have e11:(x.kind == 11) = false:=by rw [hk]; rfl
  have e12:(x.kind == 12) = true:=by rw [hk]; rfl
  clear hk
  go_enter Tryz.func106,Tryz.ntmps106
  go_wp2_with fail
  rw [← HW0.out]
  refine wp_region_held_drew (S:=fun w' => w'.cell? ⟨w.heap.size,3,none⟩ = some (.slice (some ⟨kb,ko,none⟩) x.kids.length xc) ∧ w'.cell? ⟨kb,ko,none⟩ = some (.int .i64 kd.kind) ∧ w'.cell? ⟨kb,ko + 1,none⟩ = some (.int .i64 kd.n) ∧ w'.cell? ⟨kb,ko + 2,none⟩ = some (.string kd.name) ∧ w'.cell? ⟨kb,ko + 3,none⟩ = some (.slice ka kd.kids.length kc) ∧ w'.cell? ⟨kb,ko + 4,none⟩ = some (.int .i64 ke.kind) ∧ w'.cell? ⟨kb,ko + 5,none⟩ = some (.int .i64 ke.n) ∧ w'.cell? ⟨kb,ko + 6,none⟩ = some (.string ke.name) ∧ w'.cell? ⟨kb,ko + 7,none⟩ = some (.slice kl ke.kids.length km)) (by kernel_rfl) (HS.out W0 (Kpt.refl _ _)) (fun hHeld => ?_)
  refine tk 0 (v:=?_) rfl ?_ (by assumption) ?_
  rotate_left
  ·intro w hSw
   (try dsimp only at hSw)
   go_simp
   (try with_reducible rfl)
  (try go_frame)
  refine tk 1 (v:=?_) rfl ?_ (by assumption) ?_
  rotate_left
  ·intro w hSw
   (try dsimp only at hSw)
   go_simp
   (try with_reducible rfl)
  (try go_frame)
  refine tk 2 (v:=?_) rfl ?_ (by assumption) ?_
  rotate_left
  ·intro w hSw
   (try dsimp only at hSw)
   go_simp
   (try with_reducible rfl)
  (try go_frame)
  refine tk 3 (v:=?_) rfl ?_ (by assumption) ?_
  rotate_left
  ·intro w hSw
   (try dsimp only at hSw)
   go_simp
   (try with_reducible rfl)
  (try go_frame)
  refine tk 4 (v:=?_) rfl ?_ (by assumption) ?_
  rotate_left
  ·intro w hSw
   (try dsimp only at hSw)
   go_simp
   (try with_reducible rfl)
  (try go_frame)
  refine tk 5 (v:=?_) rfl ?_ (by assumption) ?_
  rotate_left
  ·intro w hSw
   (try dsimp only at hSw)
   go_simp
   (try with_reducible rfl)
  (try go_frame)
  refine tk 7 (v:=?_) rfl ?_ (by assumption) ?_
  rotate_left
  ·intro w hSw
   (try dsimp only at hSw)
   go_simp
   (try with_reducible rfl)
  (try go_frame)
  refine tk 8 (v:=?_) rfl ?_ (by assumption) ?_
  rotate_left
  ·intro w hSw
   (try dsimp only at hSw)
   go_simp
   (try with_reducible rfl)
  (try go_frame)
  refine tk 9 (v:=?_) rfl ?_ (by assumption) ?_
  rotate_left
  ·intro w hSw
   (try dsimp only at hSw)
   go_simp
   (try with_reducible rfl)
  (try go_frame)
  refine tk 10 (v:=?_) rfl ?_ (by assumption) ?_
  rotate_left
  ·intro w hSw
   (try dsimp only at hSw)
   go_simp
   (try with_reducible rfl)
  (try go_frame)
  refine tk 11 (v:=?_) rfl ?_ (by assumption) ?_
  rotate_left
  ·intro w hSw
   (try dsimp only at hSw)
   go_simp
   (try with_reducible rfl)
  (try go_frame)
  refine wpAnyH_ready (rs:=[6]) (by kernel_rfl) (by simp) ?_
  refine AllReadyH.cons (o:=_) rfl (fun K' hK => ?_) AllReadyH.nil
  go_simp
  refine (hC.out kd ka kc t (n + 1) n1 W0.drew _ (by exact HB0.out.drew) (by obtain ⟨hh,hE⟩:=HKX.out; exact ⟨hh,ExIn.same (w:=W0) (w':=W0.drew) (fun _ _ _ => rfl) _ _ _ hE⟩) HX1 HT1 h2 (by rw [← HE1.out]; exact rfl)).mono ?_
  rintro e w1 ⟨hk1',he1⟩
  have HK1:Hid (Kpt K W0 w1):=hk1'.ofDrew
  clear hk1'
  cases r1 with
  | error y =>
   obtain ⟨rfl,v2,t2,hb2,hp2⟩:=he1
   have HE:Hid (Bf K w v r (.panicked [fltE y K.num]) w1):=by
    rw [HRr.out]
    exact ⟨HK0.out.trans HK1.out,rfl,v2,t2,hb2,hp2⟩
   clear hK hb2 hp2
   go_wp2
   exact ⟨rfl,HE.out⟩
  | ok p =>
   obtain ⟨ya,t1⟩:=p
   obtain ⟨rfl,hb1⟩:=he1
   have HB1:Hid (BW K w1 v t1):=hb1
   have HT2:Hid (TkLe t1 n1):=expr_le K.l me v d kd t (n + 1) n1 ya t1 HX1.out HT1.out HE1.out.symm
   obtain ⟨r2,hr2⟩:∃ r2,r2 = expr K.l me v d ke t1:=⟨_,rfl⟩
   have HE2:Hid (r2 = expr K.l me v d ke t1):=hr2
   have HRs:Hid (r = andThen r2 fun b => andThen (plain ya) fun _ => if Sm.same ya b.1 = true then .ok (tyV (⟨2,⟨#[]⟩⟩:Sy.Ty),v,b.2) else .error 9):=by unfold Hid; rw [HRr.out,andThen_ok,hr2]
   have HKY1:Hid (∃ h,ExIn K.B w1 h ke kl):=by
    obtain ⟨hh,hE⟩:=HKY.out
    exact ⟨hh,hE.same (HB0.out.same HK1.out)⟩
   refine hK.out _ _ (HS.out w1 HK1.out) (fun hHeld => ?_)
   clear hK hb1 hr2
   refine wpAnyH_ready (rs:=[12]) (by kernel_rfl) (by simp) ?_
   refine AllReadyH.cons (o:=_) rfl (fun K' hK => ?_) AllReadyH.nil
   go_simp
   refine (hC.out ke kl km t1 n1 m w1 _ HB1 HKY1 HX2 HT2 h12 (by rw [← HE2.out]; exact rfl)).mono ?_
   rintro e w2 ⟨hk2,he2⟩
   have HK2:Hid (Kpt K W0 w2):=HK1.out.trans hk2
   clear hk2
   cases r2 with
   | error y =>
    obtain ⟨rfl,v2,t2,hb2,hp2⟩:=he2
    have HE:Hid (Bf K w v r (.panicked [fltE y K.num]) w2):=by
     rw [HRs.out]
     exact ⟨HK0.out.trans HK2.out,rfl,v2,t2,hb2,hp2⟩
    clear hK hb2 hp2
    go_wp2
    exact ⟨rfl,HE.out⟩
   | ok p =>
    obtain ⟨yb,t2⟩:=p
    obtain ⟨rfl,hb2⟩:=he2
    have HB2:Hid (BW K w2 v t2):=hb2
    obtain ⟨rv,hrv⟩:∃ rv:Except Int Value,rv = match Sm.plain ya with | .error e => .error e | .ok _ => if Sm.same ya yb = true then .ok (.tuple #[]) else .error 9:=⟨_,rfl⟩
    have HRV:Hid (rv = match Sm.plain ya with | .error e => .error e | .ok _ => if Sm.same ya yb = true then .ok (.tuple #[]) else .error 9):=hrv
    have HRf:Hid (r = andThen rv fun _ => .ok (tyV (⟨2,⟨#[]⟩⟩:Sy.Ty),v,t2)):=by
     unfold Hid
     rw [HRs.out,andThen_ok,hrv]
     cases Sm.plain ya with
     | error e => rfl
     | ok u => dsimp only [andThen]; split <;> rfl
    refine hK.out _ _ (HS.out w2 HK2.out) (fun hHeld => ?_)
    clear hK hb2 hrv
    refine wpAnyH_ready (rs:=[13]) (by kernel_rfl) (by simp) ?_
    refine AllReadyH.cons (o:=_) rfl (fun K' hK => ?_) AllReadyH.nil
    go_simp
    refine (alike_any K v t2 ya yb w2 rv HB2 HRV).mono ?_
    rintro e w3 ⟨hg3,he3⟩
    have HB3:Hid (BW K w3 v t2):=HB2.out.grown hg3
    have HK03:Hid (Kpt K W0 w3):=HK2.out.trans (Kpt.grown hg3 HB2.out.lt)
    have HK3:Hid (Kpt K w w3):=HK0.out.trans HK03.out
    cases rv with
    | error y =>
     obtain rfl:=he3
     have HE:Hid (Bf K w v r (.panicked [fltE y K.num]) w3):=by
      rw [HRf.out]
      exact ⟨HK3.out,rfl,v,t2,HB3.out,List.prefix_refl _⟩
     clear hK hg3
     go_wp2
     exact ⟨rfl,HE.out⟩
    | ok u =>
     obtain rfl:=he3
     have HRe:Hid (r = .ok (tyV (⟨2,⟨#[]⟩⟩:Sy.Ty),v,t2)):=HRf.out
     have HZ3:=hid (HK03.out.at HZ0.out)
     obtain ⟨_,g0,g1,g2,g3⟩:=HB3.out.grd.2
     refine hK.out _ _ (HS.out w3 HK03.out) (fun hHeld => ?_)
     clear hK hg3 hHeld
     refine wpAnyH_done (by kernel_rfl) ?_ _
     have HTE:=hid (ty_end (y:=(⟨2,⟨#[]⟩⟩:Sy.Ty)) (Z:=w.heap.size + 1) HB3.out HK3.out HZ3.out (by omega) hBw hF HRe.out)
     obtain ⟨W9,hW9⟩:∃ W9,W9 = (w3.setCell ⟨w.heap.size + 1,0,none⟩ (.int .i64 ((⟨2,⟨#[]⟩⟩:Sy.Ty)).kind)).setCell ⟨w.heap.size + 1,1,none⟩ (.string ((⟨2,⟨#[]⟩⟩:Sy.Ty)).gen):=⟨_,rfl⟩
     have HW9:Hid (W9 = _):=hW9
     obtain ⟨ez0,ez1,ef0,ef1⟩:=two_cell (HZ3.out).1
     clear hW9
     go_wp2
     rw [show (w3.setCell ⟨w.heap.size + 1,0,none⟩ (.int .i64 ((⟨2,⟨#[]⟩⟩:Sy.Ty)).kind)).setCell ⟨w.heap.size + 1,1,none⟩ (.string ((⟨2,⟨#[]⟩⟩:Sy.Ty)).gen) = W9 from HW9.out.symm]
     have q9:=HTE.out.2
     rw [show twoS w3 (w.heap.size + 1) (.int .i64 ((⟨2,⟨#[]⟩⟩:Sy.Ty)).kind) (.string ((⟨2,⟨#[]⟩⟩:Sy.Ty)).gen) = W9 from HW9.out.symm] at q9
     refine bodyPost_ret (v:=tyV (⟨2,⟨#[]⟩⟩:Sy.Ty)) (by simp [results,Tryz.results106,go_sem,World.cell?,q9]) rfl ?_
     rw [HW9.out]
     exact HTE.out.1
theorem expr_alive
  (K:BK) (v:Vars) (d:Nat) (me:Sy.Df) (hC:Hid (CEx K v d (expr K.l me v d))) (x:Sy.Ex) (xa:Option Addr) (xc:Nat) (t:Tk) (n m:Nat) (w:World) (r:Except Int (Value × Vars × Tk)) (h:Hid (BW K w v t)) (hx:Hid (∃ h,ExIn K.B w h x xa)) (hn:Hid (Sy.runs (Sy.exW d) x.kids (n + 1) = .ok m)) (ht:Hid (TkLe t n)) (h2:n + 1 ≤ 2000)
    (hr:Hid (r = andThen (expr K.l me v (d + 1) x t) fun p => .ok (tyV p.1,v,p.2)))
  (hk:x.kind = 24) (hh:Sy.exHead x = 0) :
  Calls Tryz.prog 106 #[.pointer (some ⟨K.F,0,none⟩),exV x xa xc] w fun e w' => Bf K w v r e w'
  := by
 obtain ⟨kd,hkd⟩:=kids_one hh (by omega)
 have hF:=h.out.lt
 obtain ⟨W0,hW0⟩:∃ W0,W0 = (w.alloc (exB x xa xc)).alloc zT:=⟨_,rfl⟩
 have HK0:Hid (Kpt K w W0):=by rw [hW0]; exact Kpt.grown (grown_a2 _ _) hF
 have HB0:Hid (BW K W0 v t):=by rw [hW0]; exact h.out.grown (grown_a2 _ _)
 have HX0:Hid (W0.heap[w.heap.size]? = some (exB x xa xc) ∧ Free K W0 w.heap.size):=by
  rw [hW0]
  exact (Kpt.alloc K _ _ (by simp; omega)).at (h.out.new _)
 have HZ0:Hid (W0.heap[w.heap.size + 1]? = some zT ∧ Free K W0 (w.heap.size + 1)):=by
  rw [hW0]
  refine ⟨?_,h.out.free (grown_a2 _ _) (by omega)⟩
  have:=heap_alloc_new (w.alloc (exB x xa xc)) zT
  simpa using this
 have HE0:Hid (∃ h,ExIn K.B W0 h x xa):=by
  obtain ⟨hh,hE⟩:=hx.out
  exact ⟨hh,hE.same (h.out.same HK0.out)⟩
 have HW0:Hid (W0 = _):=hW0
 have hBw:K.B ≤ w.heap.size + 1:=by have:=h.out.base; omega
 clear hW0
 have hx0:kid x 0 = kd:=by simp [kid,hkd]
 obtain ⟨er,her⟩:∃ er,er = started K.l (expr K.l me v d) kd t:=⟨_,rfl⟩
 have HEr:Hid (er = started K.l (expr K.l me v d) kd t):=her
 have HRr:Hid (r = andThen er fun p => .ok (tyV (⟨2,⟨#[]⟩⟩:Sy.Ty),v,p.2)):=by
  unfold Hid
  rw [hr.out,expr,if_neg (by omega),if_neg (by omega),if_neg (by omega),if_neg (by omega),if_neg (by omega),if_neg (by omega),if_neg (by omega),if_pos hk,hx0,her]
  cases started K.l (expr K.l me v d) kd t <;> rfl
 have hn':=hn.out
 rw [hkd] at hn'
 obtain ⟨n1,hn1,hn2⟩:=runs_cons hn'
 have HX1:Hid (Sy.exW d kd (n + 1) = .ok n1):=hn1
 have HT1:Hid (TkLe t (n + 1)):=ht.out.mono (by omega)
 obtain ⟨hh',kb,ko,ka,kc,hxa,hkb,q0,q1,q2,q3,hkx⟩:=one_kid hx.out hkd
 have HKX:Hid (∃ h,ExIn K.B W0 h kd ka):=⟨hh',hkx.same (h.out.same HK0.out)⟩
 have hl2:x.kids.length = 1:=by rw [hkd]; rfl
 have l0:(0:Int) < (x.kids.length:Int):=by omega
 have hkbw:kb < w.heap.size:=by have:=h.out.base; omega
 subst hxa
 have e1:(x.kind == 1) = false:=by rw [hk]; rfl
 have e2:(x.kind == 2) = false:=by rw [hk]; rfl
 have e3:(x.kind == 3) = false:=by rw [hk]; rfl
 have e4:(x.kind == 4) = false:=by rw [hk]; rfl
 have e6:(x.kind == 6) = false:=by rw [hk]; rfl
 have e7:(x.kind == 7) = false:=by rw [hk]; rfl
 have e8:(x.kind == 8) = false:=by rw [hk]; rfl
 have e9:(x.kind == 9) = false:=by rw [hk]; rfl
 have e10:(x.kind == 10) = false:=by rw [hk]; rfl
 have e13:(x.kind == 13) = false:=by rw [hk]; rfl
 have e14:(x.kind == 14) = false:=by rw [hk]; rfl
 have e15:(x.kind == 15) = false:=by rw [hk]; rfl
 have e16:(x.kind == 16) = false:=by rw [hk]; rfl
 have e5:(x.kind == 5) = false:=by rw [hk]; rfl
 have e17:(x.kind == 17) = false:=by rw [hk]; rfl
 have e18:(x.kind == 18) = false:=by rw [hk]; rfl
 have e11:(x.kind == 11) = false:=by rw [hk]; rfl
 have e12:(x.kind == 12) = false:=by rw [hk]; rfl
 have e24:(x.kind == 24) = true:=by rw [hk]; rfl
 clear hr hk hn hn' hkd hh hx0 her hn1 hn2 hkx hl2
 go_enter Tryz.func106,Tryz.ntmps106
 go_wp2_with fail
 rw [← HW0.out]
 refine (started_any K v d (expr K.l me v d) hC kd ka kc t (n + 1) n1 W0 er HB0 HKX HX1 HT1 h2 HEr).mono ?_
 rintro e w9 ⟨hk9,he9⟩
 have HK9:Hid (Kpt K w w9):=HK0.out.trans hk9
 have HZ9:=hid (hk9.at HZ0.out)
 clear hk9
 cases er with
 | error y =>
  obtain ⟨rfl,v2,t2,hb2,hp2⟩:=he9
  have HE:Hid (Bf K w v r (.panicked [fltE y K.num]) w9):=by
   rw [HRr.out]
   exact ⟨HK9.out,rfl,v2,t2,hb2,hp2⟩
  clear hb2 hp2
  go_wp2
  exact ⟨rfl,HE.out⟩
 | ok p =>
  obtain ⟨D,t1⟩:=p
  obtain ⟨⟨val,rfl,pa,pc,ba,bc,rfl,hdf⟩,hb1⟩:=he9
  have HB9:Hid (BW K w9 v t1):=hb1
  have HRe:Hid (r = .ok (tyV (⟨2,⟨#[]⟩⟩:Sy.Ty),v,t1)):=HRr.out
  obtain ⟨_,g0,g1,g2,g3⟩:=hb1.grd.2
  clear hb1 hdf
  have HTE:=hid (ty_end (y:=(⟨2,⟨#[]⟩⟩:Sy.Ty)) (Z:=w.heap.size + 1) HB9.out HK9.out HZ9.out (by omega) hBw hF HRe.out)
  obtain ⟨W9,hW9⟩:∃ W9,W9 = (w9.setCell ⟨w.heap.size + 1,0,none⟩ (.int .i64 ((⟨2,⟨#[]⟩⟩:Sy.Ty)).kind)).setCell ⟨w.heap.size + 1,1,none⟩ (.string ((⟨2,⟨#[]⟩⟩:Sy.Ty)).gen):=⟨_,rfl⟩
  have HW9:Hid (W9 = _):=hW9
  obtain ⟨ez0,ez1,ef0,ef1⟩:=two_cell (HZ9.out).1
  clear hW9
  go_wp2
  rw [show (w9.setCell ⟨w.heap.size + 1,0,none⟩ (.int .i64 ((⟨2,⟨#[]⟩⟩:Sy.Ty)).kind)).setCell ⟨w.heap.size + 1,1,none⟩ (.string ((⟨2,⟨#[]⟩⟩:Sy.Ty)).gen) = W9 from HW9.out.symm]
  have q9:=HTE.out.2
  rw [show twoS w9 (w.heap.size + 1) (.int .i64 ((⟨2,⟨#[]⟩⟩:Sy.Ty)).kind) (.string ((⟨2,⟨#[]⟩⟩:Sy.Ty)).gen) = W9 from HW9.out.symm] at q9
  refine bodyPost_ret (v:=tyV (⟨2,⟨#[]⟩⟩:Sy.Ty)) (by simp [results,Tryz.results106,go_sem,World.cell?,q9]) rfl ?_
  rw [HW9.out]
  exact HTE.out.1
theorem expr_sp
  (K:BK) (v:Vars) (d:Nat) (me:Sy.Df) (hC:Hid (CEx K v d (expr K.l me v d))) (x:Sy.Ex) (xa:Option Addr) (xc:Nat) (t:Tk) (n m:Nat) (w:World) (r:Except Int (Value × Vars × Tk)) (h:Hid (BW K w v t)) (hx:Hid (∃ h,ExIn K.B w h x xa)) (hn:Hid (Sy.runs (Sy.exW d) x.kids (n + 1) = .ok m)) (ht:Hid (TkLe t n)) (h2:n + 1 ≤ 2000)
    (hr:Hid (r = andThen (expr K.l me v (d + 1) x t) fun p => .ok (tyV p.1,v,p.2)))
  (hk:19 ≤ x.kind ∧ x.kind ≤ 23) (hh:Sy.exHead x = 0) (i:Nat) (hi:Hid (K.num = (i:Int))) (HMe:Hid (K.l[i]? = some me)) :
  Calls Tryz.prog 106 #[.pointer (some ⟨K.F,0,none⟩),exV x xa xc] w fun e w' => Bf K w v r e w'
  := by
 have hF:=h.out.lt
 obtain ⟨W0,hW0⟩:∃ W0,W0 = (w.alloc (exB x xa xc)).alloc zT:=⟨_,rfl⟩
 have HK0:Hid (Kpt K w W0):=by rw [hW0]; exact Kpt.grown (grown_a2 _ _) hF
 have HB0:Hid (BW K W0 v t):=by rw [hW0]; exact h.out.grown (grown_a2 _ _)
 have HX0:Hid (W0.heap[w.heap.size]? = some (exB x xa xc) ∧ Free K W0 w.heap.size):=by
  rw [hW0]
  exact (Kpt.alloc K _ _ (by simp; omega)).at (h.out.new _)
 have HZ0:Hid (W0.heap[w.heap.size + 1]? = some zT ∧ Free K W0 (w.heap.size + 1)):=by
  rw [hW0]
  refine ⟨?_,h.out.free (grown_a2 _ _) (by omega)⟩
  have:=heap_alloc_new (w.alloc (exB x xa xc)) zT
  simpa using this
 have HE0:Hid (∃ h,ExIn K.B W0 h x xa):=by
  obtain ⟨hh,hE⟩:=hx.out
  exact ⟨hh,hE.same (h.out.same HK0.out)⟩
 have HW0:Hid (W0 = _):=hW0
 have hBw:K.B ≤ w.heap.size + 1:=by have:=h.out.base; omega
 clear hW0
 obtain ⟨er,her⟩:∃ er,er = spoken K.l me (expr K.l me v d) x t:=⟨_,rfl⟩
 have HEr:Hid (er = spoken K.l me (expr K.l me v d) x t):=her
 have HRr:Hid (r = andThen er fun p => .ok (tyV p.1,v,p.2)):=by
  unfold Hid
  rw [hr.out,expr,if_neg (by omega),if_neg (by omega),if_neg (by omega),if_neg (by omega),if_neg (by omega),if_neg (by omega),if_neg (by omega),if_neg (by omega),her]
 have e1:(x.kind == 1) = false:=by simp; omega
 have e2:(x.kind == 2) = false:=by simp; omega
 have e3:(x.kind == 3) = false:=by simp; omega
 have e4:(x.kind == 4) = false:=by simp; omega
 have e6:(x.kind == 6) = false:=by simp; omega
 have e7:(x.kind == 7) = false:=by simp; omega
 have e8:(x.kind == 8) = false:=by simp; omega
 have e9:(x.kind == 9) = false:=by simp; omega
 have e10:(x.kind == 10) = false:=by simp; omega
 have e13:(x.kind == 13) = false:=by simp; omega
 have e14:(x.kind == 14) = false:=by simp; omega
 have e15:(x.kind == 15) = false:=by simp; omega
 have e16:(x.kind == 16) = false:=by simp; omega
 have e5:(x.kind == 5) = false:=by simp; omega
 have e17:(x.kind == 17) = false:=by simp; omega
 have e18:(x.kind == 18) = false:=by simp; omega
 have e11:(x.kind == 11) = false:=by simp; omega
 have e12:(x.kind == 12) = false:=by simp; omega
 have e24:(x.kind == 24) = false:=by simp; omega
 clear hr her
 go_enter Tryz.func106,Tryz.ntmps106
 go_wp2_with fail
 rw [← HW0.out]
 refine (spoken_any K v d (expr K.l me v d) hC (expr_le K.l me v d) me x xa xc t n m W0 _ HB0 HE0 hn ht h2 (by rw [← HEr.out]; exact rfl) hk hh i hi HMe).mono ?_
 rintro e w9 ⟨hk9,he9⟩
 have HK9:Hid (Kpt K w w9):=HK0.out.trans hk9
 have HZ9:=hid (hk9.at HZ0.out)
 clear hk9
 cases er with
 | error y =>
  obtain ⟨rfl,v2,t2,hb2,hp2⟩:=he9
  have HE:Hid (Bf K w v r (.panicked [fltE y K.num]) w9):=by
   rw [HRr.out]
   exact ⟨HK9.out,rfl,v2,t2,hb2,hp2⟩
  clear hb2 hp2
  go_wp2
  exact ⟨rfl,HE.out⟩
 | ok p =>
  obtain ⟨y,t1⟩:=p
  obtain ⟨rfl,hb1⟩:=he9
  have HB9:Hid (BW K w9 v t1):=hb1
  have HRe:Hid (r = .ok (tyV y,v,t1)):=HRr.out
  clear hb1
  have HTE:=hid (ty_end (y:=y) (Z:=w.heap.size + 1) HB9.out HK9.out HZ9.out (by omega) hBw hF HRe.out)
  obtain ⟨W9,hW9⟩:∃ W9,W9 = (w9.setCell ⟨w.heap.size + 1,0,none⟩ (.int .i64 (y).kind)).setCell ⟨w.heap.size + 1,1,none⟩ (.string (y).gen):=⟨_,rfl⟩
  have HW9:Hid (W9 = _):=hW9
  obtain ⟨ez0,ez1,ef0,ef1⟩:=two_cell (HZ9.out).1
  clear hW9
  go_wp2
  rw [show (w9.setCell ⟨w.heap.size + 1,0,none⟩ (.int .i64 (y).kind)).setCell ⟨w.heap.size + 1,1,none⟩ (.string (y).gen) = W9 from HW9.out.symm]
  have q9:=HTE.out.2
  rw [show twoS w9 (w.heap.size + 1) (.int .i64 (y).kind) (.string (y).gen) = W9 from HW9.out.symm] at q9
  refine bodyPost_ret (v:=tyV y) (by simp [results,Tryz.results106,go_sem,World.cell?,q9]) rfl ?_
  rw [HW9.out]
  exact HTE.out.1
theorem expr_any (K:BK) (v:Vars) (me:Sy.Df) (i:Nat) (hi:Hid (K.num = (i:Int))) (HMe:Hid (K.l[i]? = some me)):∀ d,CEx K v d (expr K.l me v d)
 | 0 => fun x xa xc t n m w r _ _ hn _ _ _ => by
  have:=hn.out
  unfold Sy.exW at this
  cases this
 | d + 1 => fun x xa xc t n m w r h hx hn ht h2 hr => by
  obtain ⟨hk1,hk2,hh,hn'⟩:=exW_open hn.out
  have hm:m ≤ 2000:=Sy.exW_le (d + 1) x n m h2 hn.out
  have h3:n + 1 ≤ 2000:=by have:=runs_ge (fun a n m => exW_ge d a n m) x.kids (n + 1) m hn'; omega
  have hC:=hid (expr_any K v me i hi HMe d)
  have HN:=hid hn'
  by_cases h1:x.kind = 1
  ·exact expr_num K v d me hC x xa xc t n m w r h hx HN ht h3 hr h1
  by_cases h2:x.kind = 2
  ·exact expr_bool K v d me hC x xa xc t n m w r h hx HN ht h3 hr h2
  by_cases h4:x.kind = 3
  ·exact expr_var K v d me hC x xa xc t n m w r h hx HN ht h3 hr h4
  by_cases h5:x.kind = 4 ∨ 6 ≤ x.kind ∧ x.kind ≤ 10
  ·exact expr_arith K v d me hC x xa xc t n m w r h hx HN ht h3 hr h5
  by_cases h6:13 ≤ x.kind ∧ x.kind ≤ 16
  ·exact expr_less K v d me hC x xa xc t n m w r h hx HN ht h3 hr h6
  by_cases h7:x.kind = 5 ∨ x.kind = 17 ∨ x.kind = 18
  ·exact expr_logic K v d me hC x xa xc t n m w r h hx HN ht h3 hr h7
  by_cases h8:x.kind = 11 ∨ x.kind = 12
  ·exact expr_eq K v d me hC x xa xc t n m w r h hx HN ht h3 hr h8 hh
  by_cases h9:x.kind = 24
  ·exact expr_alive K v d me hC x xa xc t n m w r h hx HN ht h3 hr h9 hh
  ·exact expr_sp K v d me hC x xa xc t n m w r h hx HN ht h3 hr (by omega) hh i hi HMe
end Sm
end Go.Proofs.YtbioaoangfiijaaGreatDoor
