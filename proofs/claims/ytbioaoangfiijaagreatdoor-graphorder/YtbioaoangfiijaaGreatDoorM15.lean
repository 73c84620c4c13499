/- The walk of stat: ifs and whiles. -/
import Derived.Test.YtbioaoangfiijaaGreatDoorM14
set_option maxRecDepth 100000
set_option maxHeartbeats 4000000
namespace Go.Proofs.YtbioaoangfiijaaGreatDoor
open Go.RowKit
namespace Sm
theorem st_body {B:Nat} {w:World} {s:Sy.St} {xa ba ea:Option Addr} (h:∃ h,StIn B w h s xa ba ea):∃ h,RowIn B w (StIn B w h) s.body ba:=by
 obtain ⟨hh,hs⟩:=h
 cases hh with
 | zero => exact hs.elim
 | succ hh => exact ⟨hh,hs.2.2.2.2.1⟩
theorem st_els {B:Nat} {w:World} {s:Sy.St} {xa ba ea:Option Addr} (h:∃ h,StIn B w h s xa ba ea):∃ h,RowIn B w (StIn B w h) s.els ea:=by
 obtain ⟨hh,hs⟩:=h
 cases hh with
 | zero => exact hs.elim
 | succ hh => exact ⟨hh,hs.2.2.2.2.2⟩
theorem st_while (K:BK) (me:Sy.Df) (d:Nat) (i:Nat) (hi:Hid (K.num = (i:Int))) (HMe:Hid (K.l[i]? = some me)) (hB:Hid (CBl K me d)) (s:Sy.St) (xa ba ea:Option Addr) (xc bc ec:Nat) (v:Vars) (t:Tk) (n m m1:Nat) (w:World) (r:Except Int (Value × Vars × Tk)) (h:Hid (BW K w v t)) (hs:Hid (∃ h,StIn K.B w h s xa ba ea)) (hx1:Hid (Sy.exW d s.x (n + 1) = .ok m1)) (htl:Hid (Sy.stTail (Sy.stW d) s m1 = .ok m)) (ht:Hid (TkLe t n)) (hv:Hid (v.length ≤ n + 10)) (h2:n + 1 ≤ 2000)
  (hr:Hid (r = andThen (stat K.l me (d + 1) s v t) fun p => .ok (.tuple #[],p.1,p.2)))
  (hk:s.kind = 4) :
  Calls Tryz.prog 93 #[.pointer (some ⟨K.F,0,none⟩),stV s xa xc ba bc ea ec] w fun e w' => Bf K w v r e w':=by
 have hF:=h.out.lt
 obtain ⟨W0,hW0⟩:∃ W0,W0 = w.alloc (stB s xa xc ba bc ea ec):=⟨_,rfl⟩
 have HK0:Hid (Kpt K w W0):=by rw [hW0]; exact Kpt.alloc K w _ hF
 have HB0:Hid (BW K W0 v t):=by rw [hW0]; exact h.out.grown (grown_a _)
 have HS0:Hid (W0.heap[w.heap.size]? = some (stB s xa xc ba bc ea ec) ∧ Free K W0 w.heap.size):=by rw [hW0]; exact h.out.new _
 have HE0:Hid (∃ h,ExIn K.B W0 h s.x xa):=by
  obtain ⟨hh,hE⟩:=st_x hs.out
  exact ⟨hh,hE.same (h.out.same HK0.out)⟩
 have HW0:Hid (W0 = _):=hW0
 have hC:=hid (expr_any K v me i hi HMe d)
 have HT1:Hid (TkLe t (n + 1)):=ht.out.mono (by omega)
 clear hW0
 have HXs:Hid (Sy.runs (Sy.exW d) [s.x] (n + 1) = .ok m1):=by unfold Hid; simp [Sy.runs,hx1.out]
 have HKX:Hid (∃ hh,ExIn K.B W0 hh s.x xa ∧ BW K W0 v t):=by
  obtain ⟨hh,hE⟩:=HE0.out
  exact ⟨hh,hE,HB0.out⟩
 obtain ⟨em,hem⟩:∃ em,em = must (expr K.l me v d) tru [s.x] t:=⟨_,rfl⟩
 have HEm:Hid (em = must (expr K.l me v d) tru [s.x] t):=hem
 have HRr:Hid (r = andThen em fun t => andThen (inner (stat K.l me d) s.body v t) fun t => .ok (.tuple #[],v,t)):=by
  unfold Hid
  rw [hr.out,stat,if_neg (by omega),if_neg (by omega),if_neg (by omega),if_pos hk,hem]
  cases must (expr K.l me v d) tru [s.x] t with
  | error e => rfl
  | ok t1 => rw [andThen_ok,andThen_ok]; cases inner (stat K.l me d) s.body v t1 <;> rfl
 have e1:(s.kind == 1) = false:=by rw [hk]; rfl
 have e2:(s.kind == 2) = false:=by rw [hk]; rfl
 have e3:(s.kind == 3) = false:=by rw [hk]; rfl
 have e4:(s.kind == 4) = true:=by rw [hk]; rfl
 have HBO:=hid (tail_while htl.out hk)
 obtain ⟨hgb,g0,g1,g2,g3⟩:=h.out.grd.2
 have hgb2:1 < w.heap.size:=by have:=h.out.base; omega
 have hgb0:0 < w.heap.size:=by omega
 have hs0:W0.heap.size = w.heap.size + 1:=by rw [HW0.out]; simp
 have HK1:Hid (Kpt K W0 (W0.alloc (exB s.x xa xc))):=Kpt.alloc K W0 _ HB0.out.lt
 have HB1:Hid (BW K (W0.alloc (exB s.x xa xc)) v t):=HB0.out.grown (grown_a _)
 have HN1:Hid ((W0.alloc (exB s.x xa xc)).heap[w.heap.size + 1]? = some (exB s.x xa xc) ∧ Free K (W0.alloc (exB s.x xa xc)) (w.heap.size + 1)):=by rw [← hs0]; exact HB0.out.new _
 have hm1:m1 ≤ 2000:=Sy.exW_le d s.x (n + 1) m1 h2 hx1.out
 have hn1:n + 1 ≤ m1:=exW_ge d s.x (n + 1) m1 hx1.out
 have HV1:Hid (v.length ≤ m1 + 10):=by have:=hv.out; unfold Hid; omega
 clear hr hk hem hs0
 go_enter Tryz.func93,Tryz.ntmps93
 go_wp2_with fail
 rw [← HW0.out]
 refine (must_any K v d (expr K.l me v d) hC (expr_le K.l me v d) [s.x] (some ⟨w.heap.size + 1,0,none⟩) 1 tru t (n + 1) m1 _ _ HB1 (ks_one HB1.out HN1.out HKX.out HK1.out) (by simp) HXs HT1 h2 (by rw [← HEm.out]; exact rfl)).mono ?_
 rintro e w2 ⟨hk2,he2⟩
 have HK2:Hid (Kpt K W0 w2):=HK1.out.trans hk2
 clear hk2
 cases em with
 | error y =>
  obtain ⟨rfl,v2,t2,hb2,hp2⟩:=he2
  have HE:Hid (Bf K w v r (.panicked [fltE y K.num]) w2):=by
   rw [HRr.out]
   exact ⟨(HK0.out.trans HK2.out),rfl,v2,t2,hb2,hp2⟩
  clear  hb2 hp2
  go_wp2
  exact ⟨rfl,HE.out⟩
 | ok t1 =>
  obtain ⟨rfl,hb2⟩:=he2
  have HB2:Hid (BW K w2 v t1):=hb2
  have HT2:Hid (TkLe t1 m1):=must_le (expr_le K.l me v d) tru [s.x] t (n + 1) m1 t1 HXs.out HT1.out HEm.out.symm
  obtain ⟨eb,heb⟩:∃ eb,eb = inner (stat K.l me d) s.body v t1:=⟨_,rfl⟩
  have Heb:Hid (eb = inner (stat K.l me d) s.body v t1):=heb
  have HRoweb:Hid (∃ h,RowIn K.B w2 (StIn K.B w2 h) s.body ba):=by
   obtain ⟨hh,hR⟩:=st_body hs.out
   have hsm:=h.out.same (HK0.out.trans HK2.out)
   exact ⟨hh,hR.same hsm (fun s x b e => StIn.same hsm hh s x b e)⟩
  obtain ⟨_,_,_,_,_,_,g6,g7⟩:=eight_cell ((HK2.out).at HS0.out).1
  have HRb:Hid (r = andThen eb fun t => .ok (.tuple #[],v,t)):=by unfold Hid; rw [HRr.out,andThen_ok,heb]
  clear hb2 heb g0 g1 g2 g3
  go_wp2_with fail
  refine (hB.out s.body ba bc v t1 m1 m w2 _ HB2 HRoweb HBO HT2 HV1 hm1 (by rw [← Heb.out]; exact rfl)).mono ?_
  rintro e w3 ⟨hk3,he3⟩
  have HK3:Hid (Kpt K w w3):=(HK0.out.trans HK2.out).trans hk3
  clear hk3
  cases eb with
  | error y =>
   obtain ⟨rfl,v2,t2,hb2,hp2⟩:=he3
   have HE:Hid (Bf K w v r (.panicked [fltE y K.num]) w3):=by
    rw [HRb.out]
    exact ⟨HK3.out,rfl,v2,t2,hb2,hp2⟩
   clear  hb2 hp2
   go_wp2
   exact ⟨rfl,HE.out⟩
  | ok t2 =>
   obtain ⟨rfl,hb3⟩:=he3
   have HE:Hid (Bf K w v r (.returned (.tuple #[])) w3):=by
    rw [HRb.out]
    exact ⟨HK3.out,rfl,hb3⟩
   clear hb3
   go_wp2
   go_end0
   exact HE.out
theorem st_if (K:BK) (me:Sy.Df) (d:Nat) (i:Nat) (hi:Hid (K.num = (i:Int))) (HMe:Hid (K.l[i]? = some me)) (hB:Hid (CBl K me d)) (s:Sy.St) (xa ba ea:Option Addr) (xc bc ec:Nat) (v:Vars) (t:Tk) (n m m1:Nat) (w:World) (r:Except Int (Value × Vars × Tk)) (h:Hid (BW K w v t)) (hs:Hid (∃ h,StIn K.B w h s xa ba ea)) (hx1:Hid (Sy.exW d s.x (n + 1) = .ok m1)) (htl:Hid (Sy.stTail (Sy.stW d) s m1 = .ok m)) (ht:Hid (TkLe t n)) (hv:Hid (v.length ≤ n + 10)) (h2:n + 1 ≤ 2000)
  (hr:Hid (r = andThen (stat K.l me (d + 1) s v t) fun p => .ok (.tuple #[],p.1,p.2)))
  (hk:s.kind = 3) :
  Calls Tryz.prog 93 #[.pointer (some ⟨K.F,0,none⟩),stV s xa xc ba bc ea ec] w fun e w' => Bf K w v r e w':=by
 have hF:=h.out.lt
 obtain ⟨W0,hW0⟩:∃ W0,W0 = w.alloc (stB s xa xc ba bc ea ec):=⟨_,rfl⟩
 have HK0:Hid (Kpt K w W0):=by rw [hW0]; exact Kpt.alloc K w _ hF
 have HB0:Hid (BW K W0 v t):=by rw [hW0]; exact h.out.grown (grown_a _)
 have HS0:Hid (W0.heap[w.heap.size]? = some (stB s xa xc ba bc ea ec) ∧ Free K W0 w.heap.size):=by rw [hW0]; exact h.out.new _
 have HE0:Hid (∃ h,ExIn K.B W0 h s.x xa):=by
  obtain ⟨hh,hE⟩:=st_x hs.out
  exact ⟨hh,hE.same (h.out.same HK0.out)⟩
 have HW0:Hid (W0 = _):=hW0
 have hC:=hid (expr_any K v me i hi HMe d)
 have HT1:Hid (TkLe t (n + 1)):=ht.out.mono (by omega)
 clear hW0
 have HXs:Hid (Sy.runs (Sy.exW d) [s.x] (n + 1) = .ok m1):=by unfold Hid; simp [Sy.runs,hx1.out]
 have HKX:Hid (∃ hh,ExIn K.B W0 hh s.x xa ∧ BW K W0 v t):=by
  obtain ⟨hh,hE⟩:=HE0.out
  exact ⟨hh,hE,HB0.out⟩
 obtain ⟨em,hem⟩:∃ em,em = must (expr K.l me v d) tru [s.x] t:=⟨_,rfl⟩
 have HEm:Hid (em = must (expr K.l me v d) tru [s.x] t):=hem
 have HRr:Hid (r = andThen em fun t => andThen (inner (stat K.l me d) s.body v t) fun t => andThen (inner (stat K.l me d) s.els v t) fun t => .ok (.tuple #[],v,t)):=by
  unfold Hid
  rw [hr.out,stat,if_neg (by omega),if_neg (by omega),if_pos hk,hem]
  cases must (expr K.l me v d) tru [s.x] t with
  | error e => rfl
  | ok t1 =>
   rw [andThen_ok,andThen_ok]
   cases inner (stat K.l me d) s.body v t1 with
   | error e => rfl
   | ok t2 => rw [andThen_ok,andThen_ok]; cases inner (stat K.l me d) s.els v t2 <;> rfl
 have e1:(s.kind == 1) = false:=by rw [hk]; rfl
 have e2:(s.kind == 2) = false:=by rw [hk]; rfl
 have e3:(s.kind == 3) = true:=by rw [hk]; rfl
 obtain ⟨m2,hbo,hbo2⟩:=tail_if htl.out hk
 have HBO:=hid hbo
 have HBO2:=hid hbo2
 clear hbo hbo2
 obtain ⟨hgb,g0,g1,g2,g3⟩:=h.out.grd.2
 have hgb2:1 < w.heap.size:=by have:=h.out.base; omega
 have hgb0:0 < w.heap.size:=by omega
 have hs0:W0.heap.size = w.heap.size + 1:=by rw [HW0.out]; simp
 have HK1:Hid (Kpt K W0 (W0.alloc (exB s.x xa xc))):=Kpt.alloc K W0 _ HB0.out.lt
 have HB1:Hid (BW K (W0.alloc (exB s.x xa xc)) v t):=HB0.out.grown (grown_a _)
 have HN1:Hid ((W0.alloc (exB s.x xa xc)).heap[w.heap.size + 1]? = some (exB s.x xa xc) ∧ Free K (W0.alloc (exB s.x xa xc)) (w.heap.size + 1)):=by rw [← hs0]; exact HB0.out.new _
 have hm1:m1 ≤ 2000:=Sy.exW_le d s.x (n + 1) m1 h2 hx1.out
 have hn1:n + 1 ≤ m1:=exW_ge d s.x (n + 1) m1 hx1.out
 have HV1:Hid (v.length ≤ m1 + 10):=by have:=hv.out; unfold Hid; omega
 clear hr hk hem hs0
 go_enter Tryz.func93,Tryz.ntmps93
 go_wp2_with fail
 rw [← HW0.out]
 refine (must_any K v d (expr K.l me v d) hC (expr_le K.l me v d) [s.x] (some ⟨w.heap.size + 1,0,none⟩) 1 tru t (n + 1) m1 _ _ HB1 (ks_one HB1.out HN1.out HKX.out HK1.out) (by simp) HXs HT1 h2 (by rw [← HEm.out]; exact rfl)).mono ?_
 rintro e w2 ⟨hk2,he2⟩
 have HK2:Hid (Kpt K W0 w2):=HK1.out.trans hk2
 clear hk2
 cases em with
 | error y =>
  obtain ⟨rfl,v2,t2,hb2,hp2⟩:=he2
  have HE:Hid (Bf K w v r (.panicked [fltE y K.num]) w2):=by
   rw [HRr.out]
   exact ⟨(HK0.out.trans HK2.out),rfl,v2,t2,hb2,hp2⟩
  clear  hb2 hp2
  go_wp2
  exact ⟨rfl,HE.out⟩
 | ok t1 =>
  obtain ⟨rfl,hb2⟩:=he2
  have HB2:Hid (BW K w2 v t1):=hb2
  have HT2:Hid (TkLe t1 m1):=must_le (expr_le K.l me v d) tru [s.x] t (n + 1) m1 t1 HXs.out HT1.out HEm.out.symm
  obtain ⟨eb,heb⟩:∃ eb,eb = inner (stat K.l me d) s.body v t1:=⟨_,rfl⟩
  have Heb:Hid (eb = inner (stat K.l me d) s.body v t1):=heb
  have HRoweb:Hid (∃ h,RowIn K.B w2 (StIn K.B w2 h) s.body ba):=by
   obtain ⟨hh,hR⟩:=st_body hs.out
   have hsm:=h.out.same (HK0.out.trans HK2.out)
   exact ⟨hh,hR.same hsm (fun s x b e => StIn.same hsm hh s x b e)⟩
  obtain ⟨_,_,_,_,_,_,g6,g7⟩:=eight_cell ((HK2.out).at HS0.out).1
  have HRb:Hid (r = andThen eb fun t => andThen (inner (stat K.l me d) s.els v t) fun t => .ok (.tuple #[],v,t)):=by unfold Hid; rw [HRr.out,andThen_ok,heb]
  clear hb2 heb g0 g1 g2 g3
  go_wp2_with fail
  refine (hB.out s.body ba bc v t1 m1 m2 w2 _ HB2 HRoweb HBO HT2 HV1 hm1 (by rw [← Heb.out]; exact rfl)).mono ?_
  rintro e w3 ⟨hk3,he3⟩
  have HK03:Hid (Kpt K W0 w3):=HK2.out.trans hk3
  clear hk3
  cases eb with
  | error y =>
   obtain ⟨rfl,v2,t2,hb2,hp2⟩:=he3
   have HE:Hid (Bf K w v r (.panicked [fltE y K.num]) w3):=by
    rw [HRb.out]
    exact ⟨(HK0.out.trans HK03.out),rfl,v2,t2,hb2,hp2⟩
   clear  hb2 hp2
   go_wp2
   exact ⟨rfl,HE.out⟩
  | ok t2 =>
   obtain ⟨rfl,hb3⟩:=he3
   have HB3:Hid (BW K w3 v t2):=hb3
   have HT3:Hid (TkLe t2 m2):=inner_le (stat_le K.l me d) HBO.out HT2.out Heb.out.symm
   have hm2:m2 ≤ 2000:=Sy.bodyOf_le (fun a n m => Sy.stW_le d a n m) hm1 HBO.out
   have HV2:Hid (v.length ≤ m2 + 10):=by
    have h1:=HV1.out
    have h2:=runs_ge (fun a n m h => by have:=stW_ge d a n m h; omega) s.body m1 m2 (bodyOf_open HBO.out).2
    unfold Hid
    omega
   clear g6 g7
   obtain ⟨ec2,hec2⟩:∃ eb,eb = inner (stat K.l me d) s.els v t2:=⟨_,rfl⟩
   have Hec2:Hid (ec2 = inner (stat K.l me d) s.els v t2):=hec2
   have HRowec2:Hid (∃ h,RowIn K.B w3 (StIn K.B w3 h) s.els ea):=by
    obtain ⟨hh,hR⟩:=st_els hs.out
    have hsm:=h.out.same (HK0.out.trans HK03.out)
    exact ⟨hh,hR.same hsm (fun s x b e => StIn.same hsm hh s x b e)⟩
   obtain ⟨_,_,_,_,_,_,g6,g7⟩:=eight_cell ((HK03.out).at HS0.out).1
   have HRc:Hid (r = andThen ec2 fun t => .ok (.tuple #[],v,t)):=by unfold Hid; rw [HRb.out,andThen_ok,hec2]
   clear hb3 hec2
   go_wp2_with fail
   refine (hB.out s.els ea ec v t2 m2 m w3 _ HB3 HRowec2 HBO2 HT3 HV2 hm2 (by rw [← Hec2.out]; exact rfl)).mono ?_
   rintro e w4 ⟨hk4,he4⟩
   have HK4:Hid (Kpt K w w4):=(HK0.out.trans HK03.out).trans hk4
   clear hk4
   cases ec2 with
   | error y =>
    obtain ⟨rfl,v2,t2,hb2,hp2⟩:=he4
    have HE:Hid (Bf K w v r (.panicked [fltE y K.num]) w4):=by
     rw [HRc.out]
     exact ⟨HK4.out,rfl,v2,t2,hb2,hp2⟩
    clear  hb2 hp2
    go_wp2
    exact ⟨rfl,HE.out⟩
   | ok t3 =>
    obtain ⟨rfl,hb4⟩:=he4
    have HE:Hid (Bf K w v r (.returned (.tuple #[])) w4):=by
     rw [HRc.out]
     exact ⟨HK4.out,rfl,hb4⟩
    clear hb4
    go_wp2
    go_end0
    exact HE.out
end Sm
namespace Sm
theorem st_send (K:BK) (me:Sy.Df) (d:Nat) (i:Nat) (hi:Hid (K.num = (i:Int))) (HMe:Hid (K.l[i]? = some me)) (_hB:Hid (CBl K me d)) (s:Sy.St) (xa ba ea:Option Addr) (xc bc ec:Nat) (v:Vars) (t:Tk) (n m m1:Nat) (w:World) (r:Except Int (Value × Vars × Tk)) (h:Hid (BW K w v t)) (hs:Hid (∃ h,StIn K.B w h s xa ba ea)) (hx1:Hid (Sy.exW d s.x (n + 1) = .ok m1)) (_htl:Hid (Sy.stTail (Sy.stW d) s m1 = .ok m)) (ht:Hid (TkLe t n)) (_hv:Hid (v.length ≤ n + 10)) (h2:n + 1 ≤ 2000)
  (hr:Hid (r = andThen (stat K.l me (d + 1) s v t) fun p => .ok (.tuple #[],p.1,p.2)))
  (hk:s.kind = 7) :
  Calls Tryz.prog 93 #[.pointer (some ⟨K.F,0,none⟩),stV s xa xc ba bc ea ec] w fun e w' => Bf K w v r e w':=by
 have hF:=h.out.lt
 obtain ⟨W0,hW0⟩:∃ W0,W0 = w.alloc (stB s xa xc ba bc ea ec):=⟨_,rfl⟩
 have HK0:Hid (Kpt K w W0):=by rw [hW0]; exact Kpt.alloc K w _ hF
 have HB0:Hid (BW K W0 v t):=by rw [hW0]; exact h.out.grown (grown_a _)
 have HS0:Hid (W0.heap[w.heap.size]? = some (stB s xa xc ba bc ea ec) ∧ Free K W0 w.heap.size):=by rw [hW0]; exact h.out.new _
 have HE0:Hid (∃ h,ExIn K.B W0 h s.x xa):=by
  obtain ⟨hh,hE⟩:=st_x hs.out
  exact ⟨hh,hE.same (h.out.same HK0.out)⟩
 have HW0:Hid (W0 = _):=hW0
 have hC:=hid (expr_any K v me i hi HMe d)
 have HT1:Hid (TkLe t (n + 1)):=ht.out.mono (by omega)
 clear hW0
 have HXs:Hid (Sy.runs (Sy.exW d) [s.x] (n + 1) = .ok m1):=by unfold Hid; simp [Sy.runs,hx1.out]
 have HKX:Hid (∃ hh,ExIn K.B W0 hh s.x xa ∧ BW K W0 v t):=by
  obtain ⟨hh,hE⟩:=HE0.out
  exact ⟨hh,hE,HB0.out⟩
 obtain ⟨wr,hwr⟩:∃ wr,wr = Sm.want K.l 1 s.name:=⟨_,rfl⟩
 have HWr:Hid (wr = Sm.want K.l 1 s.name):=hwr
 obtain ⟨rv,hrv⟩:∃ rv:Except Int Value,rv = match Sm.want K.l 1 s.name with | .ok i => .ok (.int .i64 (i:Int)) | .error y => .error y:=⟨_,rfl⟩
 have HRV:Hid (rv = match Sm.want K.l 1 s.name with | .ok i => .ok (.int .i64 (i:Int)) | .error y => .error y):=hrv
 have HRr:Hid (r = andThen wr fun b => andThen (must (expr K.l me v d) (defAt K.l b).ty [s.x] ⟨t.sends ++ [b],t.recvs,t.calls⟩) fun t => .ok (.tuple #[],v,t)):=by
  unfold Hid
  rw [hr.out,stat,if_neg (by omega),if_neg (by omega),if_neg (by omega),if_neg (by omega),if_neg (by omega),if_neg (by omega),if_pos hk,hwr]
  cases Sm.want K.l 1 s.name with
  | error e => rfl
  | ok b => rw [andThen_ok,andThen_ok]; cases must (expr K.l me v d) (defAt K.l b).ty [s.x] ⟨t.sends ++ [b],t.recvs,t.calls⟩ <;> rfl
 have hB0:K.B ≤ W0.heap.size:=by have:=HB0.out.base; have:=HB0.out.lt; omega
 have HSF:Hid (∀ w' v' t',Kpt K W0 w' → BW K w' v' t' → w'.cell? ⟨K.F,0,none⟩ = some (.slice K.a K.l.length K.c) ∧ w'.cell? ⟨K.F,1,none⟩ = some (.map (some K.M)) ∧ w'.cell? ⟨K.F,2,none⟩ = some (.int .i64 K.num) ∧ w'.cell? ⟨w.heap.size,1,none⟩ = some (.string s.name)):=fun w' v' t' hk hb => by
  obtain ⟨_,g1,_⟩:=eight_cell (hk.at HS0.out).1
  obtain ⟨o,sn,rr,cc,h4⟩:=hb.rows
  obtain ⟨d0,d1,d2,_⟩:=bd_cells h4.blk
  exact ⟨d0,d1,d2,g1⟩
 have e1:(s.kind == 1) = false:=by rw [hk]; rfl
 have e2:(s.kind == 2) = false:=by rw [hk]; rfl
 have e3:(s.kind == 3) = false:=by rw [hk]; rfl
 have e4:(s.kind == 4) = false:=by rw [hk]; rfl
 have e5:(s.kind == 5) = false:=by rw [hk]; rfl
 have e6:(s.kind == 6) = false:=by rw [hk]; rfl
 have e7:(s.kind == 7) = true:=by rw [hk]; rfl
 rw [← hwr] at hrv
 clear hr hwr hk
 go_enter Tryz.func93,Tryz.ntmps93
 go_wp2_with fail
 rw [← HW0.out]
 refine wp_region_held_drew (S:=fun w' => w'.cell? ⟨K.F,0,none⟩ = some (.slice K.a K.l.length K.c) ∧ w'.cell? ⟨K.F,1,none⟩ = some (.map (some K.M)) ∧ w'.cell? ⟨K.F,2,none⟩ = some (.int .i64 K.num) ∧ w'.cell? ⟨w.heap.size,1,none⟩ = some (.string s.name)) (by kernel_rfl) (HSF.out W0 v t (Kpt.refl _ _) HB0.out) (fun hHeld => ?_)
 refine tk 0 (v:=?_) rfl ?_ (by assumption) ?_
 rotate_left
 ·intro w hSw
  (try dsimp only at hSw)
  go_simp
  (try with_reducible rfl)
 (try go_frame)
 refine tk 1 (v:=?_) rfl ?_ (by assumption) ?_
 rotate_left
 ·intro w hSw
  (try dsimp only at hSw)
  go_simp
  (try with_reducible rfl)
 (try go_frame)
 refine tk 2 (v:=?_) rfl ?_ (by assumption) ?_
 rotate_left
 ·intro w hSw
  (try dsimp only at hSw)
  go_simp
  (try with_reducible rfl)
 (try go_frame)
 refine tk 3 (v:=?_) rfl ?_ (by assumption) ?_
 rotate_left
 ·intro w hSw
  (try dsimp only at hSw)
  go_simp
  (try with_reducible rfl)
 (try go_frame)
 refine tk 4 (v:=?_) rfl ?_ (by assumption) ?_
 rotate_left
 ·intro w hSw
  (try dsimp only at hSw)
  go_simp
  (try with_reducible rfl)
 (try go_frame)
 refine tk 5 (v:=?_) rfl ?_ (by assumption) ?_
 rotate_left
 ·intro w hSw
  (try dsimp only at hSw)
  go_simp
  (try with_reducible rfl)
 (try go_frame)
 refine wpAnyH_ready (rs:=[6]) (by kernel_rfl) (by simp) ?_
 refine AllReadyH.cons (o:=_) rfl (fun K' hK => ?_) AllReadyH.nil
 go_simp
 refine (want_any K.B K.l K.a K.c K.M K.num 1 s.name K.R W0.drew rv (by exact HB0.out.drew.dfs) (by exact hB0) (by exact HB0.out.drew.mp) (by exact HB0.out.nums) HRV).mono ?_
 rintro e w1 ⟨hg1',he1⟩
 have hg1:W0.grownBy w1 none:=⟨hg1'.os,hg1'.tape,hg1'.output,hg1'.size,hg1'.block⟩
 have HG1:Hid (W0.grownBy w1 none):=hg1
 clear hg1'
 have HB1:Hid (BW K w1 v t):=HB0.out.grown hg1
 have HK01:Hid (Kpt K W0 w1):=Kpt.grown hg1 HB0.out.lt
 cases wr with
 | error y =>
  subst hrv
  obtain rfl:=he1
  have HE:Hid (Bf K w v r (.panicked [fltE y K.num]) w1):=by
   rw [HRr.out]
   exact ⟨HK0.out.trans HK01.out,rfl,v,t,HB1.out,List.prefix_refl _⟩
  clear hK hg1
  go_wp2
  exact ⟨rfl,HE.out⟩
 | ok j =>
  subst hrv
  obtain rfl:=he1
  have hj:=want_lt HWr.out.symm
  obtain ⟨D,hD⟩:∃ D,D = K.l[j]:=⟨_,rfl⟩
  have hDA:Hid (defAt K.l j = D):=by unfold Hid; rw [hD]; simp [defAt,List.getElem?_eq_getElem hj]
  obtain ⟨b,off,pa,pc,ba',bc',ha,hb,_,_,k2,k3,_,_,_,_,_,_⟩:=HB1.out.dfs.2 j D (by rw [hD]; exact List.getElem?_eq_getElem hj)
  have HA:Hid (K.a = some ⟨b,off,none⟩):=ha
  refine hK.out _ _ (HSF.out w1 v t HK01.out HB1.out) (fun hHeld => ?_)
  refine tk 7 (v:=?_) rfl ?_ (by assumption) ?_
  rotate_left
  ·intro w hSw
   (try dsimp only at hSw)
   go_simp
   (try with_reducible rfl)
  (try go_frame)
  refine wpAnyH_done (by kernel_rfl) ?_ _
  obtain ⟨ord,sn,rc,cl,h4⟩:=HB1.out.rows
  have H4:Hid (Rows4 K w1 v t ord sn rc cl):=h4
  obtain ⟨ca,cn,hcl⟩:=own_form h4.snO
  subst hcl
  obtain ⟨i0,hif,hz0,hz1,hz2⟩:=info_parts Tryz.info3
  have hB1:K.B ≤ w1.heap.size:=by have:=HB1.out.base; have:=HB1.out.lt; omega
  have hcF:Hid ((Value.slice ca t.sends.length cn).ownBlock ≠ some K.F):=fun e => by
   obtain ⟨_,_,cur,hc⟩:=own_lt h4.snO _ e
   rw [h4.blk] at hc
   cases hc
  have hF1:=h4.lt
  obtain ⟨_,_,_,_,_,d5,_,_⟩:=bd_cells h4.blk
  obtain ⟨_,z5,_,_⟩:=bd_frozen h4.blk
  have htc:t.sends.length ≤ 2000:=by have:=ht.out.1; omega
  have HCB:Hid (∀ (o2:Obj) (w4:World),(w1.alloc o2).grownBy w4 (Value.slice ca t.sends.length cn).ownBlock → w4.heap[K.F]? = some (K.obj ord (.slice ca t.sends.length cn) rc cl)):=fun o2 w4 hg =>
   ((hg.block K.F (by simp; omega) (fun e => hcF.out e.symm)).trans (Below.heap_alloc _ _ _ hF1)).trans H4.out.blk
  have hml:K.l.length ≤ maxLen:=HB1.out.dfs.1
  obtain ⟨L,hL⟩:∃ L,L = K.l.length:=⟨_,rfl⟩
  have HL:Hid (L = K.l.length):=hL
  have hjL:(j:Int) < (L:Int):=by omega
  rw [← hL] at hml
  obtain ⟨em,hem⟩:∃ em,em = must (expr K.l me v d) D.ty [s.x] ⟨t.sends ++ [j],t.recvs,t.calls⟩:=⟨_,rfl⟩
  have HEm:Hid (em = must (expr K.l me v d) D.ty [s.x] ⟨t.sends ++ [j],t.recvs,t.calls⟩):=hem
  have HRm:Hid (r = andThen em fun t => .ok (.tuple #[],v,t)):=by unfold Hid; rw [HRr.out,andThen_ok,hDA.out,hem]
  have HT5:Hid (TkLe ⟨t.sends ++ [j],t.recvs,t.calls⟩ (n + 1)):=⟨by have:=ht.out.1; simp; omega,by have:=ht.out.2.1; dsimp; omega,by have:=ht.out.2.2; dsimp; omega⟩
  have HDC:Hid (∀ w',Kpt K w1 w' → w'.cell? ⟨b,off + j * 9 + 2,none⟩ = some (.int .i64 D.ty.kind) ∧ w'.cell? ⟨b,off + j * 9 + 3,none⟩ = some (.string D.ty.gen)):=fun w' hk => by
   have old:∀ o,w'.cell? ⟨b,o,none⟩ = w1.cell? ⟨b,o,none⟩:=fun o => HB1.out.same hk b o hb
   rw [old,old]
   exact ⟨k2,k3⟩
  have HS:Hid (∀ w' v' t',Kpt K w1 w' → BW K w' v' t' → w'.cell? ⟨K.F,0,none⟩ = some (.slice (some ⟨b,off,none⟩) L K.c) ∧ w'.cell? ⟨b,off + j * 9 + 2,none⟩ = some (.int .i64 D.ty.kind) ∧ w'.cell? ⟨b,off + j * 9 + 3,none⟩ = some (.string D.ty.gen) ∧ w'.cell? ⟨w.heap.size,2,none⟩ = some (.int .i64 s.x.kind) ∧ w'.cell? ⟨w.heap.size,3,none⟩ = some (.int .i64 s.x.n) ∧ w'.cell? ⟨w.heap.size,4,none⟩ = some (.string s.x.name) ∧ w'.cell? ⟨w.heap.size,5,none⟩ = some (.slice xa s.x.kids.length xc)):=fun w' v' t' hk hbw => by
   obtain ⟨_,_,g2,g3,g4,g5,_,_⟩:=eight_cell ((HK01.out.trans hk).at HS0.out).1
   obtain ⟨o,sn,rr,cc,h4⟩:=hbw.rows
   obtain ⟨d0,_⟩:=bd_cells h4.blk
   rw [HA.out,← HL.out] at d0
   exact ⟨d0,(HDC.out w' hk).1,(HDC.out w' hk).2,g2,g3,g4,g5⟩
  clear hK hg1 hD ha h4 hL hem k2 k3
  go_wp2_with (at_builtin; refine wpList_append_where rfl _ _ 94 rfl K.B 3 i0 _ 1 8 Tryz.underlying94 hif hz0 hz1 hz2 rfl (by decide) _ t.sends.length (nats t.sends) rfl (H4.out.snO.alloc _) ⟨w1.heap.size,0,none⟩ 1 1 [.int .i64 (j:Int)] rfl rfl (one_news _ _ _) (one_int _) (by decide) (by unfold maxLen; omega) (by omega) (by simp; omega) ?_; intro g cap w4 hq4 hg4 hw4; have HT7:Hid _:=talk5 HB1.out H4.out (World.grownBy.refl _ _) hg4 hq4 hw4; have hF4:=HCB.out _ w4 hg4; obtain ⟨_,f7,_,_⟩:=bd_frozen hF4; obtain ⟨_,_,_,_,_,e5,_,_⟩:=bd_cells hF4; have hF4':=lt_of_block hF4; clear hq4 hg4 hw4 hF4)
  obtain ⟨w5,hw5⟩:∃ w5,w5 = w4.setCell ⟨K.F,5,none⟩ (.slice (some ⟨g,0,none⟩) (t.sends.length + 1) cap):=⟨_,rfl⟩
  rw [← hw5]
  rw [← hw5] at HT7
  have HK5:Hid (Kpt K w1 w5):=HT7.out.2
  have HB5:Hid (BW K w5 v ⟨t.sends ++ [j],t.recvs,t.calls⟩):=HT7.out.1
  clear hw5
  refine wp_region_held_drew (S:=fun w' => w'.cell? ⟨K.F,0,none⟩ = some (.slice (some ⟨b,off,none⟩) L K.c) ∧ w'.cell? ⟨b,off + j * 9 + 2,none⟩ = some (.int .i64 D.ty.kind) ∧ w'.cell? ⟨b,off + j * 9 + 3,none⟩ = some (.string D.ty.gen) ∧ w'.cell? ⟨w.heap.size,2,none⟩ = some (.int .i64 s.x.kind) ∧ w'.cell? ⟨w.heap.size,3,none⟩ = some (.int .i64 s.x.n) ∧ w'.cell? ⟨w.heap.size,4,none⟩ = some (.string s.x.name) ∧ w'.cell? ⟨w.heap.size,5,none⟩ = some (.slice xa s.x.kids.length xc)) (by kernel_rfl) (HS.out w5 v _ HK5.out HB5.out) (fun hHeld => ?_)
  refine tk 0 (v:=?_) rfl ?_ (by assumption) ?_
  rotate_left
  ·intro w hSw
   (try dsimp only at hSw)
   go_simp
   (try with_reducible rfl)
  (try go_frame)
  refine tk 1 (v:=?_) rfl ?_ (by assumption) ?_
  rotate_left
  ·intro w hSw
   (try dsimp only at hSw)
   go_simp
   (try with_reducible rfl)
  (try go_frame)
  refine tk 2 (v:=?_) rfl ?_ (by assumption) ?_
  rotate_left
  ·intro w hSw
   (try dsimp only at hSw)
   go_simp
   (try with_reducible rfl)
  (try go_frame)
  refine tk 3 (v:=?_) rfl ?_ (by assumption) ?_
  rotate_left
  ·intro w hSw
   (try dsimp only at hSw)
   go_simp
   (try with_reducible rfl)
  (try go_frame)
  refine tk 4 (v:=?_) rfl ?_ (by assumption) ?_
  rotate_left
  ·intro w hSw
   (try dsimp only at hSw)
   go_simp
   (try with_reducible rfl)
  (try go_frame)
  refine tk 5 (v:=?_) rfl ?_ (by assumption) ?_
  rotate_left
  ·intro w hSw
   (try dsimp only at hSw)
   go_simp
   (try with_reducible rfl)
  (try go_frame)
  refine tk 6 (v:=?_) rfl ?_ (by assumption) ?_
  rotate_left
  ·intro w hSw
   (try dsimp only at hSw)
   go_simp
   (try with_reducible rfl)
  (try go_frame)
  refine tk 7 (v:=?_) rfl ?_ (by assumption) ?_
  rotate_left
  ·intro w hSw
   (try dsimp only at hSw)
   go_simp
   (try with_reducible rfl)
  (try go_frame)
  refine tk 8 (v:=?_) rfl ?_ (by assumption) ?_
  rotate_left
  ·intro w hSw
   (try dsimp only at hSw)
   go_simp
   (try with_reducible rfl)
  (try go_frame)
  refine tk 9 (v:=?_) rfl ?_ (by assumption) ?_
  rotate_left
  ·intro w hSw
   (try dsimp only at hSw)
   go_simp
   (try with_reducible rfl)
  (try go_frame)
  refine tk 10 (v:=?_) rfl ?_ (by assumption) ?_
  rotate_left
  ·intro w hSw
   (try dsimp only at hSw)
   go_simp
   (try with_reducible rfl)
  (try go_frame)
  refine tk 11 (v:=?_) rfl ?_ (by assumption) ?_
  rotate_left
  ·intro w hSw
   (try dsimp only at hSw)
   go_simp
   (try with_reducible rfl)
  (try go_frame)
  refine tk 12 (v:=?_) rfl ?_ (by assumption) ?_
  rotate_left
  ·intro w hSw
   (try dsimp only at hSw)
   go_simp
   (try with_reducible rfl)
  (try go_frame)
  refine wpAnyH_ready (rs:=[13]) (by kernel_rfl) (by simp) ?_
  refine AllReadyH.cons (o:=_) rfl (fun K' hK => ?_) AllReadyH.nil
  go_simp
  have HK6:Hid (Kpt K w5 (w5.alloc (exB s.x xa xc)).drew):=(Kpt.alloc K w5 _ HB5.out.lt).drew
  have HB6:Hid (BW K (w5.alloc (exB s.x xa xc)).drew v ⟨t.sends ++ [j],t.recvs,t.calls⟩):=(HB5.out.grown (grown_a _)).drew
  have HN6:Hid ((w5.alloc (exB s.x xa xc)).drew.heap[w5.heap.size]? = some (exB s.x xa xc) ∧ Free K (w5.alloc (exB s.x xa xc)).drew w5.heap.size):=HB5.out.new _
  refine hK.out _ _ (HS.out _ v _ (HK5.out.trans HK6.out) HB6.out) (fun hHeld => ?_)
  clear hK
  refine wpAnyH_ready (rs:=[14]) (by kernel_rfl) (by simp) ?_
  refine AllReadyH.cons (o:=_) rfl (fun K' hK => ?_) AllReadyH.nil
  go_simp
  refine (must_any K v d (expr K.l me v d) hC (expr_le K.l me v d) [s.x] (some ⟨w5.heap.size,0,none⟩) 1 D.ty _ (n + 1) m1 _ _ HB6 (ks_one HB6.out HN6.out HKX.out ((HK01.out.trans HK5.out).trans HK6.out)) (by simp) HXs HT5 h2 (by rw [← HEm.out]; exact rfl)).mono ?_
  rintro e w9 ⟨hk9,he9⟩
  have HK19:Hid (Kpt K w1 w9):=(HK5.out.trans HK6.out).trans hk9
  have HK9:Hid (Kpt K w w9):=(HK0.out.trans HK01.out).trans HK19.out
  cases em with
  | error y =>
   obtain ⟨rfl,v2,t2,hb2,hp2⟩:=he9
   have HE:Hid (Bf K w v r (.panicked [fltE y K.num]) w9):=by
    rw [HRm.out]
    exact ⟨HK9.out,rfl,v2,t2,hb2,hp2⟩
   clear hK hk9 hb2 hp2
   go_wp2
   exact ⟨rfl,HE.out⟩
  | ok t2 =>
   obtain ⟨rfl,hb9⟩:=he9
   have HE:Hid (Bf K w v r (.returned (.tuple #[])) w9):=by
    rw [HRm.out]
    exact ⟨HK9.out,rfl,hb9⟩
   refine hK.out _ _ (HS.out w9 v t2 HK19.out hb9) (fun hHeld => ?_)
   clear hK hk9 hb9 hHeld
   refine wpAnyH_done (by kernel_rfl) ?_ _
   go_wp2
   go_end0
   exact HE.out
theorem stat_any (K:BK) (me:Sy.Df) (i:Nat) (hi:Hid (K.num = (i:Int))) (HMe:Hid (K.l[i]? = some me)):∀ d,CSt K me d
 | 0 => fun s xa ba ea xc bc ec v t n m w r _ _ hn _ _ _ _ => by
  have:=hn.out
  unfold Sy.stW at this
  cases this
 | d + 1 => fun s xa ba ea xc bc ec v t n m w r h hs hn ht hv h2 hr => by
  have hB:=hid (block_any K me d (hid (stat_any K me i hi HMe d)))
  obtain ⟨k1,k9,h3,ho⟩:=stW_open hn.out
  rcases ho with ⟨h6,rfl⟩ | ⟨h6,m1,hx,htl⟩
  ·exact st_stop K me d i hi HMe hB s xa ba ea xc bc ec v t n w r h hs ht hv h3 hr h6
  ·have HX:=hid hx
   have HL:=hid htl
   by_cases h1:s.kind = 1
   ·exact st_let K me d i hi HMe hB s xa ba ea xc bc ec v t n m m1 w r h hs HX HL ht hv h3 hr h1
   by_cases h2:s.kind = 2
   ·exact st_set K me d i hi HMe hB s xa ba ea xc bc ec v t n m m1 w r h hs HX HL ht hv h3 hr h2
   by_cases h4:s.kind = 3
   ·exact st_if K me d i hi HMe hB s xa ba ea xc bc ec v t n m m1 w r h hs HX HL ht hv h3 hr h4
   by_cases h5:s.kind = 4
   ·exact st_while K me d i hi HMe hB s xa ba ea xc bc ec v t n m m1 w r h hs HX HL ht hv h3 hr h5
   by_cases h7:s.kind = 5
   ·exact st_ret K me d i hi HMe hB s xa ba ea xc bc ec v t n m m1 w r h hs HX HL ht hv h3 hr h7
   by_cases h8:s.kind = 7
   ·exact st_send K me d i hi HMe hB s xa ba ea xc bc ec v t n m m1 w r h hs HX HL ht hv h3 hr h8
   by_cases h9:s.kind = 8
   ·exact st_out K me d i hi HMe hB s xa ba ea xc bc ec v t n m m1 w r h hs HX HL ht hv h3 hr h9
   ·exact st_do K me d i hi HMe hB s xa ba ea xc bc ec v t n m m1 w r h hs HX HL ht hv h3 hr (by omega)
end Sm
end Go.Proofs.YtbioaoangfiijaaGreatDoor
