/- The walk of expr,kind by kind,given that of expr one level below. -/
import Derived.Deep.Cut
import Derived.Deep.DeepCutAuto
import Derived.Test.YtolfleeidpeomaaGreatDoorM32
set_option maxRecDepth 100000
set_option maxHeartbeats 4000000
namespace Go.Proofs.YtolfleeidpeomaaGreatDoor
open Go.RowKit
namespace Sm
theorem JL {K:BK}{w:World}{v:Vars}{t:Tk}{x:Sy.Ex}{xa:Option Addr}(hB:BW K w v t)(hE:∃ h,aJ K.B w h x xa):qp K w x.kids xa:=fun i k hi=>by
 obtain ⟨hh,hE⟩:=hE
 cases hh with
 | zero=>exact hE.elim
 | succ hh =>
  obtain ⟨b,off,a',c',e1,e2,e3,e4,e5,e6,e7⟩:=hE.2.2 i k hi
  exact ⟨b,off,a',c',e1,by have:=hB.base;have:=hB.lt;omega,hB.low e2,e3,e4,e5,e6,hh,e7⟩
theorem JM {B:Nat}{w:World}{x:Sy.Ex}{xa:Option Addr}(hE:∃ h,aJ B w h x xa):x.kids.length≤9223372036854775807:=by
 obtain ⟨hh,hE⟩:=hE
 cases hh with
 | zero=>exact hE.elim
 | succ hh=>have:=hE.2.1;unfold maxLen at this;omega
theorem abE
  (K:BK) (v:Vars) (d:Nat) (me:Sy.Df) (_hC:Hid (kF K v d (expr K.l me v d))) (x:Sy.Ex) (xa:Option Addr) (xc:Nat) (t:Tk) (n m:Nat) (w:World) (r:Except Int (Value × Vars × Tk)) (h:Hid (BW K w v t)) (hx:Hid (∃ h,aJ K.B w h x xa)) (_hn:Hid (Sy.runs (Sy.aF d) x.kids (n+1)=.ok m)) (_ht:Hid (aT t n)) (_h2:n+1≤2000)
    (hr:Hid (r=andThen (expr K.l me v (d+1) x t) fun p=>.ok (aQ p.1,v,p.2)))
  (hk:x.kind=1) :
  Calls Tryz.prog 133 #[.pointer (some ⟨K.F,0,none⟩),dH x xa xc] w fun e w'=>Bf K w v r e w'
  := by
 have hF:=h.out.lt
 obtain ⟨W0,hW0⟩:∃ W0,W0=(w.alloc (aj x xa xc)).alloc zT:=⟨_,rfl⟩
 have aM:Hid (af K w W0):=by rw [hW0];exact af.grown (bu _ _) hF
 have HB0:Hid (BW K W0 v t):=by rw [hW0];exact h.out.grown (bu _ _)
 have HX0:Hid (W0.heap[w.heap.size]?=some (aj x xa xc)∧bA K W0 w.heap.size):=by
  rw [hW0]
  exact (af.alloc K _ _ (by simp;omega)).at (h.out.new _)
 have HZ0:Hid (W0.heap[w.heap.size+1]?=some zT∧bA K W0 (w.heap.size+1)):=by
  rw [hW0]
  refine ⟨?_,h.out.free (bu _ _) (by omega)⟩
  have:=heap_alloc_new (w.alloc (aj x xa xc)) zT
  simpa using this
 have aR:Hid (∃ h,aJ K.B W0 h x xa):=by
  obtain ⟨hh,hE⟩:=hx.out
  exact ⟨hh,hE.same (h.out.same aM.out)⟩
 have HW0:Hid (W0=_):=hW0
 have hBw:K.B≤w.heap.size+1:=by have:=h.out.base;omega
 clear hW0
 have bX:Hid (r=.ok (aQ (⟨1,⟨#[]⟩⟩:Sy.Ty),v,t)):=by
  unfold Hid
  rw [hr.out,expr,if_pos hk]
  rfl
 obtain ⟨hgb,g0,g1,g2,g3⟩:=HB0.out.ja.2
 have e1:(x.kind==1)=true:=by rw [hk];rfl
 rw [HW0.out] at g0 g1 g2 g3
 clear hr hk
 go_enter Tryz.func133,Tryz.ntmps133
 go_wp2
 refine bodyPost_ret (v:=aQ (⟨1,⟨#[]⟩⟩:Sy.Ty)) (by simp [results,Tryz.results133,go_sem]) rfl ?_
 exact Bf.good h.out (bu _ _) bX.out
theorem abF
  (K:BK) (v:Vars) (d:Nat) (me:Sy.Df) (_hC:Hid (kF K v d (expr K.l me v d))) (x:Sy.Ex) (xa:Option Addr) (xc:Nat) (t:Tk) (n m:Nat) (w:World) (r:Except Int (Value × Vars × Tk)) (h:Hid (BW K w v t)) (hx:Hid (∃ h,aJ K.B w h x xa)) (_hn:Hid (Sy.runs (Sy.aF d) x.kids (n+1)=.ok m)) (_ht:Hid (aT t n)) (_h2:n+1≤2000)
    (hr:Hid (r=andThen (expr K.l me v (d+1) x t) fun p=>.ok (aQ p.1,v,p.2)))
  (hk:x.kind=2) :
  Calls Tryz.prog 133 #[.pointer (some ⟨K.F,0,none⟩),dH x xa xc] w fun e w'=>Bf K w v r e w'
  := by
 have hF:=h.out.lt
 obtain ⟨W0,hW0⟩:∃ W0,W0=(w.alloc (aj x xa xc)).alloc zT:=⟨_,rfl⟩
 have aM:Hid (af K w W0):=by rw [hW0];exact af.grown (bu _ _) hF
 have HB0:Hid (BW K W0 v t):=by rw [hW0];exact h.out.grown (bu _ _)
 have HX0:Hid (W0.heap[w.heap.size]?=some (aj x xa xc)∧bA K W0 w.heap.size):=by
  rw [hW0]
  exact (af.alloc K _ _ (by simp;omega)).at (h.out.new _)
 have HZ0:Hid (W0.heap[w.heap.size+1]?=some zT∧bA K W0 (w.heap.size+1)):=by
  rw [hW0]
  refine ⟨?_,h.out.free (bu _ _) (by omega)⟩
  have:=heap_alloc_new (w.alloc (aj x xa xc)) zT
  simpa using this
 have aR:Hid (∃ h,aJ K.B W0 h x xa):=by
  obtain ⟨hh,hE⟩:=hx.out
  exact ⟨hh,hE.same (h.out.same aM.out)⟩
 have HW0:Hid (W0=_):=hW0
 have hBw:K.B≤w.heap.size+1:=by have:=h.out.base;omega
 clear hW0
 have bX:Hid (r=.ok (aQ (⟨2,⟨#[]⟩⟩:Sy.Ty),v,t)):=by
  unfold Hid
  rw [hr.out,expr,if_neg (by omega),if_pos hk]
  rfl
 obtain ⟨hgb,g0,g1,g2,g3⟩:=HB0.out.ja.2
 have e1:(x.kind==1)=false:=by rw [hk];rfl
 have e2:(x.kind==2)=true:=by rw [hk];rfl
 rw [HW0.out] at g0 g1 g2 g3
 clear hr hk
 go_enter Tryz.func133,Tryz.ntmps133
 go_wp2
 refine bodyPost_ret (v:=aQ (⟨2,⟨#[]⟩⟩:Sy.Ty)) (by simp [results,Tryz.results133,go_sem]) rfl ?_
 exact Bf.good h.out (bu _ _) bX.out
theorem abG
  (K:BK) (v:Vars) (d:Nat) (me:Sy.Df) (_hC:Hid (kF K v d (expr K.l me v d))) (x:Sy.Ex) (xa:Option Addr) (xc:Nat) (t:Tk) (n m:Nat) (w:World) (r:Except Int (Value × Vars × Tk)) (h:Hid (BW K w v t)) (hx:Hid (∃ h,aJ K.B w h x xa)) (_hn:Hid (Sy.runs (Sy.aF d) x.kids (n+1)=.ok m)) (_ht:Hid (aT t n)) (_h2:n+1≤2000)
    (hr:Hid (r=andThen (expr K.l me v (d+1) x t) fun p=>.ok (aQ p.1,v,p.2)))
  (hk:x.kind=3) :
  Calls Tryz.prog 133 #[.pointer (some ⟨K.F,0,none⟩),dH x xa xc] w fun e w'=>Bf K w v r e w'
  := by
 have hF:=h.out.lt
 obtain ⟨W0,hW0⟩:∃ W0,W0=(w.alloc (aj x xa xc)).alloc zT:=⟨_,rfl⟩
 have aM:Hid (af K w W0):=by rw [hW0];exact af.grown (bu _ _) hF
 have HB0:Hid (BW K W0 v t):=by rw [hW0];exact h.out.grown (bu _ _)
 have HX0:Hid (W0.heap[w.heap.size]?=some (aj x xa xc)∧bA K W0 w.heap.size):=by
  rw [hW0]
  exact (af.alloc K _ _ (by simp;omega)).at (h.out.new _)
 have HZ0:Hid (W0.heap[w.heap.size+1]?=some zT∧bA K W0 (w.heap.size+1)):=by
  rw [hW0]
  refine ⟨?_,h.out.free (bu _ _) (by omega)⟩
  have:=heap_alloc_new (w.alloc (aj x xa xc)) zT
  simpa using this
 have aR:Hid (∃ h,aJ K.B W0 h x xa):=by
  obtain ⟨hh,hE⟩:=hx.out
  exact ⟨hh,hE.same (h.out.same aM.out)⟩
 have HW0:Hid (W0=_):=hW0
 have hBw:K.B≤w.heap.size+1:=by have:=h.out.base;omega
 clear hW0
 obtain ⟨rv,bf⟩:∃ rv:Except Int Value,rv=match Sm.known v x.name with | .ok y=>.ok (aQ y) | .error e=>.error e:=⟨_,rfl⟩
 have dV:Hid (rv=match Sm.known v x.name with | .ok y=>.ok (aQ y) | .error e=>.error e):=bf
 have ae:Hid (r=andThen (Sm.known v x.name) fun y=>.ok (aQ y,v,t)):=by
  unfold Hid
  rw [hr.out,expr,if_neg (by omega),if_neg (by omega),if_pos hk]
  cases Sm.known v x.name <;> rfl
 have e1:(x.kind==1)=false:=by rw [hk];rfl
 have e2:(x.kind==2)=false:=by rw [hk];rfl
 have e3:(x.kind==3)=true:=by rw [hk];rfl
 clear hr hk bf
 go_enter Tryz.func133,Tryz.ntmps133
 go_wp2_with fail
 rw [← HW0.out]
 refine (Ji K v t x.name W0 rv HB0 dV).mono ?_
 rintro e w9 ⟨gz,dG⟩
 have fq:Hid (BW K w9 v t):=HB0.out.grown gz
 have bQ:Hid (af K w w9):=aM.out.trans (af.grown gz HB0.out.lt)
 have j6:=hid ((af.grown gz HB0.out.lt).at HZ0.out)
 cases hkn:Sm.known v x.name with
 | error y =>
  have bf:rv=.error y:=by rw [dV.out,hkn]
  subst bf
  obtain rfl:=dG
  have HE:Hid (Bf K w v r (.panicked [aH y K.num]) w9):=by
   rw [ae.out,hkn]
   exact ⟨bQ.out,rfl,v,t,fq.out,List.prefix_refl _⟩
  clear gz hkn
  go_wp2
  exact ⟨rfl,HE.out⟩
 | ok y =>
  have bf:rv=.ok (aQ y):=by rw [dV.out,hkn]
  subst bf
  obtain rfl:=dG
  have bX:Hid (r=.ok (aQ y,v,t)):=by unfold Hid;rw [ae.out,hkn];rfl
  clear gz hkn
  have eB:=hid (nA (y:=y) (Z:=w.heap.size+1) fq.out bQ.out j6.out (by omega) hBw hF bX.out)
  obtain ⟨W9,dw⟩:∃ W9,W9=(w9.setCell ⟨w.heap.size+1,0,none⟩ (.int .i64 (y).kind)).setCell ⟨w.heap.size+1,1,none⟩ (.string (y).gen):=⟨_,rfl⟩
  have di:Hid (W9=_):=dw
  obtain ⟨oo,oq,ou,ow⟩:=bE (j6.out).1
  clear dw
  go_wp2
  rw [show (w9.setCell ⟨w.heap.size+1,0,none⟩ (.int .i64 (y).kind)).setCell ⟨w.heap.size+1,1,none⟩ (.string (y).gen)=W9 from di.out.symm]
  have q9:=eB.out.2
  rw [show j5 w9 (w.heap.size+1) (.int .i64 (y).kind) (.string (y).gen)=W9 from di.out.symm] at q9
  refine bodyPost_ret (v:=aQ y) (by simp [results,Tryz.results133,go_sem,World.cell?,q9]) rfl ?_
  rw [di.out]
  exact eB.out.1
theorem abH
  (K:BK) (v:Vars) (d:Nat) (me:Sy.Df) (hC:Hid (kF K v d (expr K.l me v d))) (x:Sy.Ex) (xa:Option Addr) (xc:Nat) (t:Tk) (n m:Nat) (w:World) (r:Except Int (Value × Vars × Tk)) (h:Hid (BW K w v t)) (hx:Hid (∃ h,aJ K.B w h x xa)) (hn:Hid (Sy.runs (Sy.aF d) x.kids (n+1)=.ok m)) (ht:Hid (aT t n)) (h2:n+1≤2000)
    (hr:Hid (r=andThen (expr K.l me v (d+1) x t) fun p=>.ok (aQ p.1,v,p.2)))
  (hk:x.kind=4∨6≤x.kind∧x.kind≤10) :
  Calls Tryz.prog 133 #[.pointer (some ⟨K.F,0,none⟩),dH x xa xc] w fun e w'=>Bf K w v r e w'
  := by
 have hF:=h.out.lt
 obtain ⟨W0,hW0⟩:∃ W0,W0=(w.alloc (aj x xa xc)).alloc zT:=⟨_,rfl⟩
 have aM:Hid (af K w W0):=by rw [hW0];exact af.grown (bu _ _) hF
 have HB0:Hid (BW K W0 v t):=by rw [hW0];exact h.out.grown (bu _ _)
 have HX0:Hid (W0.heap[w.heap.size]?=some (aj x xa xc)∧bA K W0 w.heap.size):=by
  rw [hW0]
  exact (af.alloc K _ _ (by simp;omega)).at (h.out.new _)
 have HZ0:Hid (W0.heap[w.heap.size+1]?=some zT∧bA K W0 (w.heap.size+1)):=by
  rw [hW0]
  refine ⟨?_,h.out.free (bu _ _) (by omega)⟩
  have:=heap_alloc_new (w.alloc (aj x xa xc)) zT
  simpa using this
 have aR:Hid (∃ h,aJ K.B W0 h x xa):=by
  obtain ⟨hh,hE⟩:=hx.out
  exact ⟨hh,hE.same (h.out.same aM.out)⟩
 have HW0:Hid (W0=_):=hW0
 have hBw:K.B≤w.heap.size+1:=by have:=h.out.base;omega
 clear hW0
 obtain ⟨er,her⟩:∃ er,er=must (expr K.l me v d) num x.kids t:=⟨_,rfl⟩
 have dL:Hid (er=must (expr K.l me v d) num x.kids t):=her
 have ae:Hid (r=andThen er fun t=>.ok (aQ (⟨1,⟨#[]⟩⟩:Sy.Ty),v,t)):=by
  unfold Hid
  rw [hr.out,expr,if_neg (by omega),if_neg (by omega),if_neg (by omega),if_pos (by omega),her]
  cases must (expr K.l me v d) num x.kids t <;> rfl
 have HT1:Hid (aT t (n+1)):=ht.out.mono (by omega)
 have wZ:Hid (qp K W0 x.kids xa):=JL HB0.out aR.out
 have hlen:x.kids.length≤9223372036854775807:=JM aR.out
 obtain ⟨hgb,g0,g1,g2,g3⟩:=h.out.ja.2
 have Rl:4<w.heap.size:=by have:=h.out.base;omega
 have Ei:1<w.heap.size:=by have:=h.out.base;omega
 have Ej:0<w.heap.size:=by omega
 clear hr her
 have hks:x.kind=4∨x.kind=6∨x.kind=7∨x.kind=8∨x.kind=9∨x.kind=10:=by omega
 have e1:(x.kind==1)=false:=by simp;omega
 have e2:(x.kind==2)=false:=by simp;omega
 have e3:(x.kind==3)=false:=by simp;omega
 clear hk
 go_enter Tryz.func133,Tryz.ntmps133
 go_upto_if 19 with fail
 rw [← HW0.out]
 go_cut [19] (fun u wx=>u=.bool true∧wx=W0)
 case first =>
  rcases hks with hk | hk | hk | hk | hk | hk
  ·have e4:(x.kind==4)=true:=by rw [hk];rfl
   clear hk
   go_wp2_with fail
   go_meet
   exact ⟨by first | rfl | rw [e4],rfl⟩
  ·have e4:(x.kind==4)=false:=by rw [hk];rfl
   have e6:(x.kind==6)=true:=by rw [hk];rfl
   clear hk
   go_wp2_with fail
   go_meet
   exact ⟨by first | rfl | rw [e6],rfl⟩
  ·have e4:(x.kind==4)=false:=by rw [hk];rfl
   have e6:(x.kind==6)=false:=by rw [hk];rfl
   have e7:(x.kind==7)=true:=by rw [hk];rfl
   clear hk
   go_wp2_with fail
   go_meet
   exact ⟨by first | rfl | rw [e7],rfl⟩
  ·have e4:(x.kind==4)=false:=by rw [hk];rfl
   have e6:(x.kind==6)=false:=by rw [hk];rfl
   have e7:(x.kind==7)=false:=by rw [hk];rfl
   have e8:(x.kind==8)=true:=by rw [hk];rfl
   clear hk
   go_wp2_with fail
   go_meet
   exact ⟨by first | rfl | rw [e8],rfl⟩
  ·have e4:(x.kind==4)=false:=by rw [hk];rfl
   have e6:(x.kind==6)=false:=by rw [hk];rfl
   have e7:(x.kind==7)=false:=by rw [hk];rfl
   have e8:(x.kind==8)=false:=by rw [hk];rfl
   have e9:(x.kind==9)=true:=by rw [hk];rfl
   clear hk
   go_wp2_with fail
   go_meet
   exact ⟨by first | rfl | rw [e9],rfl⟩
  ·have e4:(x.kind==4)=false:=by rw [hk];rfl
   have e6:(x.kind==6)=false:=by rw [hk];rfl
   have e7:(x.kind==7)=false:=by rw [hk];rfl
   have e8:(x.kind==8)=false:=by rw [hk];rfl
   have e9:(x.kind==9)=false:=by rw [hk];rfl
   have e10:(x.kind==10)=true:=by rw [hk];rfl
   clear hk
   go_wp2_with fail
   go_meet
   exact ⟨by first | rfl | rw [e10],rfl⟩
 case rest =>
  obtain ⟨rfl,hw⟩:=hcut
  clear g0 g1 g2 g3
  obtain ⟨_,g0,g1,g2,g3⟩:=HB0.out.ja.2
  have x3:W0.cell? ⟨w.heap.size,3,none⟩=some (.slice xa x.kids.length xc):=by simp [World.cell?,HX0.out.1]
  subst hw
  go_wp2_with fail
  refine (ng K v d (expr K.l me v d) hC (lF K.l me v d) x.kids xa xc num t (n+1) m _ _ HB0 wZ hlen hn HT1 h2 (by rw [← dL.out];exact rfl)).mono ?_
  rintro e w9 ⟨bM,dG⟩
  have bQ:Hid (af K w w9):=aM.out.trans bM
  cases er with
  | error y =>
   obtain ⟨rfl,v2,t2,hb2,hp2⟩:=dG
   have HE:Hid (Bf K w v r (.panicked [aH y K.num]) w9):=by
    rw [ae.out]
    exact ⟨bQ.out,rfl,v2,t2,hb2,hp2⟩
   clear bM hb2 hp2
   go_wp2
   exact ⟨rfl,HE.out⟩
  | ok t2 =>
   obtain ⟨rfl,dD⟩:=dG
   have fq:Hid (BW K w9 v t2):=dD
   have bX:Hid (r=.ok (aQ (⟨1,⟨#[]⟩⟩:Sy.Ty),v,t2)):=ae.out
   have j6:=hid (bM.at HZ0.out)
   obtain ⟨_,g0,g1,g2,g3⟩:=dD.ja.2
   clear bM dD
   have eB:=hid (nA (y:=(⟨1,⟨#[]⟩⟩:Sy.Ty)) (Z:=w.heap.size+1) fq.out bQ.out j6.out (by omega) hBw hF bX.out)
   obtain ⟨W9,dw⟩:∃ W9,W9=(w9.setCell ⟨w.heap.size+1,0,none⟩ (.int .i64 ((⟨1,⟨#[]⟩⟩:Sy.Ty)).kind)).setCell ⟨w.heap.size+1,1,none⟩ (.string ((⟨1,⟨#[]⟩⟩:Sy.Ty)).gen):=⟨_,rfl⟩
   have di:Hid (W9=_):=dw
   obtain ⟨oo,oq,ou,ow⟩:=bE (j6.out).1
   clear dw
   go_wp2
   rw [show (w9.setCell ⟨w.heap.size+1,0,none⟩ (.int .i64 ((⟨1,⟨#[]⟩⟩:Sy.Ty)).kind)).setCell ⟨w.heap.size+1,1,none⟩ (.string ((⟨1,⟨#[]⟩⟩:Sy.Ty)).gen)=W9 from di.out.symm]
   have q9:=eB.out.2
   rw [show j5 w9 (w.heap.size+1) (.int .i64 ((⟨1,⟨#[]⟩⟩:Sy.Ty)).kind) (.string ((⟨1,⟨#[]⟩⟩:Sy.Ty)).gen)=W9 from di.out.symm] at q9
   refine bodyPost_ret (v:=aQ (⟨1,⟨#[]⟩⟩:Sy.Ty)) (by simp [results,Tryz.results133,go_sem,World.cell?,q9]) rfl ?_
   rw [di.out]
   exact eB.out.1
theorem abI
  (K:BK) (v:Vars) (d:Nat) (me:Sy.Df) (hC:Hid (kF K v d (expr K.l me v d))) (x:Sy.Ex) (xa:Option Addr) (xc:Nat) (t:Tk) (n m:Nat) (w:World) (r:Except Int (Value × Vars × Tk)) (h:Hid (BW K w v t)) (hx:Hid (∃ h,aJ K.B w h x xa)) (hn:Hid (Sy.runs (Sy.aF d) x.kids (n+1)=.ok m)) (ht:Hid (aT t n)) (h2:n+1≤2000)
    (hr:Hid (r=andThen (expr K.l me v (d+1) x t) fun p=>.ok (aQ p.1,v,p.2)))
  (hk:13≤x.kind∧x.kind≤16) :
  Calls Tryz.prog 133 #[.pointer (some ⟨K.F,0,none⟩),dH x xa xc] w fun e w'=>Bf K w v r e w'
  := by
 have hF:=h.out.lt
 obtain ⟨W0,hW0⟩:∃ W0,W0=(w.alloc (aj x xa xc)).alloc zT:=⟨_,rfl⟩
 have aM:Hid (af K w W0):=by rw [hW0];exact af.grown (bu _ _) hF
 have HB0:Hid (BW K W0 v t):=by rw [hW0];exact h.out.grown (bu _ _)
 have HX0:Hid (W0.heap[w.heap.size]?=some (aj x xa xc)∧bA K W0 w.heap.size):=by
  rw [hW0]
  exact (af.alloc K _ _ (by simp;omega)).at (h.out.new _)
 have HZ0:Hid (W0.heap[w.heap.size+1]?=some zT∧bA K W0 (w.heap.size+1)):=by
  rw [hW0]
  refine ⟨?_,h.out.free (bu _ _) (by omega)⟩
  have:=heap_alloc_new (w.alloc (aj x xa xc)) zT
  simpa using this
 have aR:Hid (∃ h,aJ K.B W0 h x xa):=by
  obtain ⟨hh,hE⟩:=hx.out
  exact ⟨hh,hE.same (h.out.same aM.out)⟩
 have HW0:Hid (W0=_):=hW0
 have hBw:K.B≤w.heap.size+1:=by have:=h.out.base;omega
 clear hW0
 obtain ⟨er,her⟩:∃ er,er=must (expr K.l me v d) num x.kids t:=⟨_,rfl⟩
 have dL:Hid (er=must (expr K.l me v d) num x.kids t):=her
 have ae:Hid (r=andThen er fun t=>.ok (aQ (⟨2,⟨#[]⟩⟩:Sy.Ty),v,t)):=by
  unfold Hid
  rw [hr.out,expr,if_neg (by omega),if_neg (by omega),if_neg (by omega),if_neg (by omega),if_pos (by omega),her]
  cases must (expr K.l me v d) num x.kids t <;> rfl
 have HT1:Hid (aT t (n+1)):=ht.out.mono (by omega)
 have wZ:Hid (qp K W0 x.kids xa):=JL HB0.out aR.out
 have hlen:x.kids.length≤9223372036854775807:=JM aR.out
 obtain ⟨hgb,g0,g1,g2,g3⟩:=h.out.ja.2
 have Rl:4<w.heap.size:=by have:=h.out.base;omega
 have Ei:1<w.heap.size:=by have:=h.out.base;omega
 have Ej:0<w.heap.size:=by omega
 clear hr her
 have hks:x.kind=13∨x.kind=14∨x.kind=15∨x.kind=16:=by omega
 have e1:(x.kind==1)=false:=by simp;omega
 have e2:(x.kind==2)=false:=by simp;omega
 have e3:(x.kind==3)=false:=by simp;omega
 have e4:(x.kind==4)=false:=by simp;omega
 have e6:(x.kind==6)=false:=by simp;omega
 have e7:(x.kind==7)=false:=by simp;omega
 have e8:(x.kind==8)=false:=by simp;omega
 have e9:(x.kind==9)=false:=by simp;omega
 have e10:(x.kind==10)=false:=by simp;omega
 clear hk
 go_enter Tryz.func133,Tryz.ntmps133
 go_upto_if 32 with fail
 rw [← HW0.out]
 go_cut [32] (fun u wx=>u=.bool true∧wx=W0)
 case first =>
  rcases hks with hk | hk | hk | hk
  ·have e13:(x.kind==13)=true:=by rw [hk];rfl
   clear hk
   go_wp2_with fail
   go_meet
   exact ⟨by first | rfl | rw [e13],rfl⟩
  ·have e13:(x.kind==13)=false:=by rw [hk];rfl
   have e14:(x.kind==14)=true:=by rw [hk];rfl
   clear hk
   go_wp2_with fail
   go_meet
   exact ⟨by first | rfl | rw [e14],rfl⟩
  ·have e13:(x.kind==13)=false:=by rw [hk];rfl
   have e14:(x.kind==14)=false:=by rw [hk];rfl
   have e15:(x.kind==15)=true:=by rw [hk];rfl
   clear hk
   go_wp2_with fail
   go_meet
   exact ⟨by first | rfl | rw [e15],rfl⟩
  ·have e13:(x.kind==13)=false:=by rw [hk];rfl
   have e14:(x.kind==14)=false:=by rw [hk];rfl
   have e15:(x.kind==15)=false:=by rw [hk];rfl
   have e16:(x.kind==16)=true:=by rw [hk];rfl
   clear hk
   go_wp2_with fail
   go_meet
   exact ⟨by first | rfl | rw [e16],rfl⟩
 case rest =>
  obtain ⟨rfl,hw⟩:=hcut
  clear g0 g1 g2 g3
  obtain ⟨_,g0,g1,g2,g3⟩:=HB0.out.ja.2
  have x3:W0.cell? ⟨w.heap.size,3,none⟩=some (.slice xa x.kids.length xc):=by simp [World.cell?,HX0.out.1]
  subst hw
  go_wp2_with fail
  refine (ng K v d (expr K.l me v d) hC (lF K.l me v d) x.kids xa xc num t (n+1) m _ _ HB0 wZ hlen hn HT1 h2 (by rw [← dL.out];exact rfl)).mono ?_
  rintro e w9 ⟨bM,dG⟩
  have bQ:Hid (af K w w9):=aM.out.trans bM
  cases er with
  | error y =>
   obtain ⟨rfl,v2,t2,hb2,hp2⟩:=dG
   have HE:Hid (Bf K w v r (.panicked [aH y K.num]) w9):=by
    rw [ae.out]
    exact ⟨bQ.out,rfl,v2,t2,hb2,hp2⟩
   clear bM hb2 hp2
   go_wp2
   exact ⟨rfl,HE.out⟩
  | ok t2 =>
   obtain ⟨rfl,dD⟩:=dG
   have fq:Hid (BW K w9 v t2):=dD
   have bX:Hid (r=.ok (aQ (⟨2,⟨#[]⟩⟩:Sy.Ty),v,t2)):=ae.out
   have j6:=hid (bM.at HZ0.out)
   obtain ⟨_,g0,g1,g2,g3⟩:=dD.ja.2
   clear bM dD
   have eB:=hid (nA (y:=(⟨2,⟨#[]⟩⟩:Sy.Ty)) (Z:=w.heap.size+1) fq.out bQ.out j6.out (by omega) hBw hF bX.out)
   obtain ⟨W9,dw⟩:∃ W9,W9=(w9.setCell ⟨w.heap.size+1,0,none⟩ (.int .i64 ((⟨2,⟨#[]⟩⟩:Sy.Ty)).kind)).setCell ⟨w.heap.size+1,1,none⟩ (.string ((⟨2,⟨#[]⟩⟩:Sy.Ty)).gen):=⟨_,rfl⟩
   have di:Hid (W9=_):=dw
   obtain ⟨oo,oq,ou,ow⟩:=bE (j6.out).1
   clear dw
   go_wp2
   rw [show (w9.setCell ⟨w.heap.size+1,0,none⟩ (.int .i64 ((⟨2,⟨#[]⟩⟩:Sy.Ty)).kind)).setCell ⟨w.heap.size+1,1,none⟩ (.string ((⟨2,⟨#[]⟩⟩:Sy.Ty)).gen)=W9 from di.out.symm]
   have q9:=eB.out.2
   rw [show j5 w9 (w.heap.size+1) (.int .i64 ((⟨2,⟨#[]⟩⟩:Sy.Ty)).kind) (.string ((⟨2,⟨#[]⟩⟩:Sy.Ty)).gen)=W9 from di.out.symm] at q9
   refine bodyPost_ret (v:=aQ (⟨2,⟨#[]⟩⟩:Sy.Ty)) (by simp [results,Tryz.results133,go_sem,World.cell?,q9]) rfl ?_
   rw [di.out]
   exact eB.out.1
theorem abJ
  (K:BK) (v:Vars) (d:Nat) (me:Sy.Df) (hC:Hid (kF K v d (expr K.l me v d))) (x:Sy.Ex) (xa:Option Addr) (xc:Nat) (t:Tk) (n m:Nat) (w:World) (r:Except Int (Value × Vars × Tk)) (h:Hid (BW K w v t)) (hx:Hid (∃ h,aJ K.B w h x xa)) (hn:Hid (Sy.runs (Sy.aF d) x.kids (n+1)=.ok m)) (ht:Hid (aT t n)) (h2:n+1≤2000)
    (hr:Hid (r=andThen (expr K.l me v (d+1) x t) fun p=>.ok (aQ p.1,v,p.2)))
  (hk:x.kind=5∨x.kind=17∨x.kind=18) :
  Calls Tryz.prog 133 #[.pointer (some ⟨K.F,0,none⟩),dH x xa xc] w fun e w'=>Bf K w v r e w'
  := by
 have hF:=h.out.lt
 obtain ⟨W0,hW0⟩:∃ W0,W0=(w.alloc (aj x xa xc)).alloc zT:=⟨_,rfl⟩
 have aM:Hid (af K w W0):=by rw [hW0];exact af.grown (bu _ _) hF
 have HB0:Hid (BW K W0 v t):=by rw [hW0];exact h.out.grown (bu _ _)
 have HX0:Hid (W0.heap[w.heap.size]?=some (aj x xa xc)∧bA K W0 w.heap.size):=by
  rw [hW0]
  exact (af.alloc K _ _ (by simp;omega)).at (h.out.new _)
 have HZ0:Hid (W0.heap[w.heap.size+1]?=some zT∧bA K W0 (w.heap.size+1)):=by
  rw [hW0]
  refine ⟨?_,h.out.free (bu _ _) (by omega)⟩
  have:=heap_alloc_new (w.alloc (aj x xa xc)) zT
  simpa using this
 have aR:Hid (∃ h,aJ K.B W0 h x xa):=by
  obtain ⟨hh,hE⟩:=hx.out
  exact ⟨hh,hE.same (h.out.same aM.out)⟩
 have HW0:Hid (W0=_):=hW0
 have hBw:K.B≤w.heap.size+1:=by have:=h.out.base;omega
 clear hW0
 obtain ⟨er,her⟩:∃ er,er=must (expr K.l me v d) gH x.kids t:=⟨_,rfl⟩
 have dL:Hid (er=must (expr K.l me v d) gH x.kids t):=her
 have ae:Hid (r=andThen er fun t=>.ok (aQ (⟨2,⟨#[]⟩⟩:Sy.Ty),v,t)):=by
  unfold Hid
  rw [hr.out,expr,if_neg (by omega),if_neg (by omega),if_neg (by omega),if_neg (by omega),if_neg (by omega),if_pos (by omega),her]
  cases must (expr K.l me v d) gH x.kids t <;> rfl
 have HT1:Hid (aT t (n+1)):=ht.out.mono (by omega)
 have wZ:Hid (qp K W0 x.kids xa):=JL HB0.out aR.out
 have hlen:x.kids.length≤9223372036854775807:=JM aR.out
 obtain ⟨hgb,g0,g1,g2,g3⟩:=h.out.ja.2
 have Rl:4<w.heap.size:=by have:=h.out.base;omega
 have Ei:1<w.heap.size:=by have:=h.out.base;omega
 have Ej:0<w.heap.size:=by omega
 clear hr her
 have hks:x.kind=5∨x.kind=17∨x.kind=18:=by omega
 have e1:(x.kind==1)=false:=by simp;omega
 have e2:(x.kind==2)=false:=by simp;omega
 have e3:(x.kind==3)=false:=by simp;omega
 have e4:(x.kind==4)=false:=by simp;omega
 have e6:(x.kind==6)=false:=by simp;omega
 have e7:(x.kind==7)=false:=by simp;omega
 have e8:(x.kind==8)=false:=by simp;omega
 have e9:(x.kind==9)=false:=by simp;omega
 have e10:(x.kind==10)=false:=by simp;omega
 have e13:(x.kind==13)=false:=by simp;omega
 have e14:(x.kind==14)=false:=by simp;omega
 have e15:(x.kind==15)=false:=by simp;omega
 have e16:(x.kind==16)=false:=by simp;omega
 clear hk
 go_enter Tryz.func133,Tryz.ntmps133
 go_upto_if 43 with fail
 rw [← HW0.out]
 go_cut [43] (fun u wx=>u=.bool true∧wx=W0)
 case first =>
  rcases hks with hk | hk | hk
  ·have e5:(x.kind==5)=true:=by rw [hk];rfl
   clear hk
   go_wp2_with fail
   go_meet
   exact ⟨by first | rfl | rw [e5],rfl⟩
  ·have e5:(x.kind==5)=false:=by rw [hk];rfl
   have e17:(x.kind==17)=true:=by rw [hk];rfl
   clear hk
   go_wp2_with fail
   go_meet
   exact ⟨by first | rfl | rw [e17],rfl⟩
  ·have e5:(x.kind==5)=false:=by rw [hk];rfl
   have e17:(x.kind==17)=false:=by rw [hk];rfl
   have e18:(x.kind==18)=true:=by rw [hk];rfl
   clear hk
   go_wp2_with fail
   go_meet
   exact ⟨by first | rfl | rw [e18],rfl⟩
 case rest =>
  obtain ⟨rfl,hw⟩:=hcut
  clear g0 g1 g2 g3
  obtain ⟨_,g0,g1,g2,g3⟩:=HB0.out.ja.2
  have x3:W0.cell? ⟨w.heap.size,3,none⟩=some (.slice xa x.kids.length xc):=by simp [World.cell?,HX0.out.1]
  subst hw
  go_wp2_with fail
  refine (ng K v d (expr K.l me v d) hC (lF K.l me v d) x.kids xa xc gH t (n+1) m _ _ HB0 wZ hlen hn HT1 h2 (by rw [← dL.out];exact rfl)).mono ?_
  rintro e w9 ⟨bM,dG⟩
  have bQ:Hid (af K w w9):=aM.out.trans bM
  cases er with
  | error y =>
   obtain ⟨rfl,v2,t2,hb2,hp2⟩:=dG
   have HE:Hid (Bf K w v r (.panicked [aH y K.num]) w9):=by
    rw [ae.out]
    exact ⟨bQ.out,rfl,v2,t2,hb2,hp2⟩
   clear bM hb2 hp2
   go_wp2
   exact ⟨rfl,HE.out⟩
  | ok t2 =>
   obtain ⟨rfl,dD⟩:=dG
   have fq:Hid (BW K w9 v t2):=dD
   have bX:Hid (r=.ok (aQ (⟨2,⟨#[]⟩⟩:Sy.Ty),v,t2)):=ae.out
   have j6:=hid (bM.at HZ0.out)
   obtain ⟨_,g0,g1,g2,g3⟩:=dD.ja.2
   clear bM dD
   have eB:=hid (nA (y:=(⟨2,⟨#[]⟩⟩:Sy.Ty)) (Z:=w.heap.size+1) fq.out bQ.out j6.out (by omega) hBw hF bX.out)
   obtain ⟨W9,dw⟩:∃ W9,W9=(w9.setCell ⟨w.heap.size+1,0,none⟩ (.int .i64 ((⟨2,⟨#[]⟩⟩:Sy.Ty)).kind)).setCell ⟨w.heap.size+1,1,none⟩ (.string ((⟨2,⟨#[]⟩⟩:Sy.Ty)).gen):=⟨_,rfl⟩
   have di:Hid (W9=_):=dw
   obtain ⟨oo,oq,ou,ow⟩:=bE (j6.out).1
   clear dw
   go_wp2
   rw [show (w9.setCell ⟨w.heap.size+1,0,none⟩ (.int .i64 ((⟨2,⟨#[]⟩⟩:Sy.Ty)).kind)).setCell ⟨w.heap.size+1,1,none⟩ (.string ((⟨2,⟨#[]⟩⟩:Sy.Ty)).gen)=W9 from di.out.symm]
   have q9:=eB.out.2
   rw [show j5 w9 (w.heap.size+1) (.int .i64 ((⟨2,⟨#[]⟩⟩:Sy.Ty)).kind) (.string ((⟨2,⟨#[]⟩⟩:Sy.Ty)).gen)=W9 from di.out.symm] at q9
   refine bodyPost_ret (v:=aQ (⟨2,⟨#[]⟩⟩:Sy.Ty)) (by simp [results,Tryz.results133,go_sem,World.cell?,q9]) rfl ?_
   rw [di.out]
   exact eB.out.1
end Sm
namespace Sm
theorem vI {B:Nat}{w:World}{x kd ke:Sy.Ex}{xa:Option Addr}(hx:∃ h,aJ B w h x xa)(hkd:x.kids=[kd,ke]):∃ hh kb ko ka kc kl km,xa=some ⟨kb,ko,none⟩∧kb<B∧w.cell? ⟨kb,ko,none⟩=some (.int .i64 kd.kind)∧w.cell? ⟨kb,ko+1,none⟩=some (.int .i64 kd.n)∧w.cell? ⟨kb,ko+2,none⟩=some (.string kd.name)∧w.cell? ⟨kb,ko+3,none⟩=some (.slice ka kd.kids.length kc)∧aJ B w hh kd ka∧w.cell? ⟨kb,ko+4,none⟩=some (.int .i64 ke.kind)∧w.cell? ⟨kb,ko+5,none⟩=some (.int .i64 ke.n)∧w.cell? ⟨kb,ko+6,none⟩=some (.string ke.name)∧w.cell? ⟨kb,ko+7,none⟩=some (.slice kl ke.kids.length km)∧aJ B w hh ke kl:=by
 obtain ⟨hh,hE⟩:=hx
 cases hh with
 | zero=>exact hE.elim
 | succ hh =>
  obtain ⟨b',off',a',c',e1,e2,e3,e4,e5,e6,e7⟩:=hE.2.2 0 kd (by rw [hkd];rfl)
  obtain ⟨b2,abC,a2,c2,f1,f2,f3,f4,f5,f6,f7⟩:=hE.2.2 1 ke (by rw [hkd];rfl)
  rw [e1] at f1
  cases f1
  simp only [Nat.zero_mul,Nat.add_zero] at e3 e4 e5 e6
  simp only [Nat.one_mul,Nat.add_assoc,Nat.reduceAdd] at f3 f4 f5 f6
  exact ⟨hh,b',off',a',c',a2,c2,e1,e2,e3,e4,e5,e6,e7,f3,f4,f5,f6,f7⟩
theorem qM {B:Nat}{w:World}{x kd:Sy.Ex}{xa:Option Addr}(hx:∃ h,aJ B w h x xa)(hkd:x.kids=[kd]):∃ hh kb ko ka kc,xa=some ⟨kb,ko,none⟩∧kb<B∧w.cell? ⟨kb,ko,none⟩=some (.int .i64 kd.kind)∧w.cell? ⟨kb,ko+1,none⟩=some (.int .i64 kd.n)∧w.cell? ⟨kb,ko+2,none⟩=some (.string kd.name)∧w.cell? ⟨kb,ko+3,none⟩=some (.slice ka kd.kids.length kc)∧aJ B w hh kd ka:=by
 obtain ⟨hh,hE⟩:=hx
 cases hh with
 | zero=>exact hE.elim
 | succ hh =>
  obtain ⟨b',off',a',c',e1,e2,e3,e4,e5,e6,e7⟩:=hE.2.2 0 kd (by rw [hkd];rfl)
  simp only [Nat.zero_mul,Nat.add_zero] at e3 e4 e5 e6
  exact ⟨hh,b',off',a',c',e1,e2,e3,e4,e5,e6,e7⟩
theorem abK
  (K:BK) (v:Vars) (d:Nat) (me:Sy.Df) (hC:Hid (kF K v d (expr K.l me v d))) (x:Sy.Ex) (xa:Option Addr) (xc:Nat) (t:Tk) (n m:Nat) (w:World) (r:Except Int (Value × Vars × Tk)) (h:Hid (BW K w v t)) (hx:Hid (∃ h,aJ K.B w h x xa)) (hn:Hid (Sy.runs (Sy.aF d) x.kids (n+1)=.ok m)) (ht:Hid (aT t n)) (h2:n+1≤2000)
    (hr:Hid (r=andThen (expr K.l me v (d+1) x t) fun p=>.ok (aQ p.1,v,p.2)))
  (hk:x.kind=11∨x.kind=12) (hh:Sy.dU x=0) :
  Calls Tryz.prog 133 #[.pointer (some ⟨K.F,0,none⟩),dH x xa xc] w fun e w'=>Bf K w v r e w'
  := by
 obtain ⟨kd,ke,hkd⟩:=Ec hh (by omega)
 have hF:=h.out.lt
 obtain ⟨W0,hW0⟩:∃ W0,W0=(w.alloc (aj x xa xc)).alloc zT:=⟨_,rfl⟩
 have aM:Hid (af K w W0):=by rw [hW0];exact af.grown (bu _ _) hF
 have HB0:Hid (BW K W0 v t):=by rw [hW0];exact h.out.grown (bu _ _)
 have HX0:Hid (W0.heap[w.heap.size]?=some (aj x xa xc)∧bA K W0 w.heap.size):=by
  rw [hW0]
  exact (af.alloc K _ _ (by simp;omega)).at (h.out.new _)
 have HZ0:Hid (W0.heap[w.heap.size+1]?=some zT∧bA K W0 (w.heap.size+1)):=by
  rw [hW0]
  refine ⟨?_,h.out.free (bu _ _) (by omega)⟩
  have:=heap_alloc_new (w.alloc (aj x xa xc)) zT
  simpa using this
 have aR:Hid (∃ h,aJ K.B W0 h x xa):=by
  obtain ⟨hh,hE⟩:=hx.out
  exact ⟨hh,hE.same (h.out.same aM.out)⟩
 have HW0:Hid (W0=_):=hW0
 have hBw:K.B≤w.heap.size+1:=by have:=h.out.base;omega
 clear hW0
 have hx0:kid x 0=kd:=by simp [kid,hkd]
 have hx1:kid x 1=ke:=by simp [kid,hkd]
 obtain ⟨r1,hr1⟩:∃ r1,r1=expr K.l me v d kd t:=⟨_,rfl⟩
 have bI:Hid (r1=expr K.l me v d kd t):=hr1
 have ae:Hid (r=andThen r1 fun a=>andThen (expr K.l me v d ke a.2) fun b=>andThen (plain a.1) fun _=>if Sm.same a.1 b.1=true then .ok (aQ (⟨2,⟨#[]⟩⟩:Sy.Ty),v,b.2) else .error 9):=by
  unfold Hid
  rw [hr.out,expr,if_neg (by omega),if_neg (by omega),if_neg (by omega),if_neg (by omega),if_neg (by omega),if_neg (by omega),if_pos (by omega),hx0,hx1,hr1]
  cases expr K.l me v d kd t with
  | error e=>rfl
  | ok a =>
   rw [andThen_ok,andThen_ok]
   cases expr K.l me v d ke a.2 with
   | error e=>rfl
   | ok b =>
    rw [andThen_ok,andThen_ok]
    cases plain a.1 with
    | error e=>rfl
    | ok u=>rw [andThen_ok,andThen_ok];split <;> rfl
 have hn':=hn.out
 rw [hkd] at hn'
 obtain ⟨n1,hn1,hn2⟩:=og hn'
 have ib:Hid (Sy.aF d kd (n+1)=.ok n1):=hn1
 have nK:Hid (Sy.aF d ke n1=.ok m):=by
  obtain ⟨k2,hk2,hk3⟩:=og hn2
  cases hk3
  exact hk2
 have h12:n1≤2000:=Sy.jw d kd (n+1) n1 h2 hn1
 have HT1:Hid (aT t (n+1)):=ht.out.mono (by omega)
 obtain ⟨hh',kb,ko,ka,kc,kl,km,hxa,hkb,q0,q1,q2,q3,hkx,p0,p1,p2,p3,Bv⟩:=vI aR.out hkd
 have jq:Hid (∃ h,aJ K.B W0 h kd ka):=⟨hh',hkx⟩
 have Eh:Hid (∃ h,aJ K.B W0 h ke kl):=⟨hh',Bv⟩
 have hl2:x.kids.length=2:=by rw [hkd];rfl
 have l0:(0:Int)<(x.kids.length:Int):=by omega
 have l1:(1:Int)<(x.kids.length:Int):=by omega
 have l0n:0<x.kids.length:=by omega
 have l1n:1<x.kids.length:=by omega
 subst hxa
 have HS:Hid (∀ w',af K W0 w'→w'.cell? ⟨w.heap.size,3,none⟩=some (.slice (some ⟨kb,ko,none⟩) x.kids.length xc)∧w'.cell? ⟨kb,ko,none⟩=some (.int .i64 kd.kind)∧w'.cell? ⟨kb,ko+1,none⟩=some (.int .i64 kd.n)∧w'.cell? ⟨kb,ko+2,none⟩=some (.string kd.name)∧w'.cell? ⟨kb,ko+3,none⟩=some (.slice ka kd.kids.length kc)∧w'.cell? ⟨kb,ko+4,none⟩=some (.int .i64 ke.kind)∧w'.cell? ⟨kb,ko+5,none⟩=some (.int .i64 ke.n)∧w'.cell? ⟨kb,ko+6,none⟩=some (.string ke.name)∧w'.cell? ⟨kb,ko+7,none⟩=some (.slice kl ke.kids.length km)):=fun w' hk=>by
  obtain ⟨_,_,_,pX⟩:=jc (hk.at HX0.out).1
  have old:∀ o,w'.cell? ⟨kb,o,none⟩=W0.cell? ⟨kb,o,none⟩:=fun o=>HB0.out.same hk kb o hkb
  rw [old,old,old,old,old,old,old,old]
  exact ⟨pX,q0,q1,q2,q3,p0,p1,p2,p3⟩
 clear hr hn hn' hkd hh hx0 hx1 hr1 hn1 hn2 hkx Bv hl2 q0 q1 q2 q3 p0 p1 p2 p3
 rcases hk with hk | hk
 ·have e1:(x.kind==1)=false:=by rw [hk];rfl
  have e2:(x.kind==2)=false:=by rw [hk];rfl
  have e3:(x.kind==3)=false:=by rw [hk];rfl
  have e4:(x.kind==4)=false:=by rw [hk];rfl
  have e6:(x.kind==6)=false:=by rw [hk];rfl
  have e7:(x.kind==7)=false:=by rw [hk];rfl
  have e8:(x.kind==8)=false:=by rw [hk];rfl
  have e9:(x.kind==9)=false:=by rw [hk];rfl
  have e10:(x.kind==10)=false:=by rw [hk];rfl
  have e13:(x.kind==13)=false:=by rw [hk];rfl
  have e14:(x.kind==14)=false:=by rw [hk];rfl
  have e15:(x.kind==15)=false:=by rw [hk];rfl
  have e16:(x.kind==16)=false:=by rw [hk];rfl
  have e5:(x.kind==5)=false:=by rw [hk];rfl
  have e17:(x.kind==17)=false:=by rw [hk];rfl
  have e18:(x.kind==18)=false:=by rw [hk];rfl
  have e11:(x.kind==11)=true:=by rw [hk];rfl
  clear hk
  go_enter Tryz.func133,Tryz.ntmps133
  go_wp2_with fail
  rw [← HW0.out]
  refine wp_region_held_drew (S:=fun w'=>w'.cell? ⟨w.heap.size,3,none⟩=some (.slice (some ⟨kb,ko,none⟩) x.kids.length xc)∧w'.cell? ⟨kb,ko,none⟩=some (.int .i64 kd.kind)∧w'.cell? ⟨kb,ko+1,none⟩=some (.int .i64 kd.n)∧w'.cell? ⟨kb,ko+2,none⟩=some (.string kd.name)∧w'.cell? ⟨kb,ko+3,none⟩=some (.slice ka kd.kids.length kc)∧w'.cell? ⟨kb,ko+4,none⟩=some (.int .i64 ke.kind)∧w'.cell? ⟨kb,ko+5,none⟩=some (.int .i64 ke.n)∧w'.cell? ⟨kb,ko+6,none⟩=some (.string ke.name)∧w'.cell? ⟨kb,ko+7,none⟩=some (.slice kl ke.kids.length km)) (by kernel_rfl) (HS.out W0 (af.refl _ _)) (fun hHeld=>?_)
  refine tk 0 (v:=?_) rfl ?_ (by assumption) ?_
  rotate_left
  ·intro w hSw
   (try dsimp only at hSw)
   go_simp
   (try with_reducible rfl)
  (try go_frame)
  refine tk 1 (v:=?_) rfl ?_ (by assumption) ?_
  rotate_left
  ·intro w hSw
   (try dsimp only at hSw)
   go_simp
   (try with_reducible rfl)
  (try go_frame)
  refine tk 2 (v:=?_) rfl ?_ (by assumption) ?_
  rotate_left
  ·intro w hSw
   (try dsimp only at hSw)
   go_simp
   (try with_reducible rfl)
  (try go_frame)
  refine tk 3 (v:=?_) rfl ?_ (by assumption) ?_
  rotate_left
  ·intro w hSw
   (try dsimp only at hSw)
   go_simp
   (try with_reducible rfl)
  (try go_frame)
  refine tk 4 (v:=?_) rfl ?_ (by assumption) ?_
  rotate_left
  ·intro w hSw
   (try dsimp only at hSw)
   go_simp
   (try with_reducible rfl)
  (try go_frame)
  refine tk 5 (v:=?_) rfl ?_ (by assumption) ?_
  rotate_left
  ·intro w hSw
   (try dsimp only at hSw)
   go_simp
   (try with_reducible rfl)
  (try go_frame)
  refine tk 7 (v:=?_) rfl ?_ (by assumption) ?_
  rotate_left
  ·intro w hSw
   (try dsimp only at hSw)
   go_simp
   (try with_reducible rfl)
  (try go_frame)
  refine tk 8 (v:=?_) rfl ?_ (by assumption) ?_
  rotate_left
  ·intro w hSw
   (try dsimp only at hSw)
   go_simp
   (try with_reducible rfl)
  (try go_frame)
  refine tk 9 (v:=?_) rfl ?_ (by assumption) ?_
  rotate_left
  ·intro w hSw
   (try dsimp only at hSw)
   go_simp
   (try with_reducible rfl)
  (try go_frame)
  refine tk 10 (v:=?_) rfl ?_ (by assumption) ?_
  rotate_left
  ·intro w hSw
   (try dsimp only at hSw)
   go_simp
   (try with_reducible rfl)
  (try go_frame)
  refine tk 11 (v:=?_) rfl ?_ (by assumption) ?_
  rotate_left
  ·intro w hSw
   (try dsimp only at hSw)
   go_simp
   (try with_reducible rfl)
  (try go_frame)
  refine wpAnyH_ready (rs:=[6]) (by kernel_rfl) (by simp) ?_
  refine AllReadyH.cons (o:=_) rfl (fun K' hK=>?_) AllReadyH.nil
  go_simp
  refine (hC.out kd ka kc t (n+1) n1 W0.drew _ (by exact HB0.out.drew) (by obtain ⟨hh,hE⟩:=jq.out;exact ⟨hh,aJ.same (w:=W0) (w':=W0.drew) (fun _ _ _=>rfl) _ _ _ hE⟩) ib HT1 h2 (by rw [← bI.out];exact rfl)).mono ?_
  rintro e w1 ⟨qz,he1⟩
  have bP:Hid (af K W0 w1):=qz.yL
  clear qz
  cases r1 with
  | error y =>
   obtain ⟨rfl,v2,t2,hb2,hp2⟩:=he1
   have HE:Hid (Bf K w v r (.panicked [aH y K.num]) w1):=by
    rw [ae.out]
    exact ⟨aM.out.trans bP.out,rfl,v2,t2,hb2,hp2⟩
   clear hK hb2 hp2
   go_wp2
   exact ⟨rfl,HE.out⟩
  | ok p =>
   obtain ⟨ya,t1⟩:=p
   obtain ⟨rfl,hb1⟩:=he1
   have HB1:Hid (BW K w1 v t1):=hb1
   have HT2:Hid (aT t1 n1):=lF K.l me v d kd t (n+1) n1 ya t1 ib.out HT1.out bI.out.symm
   obtain ⟨r2,hr2⟩:∃ r2,r2=expr K.l me v d ke t1:=⟨_,rfl⟩
   have HE2:Hid (r2=expr K.l me v d ke t1):=hr2
   have qw:Hid (r=andThen r2 fun b=>andThen (plain ya) fun _=>if Sm.same ya b.1=true then .ok (aQ (⟨2,⟨#[]⟩⟩:Sy.Ty),v,b.2) else .error 9):=by unfold Hid;rw [ae.out,andThen_ok,hr2]
   have JN:Hid (∃ h,aJ K.B w1 h ke kl):=by
    obtain ⟨hh,hE⟩:=Eh.out
    exact ⟨hh,hE.same (HB0.out.same bP.out)⟩
   refine hK.out _ _ (HS.out w1 bP.out) (fun hHeld=>?_)
   clear hK hb1 hr2
   refine wpAnyH_ready (rs:=[12]) (by kernel_rfl) (by simp) ?_
   refine AllReadyH.cons (o:=_) rfl (fun K' hK=>?_) AllReadyH.nil
   go_simp
   refine (hC.out ke kl km t1 n1 m w1 _ HB1 JN nK HT2 h12 (by rw [← HE2.out];exact rfl)).mono ?_
   rintro e w2 ⟨hk2,he2⟩
   have bD:Hid (af K W0 w2):=bP.out.trans hk2
   clear hk2
   cases r2 with
   | error y =>
    obtain ⟨rfl,v2,t2,hb2,hp2⟩:=he2
    have HE:Hid (Bf K w v r (.panicked [aH y K.num]) w2):=by
     rw [qw.out]
     exact ⟨aM.out.trans bD.out,rfl,v2,t2,hb2,hp2⟩
    clear hK hb2 hp2
    go_wp2
    exact ⟨rfl,HE.out⟩
   | ok p =>
    obtain ⟨yb,t2⟩:=p
    obtain ⟨rfl,hb2⟩:=he2
    have HB2:Hid (BW K w2 v t2):=hb2
    obtain ⟨rv,bf⟩:∃ rv:Except Int Value,rv=match Sm.plain ya with | .error e=>.error e | .ok _=>if Sm.same ya yb=true then .ok (.tuple #[]) else .error 9:=⟨_,rfl⟩
    have dV:Hid (rv=match Sm.plain ya with | .error e=>.error e | .ok _=>if Sm.same ya yb=true then .ok (.tuple #[]) else .error 9):=bf
    have si:Hid (r=andThen rv fun _=>.ok (aQ (⟨2,⟨#[]⟩⟩:Sy.Ty),v,t2)):=by
     unfold Hid
     rw [qw.out,andThen_ok,bf]
     cases Sm.plain ya with
     | error e=>rfl
     | ok u=>dsimp only [andThen];split <;> rfl
    refine hK.out _ _ (HS.out w2 bD.out) (fun hHeld=>?_)
    clear hK hb2 bf
    refine wpAnyH_ready (rs:=[13]) (by kernel_rfl) (by simp) ?_
    refine AllReadyH.cons (o:=_) rfl (fun K' hK=>?_) AllReadyH.nil
    go_simp
    refine (Qz K v t2 ya yb w2 rv HB2 dV).mono ?_
    rintro e w3 ⟨hg3,fG⟩
    have HB3:Hid (BW K w3 v t2):=HB2.out.grown hg3
    have lH:Hid (af K W0 w3):=bD.out.trans (af.grown hg3 HB2.out.lt)
    have fe:Hid (af K w w3):=aM.out.trans lH.out
    cases rv with
    | error y =>
     obtain rfl:=fG
     have HE:Hid (Bf K w v r (.panicked [aH y K.num]) w3):=by
      rw [si.out]
      exact ⟨fe.out,rfl,v,t2,HB3.out,List.prefix_refl _⟩
     clear hK hg3
     go_wp2
     exact ⟨rfl,HE.out⟩
    | ok u =>
     obtain rfl:=fG
     have bX:Hid (r=.ok (aQ (⟨2,⟨#[]⟩⟩:Sy.Ty),v,t2)):=si.out
     have HZ3:=hid (lH.out.at HZ0.out)
     obtain ⟨_,g0,g1,g2,g3⟩:=HB3.out.ja.2
     refine hK.out _ _ (HS.out w3 lH.out) (fun hHeld=>?_)
     clear hK hg3 hHeld
     refine wpAnyH_done (by kernel_rfl) ?_ _
     have eB:=hid (nA (y:=(⟨2,⟨#[]⟩⟩:Sy.Ty)) (Z:=w.heap.size+1) HB3.out fe.out HZ3.out (by omega) hBw hF bX.out)
     obtain ⟨W9,dw⟩:∃ W9,W9=(w3.setCell ⟨w.heap.size+1,0,none⟩ (.int .i64 ((⟨2,⟨#[]⟩⟩:Sy.Ty)).kind)).setCell ⟨w.heap.size+1,1,none⟩ (.string ((⟨2,⟨#[]⟩⟩:Sy.Ty)).gen):=⟨_,rfl⟩
     have di:Hid (W9=_):=dw
     obtain ⟨oo,oq,ou,ow⟩:=bE (HZ3.out).1
     clear dw
     go_wp2
     rw [show (w3.setCell ⟨w.heap.size+1,0,none⟩ (.int .i64 ((⟨2,⟨#[]⟩⟩:Sy.Ty)).kind)).setCell ⟨w.heap.size+1,1,none⟩ (.string ((⟨2,⟨#[]⟩⟩:Sy.Ty)).gen)=W9 from di.out.symm]
     have q9:=eB.out.2
     rw [show j5 w3 (w.heap.size+1) (.int .i64 ((⟨2,⟨#[]⟩⟩:Sy.Ty)).kind) (.string ((⟨2,⟨#[]⟩⟩:Sy.Ty)).gen)=W9 from di.out.symm] at q9
     refine bodyPost_ret (v:=aQ (⟨2,⟨#[]⟩⟩:Sy.Ty)) (by simp [results,Tryz.results133,go_sem,World.cell?,q9]) rfl ?_
     rw [di.out]
     exact eB.out.1
 ·have e1:(x.kind==1)=false:=by rw [hk];rfl
  have e2:(x.kind==2)=false:=by rw [hk];rfl
  have e3:(x.kind==3)=false:=by rw [hk];rfl
  have e4:(x.kind==4)=false:=by rw [hk];rfl
  have e6:(x.kind==6)=false:=by rw [hk];rfl
  have e7:(x.kind==7)=false:=by rw [hk];rfl
  have e8:(x.kind==8)=false:=by rw [hk];rfl
  have e9:(x.kind==9)=false:=by rw [hk];rfl
  have e10:(x.kind==10)=false:=by rw [hk];rfl
  have e13:(x.kind==13)=false:=by rw [hk];rfl
  have e14:(x.kind==14)=false:=by rw [hk];rfl
  have e15:(x.kind==15)=false:=by rw [hk];rfl
  have e16:(x.kind==16)=false:=by rw [hk];rfl
  have e5:(x.kind==5)=false:=by rw [hk];rfl
  have e17:(x.kind==17)=false:=by rw [hk];rfl
  have e18:(x.kind==18)=false:=by rw [hk];rfl
  have e11:(x.kind==11)=false:=by rw [hk];rfl
  have e12:(x.kind==12)=true:=by rw [hk];rfl
  clear hk
  go_enter Tryz.func133,Tryz.ntmps133
  go_wp2_with fail
  rw [← HW0.out]
  refine wp_region_held_drew (S:=fun w'=>w'.cell? ⟨w.heap.size,3,none⟩=some (.slice (some ⟨kb,ko,none⟩) x.kids.length xc)∧w'.cell? ⟨kb,ko,none⟩=some (.int .i64 kd.kind)∧w'.cell? ⟨kb,ko+1,none⟩=some (.int .i64 kd.n)∧w'.cell? ⟨kb,ko+2,none⟩=some (.string kd.name)∧w'.cell? ⟨kb,ko+3,none⟩=some (.slice ka kd.kids.length kc)∧w'.cell? ⟨kb,ko+4,none⟩=some (.int .i64 ke.kind)∧w'.cell? ⟨kb,ko+5,none⟩=some (.int .i64 ke.n)∧w'.cell? ⟨kb,ko+6,none⟩=some (.string ke.name)∧w'.cell? ⟨kb,ko+7,none⟩=some (.slice kl ke.kids.length km)) (by kernel_rfl) (HS.out W0 (af.refl _ _)) (fun hHeld=>?_)
  refine tk 0 (v:=?_) rfl ?_ (by assumption) ?_
  rotate_left
  ·intro w hSw
   (try dsimp only at hSw)
   go_simp
   (try with_reducible rfl)
  (try go_frame)
  refine tk 1 (v:=?_) rfl ?_ (by assumption) ?_
  rotate_left
  ·intro w hSw
   (try dsimp only at hSw)
   go_simp
   (try with_reducible rfl)
  (try go_frame)
  refine tk 2 (v:=?_) rfl ?_ (by assumption) ?_
  rotate_left
  ·intro w hSw
   (try dsimp only at hSw)
   go_simp
   (try with_reducible rfl)
  (try go_frame)
  refine tk 3 (v:=?_) rfl ?_ (by assumption) ?_
  rotate_left
  ·intro w hSw
   (try dsimp only at hSw)
   go_simp
   (try with_reducible rfl)
  (try go_frame)
  refine tk 4 (v:=?_) rfl ?_ (by assumption) ?_
  rotate_left
  ·intro w hSw
   (try dsimp only at hSw)
   go_simp
   (try with_reducible rfl)
  (try go_frame)
  refine tk 5 (v:=?_) rfl ?_ (by assumption) ?_
  rotate_left
  ·intro w hSw
   (try dsimp only at hSw)
   go_simp
   (try with_reducible rfl)
  (try go_frame)
  refine tk 7 (v:=?_) rfl ?_ (by assumption) ?_
  rotate_left
  ·intro w hSw
   (try dsimp only at hSw)
   go_simp
   (try with_reducible rfl)
  (try go_frame)
  refine tk 8 (v:=?_) rfl ?_ (by assumption) ?_
  rotate_left
  ·intro w hSw
   (try dsimp only at hSw)
   go_simp
   (try with_reducible rfl)
  (try go_frame)
  refine tk 9 (v:=?_) rfl ?_ (by assumption) ?_
  rotate_left
  ·intro w hSw
   (try dsimp only at hSw)
   go_simp
   (try with_reducible rfl)
  (try go_frame)
  refine tk 10 (v:=?_) rfl ?_ (by assumption) ?_
  rotate_left
  ·intro w hSw
   (try dsimp only at hSw)
   go_simp
   (try with_reducible rfl)
  (try go_frame)
  refine tk 11 (v:=?_) rfl ?_ (by assumption) ?_
  rotate_left
  ·intro w hSw
   (try dsimp only at hSw)
   go_simp
   (try with_reducible rfl)
  (try go_frame)
  refine wpAnyH_ready (rs:=[6]) (by kernel_rfl) (by simp) ?_
  refine AllReadyH.cons (o:=_) rfl (fun K' hK=>?_) AllReadyH.nil
  go_simp
  refine (hC.out kd ka kc t (n+1) n1 W0.drew _ (by exact HB0.out.drew) (by obtain ⟨hh,hE⟩:=jq.out;exact ⟨hh,aJ.same (w:=W0) (w':=W0.drew) (fun _ _ _=>rfl) _ _ _ hE⟩) ib HT1 h2 (by rw [← bI.out];exact rfl)).mono ?_
  rintro e w1 ⟨qz,he1⟩
  have bP:Hid (af K W0 w1):=qz.yL
  clear qz
  cases r1 with
  | error y =>
   obtain ⟨rfl,v2,t2,hb2,hp2⟩:=he1
   have HE:Hid (Bf K w v r (.panicked [aH y K.num]) w1):=by
    rw [ae.out]
    exact ⟨aM.out.trans bP.out,rfl,v2,t2,hb2,hp2⟩
   clear hK hb2 hp2
   go_wp2
   exact ⟨rfl,HE.out⟩
  | ok p =>
   obtain ⟨ya,t1⟩:=p
   obtain ⟨rfl,hb1⟩:=he1
   have HB1:Hid (BW K w1 v t1):=hb1
   have HT2:Hid (aT t1 n1):=lF K.l me v d kd t (n+1) n1 ya t1 ib.out HT1.out bI.out.symm
   obtain ⟨r2,hr2⟩:∃ r2,r2=expr K.l me v d ke t1:=⟨_,rfl⟩
   have HE2:Hid (r2=expr K.l me v d ke t1):=hr2
   have qw:Hid (r=andThen r2 fun b=>andThen (plain ya) fun _=>if Sm.same ya b.1=true then .ok (aQ (⟨2,⟨#[]⟩⟩:Sy.Ty),v,b.2) else .error 9):=by unfold Hid;rw [ae.out,andThen_ok,hr2]
   have JN:Hid (∃ h,aJ K.B w1 h ke kl):=by
    obtain ⟨hh,hE⟩:=Eh.out
    exact ⟨hh,hE.same (HB0.out.same bP.out)⟩
   refine hK.out _ _ (HS.out w1 bP.out) (fun hHeld=>?_)
   clear hK hb1 hr2
   refine wpAnyH_ready (rs:=[12]) (by kernel_rfl) (by simp) ?_
   refine AllReadyH.cons (o:=_) rfl (fun K' hK=>?_) AllReadyH.nil
   go_simp
   refine (hC.out ke kl km t1 n1 m w1 _ HB1 JN nK HT2 h12 (by rw [← HE2.out];exact rfl)).mono ?_
   rintro e w2 ⟨hk2,he2⟩
   have bD:Hid (af K W0 w2):=bP.out.trans hk2
   clear hk2
   cases r2 with
   | error y =>
    obtain ⟨rfl,v2,t2,hb2,hp2⟩:=he2
    have HE:Hid (Bf K w v r (.panicked [aH y K.num]) w2):=by
     rw [qw.out]
     exact ⟨aM.out.trans bD.out,rfl,v2,t2,hb2,hp2⟩
    clear hK hb2 hp2
    go_wp2
    exact ⟨rfl,HE.out⟩
   | ok p =>
    obtain ⟨yb,t2⟩:=p
    obtain ⟨rfl,hb2⟩:=he2
    have HB2:Hid (BW K w2 v t2):=hb2
    obtain ⟨rv,bf⟩:∃ rv:Except Int Value,rv=match Sm.plain ya with | .error e=>.error e | .ok _=>if Sm.same ya yb=true then .ok (.tuple #[]) else .error 9:=⟨_,rfl⟩
    have dV:Hid (rv=match Sm.plain ya with | .error e=>.error e | .ok _=>if Sm.same ya yb=true then .ok (.tuple #[]) else .error 9):=bf
    have si:Hid (r=andThen rv fun _=>.ok (aQ (⟨2,⟨#[]⟩⟩:Sy.Ty),v,t2)):=by
     unfold Hid
     rw [qw.out,andThen_ok,bf]
     cases Sm.plain ya with
     | error e=>rfl
     | ok u=>dsimp only [andThen];split <;> rfl
    refine hK.out _ _ (HS.out w2 bD.out) (fun hHeld=>?_)
    clear hK hb2 bf
    refine wpAnyH_ready (rs:=[13]) (by kernel_rfl) (by simp) ?_
    refine AllReadyH.cons (o:=_) rfl (fun K' hK=>?_) AllReadyH.nil
    go_simp
    refine (Qz K v t2 ya yb w2 rv HB2 dV).mono ?_
    rintro e w3 ⟨hg3,fG⟩
    have HB3:Hid (BW K w3 v t2):=HB2.out.grown hg3
    have lH:Hid (af K W0 w3):=bD.out.trans (af.grown hg3 HB2.out.lt)
    have fe:Hid (af K w w3):=aM.out.trans lH.out
    cases rv with
    | error y =>
     obtain rfl:=fG
     have HE:Hid (Bf K w v r (.panicked [aH y K.num]) w3):=by
      rw [si.out]
      exact ⟨fe.out,rfl,v,t2,HB3.out,List.prefix_refl _⟩
     clear hK hg3
     go_wp2
     exact ⟨rfl,HE.out⟩
    | ok u =>
     obtain rfl:=fG
     have bX:Hid (r=.ok (aQ (⟨2,⟨#[]⟩⟩:Sy.Ty),v,t2)):=si.out
     have HZ3:=hid (lH.out.at HZ0.out)
     obtain ⟨_,g0,g1,g2,g3⟩:=HB3.out.ja.2
     refine hK.out _ _ (HS.out w3 lH.out) (fun hHeld=>?_)
     clear hK hg3 hHeld
     refine wpAnyH_done (by kernel_rfl) ?_ _
     have eB:=hid (nA (y:=(⟨2,⟨#[]⟩⟩:Sy.Ty)) (Z:=w.heap.size+1) HB3.out fe.out HZ3.out (by omega) hBw hF bX.out)
     obtain ⟨W9,dw⟩:∃ W9,W9=(w3.setCell ⟨w.heap.size+1,0,none⟩ (.int .i64 ((⟨2,⟨#[]⟩⟩:Sy.Ty)).kind)).setCell ⟨w.heap.size+1,1,none⟩ (.string ((⟨2,⟨#[]⟩⟩:Sy.Ty)).gen):=⟨_,rfl⟩
     have di:Hid (W9=_):=dw
     obtain ⟨oo,oq,ou,ow⟩:=bE (HZ3.out).1
     clear dw
     go_wp2
     rw [show (w3.setCell ⟨w.heap.size+1,0,none⟩ (.int .i64 ((⟨2,⟨#[]⟩⟩:Sy.Ty)).kind)).setCell ⟨w.heap.size+1,1,none⟩ (.string ((⟨2,⟨#[]⟩⟩:Sy.Ty)).gen)=W9 from di.out.symm]
     have q9:=eB.out.2
     rw [show j5 w3 (w.heap.size+1) (.int .i64 ((⟨2,⟨#[]⟩⟩:Sy.Ty)).kind) (.string ((⟨2,⟨#[]⟩⟩:Sy.Ty)).gen)=W9 from di.out.symm] at q9
     refine bodyPost_ret (v:=aQ (⟨2,⟨#[]⟩⟩:Sy.Ty)) (by simp [results,Tryz.results133,go_sem,World.cell?,q9]) rfl ?_
     rw [di.out]
     exact eB.out.1
theorem abL
  (K:BK) (v:Vars) (d:Nat) (me:Sy.Df) (hC:Hid (kF K v d (expr K.l me v d))) (x:Sy.Ex) (xa:Option Addr) (xc:Nat) (t:Tk) (n m:Nat) (w:World) (r:Except Int (Value × Vars × Tk)) (h:Hid (BW K w v t)) (hx:Hid (∃ h,aJ K.B w h x xa)) (hn:Hid (Sy.runs (Sy.aF d) x.kids (n+1)=.ok m)) (ht:Hid (aT t n)) (h2:n+1≤2000)
    (hr:Hid (r=andThen (expr K.l me v (d+1) x t) fun p=>.ok (aQ p.1,v,p.2)))
  (hk:x.kind=24) (hh:Sy.dU x=0) :
  Calls Tryz.prog 133 #[.pointer (some ⟨K.F,0,none⟩),dH x xa xc] w fun e w'=>Bf K w v r e w'
  := by
 obtain ⟨kd,hkd⟩:=Eb hh (by omega)
 have hF:=h.out.lt
 obtain ⟨W0,hW0⟩:∃ W0,W0=(w.alloc (aj x xa xc)).alloc zT:=⟨_,rfl⟩
 have aM:Hid (af K w W0):=by rw [hW0];exact af.grown (bu _ _) hF
 have HB0:Hid (BW K W0 v t):=by rw [hW0];exact h.out.grown (bu _ _)
 have HX0:Hid (W0.heap[w.heap.size]?=some (aj x xa xc)∧bA K W0 w.heap.size):=by
  rw [hW0]
  exact (af.alloc K _ _ (by simp;omega)).at (h.out.new _)
 have HZ0:Hid (W0.heap[w.heap.size+1]?=some zT∧bA K W0 (w.heap.size+1)):=by
  rw [hW0]
  refine ⟨?_,h.out.free (bu _ _) (by omega)⟩
  have:=heap_alloc_new (w.alloc (aj x xa xc)) zT
  simpa using this
 have aR:Hid (∃ h,aJ K.B W0 h x xa):=by
  obtain ⟨hh,hE⟩:=hx.out
  exact ⟨hh,hE.same (h.out.same aM.out)⟩
 have HW0:Hid (W0=_):=hW0
 have hBw:K.B≤w.heap.size+1:=by have:=h.out.base;omega
 clear hW0
 have hx0:kid x 0=kd:=by simp [kid,hkd]
 obtain ⟨er,her⟩:∃ er,er=started K.l (expr K.l me v d) kd t:=⟨_,rfl⟩
 have dL:Hid (er=started K.l (expr K.l me v d) kd t):=her
 have ae:Hid (r=andThen er fun p=>.ok (aQ (⟨2,⟨#[]⟩⟩:Sy.Ty),v,p.2)):=by
  unfold Hid
  rw [hr.out,expr,if_neg (by omega),if_neg (by omega),if_neg (by omega),if_neg (by omega),if_neg (by omega),if_neg (by omega),if_neg (by omega),if_pos hk,hx0,her]
  cases started K.l (expr K.l me v d) kd t <;> rfl
 have hn':=hn.out
 rw [hkd] at hn'
 obtain ⟨n1,hn1,hn2⟩:=og hn'
 have ib:Hid (Sy.aF d kd (n+1)=.ok n1):=hn1
 have HT1:Hid (aT t (n+1)):=ht.out.mono (by omega)
 obtain ⟨hh',kb,ko,ka,kc,hxa,hkb,q0,q1,q2,q3,hkx⟩:=qM hx.out hkd
 have jq:Hid (∃ h,aJ K.B W0 h kd ka):=⟨hh',hkx.same (h.out.same aM.out)⟩
 have hl2:x.kids.length=1:=by rw [hkd];rfl
 have l0:(0:Int)<(x.kids.length:Int):=by omega
 have Rf:kb<w.heap.size:=by have:=h.out.base;omega
 subst hxa
 have e1:(x.kind==1)=false:=by rw [hk];rfl
 have e2:(x.kind==2)=false:=by rw [hk];rfl
 have e3:(x.kind==3)=false:=by rw [hk];rfl
 have e4:(x.kind==4)=false:=by rw [hk];rfl
 have e6:(x.kind==6)=false:=by rw [hk];rfl
 have e7:(x.kind==7)=false:=by rw [hk];rfl
 have e8:(x.kind==8)=false:=by rw [hk];rfl
 have e9:(x.kind==9)=false:=by rw [hk];rfl
 have e10:(x.kind==10)=false:=by rw [hk];rfl
 have e13:(x.kind==13)=false:=by rw [hk];rfl
 have e14:(x.kind==14)=false:=by rw [hk];rfl
 have e15:(x.kind==15)=false:=by rw [hk];rfl
 have e16:(x.kind==16)=false:=by rw [hk];rfl
 have e5:(x.kind==5)=false:=by rw [hk];rfl
 have e17:(x.kind==17)=false:=by rw [hk];rfl
 have e18:(x.kind==18)=false:=by rw [hk];rfl
 have e11:(x.kind==11)=false:=by rw [hk];rfl
 have e12:(x.kind==12)=false:=by rw [hk];rfl
 have e24:(x.kind==24)=true:=by rw [hk];rfl
 clear hr hk hn hn' hkd hh hx0 her hn1 hn2 hkx hl2
 go_enter Tryz.func133,Tryz.ntmps133
 go_wp2_with fail
 rw [← HW0.out]
 refine (QL K v d (expr K.l me v d) hC kd ka kc t (n+1) n1 W0 er HB0 jq ib HT1 h2 dL).mono ?_
 rintro e w9 ⟨bM,dG⟩
 have bQ:Hid (af K w w9):=aM.out.trans bM
 have j6:=hid (bM.at HZ0.out)
 clear bM
 cases er with
 | error y =>
  obtain ⟨rfl,v2,t2,hb2,hp2⟩:=dG
  have HE:Hid (Bf K w v r (.panicked [aH y K.num]) w9):=by
   rw [ae.out]
   exact ⟨bQ.out,rfl,v2,t2,hb2,hp2⟩
  clear hb2 hp2
  go_wp2
  exact ⟨rfl,HE.out⟩
 | ok p =>
  obtain ⟨D,t1⟩:=p
  obtain ⟨⟨val,rfl,pa,pc,ba,bc,rfl,hdf⟩,hb1⟩:=dG
  have fq:Hid (BW K w9 v t1):=hb1
  have bX:Hid (r=.ok (aQ (⟨2,⟨#[]⟩⟩:Sy.Ty),v,t1)):=ae.out
  obtain ⟨_,g0,g1,g2,g3⟩:=hb1.ja.2
  clear hb1 hdf
  have eB:=hid (nA (y:=(⟨2,⟨#[]⟩⟩:Sy.Ty)) (Z:=w.heap.size+1) fq.out bQ.out j6.out (by omega) hBw hF bX.out)
  obtain ⟨W9,dw⟩:∃ W9,W9=(w9.setCell ⟨w.heap.size+1,0,none⟩ (.int .i64 ((⟨2,⟨#[]⟩⟩:Sy.Ty)).kind)).setCell ⟨w.heap.size+1,1,none⟩ (.string ((⟨2,⟨#[]⟩⟩:Sy.Ty)).gen):=⟨_,rfl⟩
  have di:Hid (W9=_):=dw
  obtain ⟨oo,oq,ou,ow⟩:=bE (j6.out).1
  clear dw
  go_wp2
  rw [show (w9.setCell ⟨w.heap.size+1,0,none⟩ (.int .i64 ((⟨2,⟨#[]⟩⟩:Sy.Ty)).kind)).setCell ⟨w.heap.size+1,1,none⟩ (.string ((⟨2,⟨#[]⟩⟩:Sy.Ty)).gen)=W9 from di.out.symm]
  have q9:=eB.out.2
  rw [show j5 w9 (w.heap.size+1) (.int .i64 ((⟨2,⟨#[]⟩⟩:Sy.Ty)).kind) (.string ((⟨2,⟨#[]⟩⟩:Sy.Ty)).gen)=W9 from di.out.symm] at q9
  refine bodyPost_ret (v:=aQ (⟨2,⟨#[]⟩⟩:Sy.Ty)) (by simp [results,Tryz.results133,go_sem,World.cell?,q9]) rfl ?_
  rw [di.out]
  exact eB.out.1
theorem abM
  (K:BK) (v:Vars) (d:Nat) (me:Sy.Df) (hC:Hid (kF K v d (expr K.l me v d))) (x:Sy.Ex) (xa:Option Addr) (xc:Nat) (t:Tk) (n m:Nat) (w:World) (r:Except Int (Value × Vars × Tk)) (h:Hid (BW K w v t)) (hx:Hid (∃ h,aJ K.B w h x xa)) (hn:Hid (Sy.runs (Sy.aF d) x.kids (n+1)=.ok m)) (ht:Hid (aT t n)) (h2:n+1≤2000)
    (hr:Hid (r=andThen (expr K.l me v (d+1) x t) fun p=>.ok (aQ p.1,v,p.2)))
  (hk:19≤x.kind∧x.kind≤23) (hh:Sy.dU x=0) (i:Nat) (hi:Hid (K.num=(i:Int))) (dE:Hid (K.l[i]?=some me)) :
  Calls Tryz.prog 133 #[.pointer (some ⟨K.F,0,none⟩),dH x xa xc] w fun e w'=>Bf K w v r e w'
  := by
 have hF:=h.out.lt
 obtain ⟨W0,hW0⟩:∃ W0,W0=(w.alloc (aj x xa xc)).alloc zT:=⟨_,rfl⟩
 have aM:Hid (af K w W0):=by rw [hW0];exact af.grown (bu _ _) hF
 have HB0:Hid (BW K W0 v t):=by rw [hW0];exact h.out.grown (bu _ _)
 have HX0:Hid (W0.heap[w.heap.size]?=some (aj x xa xc)∧bA K W0 w.heap.size):=by
  rw [hW0]
  exact (af.alloc K _ _ (by simp;omega)).at (h.out.new _)
 have HZ0:Hid (W0.heap[w.heap.size+1]?=some zT∧bA K W0 (w.heap.size+1)):=by
  rw [hW0]
  refine ⟨?_,h.out.free (bu _ _) (by omega)⟩
  have:=heap_alloc_new (w.alloc (aj x xa xc)) zT
  simpa using this
 have aR:Hid (∃ h,aJ K.B W0 h x xa):=by
  obtain ⟨hh,hE⟩:=hx.out
  exact ⟨hh,hE.same (h.out.same aM.out)⟩
 have HW0:Hid (W0=_):=hW0
 have hBw:K.B≤w.heap.size+1:=by have:=h.out.base;omega
 clear hW0
 obtain ⟨er,her⟩:∃ er,er=spoken K.l me (expr K.l me v d) x t:=⟨_,rfl⟩
 have dL:Hid (er=spoken K.l me (expr K.l me v d) x t):=her
 have ae:Hid (r=andThen er fun p=>.ok (aQ p.1,v,p.2)):=by
  unfold Hid
  rw [hr.out,expr,if_neg (by omega),if_neg (by omega),if_neg (by omega),if_neg (by omega),if_neg (by omega),if_neg (by omega),if_neg (by omega),if_neg (by omega),her]
 have e1:(x.kind==1)=false:=by simp;omega
 have e2:(x.kind==2)=false:=by simp;omega
 have e3:(x.kind==3)=false:=by simp;omega
 have e4:(x.kind==4)=false:=by simp;omega
 have e6:(x.kind==6)=false:=by simp;omega
 have e7:(x.kind==7)=false:=by simp;omega
 have e8:(x.kind==8)=false:=by simp;omega
 have e9:(x.kind==9)=false:=by simp;omega
 have e10:(x.kind==10)=false:=by simp;omega
 have e13:(x.kind==13)=false:=by simp;omega
 have e14:(x.kind==14)=false:=by simp;omega
 have e15:(x.kind==15)=false:=by simp;omega
 have e16:(x.kind==16)=false:=by simp;omega
 have e5:(x.kind==5)=false:=by simp;omega
 have e17:(x.kind==17)=false:=by simp;omega
 have e18:(x.kind==18)=false:=by simp;omega
 have e11:(x.kind==11)=false:=by simp;omega
 have e12:(x.kind==12)=false:=by simp;omega
 have e24:(x.kind==24)=false:=by simp;omega
 clear hr her
 go_enter Tryz.func133,Tryz.ntmps133
 go_wp2_with fail
 rw [← HW0.out]
 refine (abD K v d (expr K.l me v d) hC (lF K.l me v d) me x xa xc t n m W0 _ HB0 aR hn ht h2 (by rw [← dL.out];exact rfl) hk hh i hi dE).mono ?_
 rintro e w9 ⟨bM,dG⟩
 have bQ:Hid (af K w w9):=aM.out.trans bM
 have j6:=hid (bM.at HZ0.out)
 clear bM
 cases er with
 | error y =>
  obtain ⟨rfl,v2,t2,hb2,hp2⟩:=dG
  have HE:Hid (Bf K w v r (.panicked [aH y K.num]) w9):=by
   rw [ae.out]
   exact ⟨bQ.out,rfl,v2,t2,hb2,hp2⟩
  clear hb2 hp2
  go_wp2
  exact ⟨rfl,HE.out⟩
 | ok p =>
  obtain ⟨y,t1⟩:=p
  obtain ⟨rfl,hb1⟩:=dG
  have fq:Hid (BW K w9 v t1):=hb1
  have bX:Hid (r=.ok (aQ y,v,t1)):=ae.out
  clear hb1
  have eB:=hid (nA (y:=y) (Z:=w.heap.size+1) fq.out bQ.out j6.out (by omega) hBw hF bX.out)
  obtain ⟨W9,dw⟩:∃ W9,W9=(w9.setCell ⟨w.heap.size+1,0,none⟩ (.int .i64 (y).kind)).setCell ⟨w.heap.size+1,1,none⟩ (.string (y).gen):=⟨_,rfl⟩
  have di:Hid (W9=_):=dw
  obtain ⟨oo,oq,ou,ow⟩:=bE (j6.out).1
  clear dw
  go_wp2
  rw [show (w9.setCell ⟨w.heap.size+1,0,none⟩ (.int .i64 (y).kind)).setCell ⟨w.heap.size+1,1,none⟩ (.string (y).gen)=W9 from di.out.symm]
  have q9:=eB.out.2
  rw [show j5 w9 (w.heap.size+1) (.int .i64 (y).kind) (.string (y).gen)=W9 from di.out.symm] at q9
  refine bodyPost_ret (v:=aQ y) (by simp [results,Tryz.results133,go_sem,World.cell?,q9]) rfl ?_
  rw [di.out]
  exact eB.out.1
theorem jV (K:BK)(v:Vars)(me:Sy.Df)(i:Nat)(hi:Hid (K.num=(i:Int)))(dE:Hid (K.l[i]?=some me)):∀ d,kF K v d (expr K.l me v d)
 | 0=>fun x xa xc t n m w r _ _ hn _ _ _=>by
  have:=hn.out
  unfold Sy.aF at this
  cases this
 | d+1=>fun x xa xc t n m w r h hx hn ht h2 hr=>by
  obtain ⟨hk1,hk2,hh,hn'⟩:=Jq hn.out
  have hm:m≤2000:=Sy.jw (d+1) x n m h2 hn.out
  have h3:n+1≤2000:=by have:=uM (fun a n m=>uN d a n m) x.kids (n+1) m hn';omega
  have hC:=hid (jV K v me i hi dE d)
  have HN:=hid hn'
  by_cases h1:x.kind=1
  ·exact abE K v d me hC x xa xc t n m w r h hx HN ht h3 hr h1
  by_cases h2:x.kind=2
  ·exact abF K v d me hC x xa xc t n m w r h hx HN ht h3 hr h2
  by_cases h4:x.kind=3
  ·exact abG K v d me hC x xa xc t n m w r h hx HN ht h3 hr h4
  by_cases h5:x.kind=4∨6≤x.kind∧x.kind≤10
  ·exact abH K v d me hC x xa xc t n m w r h hx HN ht h3 hr h5
  by_cases h6:13≤x.kind∧x.kind≤16
  ·exact abI K v d me hC x xa xc t n m w r h hx HN ht h3 hr h6
  by_cases h7:x.kind=5∨x.kind=17∨x.kind=18
  ·exact abJ K v d me hC x xa xc t n m w r h hx HN ht h3 hr h7
  by_cases h8:x.kind=11∨x.kind=12
  ·exact abK K v d me hC x xa xc t n m w r h hx HN ht h3 hr h8 hh
  by_cases h9:x.kind=24
  ·exact abL K v d me hC x xa xc t n m w r h hx HN ht h3 hr h9 hh
  ·exact abM K v d me hC x xa xc t n m w r h hx HN ht h3 hr (by omega) hh i hi dE
end Sm
end Go.Proofs.YtolfleeidpeomaaGreatDoor
namespace Go.Proofs.YtolfleeidpeomaaGreatDoor
namespace Sm
open Sy
def JO (d:Nat)(st:St→Vars→Tk→Except Int (Vars × Tk)):Prop:=∀ s v t n m v' t',aO d s n=.ok m→aT t n→st s v t=.ok (v',t')→aT t' m∧v'.length+n≤v.length+m∧v <+: v'
theorem JP {d:Nat}{s:St}{n m:Nat}(h:aO (d+1) s n=.ok m):1≤s.kind∧s.kind≤9∧n+1≤2000∧(s.kind=6∧m=n+1∨s.kind≠6∧∃ m1,aF d s.x (n+1)=.ok m1∧dN (aO d) s m1=.ok m):=by
 unfold aO at h
 by_cases h0:bB s.kind 9 (d+1) n≠0
 ·rw [if_pos h0] at h;cases h
 ·rw [if_neg h0] at h
  have h1:¬ (2000<n+1∨d+1=0)∧¬ (s.kind<1∨9<s.kind):=by
   unfold bB at h0
   refine ⟨fun hc=>h0 (by rw [if_pos hc];decide),fun hc=>h0 ?_⟩
   by_cases hc2:2000<n+1∨d+1=0
   ·rw [if_pos hc2];decide
   ·rw [if_neg hc2,if_pos hc];decide
  refine ⟨by omega,by omega,by omega,?_⟩
  split at h
  ·cases h
  ·by_cases h6:s.kind=6
   ·rw [if_pos h6] at h
    cases h
    exact .inl ⟨h6,rfl⟩
   ·rw [if_neg h6] at h
    refine .inr ⟨h6,?_⟩
    cases he:aF d s.x (n+1) with
    | error e=>rw [he] at h;cases h
    | ok m1=>rw [he] at h;exact ⟨m1,rfl,h⟩
theorem pJ {f:St→Nat→Except Int Nat}{s:St}{m1 m:Nat}(h:dN f s m1=.ok m)(hk:¬ (s.kind=3∨s.kind=4)):m=m1:=by
 unfold dN at h
 rw [if_neg hk] at h
 cases h
 rfl
theorem El {f:St→Nat→Except Int Nat}{l:List St}{n m:Nat}(h:cO f l n=.ok m):l.length≤50∧runs f l n=.ok m:=by
 unfold cO at h
 split at h
 ·cases h
 ·exact ⟨by omega,h⟩
theorem JQ {f:St→Nat→Except Int Nat}{s:St}{m1 m:Nat}(h:dN f s m1=.ok m)(hk:s.kind=4):cO f s.body m1=.ok m:=by
 unfold dN at h
 rw [if_pos (.inr hk)] at h
 cases hb:cO f s.body m1 with
 | error e=>rw [hb] at h;cases h
 | ok m2 =>
  rw [hb] at h
  dsimp only at h
  rw [if_neg (by omega)] at h
  exact h
theorem JR {f:St→Nat→Except Int Nat}{s:St}{m1 m:Nat}(h:dN f s m1=.ok m)(hk:s.kind=3):∃ m2,cO f s.body m1=.ok m2∧cO f s.els m2=.ok m:=by
 unfold dN at h
 rw [if_pos (.inl hk)] at h
 cases hb:cO f s.body m1 with
 | error e=>rw [hb] at h;cases h
 | ok m2 =>
  rw [hb] at h
  dsimp only at h
  rw [if_pos hk] at h
  exact ⟨m2,rfl,h⟩
theorem JS:∀ (d:Nat) (s:St) (n m:Nat),aO d s n=.ok m→n+1≤m
 | 0,s,n,m,h=>by unfold aO at h;cases h
 | d+1,s,n,m,h=>by
  obtain ⟨_,_,_,h1⟩:=JP h
  rcases h1 with ⟨_,rfl⟩ | ⟨_,m1,h2,h3⟩
  ·exact Nat.le_refl _
  ·have h4:=uN d s.x (n+1) m1 h2
   have key:∀ l n m,cO (aO d) l n=.ok m→n≤m:=fun l n m hb=>uM (fun a n m h=>by have:=JS d a n m h;omega) l n m (El hb).2
   by_cases hk3:s.kind=3
   ·obtain ⟨m2,h5,h6⟩:=JR h3 hk3
    have:=key _ _ _ h5
    have:=key _ _ _ h6
    omega
   ·by_cases hk4:s.kind=4
    ·have:=key _ _ _ (JQ h3 hk4)
     omega
    ·have:=pJ h3 (by omega)
     omega
theorem Rm {d:Nat}{st:St→Vars→Tk→Except Int (Vars × Tk)}(hst:JO d st):∀ (l:List St) (v:Vars) (t:Tk) (n m:Nat) (v':Vars) (t':Tk),runs (aO d) l n=.ok m→aT t n→block st l v t=.ok (v',t')→aT t' m∧v'.length+n≤v.length+m∧v <+: v'
 | [],v,t,n,m,v',t',h,ht,hb=>by
  cases h
  cases hb
  exact ⟨ht,Nat.le_refl _,List.prefix_refl _⟩
 | s :: l,v,t,n,m,v',t',h,ht,hb=>by
  obtain ⟨k,h1,h2⟩:=og h
  obtain ⟨⟨v1,t1⟩,h3,h4⟩:=aZ (show andThen (st s v t) (fun p=>block st l p.1 p.2)=.ok (v',t') from hb)
  obtain ⟨a1,a2,a3⟩:=hst s v t n k v1 t1 h1 ht h3
  obtain ⟨b1,b2,b3⟩:=Rm hst l v1 t1 k m v' t' h2 a1 h4
  exact ⟨b1,by omega,a3.trans b3⟩
theorem Bz {d:Nat}{st:St→Vars→Tk→Except Int (Vars × Tk)}(hst:JO d st){l:List St}{v:Vars}{t:Tk}{n m:Nat}{t':Tk}(h:cO (aO d) l n=.ok m)(ht:aT t n)(hb:inner st l v t=.ok t'):aT t' m:=by
 obtain ⟨⟨v1,t1⟩,h1,h2⟩:=aZ (show andThen (block st l v t) (fun p=>.ok p.2)=.ok t' from hb)
 cases h2
 exact (Rm hst l v t n m v1 t1 (El h).2 ht h1).1
theorem Em (l:List Df)(me:Df):∀ d,JO d (stat l me d)
 | 0=>fun s v t n m v' t' h=>by unfold aO at h;cases h
 | d+1=>fun s v t n m v' t' h ht hs=>by
  have ih:=Em l me d
  have hge:=JS (d+1) s n m h
  obtain ⟨k1,k9,h2,h3⟩:=JP h
  have same:∀ {t1:Tk},aT t1 m→aT t1 m∧v.length+n≤v.length+m∧v <+: v:=fun h=>⟨h,by omega,List.prefix_refl _⟩
  unfold stat at hs
  have hex:=lF l me v d
  have uS:aT t (n+1):=ht.mono (by omega)
  have one:∀ {m1:Nat} {y:Ty} {t0 t1:Tk},aF d s.x (n+1)=.ok m1→aT t0 (n+1)→must (expr l me v d) y [s.x] t0=.ok t1→aT t1 m1:=fun {m1 y t0 t1} hx h0 hm=>oZ hex y [s.x] t0 (n+1) m1 t1 (by simp [runs,hx]) h0 hm
  rcases h3 with ⟨h6,rfl⟩ | ⟨h6,m1,hx,htl⟩
  ·rw [if_neg (by omega),if_neg (by omega),if_neg (by omega),if_neg (by omega),if_neg (by omega),if_pos h6] at hs
   obtain ⟨u,_,h5⟩:=aZ hs
   cases h5
   exact same uS
  ·by_cases e1:s.kind=1
   ·rw [if_pos e1] at hs
    have hm:=pJ htl (by omega)
    subst hm
    obtain ⟨p,h4,h5⟩:=aZ hs
    split at h5
    ·cases h5
    ·cases h5
     exact ⟨hex s.x t (n+1) _ p.1 p.2 hx uS h4,by simp;omega,List.prefix_append _ _⟩
   ·rw [if_neg e1] at hs
    by_cases e2:s.kind=2
    ·rw [if_pos e2] at hs
     have hm:=pJ htl (by omega)
     subst hm
     obtain ⟨y,_,h5⟩:=aZ hs
     obtain ⟨t1,h6,h7⟩:=aZ h5
     cases h7
     exact same (one hx uS h6)
    ·rw [if_neg e2] at hs
     by_cases e3:s.kind=3
     ·rw [if_pos e3] at hs
      obtain ⟨m2,hb1,hb2⟩:=JR htl e3
      obtain ⟨t1,h6,h7⟩:=aZ hs
      obtain ⟨t2,h8,h9⟩:=aZ h7
      obtain ⟨t3,h10,h11⟩:=aZ h9
      cases h11
      exact same (Bz ih hb2 (Bz ih hb1 (one hx uS h6) h8) h10)
     ·rw [if_neg e3] at hs
      by_cases e4:s.kind=4
      ·rw [if_pos e4] at hs
       obtain ⟨t1,h6,h7⟩:=aZ hs
       obtain ⟨t2,h8,h9⟩:=aZ h7
       cases h9
       exact same (Bz ih (JQ htl e4) (one hx uS h6) h8)
      ·have hm:=pJ htl (by omega)
       subst hm
       rw [if_neg e4] at hs
       by_cases e5:s.kind=5
       ·rw [if_pos e5] at hs
        obtain ⟨u,_,h5⟩:=aZ hs
        obtain ⟨t1,h7,h8⟩:=aZ h5
        cases h8
        exact same (one hx uS h7)
       ·rw [if_neg e5,if_neg h6] at hs
        by_cases e7:s.kind=7
        ·rw [if_pos e7] at hs
         obtain ⟨b,_,h5⟩:=aZ hs
         obtain ⟨t1,h7,h8⟩:=aZ h5
         cases h8
         exact same (one hx ⟨by have:=ht.1;simp;omega,by have:=ht.2.1;dsimp;omega,by have:=ht.2.2;dsimp;omega⟩ h7)
        ·rw [if_neg e7] at hs
         by_cases e8:s.kind=8
         ·rw [if_pos e8] at hs
          obtain ⟨p,h4,h5⟩:=aZ hs
          obtain ⟨u,_,h7⟩:=aZ h5
          cases h7
          exact same (hex s.x t (n+1) _ p.1 p.2 hx uS h4)
         ·rw [if_neg e8] at hs
          obtain ⟨p,h4,h5⟩:=aZ hs
          cases h5
          exact same (hex s.x t (n+1) _ p.1 p.2 hx uS h4)
end Sm
end Go.Proofs.YtolfleeidpeomaaGreatDoor
namespace Go.Proofs.YtolfleeidpeomaaGreatDoor
open Go.RowKit
namespace Sm
abbrev bS (s:Sy.St) (xa:Option Addr) (xc:Nat) (ba:Option Addr) (bc:Nat) (ea:Option Addr) (ec:Nat):Obj:=.cells #[.int .i64 s.kind,.string s.name,.int .i64 s.x.kind,.int .i64 s.x.n,.string s.x.name,.slice xa s.x.kids.length xc,.slice ba s.body.length bc,.slice ea s.els.length ec] 124 (0,0)
def Rn (K:BK)(me:Sy.Df)(d:Nat):Prop :=
 ∀ (s:Sy.St) (xa ba ea:Option Addr) (xc bc ec:Nat) (v:Vars) (t:Tk) (n m:Nat) (w:World) (r:Except Int (Value × Vars × Tk)),Hid (BW K w v t)→Hid (∃ h,cu K.B w h s xa ba ea)→Hid (Sy.aO d s n=.ok m)→Hid (aT t n)→Hid (v.length≤n+10)→n≤2000 →
  Hid (r=andThen (stat K.l me d s v t) fun p=>.ok (.tuple #[],p.1,p.2))→Calls Tryz.prog 109 #[.pointer (some ⟨K.F,0,none⟩),l7 s xa xc ba bc ea ec] w fun e w'=>Bf K w v r e w'
def rF (K:BK)(me:Sy.Df)(d:Nat):Prop :=
 ∀ (l:List Sy.St) (a:Option Addr) (c:Nat) (v:Vars) (t:Tk) (n m:Nat) (w:World) (r:Except Int (Value × Vars × Tk)),Hid (BW K w v t)→Hid (∃ h,lJ K.B w (cu K.B w h) l a)→Hid (Sy.cO (Sy.aO d) l n=.ok m)→Hid (aT t n)→Hid (v.length≤n+10)→n≤2000 →
  Hid (r=andThen (inner (stat K.l me d) l v t) fun t=>.ok (.tuple #[],v,t))→Calls Tryz.prog 79 #[.pointer (some ⟨K.F,0,none⟩),.slice a l.length c] w fun e w'=>Bf K w v r e w'
theorem Ro {v v':Vars}(h:v <+: v'):v'.take v.length=v:=by
 obtain ⟨x,rfl⟩:=h
 simp
theorem JU (K:BK)(me:Sy.Df)(d:Nat)(hS:Hid (Rn K me d)):rF K me d:=by
 intro l a c v t n m w r h hrow hn ht hv h2 hr
 have hF:=h.out.lt
 obtain ⟨Rq,hn'⟩:=El hn.out
 obtain ⟨W0,hW0⟩:∃ W0,W0=(w.alloc (pO K.F)).alloc (nO v.length):=⟨_,rfl⟩
 have aM:Hid (af K w W0):=by rw [hW0];exact af.grown (bu _ _) hF
 have HB0:Hid (BW K W0 v t):=by rw [hW0];exact h.out.grown (bu _ _)
 have eG:Hid (W0.heap[w.heap.size]?=some (pO K.F)∧bA K W0 w.heap.size):=by
  rw [hW0]
  exact (af.alloc K _ _ (by simp;omega)).at (h.out.new _)
 have fJ:Hid (W0.heap[w.heap.size+1]?=some (nO v.length)∧bA K W0 (w.heap.size+1)):=by
  rw [hW0]
  refine ⟨?_,h.out.free (bu _ _) (by omega)⟩
  have:=heap_alloc_new (w.alloc (pO K.F)) (nO v.length)
  simpa using this
 have BA:Hid (∃ h,lJ K.B W0 (cu K.B W0 h) l a):=by
  obtain ⟨hh,hR⟩:=hrow.out
  have hs:=h.out.same aM.out
  exact ⟨hh,hR.same hs (fun s x b e=>cu.same hs hh s x b e)⟩
 have JV:Hid (r=andThen (andThen (block (stat K.l me d) l v t) fun p=>.ok p.2) fun t=>.ok (.tuple #[],v,t)):=hr.out
 have JW:Hid (Sy.runs (Sy.aO d) l n=.ok m):=hn'
 have HW0:Hid (W0=_):=hW0
 obtain ⟨nl,hnl⟩:∃ nl,nl=l.length:=⟨_,rfl⟩
 have Rt:Hid (nl=l.length):=hnl
 have hl:nl≤50:=by rw [hnl];exact Rq
 rw [← hnl]
 clear hr hn' hW0 Rq hnl
 go_enter_defers Tryz.func79,Tryz.ntmps79
 go_wp2_with fail
 refine (aaX K v t w h).mono ?_
 rintro e w1 ⟨rfl,hw1⟩
 rw [← HW0.out] at hw1
 have hw2:=hw1.symm
 subst hw2
 go_wp2
 go_loopw [12] (fun q wr=>∃ (j:Nat) (v':Vars) (t':Tk) (n':Nat),q=.int .i64 j∧j≤nl∧n'≤2000∧Hid (BW K wr v' t')∧Hid (af K W0 wr)∧Hid (aT t' n')∧Hid (v'.length≤n'+10)∧Hid (v <+: v')∧Hid (Sy.runs (Sy.aO d) (l.drop j) n'=.ok m)∧Hid (r=andThen (andThen (block (stat K.l me d) (l.drop j) v' t') fun p=>.ok p.2) fun t=>.ok (.tuple #[],v,t))) (fun q _=>nl - (intOf q).toNat)
 case atStart=>exact ⟨0,v,t,n,rfl,Nat.zero_le _,h2,HB0,af.refl _ _,ht,hv,List.prefix_refl _,by rw [List.drop_zero];exact JW,by rw [List.drop_zero];exact JV⟩
 case round =>
  obtain ⟨j,v',t',n',rfl,hj,hn2,HB,HK,HT,HV,HP,HN,HR⟩:=hrel
  have Ru:=hid (HK.out.at eG.out)
  have Rv:=hid (HK.out.at fJ.out)
  have rD:=HB.out.lt
  by_cases hlt:j<nl
  ·have hj1:j<l.length:=by rw [← Rt.out];exact hlt
   obtain ⟨s,hs⟩:∃ s,l[j]?=some s:=⟨_,List.getElem?_eq_getElem hj1⟩
   have hdr:l.drop j=s :: l.drop (j+1):=by rw [List.drop_eq_getElem_cons hj1,(List.getElem?_eq_some_iff.1 hs).2]
   have hsame:=HB0.out.same HK.out
   obtain ⟨hh,Rw⟩:=BA.out
   obtain ⟨b,off,xa,xc,ba,bc,ea,ec,ha,hb,k0,k1,k2,k3,k4,k5,k6,k7,hst⟩:=(Rw.same hsame (fun s x b e=>cu.same hsame hh s x b e)) j s hs
   obtain ⟨n1,hx1,hn1⟩:=og (by have:=HN.out;rw [hdr] at this;exact this)
   have Bc:n1≤2000:=Sy.nJ d s n' n1 hn2 hx1
   obtain ⟨er,her⟩:∃ er,er=stat K.l me d s v' t':=⟨_,rfl⟩
   have dL:Hid (er=stat K.l me d s v' t'):=her
   have ae:Hid (r=andThen er fun p=>andThen (andThen (block (stat K.l me d) (l.drop (j+1)) p.1 p.2) fun p=>.ok p.2) fun t=>.ok (.tuple #[],v,t)):=by
    unfold Hid
    rw [HR.out,hdr,block,her]
    cases stat K.l me d s v' t' <;> rfl
   have ib:Hid (Sy.aO d s n'=.ok n1):=hx1
   have kN:Hid (Sy.runs (Sy.aO d) (l.drop (j+1)) n1=.ok m):=hn1
   obtain ⟨W2,hW2⟩:∃ W2,W2=wr.alloc (bS s xa xc ba bc ea ec):=⟨_,rfl⟩
   have HW2:Hid (W2=_):=hW2
   have bD:Hid (af K wr W2):=by rw [hW2];exact af.alloc K wr _ rD
   have HB2:Hid (BW K W2 v' t'):=by rw [hW2];exact HB.out.grown (bn _)
   have HS2:Hid (∃ h,cu K.B W2 h s xa ba ea):=⟨hh,cu.same (HB.out.same bD.out) hh s xa ba ea hst⟩
   have hbw:b<wr.heap.size:=by have:=HB.out.base;omega
   have HJ:Hid (j+1≤nl):=hlt
   have hjp:(j:Int)<(nl:Int):=by omega
   subst ha
   clear hdr hs hsame Rw hx1 hn1 her hW2 hst
   go_wp2_with fail
   rw [← HW2.out]
   refine (hS.out s xa ba ea xc bc ec v' t' n' n1 W2 _ HB2 HS2 ib HT HV hn2 (by rw [← dL.out];exact rfl)).mono ?_
   rintro e w3 ⟨hk3,fG⟩
   have lH:Hid (af K W0 w3):=(HK.out.trans bD.out).trans hk3
   have Rx:=hid (lH.out.at eG.out)
   have Ry:=hid (lH.out.at fJ.out)
   cases er with
   | error y =>
    obtain ⟨rfl,v2,t2,hb2,hp2⟩:=fG
    have HB3:Hid (BW K w3 v2 t2):=hb2
    have Rz:Hid (v <+: v2):=HP.out.trans hp2
    have HRy:Hid (r=.error y):=ae.out
    clear hk3 hb2 hp2
    go_wp2
    refine leaves_cons (f:=131) (args:=#[.pointer (some ⟨w.heap.size,0,none⟩),.pointer (some ⟨w.heap.size+1,0,none⟩)]) (by simp) (by simp [go_sem]) ?_
    refine (QA K v2 t2 v.length w.heap.size (w.heap.size+1) _ _ HB3 Rz.out.length_le (hid Rx.out.1) (hid Ry.out.1) (hid Rx.out.2) (hid Ry.out.2)).mono ?_
    rintro e u' w4 ⟨rfl,rfl,hb4,hk4⟩
    rw [Ro Rz.out] at hb4
    refine ⟨(aM.out.trans lH.out).trans hk4,?_⟩
    rw [HRy.out]
    exact ⟨rfl,v,t2,hb4,List.prefix_refl _⟩
   | ok p =>
    obtain ⟨v1,t1⟩:=p
    obtain ⟨rfl,hb3⟩:=fG
    have HB3:Hid (BW K w3 v1 t1):=hb3
    obtain ⟨l1,l2,l3⟩:=Em K.l me d s v' t' n' n1 v1 t1 ib.out HT.out dL.out.symm
    have HT1:Hid (aT t1 n1):=l1
    have kU:Hid (v1.length≤n1+10):=by have:=HV.out;unfold Hid;omega
    have Jc:Hid (v <+: v1):=HP.out.trans l3
    have iM:Hid (r=andThen (andThen (block (stat K.l me d) (l.drop (j+1)) v1 t1) fun p=>.ok p.2) fun t=>.ok (.tuple #[],v,t)):=ae.out
    clear hk3 hb3 l1 l2 l3
    go_wp2
    go_roundw
    case rel=>exact ⟨j+1,v1,t1,n1,by go_num,HJ.out,Bc,HB3,lH,HT1,kU,Jc,kN,iM⟩
    case measure=>have:=HJ.out;simp [intOf];omega
  ·have bX:Hid (r=.ok (.tuple #[],v,t')):=by
    have h1:=HR.out
    have h2:=Rt.out
    rw [List.drop_of_length_le (by omega)] at h1
    exact h1
   have hjp:¬ (j:Int)<(nl:Int):=by omega
   go_wp2
   refine leaves_cons (f:=131) (args:=#[.pointer (some ⟨w.heap.size,0,none⟩),.pointer (some ⟨w.heap.size+1,0,none⟩)]) (by simp) (by simp [go_sem]) ?_
   refine (QA K v' t' v.length w.heap.size (w.heap.size+1) _ _ HB HP.out.length_le (hid Ru.out.1) (hid Rv.out.1) (hid Ru.out.2) (hid Rv.out.2)).mono ?_
   rintro e u' w4 ⟨rfl,rfl,hb4,hk4⟩
   rw [Ro HP.out] at hb4
   show Leaves _ _ _ _ [] .returning _
   refine ⟨.tuple #[],by simp [results,Tryz.results79,go_sem],(aM.out.trans HK.out).trans hk4,?_⟩
   rw [bX.out]
   exact ⟨rfl,hb4⟩
end Sm
end Go.Proofs.YtolfleeidpeomaaGreatDoor
