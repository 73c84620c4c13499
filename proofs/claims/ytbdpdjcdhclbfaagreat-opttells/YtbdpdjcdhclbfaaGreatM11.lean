/- The walk of reckon: locals. -/
import Derived.Test.YtbdpdjcdhclbfaaGreatM3
import Derived.Maps.RangeWalk
import Derived.Test.YtbdpdjcdhclbfaaGreatM9
import Derived.Test.YtbdpdjcdhclbfaaGreatM10
set_option maxRecDepth 100000
set_option maxHeartbeats 4000000
namespace Go.Proofs.YtbdpdjcdhclbfaaGreat
open Go.RowKit
theorem Xz (c:FC)(F B:Nat)(top:Option Addr)(st:List Int)(f:Vf.Fl)(n:Int)(row:Value)(nn:Int)(k:Nat)(x:Int)(hx:Hid (c.u.locals[k]?=some x))(hk:k<256)(w:World)(h:Hid (aB c w F top st f n row))(hE:Hid (Env c B F w))(hl:st.length≤300)(r:Except Int (List Int))(hr:Hid (r=Vf.andThen (Vf.must (f.has k) 11 st) (Vf.put x))) :
  Calls Tryz.prog 64 #[.pointer (some ⟨F,0,none⟩),.agg #[.int .i64 3,.int .i64 (k:Int),.int .i64 nn]] w fun e w'=>ay c F f n row r w e w':=by
 have hlt:=hE.out.lt;have wW:=hE.out.base;have fH:=hide (h.out.alloc (aj 3 (k:Int) nn));have aO:Hid (w.grownBy (w.alloc (aj 3 (k:Int) nn)) (some F)):=iy _;obtain⟨Hf,b,off,ha,hb,cx⟩:=hE.out.un.locals k x hx.out;have vO:=hide Hf;have Am:k<c.u.locals.length:=(List.getElem?_eq_some_iff.1 hx.out).1;have hk1:(k:Int)<(c.u.locals.length:Int):=by omega
 have d2:(w.alloc (aj 3 (k:Int) nn)).cell? ⟨w.heap.size,1,none⟩=some (.int .i64 (k:Int)):=(EF (alloc_at w _)).2.1;have d3:(w.alloc (aj 3 (k:Int) nn)).cell? ⟨b,off+k,none⟩=some (.int .i64 x):=(FP _ _ (by omega)).trans cx;have HA:=hide ha;have HS2:Hid (∀ w3,(w.alloc (aj 3 (k:Int) nn)).grownBy w3 (some F)→w3.cell? ⟨F,4,none⟩=some (.slice c.al c.u.locals.length c.cl)→(w3.cell? ⟨F,4,none⟩=some (.slice (some ⟨b,off,none⟩) c.u.locals.length c.cl)∧w3.cell? ⟨w.heap.size,1,none⟩=some (.int .i64 (k:Int))∧w3.cell? ⟨b,off+k,none⟩=some (.int .i64 x))):=fun w3 hg3 h1=>⟨by rw[h1,HA.out],(gZ (kept hg3 (by simp) (by omega)) _).trans d2,(gZ (kept hg3 (by simp;omega) (by omega)) _).trans d3⟩;clear Hf cx ha;obtain⟨e10,e11,e12,e13,_⟩:=DN fH.out.blk;have c14:=(uD fH.out.blk).1;obtain⟨bb,hbb⟩:∃ bb,bb=f.has k:=⟨_,rfl⟩;have HB:=hide hbb;have LJ:Hid (r=Vf.andThen (Vf.must bb 11 st) (Vf.put x)):=by unfold Hid;rw[hr.out,hbb]
 clear hbb hr;obtain⟨fo,hfo⟩:∃ fo:Obj,fo=.cells #[ah f.a,ah f.b,ah f.c,ah f.d] 75 (0,0):=⟨_,rfl⟩;have ER:=hide hfo;clear hfo;have fE:Hid (aB c ((w.alloc (aj 3 (k:Int) nn)).drew.alloc fo) F top st f n row):=fH.out.drew.alloc _;have aH:Hid (w.grownBy ((w.alloc (aj 3 (k:Int) nn)).drew.alloc fo) (some F)):=tJ (wJ (iy _)) _;have HT1:Hid ((w.alloc (aj 3 (k:Int) nn)).grownBy ((w.alloc (aj 3 (k:Int) nn)).drew.alloc fo) (some F)):=tJ (wJ (ui _ _)) _;have Qg:=(uD fE.out.blk).1;have k2:((w.alloc (aj 3 (k:Int) nn)).drew.alloc fo).cell? ⟨w.heap.size,1,none⟩=some (.int .i64 (k:Int)):=(gZ (kept HT1.out (by simp) (by omega)) _).trans d2;obtain⟨k10,k11,k12,k13,_⟩:=DN fE.out.blk;go_enter Tryz.func64,Tryz.ntmps64
 go_wp2_with fail
 refine wp_region_held_drew (S:=fun w'=>w'.cell? ⟨F,10,none⟩=some (ah f.a)∧w'.cell? ⟨F,11,none⟩=some (ah f.b)∧w'.cell? ⟨F,12,none⟩=some (ah f.c)∧w'.cell? ⟨F,13,none⟩=some (ah f.d)∧w'.cell? ⟨w.heap.size,1,none⟩=some (.int .i64 (k:Int))) (by kernel_rfl) ⟨e10,e11,e12,e13,d2⟩ (fun hHeld=>?_);refine wpAnyH_take (i:=0) (oi:=_) (v:=?_) rfl (by kernel_rfl) (by kernel_rfl) (by kernel_rfl) (fun _ _ _ h=>h) (Or.inl ⟨by rfl,?_⟩) (by assumption) ?_;rotate_left
 ·intro w hSw
  (try dsimp only at hSw)
  go_simp
  (try with_reducible rfl)
 (try go_frame)
 refine wpAnyH_take (i:=1) (oi:=_) (v:=?_) rfl (by kernel_rfl) (by kernel_rfl) (by kernel_rfl) (fun _ _ _ h=>h) (Or.inl ⟨by rfl,?_⟩) (by assumption) ?_;rotate_left
 ·intro w hSw
  (try dsimp only at hSw)
  go_simp
  (try with_reducible rfl)
 (try go_frame)
 refine wpAnyH_take (i:=2) (oi:=_) (v:=?_) rfl (by kernel_rfl) (by kernel_rfl) (by kernel_rfl) (fun _ _ _ h=>h) (Or.inl ⟨by rfl,?_⟩) (by assumption) ?_;rotate_left
 ·intro w hSw
  (try dsimp only at hSw)
  go_simp
  (try with_reducible rfl)
 (try go_frame)
 refine wpAnyH_take (i:=3) (oi:=_) (v:=?_) rfl (by kernel_rfl) (by kernel_rfl) (by kernel_rfl) (fun _ _ _ h=>h) (Or.inl ⟨by rfl,?_⟩) (by assumption) ?_;rotate_left
 ·intro w hSw
  (try dsimp only at hSw)
  go_simp
  (try with_reducible rfl)
 (try go_frame)
 refine wpAnyH_take (i:=4) (oi:=_) (v:=?_) rfl (by kernel_rfl) (by kernel_rfl) (by kernel_rfl) (fun _ _ _ h=>h) (Or.inl ⟨by rfl,?_⟩) (by assumption) ?_;rotate_left
 ·intro w hSw
  (try dsimp only at hSw)
  go_simp
  (try with_reducible rfl)
 (try go_frame)
 refine wpAnyH_take (i:=5) (oi:=_) (v:=?_) rfl (by kernel_rfl) (by kernel_rfl) (by kernel_rfl) (fun _ _ _ h=>h) (Or.inl ⟨by rfl,?_⟩) (by assumption) ?_;rotate_left
 ·intro w hSw
  (try dsimp only at hSw)
  go_simp
  (try with_reducible rfl)
 (try go_frame)
 refine wpAnyH_take (i:=6) (oi:=_) (v:=?_) rfl (by kernel_rfl) (by kernel_rfl) (by kernel_rfl) (fun _ _ _ h=>h) (Or.inl ⟨by rfl,?_⟩) (by assumption) ?_;rotate_left
 ·intro w hSw
  (try dsimp only at hSw)
  go_simp
  (try with_reducible rfl)
 (try go_frame)
 refine wpAnyH_take (i:=7) (oi:=_) (v:=?_) rfl (by kernel_rfl) (by kernel_rfl) (by kernel_rfl) (fun _ _ _ h=>h) (Or.inl ⟨by rfl,?_⟩) (by assumption) ?_;rotate_left
 ·intro w hSw
  (try dsimp only at hSw)
  go_simp
  (try with_reducible rfl)
 (try go_frame)
 refine wpAnyH_ready (rs:=[8]) (by kernel_rfl) (by simp) ?_;refine AllReadyH.cons (o:=_) rfl (fun K hK=>?_) AllReadyH.nil;go_simp
 refine (VD f k hk _ bb HB).mono ?_;rintro e w1 ⟨rfl,hw1⟩;rw[← ER.out] at hw1;subst hw1;refine hK.out _ _ ⟨k10,k11,k12,k13,k2⟩ (fun hHeld=>?_);clear hK;refine wpAnyH_ready (rs:=[9]) (by kernel_rfl) (by simp) ?_;refine AllReadyH.cons (o:=_) rfl (fun K hK=>?_) AllReadyH.nil;go_simp
 refine (uj F bb 11 n _ Qg).mono ?_;rintro e w2 ⟨he,hw2⟩;subst hw2;cases bb with
 | false =>
  obtain rfl:e=.panicked [lT 11 n]:=he;have HE:Hid (r=.error 11):=LJ.out;clear hK;go_wp2
  exact⟨rfl,ay.bad aH.out HE.out⟩
 | true =>
  obtain rfl:e=.returned (.tuple #[]):=he;have HR2:Hid (r=Vf.put x st):=LJ.out;refine hK.out _ _ ⟨k10,k11,k12,k13,k2⟩ (fun hHeld=>?_);clear hK hHeld;refine wpAnyH_done (by kernel_rfl) ?_ _;have q:=HS2.out _ HT1.out (sV fE.out.blk).2.2.2.2.1;clear e10 e11 e12 e13 k10 k11 k12 k13 k2 c14 Qg d2 d3 LJ HB;generalize ((w.alloc (aj 3 (k:Int) nn)).drew.alloc fo)=W1 at *;go_wp2_with fail
  refine wp_region_held_drew (S:=fun w'=>w'.cell? ⟨F,4,none⟩=some (.slice (some ⟨b,off,none⟩) c.u.locals.length c.cl)∧w'.cell? ⟨w.heap.size,1,none⟩=some (.int .i64 (k:Int))∧w'.cell? ⟨b,off+k,none⟩=some (.int .i64 x)) (by kernel_rfl) q (fun hHeld=>?_);refine wpAnyH_take (i:=0) (oi:=_) (v:=?_) rfl (by kernel_rfl) (by kernel_rfl) (by kernel_rfl) (fun _ _ _ h=>h) (Or.inl ⟨by rfl,?_⟩) (by assumption) ?_;rotate_left
  ·intro w hSw
   (try dsimp only at hSw)
   go_simp
   (try with_reducible rfl)
  (try go_frame)
  refine wpAnyH_take (i:=1) (oi:=_) (v:=?_) rfl (by kernel_rfl) (by kernel_rfl) (by kernel_rfl) (fun _ _ _ h=>h) (Or.inl ⟨by rfl,?_⟩) (by assumption) ?_;rotate_left
  ·intro w hSw
   (try dsimp only at hSw)
   go_simp
   (try with_reducible rfl)
  (try go_frame)
  refine wpAnyH_take (i:=2) (oi:=_) (v:=?_) rfl (by kernel_rfl) (by kernel_rfl) (by kernel_rfl) (fun _ _ _ h=>h) (Or.inl ⟨by rfl,?_⟩) (by assumption) ?_;rotate_left
  ·intro w hSw
   (try dsimp only at hSw)
   go_simp
   (try with_reducible rfl)
  (try go_frame)
  refine wpAnyH_take (i:=3) (oi:=_) (v:=?_) rfl (by kernel_rfl) (by kernel_rfl) (by kernel_rfl) (fun _ _ _ h=>h) (Or.inl ⟨by rfl,?_⟩) (by assumption) ?_;rotate_left
  ·intro w hSw
   (try dsimp only at hSw)
   go_simp
   (try with_reducible rfl)
  (try go_frame)
  refine wpAnyH_take (i:=4) (oi:=_) (v:=?_) rfl (by kernel_rfl) (by kernel_rfl) (by kernel_rfl) (fun _ _ _ h=>h) (Or.inl ⟨by rfl,?_⟩) (by assumption) ?_;rotate_left
  ·intro w hSw
   (try dsimp only at hSw)
   go_simp
   (try with_reducible rfl)
  (try go_frame)
  refine wpAnyH_take (i:=5) (oi:=_) (v:=?_) rfl (by kernel_rfl) (by kernel_rfl) (by kernel_rfl) (fun _ _ _ h=>h) (Or.inl ⟨by rfl,?_⟩) (by assumption) ?_;rotate_left
  ·intro w hSw
   (try dsimp only at hSw)
   go_simp
   (try with_reducible rfl)
  (try go_frame)
  refine wpAnyH_take (i:=6) (oi:=_) (v:=?_) rfl (by kernel_rfl) (by kernel_rfl) (by kernel_rfl) (fun _ _ _ h=>h) (Or.inl ⟨by rfl,?_⟩) (by assumption) ?_;rotate_left
  ·intro w hSw
   (try dsimp only at hSw)
   go_simp
   (try with_reducible rfl)
  (try go_frame)
  refine wpAnyH_take (i:=7) (oi:=_) (v:=?_) rfl (by kernel_rfl) (by kernel_rfl) (by kernel_rfl) (fun _ _ _ h=>h) (Or.inl ⟨by rfl,?_⟩) (by assumption) ?_;rotate_left
  ·intro w hSw
   (try dsimp only at hSw)
   go_simp
   (try with_reducible rfl)
  (try go_frame)
  refine wpAnyH_take (i:=8) (oi:=_) (v:=?_) rfl (by kernel_rfl) (by kernel_rfl) (by kernel_rfl) (fun _ _ _ h=>h) (Or.inl ⟨by rfl,?_⟩) (by assumption) ?_;rotate_left
  ·intro w hSw
   (try dsimp only at hSw)
   go_simp
   (try with_reducible rfl)
  (try go_frame)
  refine wpAnyH_take (i:=9) (oi:=_) (v:=?_) rfl (by kernel_rfl) (by kernel_rfl) (by kernel_rfl) (fun _ _ _ h=>h) (Or.inl ⟨by rfl,?_⟩) (by assumption) ?_;rotate_left
  ·intro w hSw
   (try dsimp only at hSw)
   go_simp
   (try with_reducible rfl)
  (try go_frame)
  refine wpAnyH_take (i:=10) (oi:=_) (v:=?_) rfl (by kernel_rfl) (by kernel_rfl) (by kernel_rfl) (fun _ _ _ h=>h) (Or.inl ⟨by rfl,?_⟩) (by assumption) ?_;rotate_left
  ·intro w hSw
   (try dsimp only at hSw)
   go_simp
   (try with_reducible rfl)
  (try go_frame)
  refine wpAnyH_ready (rs:=[11]) (by kernel_rfl) (by simp) ?_;refine AllReadyH.cons (o:=_) rfl (fun K hK=>?_) AllReadyH.nil;go_simp
  refine (EC c F top st f n row x _ (hide fE.out.drew) (by omega) r HR2).mono ?_;rintro e w9 hS;have ak:Hid (w.grownBy w9 (some F)):=iC aH.out (uT hS.grown);cases r with
  | error er =>
   obtain rfl:=hS.no er rfl;clear hS hK;go_wp2
   exact⟨rfl,ay.bad ak.out rfl⟩
  | ok iq =>
   obtain⟨rfl,uG,aR⟩:=hS.yes iq rfl;have il:=hide aR;refine hK.out _ _ (HS2.out w9 (iC HT1.out (uT hS.grown)) (sV il.out.blk).2.2.2.2.1) (fun hHeld=>?_);clear hK hS aR;refine wpAnyH_done (by kernel_rfl) ?_ _;go_wp2
   go_end0
   exact ay.good ak.out rfl il.out
theorem XA (c:FC)(F B:Nat)(top:Option Addr)(st:List Int)(f:Vf.Fl)(n:Int)(row:Value)(nn:Int)(k:Nat)(x:Int)(hx:Hid (c.u.locals[k]?=some x))(hk:k<256)(w:World)(h:Hid (aB c w F top st f n row))(hE:Hid (Env c B F w))(hl:st.length≤300)(r:Except Int (List Int))(hr:Hid (r=Vf.jy [x] st)) :
  Calls Tryz.prog 64 #[.pointer (some ⟨F,0,none⟩),.agg #[.int .i64 4,.int .i64 (k:Int),.int .i64 nn]] w fun e w'=>ay c F (f.fill k) n row r w e w':=by
 have hlt:=hE.out.lt;have wW:=hE.out.base;have fH:=hide (h.out.alloc (aj 4 (k:Int) nn));have aO:Hid (w.grownBy (w.alloc (aj 4 (k:Int) nn)) (some F)):=iy _;obtain⟨Hf,b,off,ha,hb,cx⟩:=hE.out.un.locals k x hx.out;have vO:=hide Hf;have Am:k<c.u.locals.length:=(List.getElem?_eq_some_iff.1 hx.out).1;have hk1:(k:Int)<(c.u.locals.length:Int):=by omega
 have d2:(w.alloc (aj 4 (k:Int) nn)).cell? ⟨w.heap.size,1,none⟩=some (.int .i64 (k:Int)):=(EF (alloc_at w _)).2.1;have d3:(w.alloc (aj 4 (k:Int) nn)).cell? ⟨b,off+k,none⟩=some (.int .i64 x):=(FP _ _ (by omega)).trans cx;have HA:=hide ha;have HS2:Hid (∀ w3,(w.alloc (aj 4 (k:Int) nn)).grownBy w3 (some F)→w3.cell? ⟨F,4,none⟩=some (.slice c.al c.u.locals.length c.cl)→(w3.cell? ⟨F,4,none⟩=some (.slice (some ⟨b,off,none⟩) c.u.locals.length c.cl)∧w3.cell? ⟨w.heap.size,1,none⟩=some (.int .i64 (k:Int))∧w3.cell? ⟨b,off+k,none⟩=some (.int .i64 x))):=fun w3 hg3 h1=>⟨by rw[h1,HA.out],(gZ (kept hg3 (by simp) (by omega)) _).trans d2,(gZ (kept hg3 (by simp;omega) (by omega)) _).trans d3⟩;clear Hf cx ha;obtain⟨ro,hro⟩:∃ ro:Obj,ro=.cells #[.int .i64 x] 3 (0,0):=⟨_,rfl⟩;have vk:=hide hro;clear hro;have fE:Hid (aB c ((w.alloc (aj 4 (k:Int) nn)).drew.alloc ro) F top st f n row):=fH.out.drew.alloc _;have aH:Hid (w.grownBy ((w.alloc (aj 4 (k:Int) nn)).drew.alloc ro) (some F)):=tJ (wJ (iy _)) _;have HT1:Hid ((w.alloc (aj 4 (k:Int) nn)).grownBy ((w.alloc (aj 4 (k:Int) nn)).drew.alloc ro) (some F)):=tJ (wJ (ui _ _)) _;have wM:Hid (((w.alloc (aj 4 (k:Int) nn)).drew.alloc ro).heap[w.heap.size+1]?=some (.cells #[.int .i64 x] 3 (0,0))):=by
   have e:(w.alloc (aj 4 (k:Int) nn)).drew.heap.size=w.heap.size+1:=by simp
   rw[vk.out,← e];exact heap_alloc_new _ _
 have q0:=HS2.out _ (ui _ _) (sV fH.out.blk).2.2.2.2.1;have q1:=HS2.out _ HT1.out (sV fE.out.blk).2.2.2.2.1;rw[vk.out] at fE aH HT1 wM q1;have JF:=hide q1;clear q1 d2 d3;go_enter Tryz.func64,Tryz.ntmps64
 go_wp2_with fail
 refine wp_region_held_drew (S:=fun w'=>w'.cell? ⟨F,4,none⟩=some (.slice (some ⟨b,off,none⟩) c.u.locals.length c.cl)∧w'.cell? ⟨w.heap.size,1,none⟩=some (.int .i64 (k:Int))∧w'.cell? ⟨b,off+k,none⟩=some (.int .i64 x)) (by kernel_rfl) q0 (fun hHeld=>?_);refine wpAnyH_take (i:=0) (oi:=_) (v:=?_) rfl (by kernel_rfl) (by kernel_rfl) (by kernel_rfl) (fun _ _ _ h=>h) (Or.inl ⟨by rfl,?_⟩) (by assumption) ?_;rotate_left
 ·intro w hSw
  (try dsimp only at hSw)
  go_simp
  (try with_reducible rfl)
 (try go_frame)
 refine wpAnyH_take (i:=1) (oi:=_) (v:=?_) rfl (by kernel_rfl) (by kernel_rfl) (by kernel_rfl) (fun _ _ _ h=>h) (Or.inl ⟨by rfl,?_⟩) (by assumption) ?_;rotate_left
 ·intro w hSw
  (try dsimp only at hSw)
  go_simp
  (try with_reducible rfl)
 (try go_frame)
 refine wpAnyH_take (i:=2) (oi:=_) (v:=?_) rfl (by kernel_rfl) (by kernel_rfl) (by kernel_rfl) (fun _ _ _ h=>h) (Or.inl ⟨by rfl,?_⟩) (by assumption) ?_;rotate_left
 ·intro w hSw
  (try dsimp only at hSw)
  go_simp
  (try with_reducible rfl)
 (try go_frame)
 refine wpAnyH_take (i:=3) (oi:=_) (v:=?_) rfl (by kernel_rfl) (by kernel_rfl) (by kernel_rfl) (fun _ _ _ h=>h) (Or.inl ⟨by rfl,?_⟩) (by assumption) ?_;rotate_left
 ·intro w hSw
  (try dsimp only at hSw)
  go_simp
  (try with_reducible rfl)
 (try go_frame)
 refine wpAnyH_take (i:=4) (oi:=_) (v:=?_) rfl (by kernel_rfl) (by kernel_rfl) (by kernel_rfl) (fun _ _ _ h=>h) (Or.inl ⟨by rfl,?_⟩) (by assumption) ?_;rotate_left
 ·intro w hSw
  (try dsimp only at hSw)
  go_simp
  (try with_reducible rfl)
 (try go_frame)
 refine wpAnyH_take (i:=5) (oi:=_) (v:=?_) rfl (by kernel_rfl) (by kernel_rfl) (by kernel_rfl) (fun _ _ _ h=>h) (Or.inl ⟨by rfl,?_⟩) (by assumption) ?_;rotate_left
 ·intro w hSw
  (try dsimp only at hSw)
  go_simp
  (try with_reducible rfl)
 (try go_frame)
 refine wpAnyH_take (i:=6) (oi:=_) (v:=?_) rfl (by kernel_rfl) (by kernel_rfl) (by kernel_rfl) (fun _ _ _ h=>h) (Or.inl ⟨by rfl,?_⟩) (by assumption) ?_;rotate_left
 ·intro w hSw
  (try dsimp only at hSw)
  go_simp
  (try with_reducible rfl)
 (try go_frame)
 refine wpAnyH_take (i:=7) (oi:=_) (v:=?_) rfl (by kernel_rfl) (by kernel_rfl) (by kernel_rfl) (fun _ _ _ h=>h) (Or.inl ⟨by rfl,?_⟩) (by assumption) ?_;rotate_left
 ·intro w hSw
  (try dsimp only at hSw)
  go_simp
  (try with_reducible rfl)
 (try go_frame)
 refine wpAnyH_take (i:=8) (oi:=_) (v:=?_) rfl (by kernel_rfl) (by kernel_rfl) (by kernel_rfl) (fun _ _ _ h=>h) (Or.inl ⟨by rfl,?_⟩) (by assumption) ?_;rotate_left
 ·intro w hSw
  (try dsimp only at hSw)
  go_simp
  (try with_reducible rfl)
 (try go_frame)
 refine wpAnyH_take (i:=9) (oi:=_) (v:=?_) rfl (by kernel_rfl) (by kernel_rfl) (by kernel_rfl) (fun _ _ _ h=>h) (Or.inl ⟨by rfl,?_⟩) (by assumption) ?_;rotate_left
 ·intro w hSw
  (try dsimp only at hSw)
  go_simp
  (try with_reducible rfl)
 (try go_frame)
 refine wpAnyH_take (i:=10) (oi:=_) (v:=?_) rfl (by kernel_rfl) (by kernel_rfl) (by kernel_rfl) (fun _ _ _ h=>h) (Or.inl ⟨by rfl,?_⟩) (by assumption) ?_;rotate_left
 ·intro w hSw
  (try dsimp only at hSw)
  go_simp
  (try with_reducible rfl)
 (try go_frame)
 refine wpAnyH_ready (rs:=[11]) (by kernel_rfl) (by simp) ?_;refine AllReadyH.cons (o:=_) rfl (fun K hK=>?_) AllReadyH.nil;go_simp
 refine hK.out _ _ JF.out (fun hHeld=>?_);clear hK;refine wpAnyH_ready (rs:=[12]) (by kernel_rfl) (by simp) ?_;refine AllReadyH.cons (o:=_) rfl (fun K hK=>?_) AllReadyH.nil;go_simp
 refine (Jo c F (w.heap.size+1) top st f n row x _ fE (by omega) vO wM.out (by omega) r hr).mono ?_;rintro e w2 hS;have HG2:Hid (w.grownBy w2 (some F)):=iC aH.out hS.grown;cases r with
 | error er =>
  obtain rfl:=hS.no er rfl;clear hS hK;go_wp2
  exact⟨rfl,ay.bad HG2.out rfl⟩
 | ok st1 =>
  obtain⟨rfl,lv,hF2⟩:=hS.yes st1 rfl;have sj:=hide hF2;have q2:=HS2.out w2 (iC HT1.out hS.grown) (sV sj.out.blk).2.2.2.2.1;refine hK.out _ _ q2 (fun hHeld=>?_);clear hK hS hF2 hHeld q0;refine wpAnyH_done (by kernel_rfl) ?_ _;go_wp2_with fail
  refine wp_region_held_drew (S:=fun w'=>w'.cell? ⟨w.heap.size,1,none⟩=some (.int .i64 (k:Int))) (by kernel_rfl) q2.2.1 (fun hHeld=>?_);refine wpAnyH_take (i:=0) (oi:=_) (v:=?_) rfl (by kernel_rfl) (by kernel_rfl) (by kernel_rfl) (fun _ _ _ h=>h) (Or.inl ⟨by rfl,?_⟩) (by assumption) ?_;rotate_left
  ·intro w hSw
   (try dsimp only at hSw)
   go_simp
   (try with_reducible rfl)
  (try go_frame)
  refine wpAnyH_take (i:=1) (oi:=_) (v:=?_) rfl (by kernel_rfl) (by kernel_rfl) (by kernel_rfl) (fun _ _ _ h=>h) (Or.inl ⟨by rfl,?_⟩) (by assumption) ?_;rotate_left
  ·intro w hSw
   (try dsimp only at hSw)
   go_simp
   (try with_reducible rfl)
  (try go_frame)
  refine wpAnyH_take (i:=2) (oi:=_) (v:=?_) rfl (by kernel_rfl) (by kernel_rfl) (by kernel_rfl) (fun _ _ _ h=>h) (Or.inl ⟨by rfl,?_⟩) (by assumption) ?_;rotate_left
  ·intro w hSw
   (try dsimp only at hSw)
   go_simp
   (try with_reducible rfl)
  (try go_frame)
  refine wpAnyH_take (i:=3) (oi:=_) (v:=?_) rfl (by kernel_rfl) (by kernel_rfl) (by kernel_rfl) (fun _ _ _ h=>h) (Or.inl ⟨by rfl,?_⟩) (by assumption) ?_;rotate_left
  ·intro w hSw
   (try dsimp only at hSw)
   go_simp
   (try with_reducible rfl)
  (try go_frame)
  refine wpAnyH_take (i:=4) (oi:=_) (v:=?_) rfl (by kernel_rfl) (by kernel_rfl) (by kernel_rfl) (fun _ _ _ h=>h) (Or.inl ⟨by rfl,?_⟩) (by assumption) ?_;rotate_left
  ·intro w hSw
   (try dsimp only at hSw)
   go_simp
   (try with_reducible rfl)
  (try go_frame)
  refine wpAnyH_take (i:=5) (oi:=_) (v:=?_) rfl (by kernel_rfl) (by kernel_rfl) (by kernel_rfl) (fun _ _ _ h=>h) (Or.inl ⟨by rfl,?_⟩) (by assumption) ?_;rotate_left
  ·intro w hSw
   (try dsimp only at hSw)
   go_simp
   (try with_reducible rfl)
  (try go_frame)
  refine wpAnyH_ready (rs:=[6]) (by kernel_rfl) (by simp) ?_;refine AllReadyH.cons (o:=_) rfl (fun K hK=>?_) AllReadyH.nil;go_simp
  refine (Pe c F lv st1 f n row k hk _ (hide sj.out.drew)).mono ?_;rintro e w3 ⟨rfl,hg3,Qh⟩;have sH:Hid (w.grownBy w3 (some F)):=iC HG2.out (uT hg3);have XB:=hide Qh;refine hK.out _ _ (by rw[← q2.2.1];exact gZ (kept (uT hg3) (by have:=HG2.out.size;have:=lt_of_block (kept (iC HT1.out (ui _ _)) (by simp) (by omega) |>.trans (alloc_at w _));have:=World.block_lt_of_cell? w2 _ q2.2.1;exact this) (by omega)) _) (fun hHeld=>?_);clear hK hg3 Qh;refine wpAnyH_done (by kernel_rfl) ?_ _;go_wp2
  go_end0
  exact ay.good sH.out rfl XB.out
theorem yM {a:Int}(h:0≤a):∃ k:Nat,a=k:=⟨a.toNat,by omega⟩
theorem Qi {m:Vf.Md}{u:Vf.Un}{a nn:Int}{op kd:Int}(h:Vf.aA m u ⟨op,a,nn⟩=0)(he:Vf.ranged m u ⟨op,a,nn⟩=Vf.is m kd a):∃ (k:Nat) (x:Vf.Un),a=k∧m.units[k]?=some x∧x.kind=kd:=by
 have h1:=(yj h).2.2;rw[he] at h1;obtain⟨x,h2,h3,h4⟩:=yh h1;exact⟨a.toNat,x,by omega,h2,h3⟩
theorem F6 {m:Vf.Md}{u:Vf.Un}{a nn:Int}{op:Int}{L:Nat}(h:Vf.aA m u ⟨op,a,nn⟩=0)(he:Vf.ranged m u ⟨op,a,nn⟩=(decide (0≤a) && decide (a<L))):∃ k:Nat,a=k∧k<L:=by
 have h1:=(yj h).2.2;rw[he] at h1;simp only[Bool.and_eq_true,decide_eq_true_eq] at h1;exact⟨a.toNat,by omega,by omega⟩
theorem Rt.Qj {m:Vf.Md}(h:Rt m){k:Nat}{u:Vf.Un}(hu:m.units[k]?=some u):0≤u.params∧u.params≤u.locals.length∧u.locals.length≤200:=by
 have:=EE (Ao (h.heads k u hu).1).2.1;exact⟨this.2.1,this.2.2.1,this.1⟩
theorem XC (c:FC)(F B:Nat)(top:Option Addr)(st:List Int)(f:Vf.Fl)(n:Int)(row:Value)(op a nn:Int)(w:World)(h:Hid (aB c w F top st f n row))(hE:Hid (Env c B F w))(hl:st.length≤300)(hgn:Hid (xN c.m st))(hR:Hid (Rt c.m))(hfm:Hid (Vf.aA c.m c.u ⟨op,a,nn⟩=0))
  (hop:op=21∨op=23∨op=24∨op=25∨op=26∨op=27∨op=29∨op=30∨op=31∨op=32) (r:Except Int (List Int)) (hr:Hid (r=Vf.speak c.m c.u ⟨op,a,nn⟩ st)) :
  Calls Tryz.prog 88 #[.pointer (some ⟨F,0,none⟩),.agg #[.int .i64 op,.int .i64 a,.int .i64 nn]] w fun e w'=>ay c F f n row r w e w':=by
 rcases hop with rfl | rfl | rfl | rfl | rfl | rfl | rfl | rfl | rfl | rfl
 ·exact Xd c F B top st f n row a nn w h hE r (hide hr.out)
 ·obtain⟨k,x,rfl,hx,_⟩:=Qi (kd:=2) hfm.out rfl
  exact WU c F B top st f n row nn k x (hide hx) (hide (hR.out.Qj hx)) _ (hide rfl) w h hE hl r (hide (by rw[hr.out];show Vf.turn (Vf.unit c.m (k:Int)).result ((Vf.unit c.m (k:Int)).locals.take (Vf.unit c.m (k:Int)).params.toNat) st=_;rw[Lf hx]))
 ·exact Xc c F B top st f n row a nn w h hE hl r (hide hr.out)
 ·exact Xb c F B top st f n row a nn w h hE hl r (hide hr.out)
 ·obtain⟨k,rfl,hk⟩:=F6 (L:=c.m.boxes.length) hfm.out rfl
  have hx:=List.getElem?_eq_getElem hk;exact WW c F B top st f n row nn k _ (hide hx) w h hE hl r (hide (by rw[hr.out];show Vf.jy [Vf.wH c.m (k:Int)] st=_;rw[Pg hx]))
 ·obtain⟨k,rfl,hk⟩:=F6 (L:=c.m.boxes.length) hfm.out rfl
  have hx:=List.getElem?_eq_getElem hk;exact WX c F B top st f n row nn k _ (hide hx) w h hE hl r (hide (by rw[hr.out];show Vf.put (Vf.wH c.m (k:Int)) st=_;rw[Pg hx]))
 ·obtain⟨k,x,rfl,hx,_⟩:=Qi (kd:=3) hfm.out rfl
  exact WV c F B top st f n row nn k x (hide hx) (hide (hR.out.Qj hx)) hR.out.units _ (hide rfl) w h hE hl r (hide (by rw[hr.out];show Vf.turn (10+(k:Int)) ((Vf.unit c.m (k:Int)).locals.take (Vf.unit c.m (k:Int)).params.toNat) st=_;rw[Lf hx]))
 ·exact WY c F B top st f n row a nn hgn hR.out.units w h hE hl r (hide hr.out)
 ·exact Xa c F B top st f n row a nn w h hE hl r (hide hr.out)
 ·exact W9 c F B top st f n row a nn hgn hR.out.units w h hE hl r (hide hr.out)
theorem Az (c:FC)(F B:Nat)(top:Option Addr)(st:List Int)(f:Vf.Fl)(n:Int)(row:Value)(op a nn:Int)(w:World)(h:Hid (aB c w F top st f n row))(hE:Hid (Env c B F w))(hl:st.length≤300)(hgn:Hid (xN c.m st))(hR:Hid (Rt c.m))(hfm:Hid (Vf.aA c.m c.u ⟨op,a,nn⟩=0))
  (hop:Hid (op=21∨op=23∨op=24∨op=25∨op=26∨op=27∨op=29∨op=30∨op=31∨op=32)) (r:Except Int (List Int)) (hr:Hid (r=Vf.speak c.m c.u ⟨op,a,nn⟩ st)) :
  Calls Tryz.prog 64 #[.pointer (some ⟨F,0,none⟩),.agg #[.int .i64 op,.int .i64 a,.int .i64 nn]] w fun e w'=>ay c F f n row r w e w':=by
 have fH:=hide (h.out.alloc (aj op a nn));have aO:Hid (w.grownBy (w.alloc (aj op a nn)) (some F)):=iy _;have D6:=hide (hE.out.grown aO.out);have ne:∀ k:Int,k≠21→k≠23→k≠24→k≠25→k≠26→k≠27→k≠29→k≠30→k≠31→k≠32→(op==k)=false:=by
  intro k h1 h2 h3 h4 h5 h6 h7 h8 h9 h10;have:=hop.out;simp;omega
 have g1:(op==1)=false:=ne 1 (by decide) (by decide) (by decide) (by decide) (by decide) (by decide) (by decide) (by decide) (by decide) (by decide);have g2:(op==2)=false:=ne 2 (by decide) (by decide) (by decide) (by decide) (by decide) (by decide) (by decide) (by decide) (by decide) (by decide);have g3:(op==3)=false:=ne 3 (by decide) (by decide) (by decide) (by decide) (by decide) (by decide) (by decide) (by decide) (by decide) (by decide);have g4:(op==4)=false:=ne 4 (by decide) (by decide) (by decide) (by decide) (by decide) (by decide) (by decide) (by decide) (by decide) (by decide);have g5:(op==5)=false:=ne 5 (by decide) (by decide) (by decide) (by decide) (by decide) (by decide) (by decide) (by decide) (by decide) (by decide);have g6:(op==6)=false:=ne 6 (by decide) (by decide) (by decide) (by decide) (by decide) (by decide) (by decide) (by decide) (by decide) (by decide);have g7:(op==7)=false:=ne 7 (by decide) (by decide) (by decide) (by decide) (by decide) (by decide) (by decide) (by decide) (by decide) (by decide);have g8:(op==8)=false:=ne 8 (by decide) (by decide) (by decide) (by decide) (by decide) (by decide) (by decide) (by decide) (by decide) (by decide);have g9:(op==9)=false:=ne 9 (by decide) (by decide) (by decide) (by decide) (by decide) (by decide) (by decide) (by decide) (by decide) (by decide);have g10:(op==10)=false:=ne 10 (by decide) (by decide) (by decide) (by decide) (by decide) (by decide) (by decide) (by decide) (by decide) (by decide);have g11:(op==11)=false:=ne 11 (by decide) (by decide) (by decide) (by decide) (by decide) (by decide) (by decide) (by decide) (by decide) (by decide);have g12:(op==12)=false:=ne 12 (by decide) (by decide) (by decide) (by decide) (by decide) (by decide) (by decide) (by decide) (by decide) (by decide);have g15:(op==15)=false:=ne 15 (by decide) (by decide) (by decide) (by decide) (by decide) (by decide) (by decide) (by decide) (by decide) (by decide);have g16:(op==16)=false:=ne 16 (by decide) (by decide) (by decide) (by decide) (by decide) (by decide) (by decide) (by decide) (by decide) (by decide);have g17:(op==17)=false:=ne 17 (by decide) (by decide) (by decide) (by decide) (by decide) (by decide) (by decide) (by decide) (by decide) (by decide);have g18:(op==18)=false:=ne 18 (by decide) (by decide) (by decide) (by decide) (by decide) (by decide) (by decide) (by decide) (by decide) (by decide);have g19:(op==19)=false:=ne 19 (by decide) (by decide) (by decide) (by decide) (by decide) (by decide) (by decide) (by decide) (by decide) (by decide);have g20:(op==20)=false:=ne 20 (by decide) (by decide) (by decide) (by decide) (by decide) (by decide) (by decide) (by decide) (by decide) (by decide);have g13:(op==13)=false:=ne 13 (by decide) (by decide) (by decide) (by decide) (by decide) (by decide) (by decide) (by decide) (by decide) (by decide);have g14:(op==14)=false:=ne 14 (by decide) (by decide) (by decide) (by decide) (by decide) (by decide) (by decide) (by decide) (by decide) (by decide);have g28:(op==28)=false:=ne 28 (by decide) (by decide) (by decide) (by decide) (by decide) (by decide) (by decide) (by decide) (by decide) (by decide);have g22:(op==22)=false:=ne 22 (by decide) (by decide) (by decide) (by decide) (by decide) (by decide) (by decide) (by decide) (by decide) (by decide);clear ne;go_enter Tryz.func64,Tryz.ntmps64
 go_wp2_with fail
 refine (XC c F B top st f n row op a nn _ fH D6 hl hgn hR hfm hop.out r hr).mono ?_;rintro e w9 hS;have ak:Hid (w.grownBy w9 (some F)):=iC aO.out hS.grown;cases r with
 | error er =>
  obtain rfl:=hS.no er rfl;clear hS;go_wp2
  exact⟨rfl,ay.bad ak.out rfl⟩
 | ok iq =>
  obtain⟨rfl,uG,aR⟩:=hS.yes iq rfl;have il:=hide aR;clear hS aR;go_wp2
  go_end0
  exact ay.good ak.out rfl il.out
theorem Lx (c:FC)(F B:Nat)(top:Option Addr)(st:List Int)(f:Vf.Fl)(n:Int)(row:Value)(op a nn:Int)(w:World)(h:Hid (aB c w F top st f n row))(hE:Hid (Env c B F w))(hl:st.length≤300)(hgn:Hid (xN c.m st))(hR:Hid (Rt c.m))(hfm:Hid (Vf.aA c.m c.u ⟨op,a,nn⟩=0))(hlo:c.u.locals.length≤200)
  (r:Except Int (List Int)) (hr:Hid (r=Vf.jA c.m c.u ⟨op,a,nn⟩ ⟨st,f⟩)) :
  Calls Tryz.prog 64 #[.pointer (some ⟨F,0,none⟩),.agg #[.int .i64 op,.int .i64 a,.int .i64 nn]] w fun e w'=>ay c F (Vf.kV ⟨op,a,nn⟩ f) n row r w e w':=by
 obtain⟨h1,h2,_⟩:=yj hfm.out;have h1':1≤op:=h1;have h2':op≤32:=h2;rcases (by omega:op=1∨op=2∨op=3∨op=4∨op=5∨op=6∨op=7∨op=8∨op=9∨op=10∨op=11∨op=12∨op=13∨op=14∨op=15∨op=16∨op=17∨op=18∨op=19∨op=20∨op=21∨op=22∨op=23∨op=24∨op=25∨op=26∨op=27∨op=28∨op=29∨op=30∨op=31∨op=32) with rfl | rfl | rfl | rfl | rfl | rfl | rfl | rfl | rfl | rfl | rfl | rfl | rfl | rfl | rfl | rfl | rfl | rfl | rfl | rfl | rfl | rfl | rfl | rfl | rfl | rfl | rfl | rfl | rfl | rfl | rfl | rfl
 ·exact Xe c F B top st f n row a nn w h hE hl r (hide hr.out)
 ·exact Xf c F B top st f n row a nn w h hE hl r (hide hr.out)
 ·obtain⟨k,rfl,hk⟩:=F6 (L:=c.u.locals.length) hfm.out rfl
  have hx:=List.getElem?_eq_getElem hk;exact Xz c F B top st f n row nn k _ (hide hx) (by omega) w h hE hl r (hide (by rw[hr.out];show Vf.andThen (Vf.must (f.has (k:Int).toNat) 11 st) (Vf.put (Vf.xu c.u (k:Int)))=_;rw[Ph hx];rfl))
 ·obtain⟨k,rfl,hk⟩:=F6 (L:=c.u.locals.length) hfm.out rfl
  have hx:=List.getElem?_eq_getElem hk;exact XA c F B top st f n row nn k _ (hide hx) (by omega) w h hE hl r (hide (by rw[hr.out];show Vf.jy [Vf.xu c.u (k:Int)] st=_;rw[Ph hx]))
 ·exact Xj c F B top st f n row a nn w h hE hl r (hide hr.out)
 ·exact Xg c F B top st f n row a nn w h hE hl r (hide hr.out)
 ·exact Xh c F B top st f n row a nn w h hE hl r (hide hr.out)
 ·exact Xn c F B top st f n row a nn w h hE hl r (hide hr.out)
 ·exact Xo c F B top st f n row a nn w h hE hl r (hide hr.out)
 ·exact Xp c F B top st f n row a nn w h hE hl r (hide hr.out)
 ·exact Xq c F B top st f n row a nn w h hE hl r (hide hr.out)
 ·exact Xr c F B top st f n row a nn w h hE hl r (hide hr.out)
 ·exact Xl c F B top st f n row a nn w h hE hl r (hide hr.out)
 ·exact Xm c F B top st f n row a nn w h hE hl r (hide hr.out)
 ·exact Xt c F B top st f n row a nn w h hE hl r (hide hr.out)
 ·exact Xu c F B top st f n row a nn w h hE hl r (hide hr.out)
 ·exact Xv c F B top st f n row a nn w h hE hl r (hide hr.out)
 ·exact Xw c F B top st f n row a nn w h hE hl r (hide hr.out)
 ·exact Xx c F B top st f n row a nn w h hE hl r (hide hr.out)
 ·exact Xy c F B top st f n row a nn w h hE hl r (hide hr.out)
 ·exact Az c F B top st f n row 21 a nn w h hE hl hgn hR hfm (hide (by decide)) r (hide hr.out)
 ·exact Xi c F B top st f n row a nn w h hE hl r (hide hr.out)
 ·exact Az c F B top st f n row 23 a nn w h hE hl hgn hR hfm (hide (by decide)) r (hide hr.out)
 ·exact Az c F B top st f n row 24 a nn w h hE hl hgn hR hfm (hide (by decide)) r (hide hr.out)
 ·exact Az c F B top st f n row 25 a nn w h hE hl hgn hR hfm (hide (by decide)) r (hide hr.out)
 ·exact Az c F B top st f n row 26 a nn w h hE hl hgn hR hfm (hide (by decide)) r (hide hr.out)
 ·exact Az c F B top st f n row 27 a nn w h hE hl hgn hR hfm (hide (by decide)) r (hide hr.out)
 ·exact Xk c F B top st f n row a nn w h hE hl r (hide hr.out)
 ·exact Az c F B top st f n row 29 a nn w h hE hl hgn hR hfm (hide (by decide)) r (hide hr.out)
 ·exact Az c F B top st f n row 30 a nn w h hE hl hgn hR hfm (hide (by decide)) r (hide hr.out)
 ·exact Az c F B top st f n row 31 a nn w h hE hl hgn hR hfm (hide (by decide)) r (hide hr.out)
 ·exact Az c F B top st f n row 32 a nn w h hE hl hgn hR hfm (hide (by decide)) r (hide hr.out)
abbrev aT (m:Vf.Md) (ab au:Option Addr) (cb cu:Nat):Value:=.agg #[.slice ab m.boxes.length cb,.slice au m.units.length cu]
abbrev vv (m:Vf.Md) (ab au:Option Addr) (cb cu:Nat):Obj:=.cells #[.slice ab m.boxes.length cb,.slice au m.units.length cu] 49 (0,0)
abbrev wN (c:FC):Value:=.agg #[.slice c.ab c.m.boxes.length c.cb,.slice c.au c.m.units.length c.cu,.int .i64 c.u.kind,.int .i64 c.u.params,.slice c.al c.u.locals.length c.cl,.int .i64 c.u.result,.int .i64 c.u.takes,.slice c.ac c.u.code.length c.cc]
abbrev sJ (c:FC):Obj:=.cells #[.slice c.ab c.m.boxes.length c.cb,.slice c.au c.m.units.length c.cu,.int .i64 c.u.kind,.int .i64 c.u.params,.slice c.al c.u.locals.length c.cl,.int .i64 c.u.result,.int .i64 c.u.takes,.slice c.ac c.u.code.length c.cc] 67 (0,0)
theorem F7 {m:Vf.Md}{k n:Int}(h:¬ 0≤n):Vf.is m k n=false:=by unfold Vf.is;simp[h]
theorem LK {m:Vf.Md}{k n:Int}(h:(m.units.length:Int)≤n):Vf.is m k n=false:=by
 unfold Vf.is;rw[List.getElem?_eq_none (by omega)];simp
theorem JG {m:Vf.Md}{k:Int}{n:Nat}{u:Vf.Un}(h:m.units[n]?=some u):Vf.is m k (n:Int)=(u.kind==k):=by
 unfold Vf.is;simp[h]
theorem Hg (m:Vf.Md)(ab au:Option Addr)(cb cu B:Nat)(k n:Int)(w:World)(hm:Hid (aD B w m ab au))(hB:B≤w.heap.size)(b:Bool)(hb:Hid (b=Vf.is m k n)) :
  Calls Tryz.prog 80 #[aT m ab au cb cu,.int .i64 k,.int .i64 n] w fun e w'=>e=.returned (.bool b)∧w'=w.alloc (vv m ab au cb cu):=by
 by_cases h0:0≤n
 ·obtain⟨j,rfl⟩:=yM h0
  by_cases h1:j<m.units.length
  ·obtain⟨u,hu⟩:∃ u,m.units[j]?=some u:=⟨_,List.getElem?_eq_getElem h1⟩
   obtain⟨bu,off,al,cl,ac,cc,ha,hbu,_,u0,_⟩:=hm.out.units j u hu;have HR:Hid (b=(u.kind==k)):=by rw[hb.out,JG hu];rfl
   have hd:(0:Int)≤(j:Int):=by omega
   have hd1:(j:Int)<(m.units.length:Int):=by omega
   have hbl:bu<w.heap.size:=by omega
   subst ha;clear hu hb;go_enter Tryz.func80,Tryz.ntmps80
   go_wp2
   go_ret
   rw[HR.out];exact⟨rfl,rfl⟩
  ·have HR:Hid (b=false):=by rw[hb.out,LK (by omega)];rfl
   have hd:(0:Int)≤(j:Int):=by omega
   have hd1:decide (j<m.units.length)=false:=by simpa using h1
   go_enter Tryz.func80,Tryz.ntmps80
   go_wp2
   go_ret
   rw[HR.out];exact⟨rfl,rfl⟩
 ·have HR:Hid (b=false):=by rw[hb.out,F7 h0];rfl
  have hd:decide (0≤n)=false:=by simpa using h0
  go_enter Tryz.func80,Tryz.ntmps80
  go_wp2
  go_ret
  rw[HR.out];exact⟨rfl,rfl⟩
theorem ES {w:World}{N:Nat}{c:FC}(h:w.heap[N]?=some (sJ c)):w.cell? ⟨N,0,none⟩=some (.slice c.ab c.m.boxes.length c.cb)∧w.cell? ⟨N,1,none⟩=some (.slice c.au c.m.units.length c.cu)∧w.cell? ⟨N,2,none⟩=some (.int .i64 c.u.kind)∧w.cell? ⟨N,3,none⟩=some (.int .i64 c.u.params)∧w.cell? ⟨N,4,none⟩=some (.slice c.al c.u.locals.length c.cl)∧w.cell? ⟨N,5,none⟩=some (.int .i64 c.u.result)∧w.cell? ⟨N,6,none⟩=some (.int .i64 c.u.takes)∧w.cell? ⟨N,7,none⟩=some (.slice c.ac c.u.code.length c.cc):=by
 simp[World.cell?,h]
theorem D7 {b b':Bool}(h:b'=b):Ending.returned (Value.bool b')=Ending.returned (Value.bool b):=by rw[h]
theorem XD (c:FC)(w:World)(b:Bool)(hb:Hid (b=Vf.zo c.u)) :
  Calls Tryz.prog 57 #[wN c] w fun e w'=>e=.returned (.bool b)∧w'=w.alloc (sJ c):=by
 have HB:Hid (b=(c.u.kind==2 || c.u.kind==3 || c.u.kind==4)):=hb.out;clear hb;cases e2:(c.u.kind==2)
 ·cases e3:(c.u.kind==3)
  ·have HT:Hid (b=(c.u.kind==4)):=by rw[HB.out,e2,e3];rfl
   go_enter Tryz.func57,Tryz.ntmps57
   go_wp2
   go_ret
   rw[HT.out];exact⟨rfl,rfl⟩
  ·have HT:Hid (b=true):=by rw[HB.out,e2,e3];rfl
   go_enter Tryz.func57,Tryz.ntmps57
   go_wp2
   go_ret
   rw[HT.out];exact⟨rfl,rfl⟩
 ·have HT:Hid (b=true):=by rw[HB.out,e2];rfl
  go_enter Tryz.func57,Tryz.ntmps57
  go_wp2
  go_ret
  rw[HT.out];exact⟨rfl,rfl⟩
theorem XE (c:FC)(w:World)(b:Bool)(hb:Hid (b=Vf.sized c.u)) :
  Calls Tryz.prog 59 #[wN c] w fun e w'=>e=.returned (.bool b)∧w'=w.alloc (sJ c):=by
 go_enter Tryz.func59,Tryz.ntmps59
 go_wp2
 all_goals
  go_ret
  refine⟨D7 ?_,rfl⟩;rw[hb.out];unfold Vf.sized;rw[Bool.eq_iff_iff];simp only[Bool.and_eq_true,decide_eq_true_eq];first | (simp[*]<;>omega) | (simp[*];done) | (split<;>simp<;>omega)
structure LM (c:FC) (w:World) (b:Bool) (k:Nat) (W:World):Prop where
 le:k≤c.u.locals.length
 grown:w.grownBy W none
 rest:b=(c.u.locals.drop k).all (fun t=>Vf.plain t || Vf.is c.m 3 (t - 10))
theorem ai {w w':World}(h:w.grownBy w' none)(o:Obj):w.grownBy (w'.alloc o) none :=
 ⟨h.os,h.tape,h.output,by have:=h.size;simp;omega,fun k hk hne=>(Below.heap_alloc _ _ _ (by have:=h.size;omega)).trans (h.block k hk hne)⟩
theorem aC {w w':World}{b:Nat}(hg:w.grownBy w' none)(hb:b<w.heap.size):w'.heap[b]?=w.heap[b]?:=hg.block b hb (by simp)
theorem aK {B:Nat}{w w':World}(h:w.grownBy w' none)(hB:B≤w.heap.size):Low B w w':=fun k hk=>h.block k (by omega) (by simp)
theorem aJ {a b c:World}(h:a.grownBy b none)(k:b.grownBy c none):a.grownBy c none:=⟨k.os.trans h.os,k.tape.trans h.tape,k.output.trans h.output,Nat.le_trans h.size k.size,fun x hx hne=>(k.block x (by have:=h.size;omega) hne).trans (h.block x hx hne)⟩
theorem F8 {m:Vf.Md}(hmu:m.units.length≤30){t:Int}(h:dA t):Vf.is m 3 (t - 10)=Vf.is m 3 (IntKind.i64.wrap (t - 10)):=by
 by_cases h0:-9223372036854775808≤t - 10
 ·have e:IntKind.i64.wrap (t - 10)=t - 10:=by
   have:=h.2;simp[IntKind.wrap,IntKind.bits,IntKind.signed];omega
  rw[e]
 ·have e:(m.units.length:Int)≤IntKind.i64.wrap (t - 10):=by
   have:=h.1;simp[IntKind.wrap,IntKind.bits,IntKind.signed];omega
  rw[LK e,F7 (by omega)]
theorem XF (c:FC)(B:Nat)(w:World)(hmd:Hid (aD B w c.m c.ab c.au))(hun:Hid (ig B w c.u c.al c.ac c.cl c.cc))(hB:B≤w.heap.size)(hmu:c.m.units.length≤30)(b:Bool)(hb:Hid (b=Vf.typed c.m c.u)) :
  Calls Tryz.prog 60 #[wN c] w fun e w'=>e=.returned (.bool b)∧w.grownBy w' none:=by
 obtain⟨y0,y1,y2,y3,y4,y5,y6,y7⟩:=ES (heap_alloc_new w (sJ c));have hlo:c.u.locals.length≤9223372036854775807:=hun.out.few.1;have HB:Hid (b=(((c.u.kind==4 || Vf.plain c.u.result) && (c.u.kind != 3 || Vf.plain c.u.takes)) && c.u.locals.all (fun t=>Vf.plain t || Vf.is c.m 3 (t - 10)))):=hb.out;obtain⟨p1,hp1⟩:∃ p,p=Vf.plain c.u.result:=⟨_,rfl⟩;obtain⟨p2,hp2⟩:∃ p,p=Vf.plain c.u.takes:=⟨_,rfl⟩;rw[← hp1,← hp2] at HB;have uE:=hide hp1;have vM:=hide hp2;clear hb hp1 hp2;cases e4:(c.u.kind==4) with
 | true =>
  have e4':(c.u.kind != 4)=false:=by simp at e4;simp[e4]
  have e3:(c.u.kind==3)=false:=by simp at e4;simp[e4]
  have e3':(c.u.kind != 3)=true:=by simp at e4;simp[e4]
  have HT:Hid (b=(c.u.locals.drop 0).all (fun t=>Vf.plain t || Vf.is c.m 3 (t - 10))):=by unfold Hid;rw[HB.out,e4,e3'];simp
  go_enter Tryz.func60,Tryz.ntmps60
  go_wp2_with fail
  go_loopw [33] (fun v wr=>∃ k:Nat,v=.int .i64 k∧LM c (w.alloc (sJ c)) b k wr) (fun v _=>c.u.locals.length - (intOf v).toNat)
  case atStart=>exact⟨0,rfl,Nat.zero_le _,World.grownBy.refl _ _,HT.out⟩
  case round =>
   obtain⟨k,rfl,hA⟩:=hrel;have HA:=hide hA;have hk:=hA.le;clear hA;by_cases hlt:k<c.u.locals.length
   ·obtain⟨t,ht⟩:∃ t,c.u.locals[k]?=some t:=⟨_,List.getElem?_eq_getElem hlt⟩
    have hlow:Low B w wr:=fun j hj=>(aC HA.out.grown (by simp;omega)).trans (Below.heap_alloc _ _ _ (by omega));obtain⟨h64,bl,ol,hal,hbl,ct⟩:=(hun.out.locals.low hlow) k t ht;have hub:wr.heap[w.heap.size]?=some (sJ c):=(aC HA.out.grown (by simp)).trans (heap_alloc_new w _);obtain⟨y0,y1,_⟩:=ES hub;have xz:Hid (aD B wr c.m c.ab c.au):=hmd.out.low hlow;have hwr:w.heap.size<wr.heap.size:=lt_of_block hub;have HN:Hid (b=((Vf.plain t || Vf.is c.m 3 (t - 10)) && (c.u.locals.drop (k+1)).all (fun t=>Vf.plain t || Vf.is c.m 3 (t - 10)))):=by
     unfold Hid;obtain⟨hk',hte⟩:=List.getElem?_eq_some_iff.1 ht;rw[HA.out.rest,List.drop_eq_getElem_cons hk',hte,List.all_cons]
    obtain⟨p,hp⟩:∃ p,p=Vf.plain t:=⟨_,rfl⟩;rw[← hp] at HN;have uq:=hide hp;have vO:=hide h64;have yN:=hide hal;clear ht hub hlow h64 hp;rw[yN.out];cases p with
    | true =>
     have aX:Hid (b=(c.u.locals.drop (k+1)).all (fun t=>Vf.plain t || Vf.is c.m 3 (t - 10))):=by rw[HN.out];rfl
     go_wp2_with fail
     refine (yg t _ true uq).mono ?_;rintro e w2 ⟨rfl,rfl⟩;go_wp2
     go_roundw
     case rel=>exact⟨k+1,by go_num,hlt,HA.out.grown,aX.out⟩
     case measure=>simp[intOf];omega
    | false =>
     obtain⟨q,hq⟩:∃ q,q=Vf.is c.m 3 (t - 10):=⟨_,rfl⟩;have aX:Hid (b=(q && (c.u.locals.drop (k+1)).all (fun t=>Vf.plain t || Vf.is c.m 3 (t - 10)))):=by rw[HN.out,hq];rfl
     obtain⟨d,hd⟩:∃ d:Int,d=IntKind.i64.wrap (t - 10):=⟨_,rfl⟩;have HQ:Hid (q=Vf.is c.m 3 d):=by
      unfold Hid;rw[hq,hd];exact F8 hmu vO.out
     have hd':=hd.symm;clear hd hq;go_wp2_with fail
     refine (yg t _ false uq).mono ?_;rintro e w2 ⟨rfl,rfl⟩;go_wp2_with fail
     refine (Hg c.m c.ab c.au c.cb c.cu B 3 d _ xz (by omega) q HQ).mono ?_;rintro e w3 ⟨rfl,rfl⟩;cases q with
     | true =>
      have jh:Hid (b=(c.u.locals.drop (k+1)).all (fun t=>Vf.plain t || Vf.is c.m 3 (t - 10))):=by rw[aX.out];rfl
      go_wp2
      go_roundw
      case rel=>exact⟨k+1,by go_num,hlt,ai HA.out.grown _,jh.out⟩
      case measure=>simp[intOf];omega
     | false =>
      have jh:Hid (b=false):=by rw[aX.out];rfl
      go_wp2
      go_ret
      rw[jh.out];exact⟨rfl,ai (aJ (ai (World.grownBy.refl _ _) _) HA.out.grown) _⟩
   ·have HN:Hid (b=true):=by unfold Hid;rw[HA.out.rest,List.drop_eq_nil_of_le (by omega)];rfl
    go_wp2
    go_ret
    rw[HN.out];exact⟨rfl,aJ (ai (World.grownBy.refl _ _) _) HA.out.grown⟩
 | false =>
  have e4':(c.u.kind != 4)=true:=by simp at e4;simp[e4]
  cases p1 with
  | false =>
   have HN:Hid (b=false):=by rw[HB.out,e4];rfl
   go_enter Tryz.func60,Tryz.ntmps60
   go_wp2_with fail
   refine (yg c.u.result _ false uE).mono ?_;rintro e w2 ⟨rfl,rfl⟩;go_wp2
   go_ret
   rw[HN.out];exact⟨rfl,ai (World.grownBy.refl _ _) _⟩
  | true =>
   cases e3:(c.u.kind==3) with
   | false =>
    have e3':(c.u.kind != 3)=true:=by simp at e3;simp[e3]
    have HT:Hid (b=(c.u.locals.drop 0).all (fun t=>Vf.plain t || Vf.is c.m 3 (t - 10))):=by unfold Hid;rw[HB.out,e4,e3'];simp
    go_enter Tryz.func60,Tryz.ntmps60
    go_wp2_with fail
    refine (yg c.u.result _ true uE).mono ?_;rintro e w2 ⟨rfl,rfl⟩;go_wp2_with fail
    go_loopw [33] (fun v wr=>∃ k:Nat,v=.int .i64 k∧LM c (w.alloc (sJ c)) b k wr) (fun v _=>c.u.locals.length - (intOf v).toNat)
    case atStart=>exact⟨0,rfl,Nat.zero_le _,World.grownBy.refl _ _,HT.out⟩
    case round =>
     obtain⟨k,rfl,hA⟩:=hrel;have HA:=hide hA;have hk:=hA.le;clear hA;by_cases hlt:k<c.u.locals.length
     ·obtain⟨t,ht⟩:∃ t,c.u.locals[k]?=some t:=⟨_,List.getElem?_eq_getElem hlt⟩
      have hlow:Low B w wr:=fun j hj=>(aC HA.out.grown (by simp;omega)).trans (Below.heap_alloc _ _ _ (by omega));obtain⟨h64,bl,ol,hal,hbl,ct⟩:=(hun.out.locals.low hlow) k t ht;have hub:wr.heap[w.heap.size]?=some (sJ c):=(aC HA.out.grown (by simp)).trans (heap_alloc_new w _);obtain⟨y0,y1,_⟩:=ES hub;have xz:Hid (aD B wr c.m c.ab c.au):=hmd.out.low hlow;have hwr:w.heap.size<wr.heap.size:=lt_of_block hub;have HN:Hid (b=((Vf.plain t || Vf.is c.m 3 (t - 10)) && (c.u.locals.drop (k+1)).all (fun t=>Vf.plain t || Vf.is c.m 3 (t - 10)))):=by
       unfold Hid;obtain⟨hk',hte⟩:=List.getElem?_eq_some_iff.1 ht;rw[HA.out.rest,List.drop_eq_getElem_cons hk',hte,List.all_cons]
      obtain⟨p,hp⟩:∃ p,p=Vf.plain t:=⟨_,rfl⟩;rw[← hp] at HN;have uq:=hide hp;have vO:=hide h64;have yN:=hide hal;clear ht hub hlow h64 hp;rw[yN.out];cases p with
      | true =>
       have aX:Hid (b=(c.u.locals.drop (k+1)).all (fun t=>Vf.plain t || Vf.is c.m 3 (t - 10))):=by rw[HN.out];rfl
       go_wp2_with fail
       refine (yg t _ true uq).mono ?_;rintro e w2 ⟨rfl,rfl⟩;go_wp2
       go_roundw
       case rel=>exact⟨k+1,by go_num,hlt,HA.out.grown,aX.out⟩
       case measure=>simp[intOf];omega
      | false =>
       obtain⟨q,hq⟩:∃ q,q=Vf.is c.m 3 (t - 10):=⟨_,rfl⟩;have aX:Hid (b=(q && (c.u.locals.drop (k+1)).all (fun t=>Vf.plain t || Vf.is c.m 3 (t - 10)))):=by rw[HN.out,hq];rfl
       obtain⟨d,hd⟩:∃ d:Int,d=IntKind.i64.wrap (t - 10):=⟨_,rfl⟩;have HQ:Hid (q=Vf.is c.m 3 d):=by
        unfold Hid;rw[hq,hd];exact F8 hmu vO.out
       have hd':=hd.symm;clear hd hq;go_wp2_with fail
       refine (yg t _ false uq).mono ?_;rintro e w2 ⟨rfl,rfl⟩;go_wp2_with fail
       refine (Hg c.m c.ab c.au c.cb c.cu B 3 d _ xz (by omega) q HQ).mono ?_;rintro e w3 ⟨rfl,rfl⟩;cases q with
       | true =>
        have jh:Hid (b=(c.u.locals.drop (k+1)).all (fun t=>Vf.plain t || Vf.is c.m 3 (t - 10))):=by rw[aX.out];rfl
        go_wp2
        go_roundw
        case rel=>exact⟨k+1,by go_num,hlt,ai HA.out.grown _,jh.out⟩
        case measure=>simp[intOf];omega
       | false =>
        have jh:Hid (b=false):=by rw[aX.out];rfl
        go_wp2
        go_ret
        rw[jh.out];exact⟨rfl,ai (aJ (ai (World.grownBy.refl _ _) _) HA.out.grown) _⟩
     ·have HN:Hid (b=true):=by unfold Hid;rw[HA.out.rest,List.drop_eq_nil_of_le (by omega)];rfl
      go_wp2
      go_ret
      rw[HN.out];exact⟨rfl,aJ (ai (World.grownBy.refl _ _) _) HA.out.grown⟩
   | true =>
    have e3':(c.u.kind != 3)=false:=by simp at e3;simp[e3]
    cases p2 with
    | false =>
     have HN:Hid (b=false):=by rw[HB.out,e4,e3'];rfl
     go_enter Tryz.func60,Tryz.ntmps60
     go_wp2_with fail
     refine (yg c.u.result _ true uE).mono ?_;rintro e w2 ⟨rfl,rfl⟩;go_wp2_with fail
     refine (yg c.u.takes _ false vM).mono ?_;rintro e w3 ⟨rfl,rfl⟩;go_wp2
     go_ret
     rw[HN.out];exact⟨rfl,ai (World.grownBy.refl _ _) _⟩
    | true =>
     have HT:Hid (b=(c.u.locals.drop 0).all (fun t=>Vf.plain t || Vf.is c.m 3 (t - 10))):=by unfold Hid;rw[HB.out,e4,e3'];simp
     go_enter Tryz.func60,Tryz.ntmps60
     go_wp2_with fail
     refine (yg c.u.result _ true uE).mono ?_;rintro e w2 ⟨rfl,rfl⟩;go_wp2_with fail
     refine (yg c.u.takes _ true vM).mono ?_;rintro e w3 ⟨rfl,rfl⟩;go_wp2_with fail
     go_loopw [33] (fun v wr=>∃ k:Nat,v=.int .i64 k∧LM c (w.alloc (sJ c)) b k wr) (fun v _=>c.u.locals.length - (intOf v).toNat)
     case atStart=>exact⟨0,rfl,Nat.zero_le _,World.grownBy.refl _ _,HT.out⟩
     case round =>
      obtain⟨k,rfl,hA⟩:=hrel;have HA:=hide hA;have hk:=hA.le;clear hA;by_cases hlt:k<c.u.locals.length
      ·obtain⟨t,ht⟩:∃ t,c.u.locals[k]?=some t:=⟨_,List.getElem?_eq_getElem hlt⟩
       have hlow:Low B w wr:=fun j hj=>(aC HA.out.grown (by simp;omega)).trans (Below.heap_alloc _ _ _ (by omega));obtain⟨h64,bl,ol,hal,hbl,ct⟩:=(hun.out.locals.low hlow) k t ht;have hub:wr.heap[w.heap.size]?=some (sJ c):=(aC HA.out.grown (by simp)).trans (heap_alloc_new w _);obtain⟨y0,y1,_⟩:=ES hub;have xz:Hid (aD B wr c.m c.ab c.au):=hmd.out.low hlow;have hwr:w.heap.size<wr.heap.size:=lt_of_block hub;have HN:Hid (b=((Vf.plain t || Vf.is c.m 3 (t - 10)) && (c.u.locals.drop (k+1)).all (fun t=>Vf.plain t || Vf.is c.m 3 (t - 10)))):=by
        unfold Hid;obtain⟨hk',hte⟩:=List.getElem?_eq_some_iff.1 ht;rw[HA.out.rest,List.drop_eq_getElem_cons hk',hte,List.all_cons]
       obtain⟨p,hp⟩:∃ p,p=Vf.plain t:=⟨_,rfl⟩;rw[← hp] at HN;have uq:=hide hp;have vO:=hide h64;have yN:=hide hal;clear ht hub hlow h64 hp;rw[yN.out];cases p with
       | true =>
        have aX:Hid (b=(c.u.locals.drop (k+1)).all (fun t=>Vf.plain t || Vf.is c.m 3 (t - 10))):=by rw[HN.out];rfl
        go_wp2_with fail
        refine (yg t _ true uq).mono ?_;rintro e w2 ⟨rfl,rfl⟩;go_wp2
        go_roundw
        case rel=>exact⟨k+1,by go_num,hlt,HA.out.grown,aX.out⟩
        case measure=>simp[intOf];omega
       | false =>
        obtain⟨q,hq⟩:∃ q,q=Vf.is c.m 3 (t - 10):=⟨_,rfl⟩;have aX:Hid (b=(q && (c.u.locals.drop (k+1)).all (fun t=>Vf.plain t || Vf.is c.m 3 (t - 10)))):=by rw[HN.out,hq];rfl
        obtain⟨d,hd⟩:∃ d:Int,d=IntKind.i64.wrap (t - 10):=⟨_,rfl⟩;have HQ:Hid (q=Vf.is c.m 3 d):=by
         unfold Hid;rw[hq,hd];exact F8 hmu vO.out
        have hd':=hd.symm;clear hd hq;go_wp2_with fail
        refine (yg t _ false uq).mono ?_;rintro e w2 ⟨rfl,rfl⟩;go_wp2_with fail
        refine (Hg c.m c.ab c.au c.cb c.cu B 3 d _ xz (by omega) q HQ).mono ?_;rintro e w3 ⟨rfl,rfl⟩;cases q with
        | true =>
         have jh:Hid (b=(c.u.locals.drop (k+1)).all (fun t=>Vf.plain t || Vf.is c.m 3 (t - 10))):=by rw[aX.out];rfl
         go_wp2
         go_roundw
         case rel=>exact⟨k+1,by go_num,hlt,ai HA.out.grown _,jh.out⟩
         case measure=>simp[intOf];omega
        | false =>
         have jh:Hid (b=false):=by rw[aX.out];rfl
         go_wp2
         go_ret
         rw[jh.out];exact⟨rfl,ai (aJ (ai (World.grownBy.refl _ _) _) HA.out.grown) _⟩
      ·have HN:Hid (b=true):=by unfold Hid;rw[HA.out.rest,List.drop_eq_nil_of_le (by omega)];rfl
       go_wp2
       go_ret
       rw[HN.out];exact⟨rfl,aJ (ai (World.grownBy.refl _ _) _) HA.out.grown⟩
end Go.Proofs.YtbdpdjcdhclbfaaGreat
