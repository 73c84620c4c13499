/- The walk of speak,a kind of instruction each. -/
import Derived.Test.YtfcpglhpolpdcaaGreatDoorM3
import Derived.Maps.RangeWalk
set_option maxRecDepth 100000
set_option maxHeartbeats 2000000
namespace Go.Proofs.YtfcpglhpolpdcaaGreatDoor
open Go.RowKit
theorem Y0 (c:FC)(F B:Nat)(top:Option Addr)(st:List Int)(f:Vf.Fl)(n:Int)(row:Value)(nn:Int)(k:Nat)(u:Vf.Un)(hu:Hid (c.m.units[k]?=some u))(hp:Hid (0≤u.params∧u.params≤u.locals.length∧u.locals.length≤200))(pl:List Int)(hpl:Hid (pl=u.locals.take u.params.toNat))(w:World)(h:Hid (ay c w F top st f n row))(hE:Hid (Env c B F w))(hl:st.length≤300)(r:Except Int (List Int))(hr:Hid (r=Vf.turn u.result pl st)) :
  Calls Tryz.prog 178 #[.pointer (some ⟨F,0,none⟩),.agg #[.int .i64 23,.int .i64 (k:Int),.int .i64 nn]] w fun e w'=>ax c F f n row r w e w':=by
 have hlt:=hE.out.lt;have jJ:=hE.out.base;obtain⟨b,off,al,cl,ac,cc,ha,hb,gq,u0,u1,u2,u3,u4,u5⟩:=hE.out.md.units k u hu.out;have oZ:k<c.m.units.length:=(List.getElem?_eq_some_iff.1 hu.out).1;have hk1:(k:Int)<(c.m.units.length:Int):=by omega
 have jP:=hide (h.out.alloc (ai 23 (k:Int) nn));have d1:(w.alloc (ai 23 (k:Int) nn)).cell? ⟨F,1,none⟩=some (.slice (some ⟨b,off,none⟩) c.m.units.length c.cu):=by have:=(dV jP.out.blk).2.1;rw[ha] at this;exact this
 have d2:(w.alloc (ai 23 (k:Int) nn)).cell? ⟨w.heap.size,1,none⟩=some (.int .i64 (k:Int)):=(tV (alloc_at w _)).2.1;have d3:(w.alloc (ai 23 (k:Int) nn)).cell? ⟨b,off+k * 6+3,none⟩=some (.int .i64 u.result):=(wU _ _ (by omega)).trans u3;have HA:=hide ha;clear gq u0 u1 u2 u3 u4 u5 ha;have H5:pl.length<1000:=by rw[hpl.out];have:=hp.out.2.2;simp;omega
 go_enter Tryz.func178,Tryz.ntmps178
 go_wp2_with fail
 refine wp_region_held_drew (S:=fun w'=>w'.cell? ⟨F,1,none⟩=some (.slice (some ⟨b,off,none⟩) c.m.units.length c.cu)∧w'.cell? ⟨w.heap.size,1,none⟩=some (.int .i64 (k:Int))∧w'.cell? ⟨b,off+k * 6+3,none⟩=some (.int .i64 u.result)) (by kernel_rfl) ⟨d1,d2,d3⟩ (fun hHeld=>?_);refine wpAnyH_take (i:=0) (oi:=_) (v:=?_) rfl (by kernel_rfl) (by kernel_rfl) (by kernel_rfl) (fun _ _ _ h=>h) (Or.inl ⟨by rfl,?_⟩) (by assumption) ?_;rotate_left
 ·intro w hSw
  (try dsimp only at hSw)
  go_simp
  (try with_reducible rfl)
 (try go_frame)
 refine wpAnyH_take (i:=1) (oi:=_) (v:=?_) rfl (by kernel_rfl) (by kernel_rfl) (by kernel_rfl) (fun _ _ _ h=>h) (Or.inl ⟨by rfl,?_⟩) (by assumption) ?_;rotate_left
 ·intro w hSw
  (try dsimp only at hSw)
  go_simp
  (try with_reducible rfl)
 (try go_frame)
 refine wpAnyH_take (i:=2) (oi:=_) (v:=?_) rfl (by kernel_rfl) (by kernel_rfl) (by kernel_rfl) (fun _ _ _ h=>h) (Or.inl ⟨by rfl,?_⟩) (by assumption) ?_;rotate_left
 ·intro w hSw
  (try dsimp only at hSw)
  go_simp
  (try with_reducible rfl)
 (try go_frame)
 refine wpAnyH_take (i:=3) (oi:=_) (v:=?_) rfl (by kernel_rfl) (by kernel_rfl) (by kernel_rfl) (fun _ _ _ h=>h) (Or.inl ⟨by rfl,?_⟩) (by assumption) ?_;rotate_left
 ·intro w hSw
  (try dsimp only at hSw)
  go_simp
  (try with_reducible rfl)
 (try go_frame)
 refine wpAnyH_take (i:=4) (oi:=_) (v:=?_) rfl (by kernel_rfl) (by kernel_rfl) (by kernel_rfl) (fun _ _ _ h=>h) (Or.inl ⟨by rfl,?_⟩) (by assumption) ?_;rotate_left
 ·intro w hSw
  (try dsimp only at hSw)
  go_simp
  (try with_reducible rfl)
 (try go_frame)
 refine wpAnyH_take (i:=5) (oi:=_) (v:=?_) rfl (by kernel_rfl) (by kernel_rfl) (by kernel_rfl) (fun _ _ _ h=>h) (Or.inl ⟨by rfl,?_⟩) (by assumption) ?_;rotate_left
 ·intro w hSw
  (try dsimp only at hSw)
  go_simp
  (try with_reducible rfl)
 (try go_frame)
 refine wpAnyH_take (i:=6) (oi:=_) (v:=?_) rfl (by kernel_rfl) (by kernel_rfl) (by kernel_rfl) (fun _ _ _ h=>h) (Or.inl ⟨by rfl,?_⟩) (by assumption) ?_;rotate_left
 ·intro w hSw
  (try dsimp only at hSw)
  go_simp
  (try with_reducible rfl)
 (try go_frame)
 refine wpAnyH_take (i:=7) (oi:=_) (v:=?_) rfl (by kernel_rfl) (by kernel_rfl) (by kernel_rfl) (fun _ _ _ h=>h) (Or.inl ⟨by rfl,?_⟩) (by assumption) ?_;rotate_left
 ·intro w hSw
  (try dsimp only at hSw)
  go_simp
  (try with_reducible rfl)
 (try go_frame)
 refine wpAnyH_take (i:=8) (oi:=_) (v:=?_) rfl (by kernel_rfl) (by kernel_rfl) (by kernel_rfl) (fun _ _ _ h=>h) (Or.inl ⟨by rfl,?_⟩) (by assumption) ?_;rotate_left
 ·intro w hSw
  (try dsimp only at hSw)
  go_simp
  (try with_reducible rfl)
 (try go_frame)
 refine wpAnyH_take (i:=9) (oi:=_) (v:=?_) rfl (by kernel_rfl) (by kernel_rfl) (by kernel_rfl) (fun _ _ _ h=>h) (Or.inl ⟨by rfl,?_⟩) (by assumption) ?_;rotate_left
 ·intro w hSw
  (try dsimp only at hSw)
  go_simp
  (try with_reducible rfl)
 (try go_frame)
 refine wpAnyH_take (i:=10) (oi:=_) (v:=?_) rfl (by kernel_rfl) (by kernel_rfl) (by kernel_rfl) (fun _ _ _ h=>h) (Or.inl ⟨by rfl,?_⟩) (by assumption) ?_;rotate_left
 ·intro w hSw
  (try dsimp only at hSw)
  go_simp
  (try with_reducible rfl)
 (try go_frame)
 refine wpAnyH_take (i:=11) (oi:=_) (v:=?_) rfl (by kernel_rfl) (by kernel_rfl) (by kernel_rfl) (fun _ _ _ h=>h) (Or.inl ⟨by rfl,?_⟩) (by assumption) ?_;rotate_left
 ·intro w hSw
  (try dsimp only at hSw)
  go_simp
  (try with_reducible rfl)
 (try go_frame)
 refine wpAnyH_take (i:=12) (oi:=_) (v:=?_) rfl (by kernel_rfl) (by kernel_rfl) (by kernel_rfl) (fun _ _ _ h=>h) (Or.inl ⟨by rfl,?_⟩) (by assumption) ?_;rotate_left
 ·intro w hSw
  (try dsimp only at hSw)
  go_simp
  (try with_reducible rfl)
 (try go_frame)
 refine wpAnyH_take (i:=13) (oi:=_) (v:=?_) rfl (by kernel_rfl) (by kernel_rfl) (by kernel_rfl) (fun _ _ _ h=>h) (Or.inl ⟨by rfl,?_⟩) (by assumption) ?_;rotate_left
 ·intro w hSw
  (try dsimp only at hSw)
  go_simp
  (try with_reducible rfl)
 (try go_frame)
 refine wpAnyH_take (i:=14) (oi:=_) (v:=?_) rfl (by kernel_rfl) (by kernel_rfl) (by kernel_rfl) (fun _ _ _ h=>h) (Or.inl ⟨by rfl,?_⟩) (by assumption) ?_;rotate_left
 ·intro w hSw
  (try dsimp only at hSw)
  go_simp
  (try with_reducible rfl)
 (try go_frame)
 refine wpAnyH_take (i:=15) (oi:=_) (v:=?_) rfl (by kernel_rfl) (by kernel_rfl) (by kernel_rfl) (fun _ _ _ h=>h) (Or.inl ⟨by rfl,?_⟩) (by assumption) ?_;rotate_left
 ·intro w hSw
  (try dsimp only at hSw)
  go_simp
  (try with_reducible rfl)
 (try go_frame)
 refine wpAnyH_ready (rs:=[16]) (by kernel_rfl) (by simp) ?_;refine AllReadyH.cons (o:=_) rfl (fun K hK=>?_) AllReadyH.nil;go_simp
 refine (Mj c F B top st f n row k u _ (hide jP.out.drew) (hide (hE.out.grown (aV _)).drew) hu hp pl hpl).mono ?_;rintro e w2 ⟨⟨a2,cp,rfl,hI⟩,hg2,hF2⟩;have HG2:Hid (w.grownBy w2 (some F)):=aY (aV _) (iQ hg2);have HS2:Hid (∀ w3,w2.grownBy w3 (some F)→w3.cell? ⟨F,1,none⟩=some (.slice c.au c.m.units.length c.cu)→(w3.cell? ⟨F,1,none⟩=some (.slice (some ⟨b,off,none⟩) c.m.units.length c.cu)∧w3.cell? ⟨w.heap.size,1,none⟩=some (.int .i64 (k:Int))∧w3.cell? ⟨b,off+k * 6+3,none⟩=some (.int .i64 u.result))):=fun w3 hg3 h1=>⟨by rw[h1,HA.out],(aI (kept (aY (iQ hg2) hg3) (by simp) (by omega)) _).trans d2,(aI (kept (aY (iQ hg2) hg3) (by simp;omega) (by omega)) _).trans d3⟩;have bQ:=hide hF2;have HI:=hide hI;refine hK.out _ _ (HS2.out w2 (fK _ _) (dV hF2.blk).2.1) (fun hHeld=>?_);clear hK hI hF2 hg2;refine wpAnyH_ready (rs:=[17]) (by kernel_rfl) (by simp) ?_;refine AllReadyH.cons (o:=_) rfl (fun K hK=>?_) AllReadyH.nil;go_simp
 refine (Gc c F B top st f n row u.result pl a2 cp _ bQ (by omega) H5 HI (by have:=HG2.out.size;omega) (hide (fun b off _ hb=>by omega)) r hr).mono ?_;rintro e w9 hS;have aK:Hid (w.grownBy w9 (some F)):=aY HG2.out hS.grown;cases r with
 | error er =>
  obtain rfl:=hS.no er rfl;clear hS hK;go_wp2
  exact⟨rfl,ax.bad aK.out rfl⟩
 | ok aU =>
  obtain⟨rfl,fH,aM⟩:=hS.yes aU rfl;have aT:=hide aM;refine hK.out _ _ (HS2.out w9 hS.grown (dV aT.out.blk).2.1) (fun hHeld=>?_);clear hK hS aM;refine wpAnyH_done (by kernel_rfl) ?_ _;go_wp2
  go_end0
  exact ax.good aK.out rfl aT.out
theorem Y1 (c:FC)(F B:Nat)(top:Option Addr)(st:List Int)(f:Vf.Fl)(n:Int)(row:Value)(nn:Int)(k:Nat)(u:Vf.Un)(hu:Hid (c.m.units[k]?=some u))(hp:Hid (0≤u.params∧u.params≤u.locals.length∧u.locals.length≤200))(hun:c.m.units.length≤30)(pl:List Int)(hpl:Hid (pl=u.locals.take u.params.toNat))(w:World)(h:Hid (ay c w F top st f n row))(hE:Hid (Env c B F w))(hl:st.length≤300)(r:Except Int (List Int))(hr:Hid (r=Vf.turn (10+(k:Int)) pl st)) :
  Calls Tryz.prog 178 #[.pointer (some ⟨F,0,none⟩),.agg #[.int .i64 29,.int .i64 (k:Int),.int .i64 nn]] w fun e w'=>ax c F f n row r w e w':=by
 have hlt:=hE.out.lt;have jJ:=hE.out.base;obtain⟨b,off,al,cl,ac,cc,ha,hb,gq,u0,u1,u2,u3,u4,u5⟩:=hE.out.md.units k u hu.out;have oZ:k<c.m.units.length:=(List.getElem?_eq_some_iff.1 hu.out).1;have hk1:(k:Int)<(c.m.units.length:Int):=by omega
 have jP:=hide (h.out.alloc (ai 29 (k:Int) nn));have d1:(w.alloc (ai 29 (k:Int) nn)).cell? ⟨F,1,none⟩=some (.slice (some ⟨b,off,none⟩) c.m.units.length c.cu):=by have:=(dV jP.out.blk).2.1;rw[ha] at this;exact this
 have d2:(w.alloc (ai 29 (k:Int) nn)).cell? ⟨w.heap.size,1,none⟩=some (.int .i64 (k:Int)):=(tV (alloc_at w _)).2.1;have d3:(w.alloc (ai 29 (k:Int) nn)).cell? ⟨b,off+k * 6+3,none⟩=some (.int .i64 u.result):=(wU _ _ (by omega)).trans u3;have HA:=hide ha;clear gq u0 u1 u2 u3 u4 u5 ha;have H5:pl.length<1000:=by rw[hpl.out];have:=hp.out.2.2;simp;omega
 have e10:IntKind.i64.wrap (10+(k:Int))=10+(k:Int):=by simp[IntKind.wrap,IntKind.bits,IntKind.signed];omega
 go_enter Tryz.func178,Tryz.ntmps178
 go_wp2_with fail
 refine wp_region_held_drew (S:=fun w'=>w'.cell? ⟨F,1,none⟩=some (.slice (some ⟨b,off,none⟩) c.m.units.length c.cu)∧w'.cell? ⟨w.heap.size,1,none⟩=some (.int .i64 (k:Int))∧w'.cell? ⟨b,off+k * 6+3,none⟩=some (.int .i64 u.result)) (by kernel_rfl) ⟨d1,d2,d3⟩ (fun hHeld=>?_);refine wpAnyH_take (i:=0) (oi:=_) (v:=?_) rfl (by kernel_rfl) (by kernel_rfl) (by kernel_rfl) (fun _ _ _ h=>h) (Or.inl ⟨by rfl,?_⟩) (by assumption) ?_;rotate_left
 ·intro w hSw
  (try dsimp only at hSw)
  go_simp
  (try with_reducible rfl)
 (try go_frame)
 refine wpAnyH_take (i:=1) (oi:=_) (v:=?_) rfl (by kernel_rfl) (by kernel_rfl) (by kernel_rfl) (fun _ _ _ h=>h) (Or.inl ⟨by rfl,?_⟩) (by assumption) ?_;rotate_left
 ·intro w hSw
  (try dsimp only at hSw)
  go_simp
  (try with_reducible rfl)
 (try go_frame)
 refine wpAnyH_take (i:=2) (oi:=_) (v:=?_) rfl (by kernel_rfl) (by kernel_rfl) (by kernel_rfl) (fun _ _ _ h=>h) (Or.inl ⟨by rfl,?_⟩) (by assumption) ?_;rotate_left
 ·intro w hSw
  (try dsimp only at hSw)
  go_simp
  (try with_reducible rfl)
 (try go_frame)
 refine wpAnyH_take (i:=3) (oi:=_) (v:=?_) rfl (by kernel_rfl) (by kernel_rfl) (by kernel_rfl) (fun _ _ _ h=>h) (Or.inl ⟨by rfl,?_⟩) (by assumption) ?_;rotate_left
 ·intro w hSw
  (try dsimp only at hSw)
  go_simp
  (try with_reducible rfl)
 (try go_frame)
 refine wpAnyH_take (i:=4) (oi:=_) (v:=?_) rfl (by kernel_rfl) (by kernel_rfl) (by kernel_rfl) (fun _ _ _ h=>h) (Or.inl ⟨by rfl,?_⟩) (by assumption) ?_;rotate_left
 ·intro w hSw
  (try dsimp only at hSw)
  go_simp
  (try with_reducible rfl)
 (try go_frame)
 refine wpAnyH_take (i:=5) (oi:=_) (v:=?_) rfl (by kernel_rfl) (by kernel_rfl) (by kernel_rfl) (fun _ _ _ h=>h) (Or.inl ⟨by rfl,?_⟩) (by assumption) ?_;rotate_left
 ·intro w hSw
  (try dsimp only at hSw)
  go_simp
  (try with_reducible rfl)
 (try go_frame)
 refine wpAnyH_take (i:=6) (oi:=_) (v:=?_) rfl (by kernel_rfl) (by kernel_rfl) (by kernel_rfl) (fun _ _ _ h=>h) (Or.inl ⟨by rfl,?_⟩) (by assumption) ?_;rotate_left
 ·intro w hSw
  (try dsimp only at hSw)
  go_simp
  (try with_reducible rfl)
 (try go_frame)
 refine wpAnyH_ready (rs:=[7]) (by kernel_rfl) (by simp) ?_;refine AllReadyH.cons (o:=_) rfl (fun K hK=>?_) AllReadyH.nil;go_simp
 refine (Mj c F B top st f n row k u _ (hide jP.out.drew) (hide (hE.out.grown (aV _)).drew) hu hp pl hpl).mono ?_;rintro e w2 ⟨⟨a2,cp,rfl,hI⟩,hg2,hF2⟩;have HG2:Hid (w.grownBy w2 (some F)):=aY (aV _) (iQ hg2);have HS2:Hid (∀ w3,w2.grownBy w3 (some F)→w3.cell? ⟨F,1,none⟩=some (.slice c.au c.m.units.length c.cu)→(w3.cell? ⟨F,1,none⟩=some (.slice (some ⟨b,off,none⟩) c.m.units.length c.cu)∧w3.cell? ⟨w.heap.size,1,none⟩=some (.int .i64 (k:Int))∧w3.cell? ⟨b,off+k * 6+3,none⟩=some (.int .i64 u.result))):=fun w3 hg3 h1=>⟨by rw[h1,HA.out],(aI (kept (aY (iQ hg2) hg3) (by simp) (by omega)) _).trans d2,(aI (kept (aY (iQ hg2) hg3) (by simp;omega) (by omega)) _).trans d3⟩;have bQ:=hide hF2;have HI:=hide hI;refine hK.out _ _ (HS2.out w2 (fK _ _) (dV hF2.blk).2.1) (fun hHeld=>?_);clear hK hI hF2 hg2;refine wpAnyH_ready (rs:=[8]) (by kernel_rfl) (by simp) ?_;refine AllReadyH.cons (o:=_) rfl (fun K hK=>?_) AllReadyH.nil;go_simp
 refine (Gc c F B top st f n row (10+(k:Int)) pl a2 cp _ bQ (by omega) H5 HI (by have:=HG2.out.size;omega) (hide (fun b off _ hb=>by omega)) r hr).mono ?_;rintro e w9 hS;have aK:Hid (w.grownBy w9 (some F)):=aY HG2.out hS.grown;cases r with
 | error er =>
  obtain rfl:=hS.no er rfl;clear hS hK;go_wp2
  exact⟨rfl,ax.bad aK.out rfl⟩
 | ok aU =>
  obtain⟨rfl,fH,aM⟩:=hS.yes aU rfl;have aT:=hide aM;refine hK.out _ _ (HS2.out w9 hS.grown (dV aT.out.blk).2.1) (fun hHeld=>?_);clear hK hS aM;refine wpAnyH_done (by kernel_rfl) ?_ _;go_wp2
  go_end0
  exact ax.good aK.out rfl aT.out
theorem Y2 (c:FC)(F B:Nat)(top:Option Addr)(st:List Int)(f:Vf.Fl)(n:Int)(row:Value)(nn:Int)(k:Nat)(x:Vf.Bx)(hx:Hid (c.m.boxes[k]?=some x))(w:World)(h:Hid (ay c w F top st f n row))(hE:Hid (Env c B F w))(hl:st.length≤300)(r:Except Int (List Int))(hr:Hid (r=Vf.dG [x.ty] st)) :
  Calls Tryz.prog 178 #[.pointer (some ⟨F,0,none⟩),.agg #[.int .i64 26,.int .i64 (k:Int),.int .i64 nn]] w fun e w'=>ax c F f n row r w e w':=by
 have hlt:=hE.out.lt;have jJ:=hE.out.base;obtain⟨i1,i2,b,off,ha,hb,b0,b1⟩:=hE.out.md.boxes k x hx.out;have oZ:k<c.m.boxes.length:=(List.getElem?_eq_some_iff.1 hx.out).1;have hk1:(k:Int)<(c.m.boxes.length:Int):=by omega
 have jP:=hide (h.out.alloc (ai 26 (k:Int) nn));have d1:(w.alloc (ai 26 (k:Int) nn)).cell? ⟨F,0,none⟩=some (.slice (some ⟨b,off,none⟩) c.m.boxes.length c.cb):=by have:=(dV jP.out.blk).1;rw[ha] at this;exact this
 have d2:(w.alloc (ai 26 (k:Int) nn)).cell? ⟨w.heap.size,1,none⟩=some (.int .i64 (k:Int)):=(tV (alloc_at w _)).2.1;have d3:(w.alloc (ai 26 (k:Int) nn)).cell? ⟨b,off+k * 2,none⟩=some (.int .i64 x.ty):=(wU _ _ (by omega)).trans b0;have HA:=hide ha;have HI1:=hide i1;clear b0 b1 ha i1 i2;have HS2:Hid (∀ w3,(w.alloc (ai 26 (k:Int) nn)).grownBy w3 (some F)→w3.cell? ⟨F,0,none⟩=some (.slice c.ab c.m.boxes.length c.cb)→(w3.cell? ⟨F,0,none⟩=some (.slice (some ⟨b,off,none⟩) c.m.boxes.length c.cb)∧w3.cell? ⟨w.heap.size,1,none⟩=some (.int .i64 (k:Int))∧w3.cell? ⟨b,off+k * 2,none⟩=some (.int .i64 x.ty))):=fun w3 hg3 h1=>⟨by rw[h1,HA.out],(aI (kept hg3 (by simp) (by omega)) _).trans d2,(aI (kept hg3 (by simp;omega) (by omega)) _).trans d3⟩;go_enter Tryz.func178,Tryz.ntmps178
 go_wp2_with fail
 refine wp_region_held_drew (S:=fun w'=>w'.cell? ⟨F,0,none⟩=some (.slice (some ⟨b,off,none⟩) c.m.boxes.length c.cb)∧w'.cell? ⟨w.heap.size,1,none⟩=some (.int .i64 (k:Int))∧w'.cell? ⟨b,off+k * 2,none⟩=some (.int .i64 x.ty)) (by kernel_rfl) ⟨d1,d2,d3⟩ (fun hHeld=>?_);refine wpAnyH_take (i:=0) (oi:=_) (v:=?_) rfl (by kernel_rfl) (by kernel_rfl) (by kernel_rfl) (fun _ _ _ h=>h) (Or.inl ⟨by rfl,?_⟩) (by assumption) ?_;rotate_left
 ·intro w hSw
  (try dsimp only at hSw)
  go_simp
  (try with_reducible rfl)
 (try go_frame)
 refine wpAnyH_take (i:=1) (oi:=_) (v:=?_) rfl (by kernel_rfl) (by kernel_rfl) (by kernel_rfl) (fun _ _ _ h=>h) (Or.inl ⟨by rfl,?_⟩) (by assumption) ?_;rotate_left
 ·intro w hSw
  (try dsimp only at hSw)
  go_simp
  (try with_reducible rfl)
 (try go_frame)
 refine wpAnyH_take (i:=2) (oi:=_) (v:=?_) rfl (by kernel_rfl) (by kernel_rfl) (by kernel_rfl) (fun _ _ _ h=>h) (Or.inl ⟨by rfl,?_⟩) (by assumption) ?_;rotate_left
 ·intro w hSw
  (try dsimp only at hSw)
  go_simp
  (try with_reducible rfl)
 (try go_frame)
 refine wpAnyH_take (i:=3) (oi:=_) (v:=?_) rfl (by kernel_rfl) (by kernel_rfl) (by kernel_rfl) (fun _ _ _ h=>h) (Or.inl ⟨by rfl,?_⟩) (by assumption) ?_;rotate_left
 ·intro w hSw
  (try dsimp only at hSw)
  go_simp
  (try with_reducible rfl)
 (try go_frame)
 refine wpAnyH_take (i:=4) (oi:=_) (v:=?_) rfl (by kernel_rfl) (by kernel_rfl) (by kernel_rfl) (fun _ _ _ h=>h) (Or.inl ⟨by rfl,?_⟩) (by assumption) ?_;rotate_left
 ·intro w hSw
  (try dsimp only at hSw)
  go_simp
  (try with_reducible rfl)
 (try go_frame)
 refine wpAnyH_take (i:=5) (oi:=_) (v:=?_) rfl (by kernel_rfl) (by kernel_rfl) (by kernel_rfl) (fun _ _ _ h=>h) (Or.inl ⟨by rfl,?_⟩) (by assumption) ?_;rotate_left
 ·intro w hSw
  (try dsimp only at hSw)
  go_simp
  (try with_reducible rfl)
 (try go_frame)
 refine wpAnyH_take (i:=6) (oi:=_) (v:=?_) rfl (by kernel_rfl) (by kernel_rfl) (by kernel_rfl) (fun _ _ _ h=>h) (Or.inl ⟨by rfl,?_⟩) (by assumption) ?_;rotate_left
 ·intro w hSw
  (try dsimp only at hSw)
  go_simp
  (try with_reducible rfl)
 (try go_frame)
 refine wpAnyH_take (i:=7) (oi:=_) (v:=?_) rfl (by kernel_rfl) (by kernel_rfl) (by kernel_rfl) (fun _ _ _ h=>h) (Or.inl ⟨by rfl,?_⟩) (by assumption) ?_;rotate_left
 ·intro w hSw
  (try dsimp only at hSw)
  go_simp
  (try with_reducible rfl)
 (try go_frame)
 refine wpAnyH_take (i:=8) (oi:=_) (v:=?_) rfl (by kernel_rfl) (by kernel_rfl) (by kernel_rfl) (fun _ _ _ h=>h) (Or.inl ⟨by rfl,?_⟩) (by assumption) ?_;rotate_left
 ·intro w hSw
  (try dsimp only at hSw)
  go_simp
  (try with_reducible rfl)
 (try go_frame)
 refine wpAnyH_take (i:=9) (oi:=_) (v:=?_) rfl (by kernel_rfl) (by kernel_rfl) (by kernel_rfl) (fun _ _ _ h=>h) (Or.inl ⟨by rfl,?_⟩) (by assumption) ?_;rotate_left
 ·intro w hSw
  (try dsimp only at hSw)
  go_simp
  (try with_reducible rfl)
 (try go_frame)
 refine wpAnyH_take (i:=10) (oi:=_) (v:=?_) rfl (by kernel_rfl) (by kernel_rfl) (by kernel_rfl) (fun _ _ _ h=>h) (Or.inl ⟨by rfl,?_⟩) (by assumption) ?_;rotate_left
 ·intro w hSw
  (try dsimp only at hSw)
  go_simp
  (try with_reducible rfl)
 (try go_frame)
 refine wpAnyH_take (i:=11) (oi:=_) (v:=?_) rfl (by kernel_rfl) (by kernel_rfl) (by kernel_rfl) (fun _ _ _ h=>h) (Or.inl ⟨by rfl,?_⟩) (by assumption) ?_;rotate_left
 ·intro w hSw
  (try dsimp only at hSw)
  go_simp
  (try with_reducible rfl)
 (try go_frame)
 refine wpAnyH_take (i:=12) (oi:=_) (v:=?_) rfl (by kernel_rfl) (by kernel_rfl) (by kernel_rfl) (fun _ _ _ h=>h) (Or.inl ⟨by rfl,?_⟩) (by assumption) ?_;rotate_left
 ·intro w hSw
  (try dsimp only at hSw)
  go_simp
  (try with_reducible rfl)
 (try go_frame)
 refine wpAnyH_ready (rs:=[13]) (by kernel_rfl) (by simp) ?_;refine AllReadyH.cons (o:=_) rfl (fun K hK=>?_) AllReadyH.nil;go_simp
 have aF:Hid (ay c ((w.alloc (ai 26 (k:Int) nn)).drew.alloc (.cells #[.int .i64 x.ty] 3)) F top st f n row):=jP.out.drew.alloc _;have aA:Hid (w.grownBy ((w.alloc (ai 26 (k:Int) nn)).drew.alloc (.cells #[.int .i64 x.ty] 3)) (some F)):=eB (ji (aV _)) _;refine hK.out _ _ (HS2.out _ (eB (ji (fK _ _)) _) (dV aF.out.blk).1) (fun hHeld=>?_);clear hK;refine wpAnyH_ready (rs:=[14]) (by kernel_rfl) (by simp) ?_;refine AllReadyH.cons (o:=_) rfl (fun K hK=>?_) AllReadyH.nil;go_simp
 refine (CZ c F (w.heap.size+1) top st f n row x.ty _ aF (by omega) HI1 (by have:=heap_alloc_new (w.alloc (ai 26 (k:Int) nn)).drew (.cells #[.int .i64 x.ty] 3);simpa using this) (by omega) r hr).mono ?_;rintro e w9 hS;have aK:Hid (w.grownBy w9 (some F)):=aY aA.out hS.grown;cases r with
 | error er =>
  obtain rfl:=hS.no er rfl;clear hS hK;go_wp2
  exact⟨rfl,ax.bad aK.out rfl⟩
 | ok aU =>
  obtain⟨rfl,fH,aM⟩:=hS.yes aU rfl;have aT:=hide aM;refine hK.out _ _ (HS2.out w9 (aY (eB (ji (fK _ _)) _) hS.grown) (dV aT.out.blk).1) (fun hHeld=>?_);clear hK hS aM;refine wpAnyH_done (by kernel_rfl) ?_ _;go_wp2
  go_end0
  exact ax.good aK.out rfl aT.out
theorem Y3 (c:FC)(F B:Nat)(top:Option Addr)(st:List Int)(f:Vf.Fl)(n:Int)(row:Value)(nn:Int)(k:Nat)(x:Vf.Bx)(hx:Hid (c.m.boxes[k]?=some x))(w:World)(h:Hid (ay c w F top st f n row))(hE:Hid (Env c B F w))(hl:st.length≤300)(r:Except Int (List Int))(hr:Hid (r=Vf.put x.ty st)) :
  Calls Tryz.prog 178 #[.pointer (some ⟨F,0,none⟩),.agg #[.int .i64 27,.int .i64 (k:Int),.int .i64 nn]] w fun e w'=>ax c F f n row r w e w':=by
 have hlt:=hE.out.lt;have jJ:=hE.out.base;obtain⟨i1,i2,b,off,ha,hb,b0,b1⟩:=hE.out.md.boxes k x hx.out;have oZ:k<c.m.boxes.length:=(List.getElem?_eq_some_iff.1 hx.out).1;have hk1:(k:Int)<(c.m.boxes.length:Int):=by omega
 have jP:=hide (h.out.alloc (ai 27 (k:Int) nn));have d1:(w.alloc (ai 27 (k:Int) nn)).cell? ⟨F,0,none⟩=some (.slice (some ⟨b,off,none⟩) c.m.boxes.length c.cb):=by have:=(dV jP.out.blk).1;rw[ha] at this;exact this
 have d2:(w.alloc (ai 27 (k:Int) nn)).cell? ⟨w.heap.size,1,none⟩=some (.int .i64 (k:Int)):=(tV (alloc_at w _)).2.1;have d3:(w.alloc (ai 27 (k:Int) nn)).cell? ⟨b,off+k * 2,none⟩=some (.int .i64 x.ty):=(wU _ _ (by omega)).trans b0;have HA:=hide ha;have HI1:=hide i1;clear b0 b1 ha i1 i2;have HS2:Hid (∀ w3,(w.alloc (ai 27 (k:Int) nn)).grownBy w3 (some F)→w3.cell? ⟨F,0,none⟩=some (.slice c.ab c.m.boxes.length c.cb)→(w3.cell? ⟨F,0,none⟩=some (.slice (some ⟨b,off,none⟩) c.m.boxes.length c.cb)∧w3.cell? ⟨w.heap.size,1,none⟩=some (.int .i64 (k:Int))∧w3.cell? ⟨b,off+k * 2,none⟩=some (.int .i64 x.ty))):=fun w3 hg3 h1=>⟨by rw[h1,HA.out],(aI (kept hg3 (by simp) (by omega)) _).trans d2,(aI (kept hg3 (by simp;omega) (by omega)) _).trans d3⟩;go_enter Tryz.func178,Tryz.ntmps178
 go_wp2_with fail
 refine wp_region_held_drew (S:=fun w'=>w'.cell? ⟨F,0,none⟩=some (.slice (some ⟨b,off,none⟩) c.m.boxes.length c.cb)∧w'.cell? ⟨w.heap.size,1,none⟩=some (.int .i64 (k:Int))∧w'.cell? ⟨b,off+k * 2,none⟩=some (.int .i64 x.ty)) (by kernel_rfl) ⟨d1,d2,d3⟩ (fun hHeld=>?_);refine wpAnyH_take (i:=0) (oi:=_) (v:=?_) rfl (by kernel_rfl) (by kernel_rfl) (by kernel_rfl) (fun _ _ _ h=>h) (Or.inl ⟨by rfl,?_⟩) (by assumption) ?_;rotate_left
 ·intro w hSw
  (try dsimp only at hSw)
  go_simp
  (try with_reducible rfl)
 (try go_frame)
 refine wpAnyH_take (i:=1) (oi:=_) (v:=?_) rfl (by kernel_rfl) (by kernel_rfl) (by kernel_rfl) (fun _ _ _ h=>h) (Or.inl ⟨by rfl,?_⟩) (by assumption) ?_;rotate_left
 ·intro w hSw
  (try dsimp only at hSw)
  go_simp
  (try with_reducible rfl)
 (try go_frame)
 refine wpAnyH_take (i:=2) (oi:=_) (v:=?_) rfl (by kernel_rfl) (by kernel_rfl) (by kernel_rfl) (fun _ _ _ h=>h) (Or.inl ⟨by rfl,?_⟩) (by assumption) ?_;rotate_left
 ·intro w hSw
  (try dsimp only at hSw)
  go_simp
  (try with_reducible rfl)
 (try go_frame)
 refine wpAnyH_take (i:=3) (oi:=_) (v:=?_) rfl (by kernel_rfl) (by kernel_rfl) (by kernel_rfl) (fun _ _ _ h=>h) (Or.inl ⟨by rfl,?_⟩) (by assumption) ?_;rotate_left
 ·intro w hSw
  (try dsimp only at hSw)
  go_simp
  (try with_reducible rfl)
 (try go_frame)
 refine wpAnyH_take (i:=4) (oi:=_) (v:=?_) rfl (by kernel_rfl) (by kernel_rfl) (by kernel_rfl) (fun _ _ _ h=>h) (Or.inl ⟨by rfl,?_⟩) (by assumption) ?_;rotate_left
 ·intro w hSw
  (try dsimp only at hSw)
  go_simp
  (try with_reducible rfl)
 (try go_frame)
 refine wpAnyH_take (i:=5) (oi:=_) (v:=?_) rfl (by kernel_rfl) (by kernel_rfl) (by kernel_rfl) (fun _ _ _ h=>h) (Or.inl ⟨by rfl,?_⟩) (by assumption) ?_;rotate_left
 ·intro w hSw
  (try dsimp only at hSw)
  go_simp
  (try with_reducible rfl)
 (try go_frame)
 refine wpAnyH_take (i:=6) (oi:=_) (v:=?_) rfl (by kernel_rfl) (by kernel_rfl) (by kernel_rfl) (fun _ _ _ h=>h) (Or.inl ⟨by rfl,?_⟩) (by assumption) ?_;rotate_left
 ·intro w hSw
  (try dsimp only at hSw)
  go_simp
  (try with_reducible rfl)
 (try go_frame)
 refine wpAnyH_take (i:=7) (oi:=_) (v:=?_) rfl (by kernel_rfl) (by kernel_rfl) (by kernel_rfl) (fun _ _ _ h=>h) (Or.inl ⟨by rfl,?_⟩) (by assumption) ?_;rotate_left
 ·intro w hSw
  (try dsimp only at hSw)
  go_simp
  (try with_reducible rfl)
 (try go_frame)
 refine wpAnyH_take (i:=8) (oi:=_) (v:=?_) rfl (by kernel_rfl) (by kernel_rfl) (by kernel_rfl) (fun _ _ _ h=>h) (Or.inl ⟨by rfl,?_⟩) (by assumption) ?_;rotate_left
 ·intro w hSw
  (try dsimp only at hSw)
  go_simp
  (try with_reducible rfl)
 (try go_frame)
 refine wpAnyH_take (i:=9) (oi:=_) (v:=?_) rfl (by kernel_rfl) (by kernel_rfl) (by kernel_rfl) (fun _ _ _ h=>h) (Or.inl ⟨by rfl,?_⟩) (by assumption) ?_;rotate_left
 ·intro w hSw
  (try dsimp only at hSw)
  go_simp
  (try with_reducible rfl)
 (try go_frame)
 refine wpAnyH_take (i:=10) (oi:=_) (v:=?_) rfl (by kernel_rfl) (by kernel_rfl) (by kernel_rfl) (fun _ _ _ h=>h) (Or.inl ⟨by rfl,?_⟩) (by assumption) ?_;rotate_left
 ·intro w hSw
  (try dsimp only at hSw)
  go_simp
  (try with_reducible rfl)
 (try go_frame)
 refine wpAnyH_take (i:=11) (oi:=_) (v:=?_) rfl (by kernel_rfl) (by kernel_rfl) (by kernel_rfl) (fun _ _ _ h=>h) (Or.inl ⟨by rfl,?_⟩) (by assumption) ?_;rotate_left
 ·intro w hSw
  (try dsimp only at hSw)
  go_simp
  (try with_reducible rfl)
 (try go_frame)
 refine wpAnyH_take (i:=12) (oi:=_) (v:=?_) rfl (by kernel_rfl) (by kernel_rfl) (by kernel_rfl) (fun _ _ _ h=>h) (Or.inl ⟨by rfl,?_⟩) (by assumption) ?_;rotate_left
 ·intro w hSw
  (try dsimp only at hSw)
  go_simp
  (try with_reducible rfl)
 (try go_frame)
 refine wpAnyH_ready (rs:=[13]) (by kernel_rfl) (by simp) ?_;refine AllReadyH.cons (o:=_) rfl (fun K hK=>?_) AllReadyH.nil;go_simp
 have aA:Hid (w.grownBy (w.alloc (ai 27 (k:Int) nn)) (some F)):=aV _;refine (gJ c F top st f n row x.ty _ (hide jP.out.drew) (by omega) r hr).mono ?_;rintro e w9 hS;have aK:Hid (w.grownBy w9 (some F)):=aY aA.out (iQ hS.grown);cases r with
 | error er =>
  obtain rfl:=hS.no er rfl;clear hS hK;go_wp2
  exact⟨rfl,ax.bad aK.out rfl⟩
 | ok aU =>
  obtain⟨rfl,fH,aM⟩:=hS.yes aU rfl;have aT:=hide aM;refine hK.out _ _ (HS2.out w9 (iQ hS.grown) (dV aT.out.blk).1) (fun hHeld=>?_);clear hK hS aM;refine wpAnyH_done (by kernel_rfl) ?_ _;go_wp2
  go_end0
  exact ax.good aK.out rfl aT.out
theorem Y4 (c:FC)(F B:Nat)(top:Option Addr)(st:List Int)(f:Vf.Fl)(n:Int)(row:Value)(a nn:Int)(hgn:Hid (kM c.m st))(hun:c.m.units.length≤30)(w:World)(h:Hid (ay c w F top st f n row))(hE:Hid (Env c B F w))(hl:st.length≤300)(r:Except Int (List Int))(hr:Hid (r=Vf.resume c.m st)) :
  Calls Tryz.prog 178 #[.pointer (some ⟨F,0,none⟩),.agg #[.int .i64 30,.int .i64 a,.int .i64 nn]] w fun e w'=>ax c F f n row r w e w':=by
 have hlt:=hE.out.lt;have jJ:=hE.out.base;have aJ:=hide (h.out.alloc (ai 30 a nn));have bz:Hid (w.grownBy (w.alloc (ai 30 a nn)) (some F)):=aV _;go_enter Tryz.func178,Tryz.ntmps178
 go_wp2_with fail
 refine (Gi c F B top st f n row _ aJ (hide (hE.out.grown (aV _))) (by omega) hgn hun r hr).mono ?_;rintro e w9 hS;have aK:Hid (w.grownBy w9 (some F)):=aY bz.out hS.grown;cases r with
 | error er =>
  obtain rfl:=hS.no er rfl;clear hS;go_wp2
  exact⟨rfl,ax.bad aK.out rfl⟩
 | ok aU =>
  obtain⟨rfl,fH,aM⟩:=hS.yes aU rfl;have aT:=hide aM;clear hS aM;go_wp2
  go_end0
  exact ax.good aK.out rfl aT.out
theorem Y5 {st st':List Int}{g:Int}(h:Vf.kL st=.ok (g,st'))(hl:st.length≤300):st'.length<1000:=by
 cases st with
 | nil=>cases h
 | cons y st2 =>
  unfold Vf.kL Vf.pop Vf.andThen at h;simp only at h;split at h
  ·cases h;simp at hl;omega
  ·cases h
theorem Y6 (c:FC)(F B:Nat)(top:Option Addr)(st:List Int)(f:Vf.Fl)(n:Int)(row:Value)(a nn:Int)(hgn:Hid (kM c.m st))(hun:c.m.units.length≤30)(w:World)(h:Hid (ay c w F top st f n row))(hE:Hid (Env c B F w))(hl:st.length≤300)(r:Except Int (List Int))(hr:Hid (r=Vf.andThen (Vf.kL st) fun g=>Vf.put 2 g.2)) :
  Calls Tryz.prog 178 #[.pointer (some ⟨F,0,none⟩),.agg #[.int .i64 32,.int .i64 a,.int .i64 nn]] w fun e w'=>ax c F f n row r w e w':=by
 have hlt:=hE.out.lt;have jJ:=hE.out.base;have aJ:=hide (h.out.alloc (ai 32 a nn));have bz:Hid (w.grownBy (w.alloc (ai 32 a nn)) (some F)):=aV _;obtain⟨r1,hr1⟩:∃ r1,r1=Vf.kL st:=⟨_,rfl⟩;have HR1:=hide hr1;have HR:Hid (r=Vf.andThen r1 fun g=>Vf.put 2 g.2):=by unfold Hid;rw[hr.out,hr1]
 have bW:Hid (∀ g st',r1=.ok (g,st')→st'.length<1000):=fun g st' e=>by
  rw[hr1] at e;exact Y5 e hl
 clear hr hr1;go_enter Tryz.func178,Tryz.ntmps178
 go_wp2_with fail
 refine (Mi c F B top st f n row _ aJ (hide (hE.out.grown (aV _))) (by omega) hgn hun r1 HR1).mono ?_;rintro e w1 hV;have aA:Hid (w.grownBy w1 (some F)):=aY bz.out hV.grown;cases r1 with
 | error er =>
  obtain rfl:=hV.no er rfl;have HE:Hid (r=.error er):=HR.out;clear hV;go_wp2
  exact⟨rfl,ax.bad aA.out HE.out⟩
 | ok gs =>
  obtain⟨g,st1⟩:=gs;obtain⟨⟨u,al,ac,cl,cc,hu,rfl⟩,bX,hF1⟩:=hV.yes g st1 rfl;have aF:=hide hF1;have hl1:=bW.out g st1 rfl;have HR2:Hid (r=Vf.put 2 st1):=HR.out;clear hV hF1 hu HR;go_wp2_with fail
  refine (gJ c F bX st1 f n row 2 _ aF hl1 r HR2).mono ?_;rintro e w9 hS;have aK:Hid (w.grownBy w9 (some F)):=aY aA.out hS.grown;cases r with
  | error er =>
   obtain rfl:=hS.no er rfl;clear hS;go_wp2
   exact⟨rfl,ax.bad aK.out rfl⟩
  | ok aU =>
   obtain⟨rfl,fH,aM⟩:=hS.yes aU rfl;have aT:=hide aM;clear hS aM;go_wp2
   go_end0
   exact ax.good aK.out rfl aT.out
theorem Y7 (c:FC)(F B:Nat)(top:Option Addr)(st:List Int)(f:Vf.Fl)(n:Int)(row:Value)(a nn:Int)(w:World)(h:Hid (ay c w F top st f n row))(hE:Hid (Env c B F w))(hl:st.length≤300)(r:Except Int (List Int))(hr:Hid (r=Vf.andThen (Vf.must (c.u.kind==3) 8 st) (Vf.turn c.u.takes [c.u.result]))) :
  Calls Tryz.prog 178 #[.pointer (some ⟨F,0,none⟩),.agg #[.int .i64 31,.int .i64 a,.int .i64 nn]] w fun e w'=>ax c F f n row r w e w':=by
 have hlt:=hE.out.lt;have jJ:=hE.out.base;have aJ:=hide (h.out.alloc (ai 31 a nn));have bz:Hid (w.grownBy (w.alloc (ai 31 a nn)) (some F)):=aV _;have c14:=(fD aJ.out.blk).1;have c2:=(dV aJ.out.blk).2.2.1;obtain⟨bb,hbb⟩:∃ bb,bb=(c.u.kind==3):=⟨_,rfl⟩;cases bb with
 | false =>
  have HE:Hid (r=.error 8):=by unfold Hid;rw[hr.out,← hbb];rfl
  have e1:(c.u.kind==3)=false:=hbb.symm;clear hbb hr;go_enter Tryz.func178,Tryz.ntmps178
  go_wp2_with fail
  refine (eZ F false 8 n _ c14).mono ?_;rintro e w1 ⟨he,rfl⟩;obtain rfl:e=.panicked [cz 8 n]:=he;clear c14 c2;go_wp2
  exact⟨rfl,ax.bad bz.out HE.out⟩
 | true =>
  have HR:Hid (r=Vf.turn c.u.takes [c.u.result] st):=by unfold Hid;rw[hr.out,← hbb];rfl
  have e1:(c.u.kind==3)=true:=hbb.symm;clear hbb hr;go_enter Tryz.func178,Tryz.ntmps178
  go_wp2_with fail
  refine (eZ F true 8 n _ c14).mono ?_;rintro e w1 ⟨he,hw1⟩;subst hw1;obtain rfl:e=.returned (.tuple #[]):=he;clear c14 c2;obtain⟨_,_,_,_,_,d5,d6,_⟩:=dV aJ.out.blk;have HI1:Hid (bP c.u.result):=hE.out.un.nums.2.2.1;go_wp2_with fail
  refine wp_region_held_drew (S:=fun w'=>w'.cell? ⟨F,5,none⟩=some (.int .i64 c.u.result)∧w'.cell? ⟨F,6,none⟩=some (.int .i64 c.u.takes)) (by kernel_rfl) ⟨d5,d6⟩ (fun hHeld=>?_);refine wpAnyH_take (i:=0) (oi:=_) (v:=?_) rfl (by kernel_rfl) (by kernel_rfl) (by kernel_rfl) (fun _ _ _ h=>h) (Or.inl ⟨by rfl,?_⟩) (by assumption) ?_;rotate_left
  ·intro w hSw
   (try dsimp only at hSw)
   go_simp
   (try with_reducible rfl)
  (try go_frame)
  refine wpAnyH_take (i:=1) (oi:=_) (v:=?_) rfl (by kernel_rfl) (by kernel_rfl) (by kernel_rfl) (fun _ _ _ h=>h) (Or.inl ⟨by rfl,?_⟩) (by assumption) ?_;rotate_left
  ·intro w hSw
   (try dsimp only at hSw)
   go_simp
   (try with_reducible rfl)
  (try go_frame)
  refine wpAnyH_take (i:=2) (oi:=_) (v:=?_) rfl (by kernel_rfl) (by kernel_rfl) (by kernel_rfl) (fun _ _ _ h=>h) (Or.inl ⟨by rfl,?_⟩) (by assumption) ?_;rotate_left
  ·intro w hSw
   (try dsimp only at hSw)
   go_simp
   (try with_reducible rfl)
  (try go_frame)
  refine wpAnyH_take (i:=3) (oi:=_) (v:=?_) rfl (by kernel_rfl) (by kernel_rfl) (by kernel_rfl) (fun _ _ _ h=>h) (Or.inl ⟨by rfl,?_⟩) (by assumption) ?_;rotate_left
  ·intro w hSw
   (try dsimp only at hSw)
   go_simp
   (try with_reducible rfl)
  (try go_frame)
  refine wpAnyH_take (i:=4) (oi:=_) (v:=?_) rfl (by kernel_rfl) (by kernel_rfl) (by kernel_rfl) (fun _ _ _ h=>h) (Or.inl ⟨by rfl,?_⟩) (by assumption) ?_;rotate_left
  ·intro w hSw
   (try dsimp only at hSw)
   go_simp
   (try with_reducible rfl)
  (try go_frame)
  refine wpAnyH_take (i:=5) (oi:=_) (v:=?_) rfl (by kernel_rfl) (by kernel_rfl) (by kernel_rfl) (fun _ _ _ h=>h) (Or.inl ⟨by rfl,?_⟩) (by assumption) ?_;rotate_left
  ·intro w hSw
   (try dsimp only at hSw)
   go_simp
   (try with_reducible rfl)
  (try go_frame)
  refine wpAnyH_take (i:=6) (oi:=_) (v:=?_) rfl (by kernel_rfl) (by kernel_rfl) (by kernel_rfl) (fun _ _ _ h=>h) (Or.inl ⟨by rfl,?_⟩) (by assumption) ?_;rotate_left
  ·intro w hSw
   (try dsimp only at hSw)
   go_simp
   (try with_reducible rfl)
  (try go_frame)
  refine wpAnyH_take (i:=7) (oi:=_) (v:=?_) rfl (by kernel_rfl) (by kernel_rfl) (by kernel_rfl) (fun _ _ _ h=>h) (Or.inl ⟨by rfl,?_⟩) (by assumption) ?_;rotate_left
  ·intro w hSw
   (try dsimp only at hSw)
   go_simp
   (try with_reducible rfl)
  (try go_frame)
  refine wpAnyH_take (i:=8) (oi:=_) (v:=?_) rfl (by kernel_rfl) (by kernel_rfl) (by kernel_rfl) (fun _ _ _ h=>h) (Or.inl ⟨by rfl,?_⟩) (by assumption) ?_;rotate_left
  ·intro w hSw
   (try dsimp only at hSw)
   go_simp
   (try with_reducible rfl)
  (try go_frame)
  refine wpAnyH_take (i:=9) (oi:=_) (v:=?_) rfl (by kernel_rfl) (by kernel_rfl) (by kernel_rfl) (fun _ _ _ h=>h) (Or.inl ⟨by rfl,?_⟩) (by assumption) ?_;rotate_left
  ·intro w hSw
   (try dsimp only at hSw)
   go_simp
   (try with_reducible rfl)
  (try go_frame)
  refine wpAnyH_take (i:=10) (oi:=_) (v:=?_) rfl (by kernel_rfl) (by kernel_rfl) (by kernel_rfl) (fun _ _ _ h=>h) (Or.inl ⟨by rfl,?_⟩) (by assumption) ?_;rotate_left
  ·intro w hSw
   (try dsimp only at hSw)
   go_simp
   (try with_reducible rfl)
  (try go_frame)
  refine wpAnyH_take (i:=11) (oi:=_) (v:=?_) rfl (by kernel_rfl) (by kernel_rfl) (by kernel_rfl) (fun _ _ _ h=>h) (Or.inl ⟨by rfl,?_⟩) (by assumption) ?_;rotate_left
  ·intro w hSw
   (try dsimp only at hSw)
   go_simp
   (try with_reducible rfl)
  (try go_frame)
  refine wpAnyH_take (i:=12) (oi:=_) (v:=?_) rfl (by kernel_rfl) (by kernel_rfl) (by kernel_rfl) (fun _ _ _ h=>h) (Or.inl ⟨by rfl,?_⟩) (by assumption) ?_;rotate_left
  ·intro w hSw
   (try dsimp only at hSw)
   go_simp
   (try with_reducible rfl)
  (try go_frame)
  refine wpAnyH_ready (rs:=[13]) (by kernel_rfl) (by simp) ?_;refine AllReadyH.cons (o:=_) rfl (fun K hK=>?_) AllReadyH.nil;go_simp
  have aF:Hid (ay c ((w.alloc (ai 31 a nn)).drew.alloc (.cells #[.int .i64 c.u.result] 3)) F top st f n row):=aJ.out.drew.alloc _;have aA:Hid (w.grownBy ((w.alloc (ai 31 a nn)).drew.alloc (.cells #[.int .i64 c.u.result] 3)) (some F)):=eB (ji (aV _)) _;refine hK.out _ _ (⟨(dV aF.out.blk).2.2.2.2.2.1,(dV aF.out.blk).2.2.2.2.2.2.1⟩) (fun hHeld=>?_);clear hK;refine wpAnyH_ready (rs:=[14]) (by kernel_rfl) (by simp) ?_;refine AllReadyH.cons (o:=_) rfl (fun K hK=>?_) AllReadyH.nil;go_simp
  refine (zu c F (w.heap.size+1) top st f n row c.u.takes c.u.result _ aF (by omega) HI1 (by have:=heap_alloc_new (w.alloc (ai 31 a nn)).drew (.cells #[.int .i64 c.u.result] 3);simpa using this) (by omega) r HR).mono ?_;rintro e w9 hS;have aK:Hid (w.grownBy w9 (some F)):=aY aA.out hS.grown;cases r with
  | error er =>
   obtain rfl:=hS.no er rfl;clear hS hK;go_wp2
   exact⟨rfl,ax.bad aK.out rfl⟩
  | ok aU =>
   obtain⟨rfl,fH,aM⟩:=hS.yes aU rfl;have aT:=hide aM;refine hK.out _ _ (⟨(dV aT.out.blk).2.2.2.2.2.1,(dV aT.out.blk).2.2.2.2.2.2.1⟩) (fun hHeld=>?_);clear hK hS aM;refine wpAnyH_done (by kernel_rfl) ?_ _;go_wp2
   go_end0
   exact ax.good aK.out rfl aT.out
theorem Y8 (c:FC)(F B:Nat)(top:Option Addr)(st:List Int)(f:Vf.Fl)(n:Int)(row:Value)(a nn:Int)(w:World)(h:Hid (ay c w F top st f n row))(hE:Hid (Env c B F w))(hl:st.length≤300)(r:Except Int (List Int))(hr:Hid (r=Vf.andThen (Vf.must (c.u.kind != 2) 8 st) fun st=>Vf.must (st.length==0) 12 st)) :
  Calls Tryz.prog 178 #[.pointer (some ⟨F,0,none⟩),.agg #[.int .i64 25,.int .i64 a,.int .i64 nn]] w fun e w'=>ax c F f n row r w e w':=by
 have hlt:=hE.out.lt;have jJ:=hE.out.base;have aJ:=hide (h.out.alloc (ai 25 a nn));have bz:Hid (w.grownBy (w.alloc (ai 25 a nn)) (some F)):=aV _;have c14:=(fD aJ.out.blk).1;have c2:=(dV aJ.out.blk).2.2.1;obtain⟨bb,hbb⟩:∃ bb,bb=(c.u.kind != 2):=⟨_,rfl⟩;cases bb with
 | false =>
  have HE:Hid (r=.error 8):=by unfold Hid;rw[hr.out,← hbb];rfl
  have e1:(c.u.kind != 2)=false:=hbb.symm;clear hbb hr;go_enter Tryz.func178,Tryz.ntmps178
  go_wp2_with fail
  refine (eZ F false 8 n _ c14).mono ?_;rintro e w1 ⟨he,rfl⟩;obtain rfl:e=.panicked [cz 8 n]:=he;clear c14 c2;go_wp2
  exact⟨rfl,ax.bad bz.out HE.out⟩
 | true =>
  have HR:Hid (r=Vf.must (st.length==0) 12 st):=by unfold Hid;rw[hr.out,← hbb];rfl
  have e1:(c.u.kind != 2)=true:=hbb.symm;clear hbb hr;go_enter Tryz.func178,Tryz.ntmps178
  go_wp2_with fail
  refine (eZ F true 8 n _ c14).mono ?_;rintro e w1 ⟨he,hw1⟩;subst hw1;obtain rfl:e=.returned (.tuple #[]):=he;clear c14 c2;have c14:=(fD aJ.out.blk).1;have c9:=(mQ aJ.out.blk).2.1;cases st with
  | nil =>
   have HE:Hid (r=.ok []):=HR.out;go_wp2_with fail
   refine (eZ F true 12 n _ c14).mono ?_;rintro e w8 ⟨he,hw8⟩;subst hw8;obtain rfl:e=.returned (.tuple #[]):=he;clear c14 c9;go_wp2
   go_end0
   exact ax.good bz.out HE.out aJ.out
  | cons t9 aU =>
   have HE:Hid (r=.error 12):=HR.out;have e9:(((t9 :: aU).length:Int)==0)=false:=by simp;omega
   obtain⟨d9,Aj⟩:∃ d9:Int,((t9 :: aU).length:Int)=d9:=⟨_,rfl⟩;rw[Aj] at c9 e9;clear Aj;go_wp2_with fail
   refine (eZ F false 12 n _ c14).mono ?_;rintro e w8 ⟨he,hw8⟩;subst hw8;obtain rfl:e=.panicked [cz 12 n]:=he;clear c14 c9;go_wp2
   exact⟨rfl,ax.bad bz.out HE.out⟩
theorem Y9 (c:FC)(F B:Nat)(top:Option Addr)(st:List Int)(f:Vf.Fl)(n:Int)(row:Value)(a nn:Int)(w:World)(h:Hid (ay c w F top st f n row))(hE:Hid (Env c B F w))(hl:st.length≤300)(r:Except Int (List Int))(hr:Hid (r=Vf.andThen (Vf.must (c.u.kind==2) 8 st) fun st=>Vf.andThen (Vf.dG [c.u.result] st) fun st=>Vf.must (st.length==0) 12 st)) :
  Calls Tryz.prog 178 #[.pointer (some ⟨F,0,none⟩),.agg #[.int .i64 24,.int .i64 a,.int .i64 nn]] w fun e w'=>ax c F f n row r w e w':=by
 have hlt:=hE.out.lt;have jJ:=hE.out.base;have aJ:=hide (h.out.alloc (ai 24 a nn));have bz:Hid (w.grownBy (w.alloc (ai 24 a nn)) (some F)):=aV _;have c14:=(fD aJ.out.blk).1;have c2:=(dV aJ.out.blk).2.2.1;obtain⟨bb,hbb⟩:∃ bb,bb=(c.u.kind==2):=⟨_,rfl⟩;cases bb with
 | false =>
  have HE:Hid (r=.error 8):=by unfold Hid;rw[hr.out,← hbb];rfl
  have e1:(c.u.kind==2)=false:=hbb.symm;clear hbb hr;go_enter Tryz.func178,Tryz.ntmps178
  go_wp2_with fail
  refine (eZ F false 8 n _ c14).mono ?_;rintro e w1 ⟨he,rfl⟩;obtain rfl:e=.panicked [cz 8 n]:=he;clear c14 c2;go_wp2
  exact⟨rfl,ax.bad bz.out HE.out⟩
 | true =>
  have HR:Hid (r=Vf.andThen (Vf.dG [c.u.result] st) fun st=>Vf.must (st.length==0) 12 st):=by unfold Hid;rw[hr.out,← hbb];rfl
  have e1:(c.u.kind==2)=true:=hbb.symm;clear hbb hr;go_enter Tryz.func178,Tryz.ntmps178
  go_wp2_with fail
  refine (eZ F true 8 n _ c14).mono ?_;rintro e w1 ⟨he,hw1⟩;subst hw1;obtain rfl:e=.returned (.tuple #[]):=he;clear c14 c2;obtain⟨_,_,_,_,_,d5,_,_⟩:=dV aJ.out.blk;have HI1:Hid (bP c.u.result):=hE.out.un.nums.2.2.1;obtain⟨r1,hr1⟩:∃ r1,r1=Vf.dG [c.u.result] st:=⟨_,rfl⟩;have HR1:=hide hr1;have HRR:Hid (r=Vf.andThen r1 fun st=>Vf.must (st.length==0) 12 st):=by unfold Hid;rw[HR.out,hr1]
  clear HR hr1;have aF:Hid (ay c ((w.alloc (ai 24 a nn)).alloc (.cells #[.int .i64 c.u.result] 3)) F top st f n row):=aJ.out.alloc _;have aA:Hid (w.grownBy ((w.alloc (ai 24 a nn)).alloc (.cells #[.int .i64 c.u.result] 3)) (some F)):=eB (aV _) _;go_wp2_with fail
  refine (CZ c F (w.heap.size+1) top st f n row c.u.result _ aF (by omega) HI1 (by have:=heap_alloc_new (w.alloc (ai 24 a nn)) (.cells #[.int .i64 c.u.result] 3);simpa using this) (by omega) r1 HR1).mono ?_;rintro e w2 hS;have HG2:Hid (w.grownBy w2 (some F)):=aY aA.out hS.grown;cases r1 with
  | error er =>
   obtain rfl:=hS.no er rfl;have HE:Hid (r=.error er):=HRR.out;clear hS d5;go_wp2
   exact⟨rfl,ax.bad HG2.out HE.out⟩
  | ok st1 =>
   obtain⟨rfl,bX,hF1⟩:=hS.yes st1 rfl;have bQ:=hide hF1;have HR:Hid (r=Vf.must (st1.length==0) 12 st1):=HRR.out;clear hS hF1 d5;have c14:=(fD bQ.out.blk).1;have c9:=(mQ bQ.out.blk).2.1;cases st1 with
   | nil =>
    have HE:Hid (r=.ok []):=HR.out;go_wp2_with fail
    refine (eZ F true 12 n _ c14).mono ?_;rintro e w8 ⟨he,hw8⟩;subst hw8;obtain rfl:e=.returned (.tuple #[]):=he;clear c14 c9;go_wp2
    go_end0
    exact ax.good HG2.out HE.out bQ.out
   | cons t9 aU =>
    have HE:Hid (r=.error 12):=HR.out;have e9:(((t9 :: aU).length:Int)==0)=false:=by simp;omega
    obtain⟨d9,Aj⟩:∃ d9:Int,((t9 :: aU).length:Int)=d9:=⟨_,rfl⟩;rw[Aj] at c9 e9;clear Aj;go_wp2_with fail
    refine (eZ F false 12 n _ c14).mono ?_;rintro e w8 ⟨he,hw8⟩;subst hw8;obtain rfl:e=.panicked [cz 12 n]:=he;clear c14 c9;go_wp2
    exact⟨rfl,ax.bad HG2.out HE.out⟩
theorem Za (c:FC)(F B:Nat)(top:Option Addr)(st:List Int)(f:Vf.Fl)(n:Int)(row:Value)(a nn:Int)(w:World)(h:Hid (ay c w F top st f n row))(hE:Hid (Env c B F w))(r:Except Int (List Int))(hr:Hid (r=.ok st)) :
  Calls Tryz.prog 178 #[.pointer (some ⟨F,0,none⟩),.agg #[.int .i64 21,.int .i64 a,.int .i64 nn]] w fun e w'=>ax c F f n row r w e w':=by
 have hlt:=hE.out.lt;have jJ:=hE.out.base;have aJ:=hide (h.out.alloc (ai 21 a nn));have bz:Hid (w.grownBy (w.alloc (ai 21 a nn)) (some F)):=aV _;go_enter Tryz.func178,Tryz.ntmps178
 go_wp2
 go_end0
 exact ax.good bz.out hr.out aJ.out
theorem H6 {st st':List Int}{t:Int}(h:Vf.lI st=.ok (t,st'))(hl:st.length≤300):st'.length≤300∧bP t:=by
 cases st with
 | nil=>cases h
 | cons y st2 =>
  unfold Vf.lI Vf.pop Vf.andThen at h;simp only at h;split at h
  ·rename_i hp
   cases h;unfold Vf.plain at hp;simp at hp hl;exact⟨by omega,by rcases hp with rfl | rfl<;>decide⟩
  ·cases h
theorem Zb (c:FC)(F B:Nat)(top:Option Addr)(st:List Int)(f:Vf.Fl)(n:Int)(row:Value)(a nn:Int)(w:World)(h:Hid (ay c w F top st f n row))(hE:Hid (Env c B F w))(hl:st.length≤300)(r:Except Int (List Int))(hr:Hid (r=Vf.put 1 st)) :
  Calls Tryz.prog 139 #[.pointer (some ⟨F,0,none⟩),.agg #[.int .i64 1,.int .i64 a,.int .i64 nn]] w fun e w'=>ax c F f n row r w e w':=by
 have hlt:=hE.out.lt;have aJ:=hide (h.out.alloc (ai 1 a nn));have bz:Hid (w.grownBy (w.alloc (ai 1 a nn)) (some F)):=aV _;go_enter Tryz.func139,Tryz.ntmps139
 go_wp2_with fail
 refine (gJ c F top st f n row 1 _ aJ (by omega) r hr).mono ?_;rintro e w9 hS;have aK:Hid (w.grownBy w9 (some F)):=aY bz.out hS.grown;cases r with
 | error er =>
  obtain rfl:=hS.no er rfl;clear hS;go_wp2
  exact⟨rfl,ax.bad aK.out rfl⟩
 | ok aU =>
  obtain⟨rfl,fH,aM⟩:=hS.yes aU rfl;have aT:=hide aM;clear hS aM;go_wp2
  go_end0
  exact ax.good aK.out rfl aT.out
theorem Zc (c:FC)(F B:Nat)(top:Option Addr)(st:List Int)(f:Vf.Fl)(n:Int)(row:Value)(a nn:Int)(w:World)(h:Hid (ay c w F top st f n row))(hE:Hid (Env c B F w))(hl:st.length≤300)(r:Except Int (List Int))(hr:Hid (r=Vf.put 2 st)) :
  Calls Tryz.prog 139 #[.pointer (some ⟨F,0,none⟩),.agg #[.int .i64 2,.int .i64 a,.int .i64 nn]] w fun e w'=>ax c F f n row r w e w':=by
 have hlt:=hE.out.lt;have aJ:=hide (h.out.alloc (ai 2 a nn));have bz:Hid (w.grownBy (w.alloc (ai 2 a nn)) (some F)):=aV _;go_enter Tryz.func139,Tryz.ntmps139
 go_wp2_with fail
 refine (gJ c F top st f n row 2 _ aJ (by omega) r hr).mono ?_;rintro e w9 hS;have aK:Hid (w.grownBy w9 (some F)):=aY bz.out hS.grown;cases r with
 | error er =>
  obtain rfl:=hS.no er rfl;clear hS;go_wp2
  exact⟨rfl,ax.bad aK.out rfl⟩
 | ok aU =>
  obtain⟨rfl,fH,aM⟩:=hS.yes aU rfl;have aT:=hide aM;clear hS aM;go_wp2
  go_end0
  exact ax.good aK.out rfl aT.out
theorem Zd (c:FC)(F B:Nat)(top:Option Addr)(st:List Int)(f:Vf.Fl)(n:Int)(row:Value)(a nn:Int)(w:World)(h:Hid (ay c w F top st f n row))(hE:Hid (Env c B F w))(hl:st.length≤300)(r:Except Int (List Int))(hr:Hid (r=Vf.turn 1 [1] st)) :
  Calls Tryz.prog 139 #[.pointer (some ⟨F,0,none⟩),.agg #[.int .i64 6,.int .i64 a,.int .i64 nn]] w fun e w'=>ax c F f n row r w e w':=by
 have hlt:=hE.out.lt;have aJ:=hide (h.out.alloc (ai 6 a nn));have bz:Hid (w.grownBy (w.alloc (ai 6 a nn)) (some F)):=aV _;have aF:Hid (ay c ((w.alloc (ai 6 a nn)).alloc (.cells #[.int .i64 1] 3)) F top st f n row):=aJ.out.alloc _;have aA:Hid (w.grownBy ((w.alloc (ai 6 a nn)).alloc (.cells #[.int .i64 1] 3)) (some F)):=eB (aV _) _;go_enter Tryz.func139,Tryz.ntmps139
 go_wp2_with fail
 refine (zu c F (w.heap.size+1) top st f n row 1 1 _ aF (by omega) (hide (by decide)) (by have:=heap_alloc_new (w.alloc (ai 6 a nn)) (.cells #[.int .i64 1] 3);simpa using this) (by omega) r hr).mono ?_;rintro e w9 hS;have aK:Hid (w.grownBy w9 (some F)):=aY aA.out hS.grown;cases r with
 | error er =>
  obtain rfl:=hS.no er rfl;clear hS;go_wp2
  exact⟨rfl,ax.bad aK.out rfl⟩
 | ok aU =>
  obtain⟨rfl,fH,aM⟩:=hS.yes aU rfl;have aT:=hide aM;clear hS aM;go_wp2
  go_end0
  exact ax.good aK.out rfl aT.out
theorem Ze (c:FC)(F B:Nat)(top:Option Addr)(st:List Int)(f:Vf.Fl)(n:Int)(row:Value)(a nn:Int)(w:World)(h:Hid (ay c w F top st f n row))(hE:Hid (Env c B F w))(hl:st.length≤300)(r:Except Int (List Int))(hr:Hid (r=Vf.turn 2 [2] st)) :
  Calls Tryz.prog 139 #[.pointer (some ⟨F,0,none⟩),.agg #[.int .i64 7,.int .i64 a,.int .i64 nn]] w fun e w'=>ax c F f n row r w e w':=by
 have hlt:=hE.out.lt;have aJ:=hide (h.out.alloc (ai 7 a nn));have bz:Hid (w.grownBy (w.alloc (ai 7 a nn)) (some F)):=aV _;have aF:Hid (ay c ((w.alloc (ai 7 a nn)).alloc (.cells #[.int .i64 2] 3)) F top st f n row):=aJ.out.alloc _;have aA:Hid (w.grownBy ((w.alloc (ai 7 a nn)).alloc (.cells #[.int .i64 2] 3)) (some F)):=eB (aV _) _;go_enter Tryz.func139,Tryz.ntmps139
 go_wp2_with fail
 refine (zu c F (w.heap.size+1) top st f n row 2 2 _ aF (by omega) (hide (by decide)) (by have:=heap_alloc_new (w.alloc (ai 7 a nn)) (.cells #[.int .i64 2] 3);simpa using this) (by omega) r hr).mono ?_;rintro e w9 hS;have aK:Hid (w.grownBy w9 (some F)):=aY aA.out hS.grown;cases r with
 | error er =>
  obtain rfl:=hS.no er rfl;clear hS;go_wp2
  exact⟨rfl,ax.bad aK.out rfl⟩
 | ok aU =>
  obtain⟨rfl,fH,aM⟩:=hS.yes aU rfl;have aT:=hide aM;clear hS aM;go_wp2
  go_end0
  exact ax.good aK.out rfl aT.out
theorem Zf (c:FC)(F B:Nat)(top:Option Addr)(st:List Int)(f:Vf.Fl)(n:Int)(row:Value)(a nn:Int)(w:World)(h:Hid (ay c w F top st f n row))(hE:Hid (Env c B F w))(hl:st.length≤300)(r:Except Int (List Int))(hr:Hid (r=Vf.dG [2] st)) :
  Calls Tryz.prog 139 #[.pointer (some ⟨F,0,none⟩),.agg #[.int .i64 22,.int .i64 a,.int .i64 nn]] w fun e w'=>ax c F f n row r w e w':=by
 have hlt:=hE.out.lt;have aJ:=hide (h.out.alloc (ai 22 a nn));have bz:Hid (w.grownBy (w.alloc (ai 22 a nn)) (some F)):=aV _;have aF:Hid (ay c ((w.alloc (ai 22 a nn)).alloc (.cells #[.int .i64 2] 3)) F top st f n row):=aJ.out.alloc _;have aA:Hid (w.grownBy ((w.alloc (ai 22 a nn)).alloc (.cells #[.int .i64 2] 3)) (some F)):=eB (aV _) _;go_enter Tryz.func139,Tryz.ntmps139
 go_wp2_with fail
 refine (CZ c F (w.heap.size+1) top st f n row 2 _ aF (by omega) (hide (by decide)) (by have:=heap_alloc_new (w.alloc (ai 22 a nn)) (.cells #[.int .i64 2] 3);simpa using this) (by omega) r hr).mono ?_;rintro e w9 hS;have aK:Hid (w.grownBy w9 (some F)):=aY aA.out hS.grown;cases r with
 | error er =>
  obtain rfl:=hS.no er rfl;clear hS;go_wp2
  exact⟨rfl,ax.bad aK.out rfl⟩
 | ok aU =>
  obtain⟨rfl,fH,aM⟩:=hS.yes aU rfl;have aT:=hide aM;clear hS aM;go_wp2
  go_end0
  exact ax.good aK.out rfl aT.out
theorem Zg (c:FC)(F B:Nat)(top:Option Addr)(st:List Int)(f:Vf.Fl)(n:Int)(row:Value)(a nn:Int)(w:World)(h:Hid (ay c w F top st f n row))(hE:Hid (Env c B F w))(hl:st.length≤300)(r:Except Int (List Int))(hr:Hid (r=Vf.andThen (Vf.pop st) fun p=>.ok p.2)) :
  Calls Tryz.prog 139 #[.pointer (some ⟨F,0,none⟩),.agg #[.int .i64 5,.int .i64 a,.int .i64 nn]] w fun e w'=>ax c F f n row r w e w':=by
 have hlt:=hE.out.lt;have aJ:=hide (h.out.alloc (ai 5 a nn));have bz:Hid (w.grownBy (w.alloc (ai 5 a nn)) (some F)):=aV _;go_enter Tryz.func139,Tryz.ntmps139
 go_wp2_with fail
 refine (zq c F top st f n row _ aJ (by omega) (Vf.pop st) (hide rfl)).mono ?_;rintro e w1 hV;have aA:Hid (w.grownBy w1 (some F)):=aY bz.out hV.grown;cases st with
 | nil =>
  obtain rfl:=hV.no 12 rfl;have HE:Hid (r=.error 12):=hr.out;clear hV;go_wp2
  exact⟨rfl,ax.bad aA.out HE.out⟩
 | cons t st1 =>
  obtain⟨rfl,bX,hF1⟩:=hV.yes t st1 rfl;have aF:=hide hF1;have HE:Hid (r=.ok st1):=hr.out;clear hV hF1;go_wp2
  go_end0
  exact ax.good aA.out HE.out aF.out
theorem Zh (c:FC)(F B:Nat)(top:Option Addr)(st:List Int)(f:Vf.Fl)(n:Int)(row:Value)(a nn:Int)(w:World)(h:Hid (ay c w F top st f n row))(hE:Hid (Env c B F w))(hl:st.length≤300)(r:Except Int (List Int))(hr:Hid (r=Vf.andThen (Vf.lI st) fun p=>.ok p.2)) :
  Calls Tryz.prog 139 #[.pointer (some ⟨F,0,none⟩),.agg #[.int .i64 28,.int .i64 a,.int .i64 nn]] w fun e w'=>ax c F f n row r w e w':=by
 have hlt:=hE.out.lt;have aJ:=hide (h.out.alloc (ai 28 a nn));have bz:Hid (w.grownBy (w.alloc (ai 28 a nn)) (some F)):=aV _;obtain⟨r1,hr1⟩:∃ r1,r1=Vf.lI st:=⟨_,rfl⟩;have HR1:=hide hr1;have HR:Hid (r=Vf.andThen r1 fun p=>.ok p.2):=by unfold Hid;rw[hr.out,hr1]
 have HL:Hid (∀ t st',r1=.ok (t,st')→st'.length≤300∧bP t):=fun t st' e=>by
  rw[hr1] at e;exact H6 e hl
 clear hr hr1;go_enter Tryz.func139,Tryz.ntmps139
 go_wp2_with fail
 refine (Gf c F top st f n row _ aJ (by omega) r1 HR1).mono ?_;rintro e w1 hV;have aA:Hid (w.grownBy w1 (some F)):=aY bz.out hV.grown;cases r1 with
 | error er =>
  obtain rfl:=hV.no er rfl;have HE:Hid (r=.error er):=HR.out;clear hV;go_wp2
  exact⟨rfl,ax.bad aA.out HE.out⟩
 | ok gs =>
  obtain⟨t,st1⟩:=gs;obtain⟨rfl,bX,hF1⟩:=hV.yes t st1 rfl;have aF:=hide hF1;have hl1:=(HL.out t st1 rfl).1;have lM:=hide (HL.out t st1 rfl).2;clear hV hF1;have HE:Hid (r=.ok st1):=HR.out;clear HR hl1 lM HL;go_wp2
  go_end0
  exact ax.good aA.out HE.out aF.out
theorem Zi (c:FC)(F B:Nat)(top:Option Addr)(st:List Int)(f:Vf.Fl)(n:Int)(row:Value)(a nn:Int)(w:World)(h:Hid (ay c w F top st f n row))(hE:Hid (Env c B F w))(hl:st.length≤300)(r:Except Int (List Int))(hr:Hid (r=Vf.andThen (Vf.lI st) fun p=>Vf.turn 2 [p.1] p.2)) :
  Calls Tryz.prog 139 #[.pointer (some ⟨F,0,none⟩),.agg #[.int .i64 13,.int .i64 a,.int .i64 nn]] w fun e w'=>ax c F f n row r w e w':=by
 have hlt:=hE.out.lt;have aJ:=hide (h.out.alloc (ai 13 a nn));have bz:Hid (w.grownBy (w.alloc (ai 13 a nn)) (some F)):=aV _;obtain⟨r1,hr1⟩:∃ r1,r1=Vf.lI st:=⟨_,rfl⟩;have HR1:=hide hr1;have HR:Hid (r=Vf.andThen r1 fun p=>Vf.turn 2 [p.1] p.2):=by unfold Hid;rw[hr.out,hr1]
 have HL:Hid (∀ t st',r1=.ok (t,st')→st'.length≤300∧bP t):=fun t st' e=>by
  rw[hr1] at e;exact H6 e hl
 clear hr hr1;go_enter Tryz.func139,Tryz.ntmps139
 go_wp2_with fail
 refine (Gf c F top st f n row _ aJ (by omega) r1 HR1).mono ?_;rintro e w1 hV;have aA:Hid (w.grownBy w1 (some F)):=aY bz.out hV.grown;cases r1 with
 | error er =>
  obtain rfl:=hV.no er rfl;have HE:Hid (r=.error er):=HR.out;clear hV;go_wp2
  exact⟨rfl,ax.bad aA.out HE.out⟩
 | ok gs =>
  obtain⟨t,st1⟩:=gs;obtain⟨rfl,bX,hF1⟩:=hV.yes t st1 rfl;have aF:=hide hF1;have hl1:=(HL.out t st1 rfl).1;have lM:=hide (HL.out t st1 rfl).2;clear hV hF1;have HE:Hid (r=Vf.turn 2 [t] st1):=HR.out;have bQ:Hid (ay c (w1.alloc (.cells #[.int .i64 t] 3)) F bX st1 f n row):=aF.out.alloc _;have HG2:Hid (w.grownBy (w1.alloc (.cells #[.int .i64 t] 3)) (some F)):=eB aA.out _;have hz1:=aA.out.size;clear HR HL;go_wp2_with fail
  refine (zu c F w1.heap.size bX st1 f n row 2 t _ bQ (by omega) lM (heap_alloc_new w1 _) (by omega) r HE).mono ?_;rintro e w9 hS;have aK:Hid (w.grownBy w9 (some F)):=aY HG2.out hS.grown;cases r with
  | error er =>
   obtain rfl:=hS.no er rfl;clear hS;go_wp2
   exact⟨rfl,ax.bad aK.out rfl⟩
  | ok aU =>
   obtain⟨rfl,fH,aM⟩:=hS.yes aU rfl;have aT:=hide aM;clear hS aM;go_wp2
   go_end0
   exact ax.good aK.out rfl aT.out
theorem Zj (c:FC)(F B:Nat)(top:Option Addr)(st:List Int)(f:Vf.Fl)(n:Int)(row:Value)(a nn:Int)(w:World)(h:Hid (ay c w F top st f n row))(hE:Hid (Env c B F w))(hl:st.length≤300)(r:Except Int (List Int))(hr:Hid (r=Vf.andThen (Vf.lI st) fun p=>Vf.turn 2 [p.1] p.2)) :
  Calls Tryz.prog 139 #[.pointer (some ⟨F,0,none⟩),.agg #[.int .i64 14,.int .i64 a,.int .i64 nn]] w fun e w'=>ax c F f n row r w e w':=by
 have hlt:=hE.out.lt;have aJ:=hide (h.out.alloc (ai 14 a nn));have bz:Hid (w.grownBy (w.alloc (ai 14 a nn)) (some F)):=aV _;obtain⟨r1,hr1⟩:∃ r1,r1=Vf.lI st:=⟨_,rfl⟩;have HR1:=hide hr1;have HR:Hid (r=Vf.andThen r1 fun p=>Vf.turn 2 [p.1] p.2):=by unfold Hid;rw[hr.out,hr1]
 have HL:Hid (∀ t st',r1=.ok (t,st')→st'.length≤300∧bP t):=fun t st' e=>by
  rw[hr1] at e;exact H6 e hl
 clear hr hr1;go_enter Tryz.func139,Tryz.ntmps139
 go_wp2_with fail
 refine (Gf c F top st f n row _ aJ (by omega) r1 HR1).mono ?_;rintro e w1 hV;have aA:Hid (w.grownBy w1 (some F)):=aY bz.out hV.grown;cases r1 with
 | error er =>
  obtain rfl:=hV.no er rfl;have HE:Hid (r=.error er):=HR.out;clear hV;go_wp2
  exact⟨rfl,ax.bad aA.out HE.out⟩
 | ok gs =>
  obtain⟨t,st1⟩:=gs;obtain⟨rfl,bX,hF1⟩:=hV.yes t st1 rfl;have aF:=hide hF1;have hl1:=(HL.out t st1 rfl).1;have lM:=hide (HL.out t st1 rfl).2;clear hV hF1;have HE:Hid (r=Vf.turn 2 [t] st1):=HR.out;have bQ:Hid (ay c (w1.alloc (.cells #[.int .i64 t] 3)) F bX st1 f n row):=aF.out.alloc _;have HG2:Hid (w.grownBy (w1.alloc (.cells #[.int .i64 t] 3)) (some F)):=eB aA.out _;have hz1:=aA.out.size;clear HR HL;go_wp2_with fail
  refine (zu c F w1.heap.size bX st1 f n row 2 t _ bQ (by omega) lM (heap_alloc_new w1 _) (by omega) r HE).mono ?_;rintro e w9 hS;have aK:Hid (w.grownBy w9 (some F)):=aY HG2.out hS.grown;cases r with
  | error er =>
   obtain rfl:=hS.no er rfl;clear hS;go_wp2
   exact⟨rfl,ax.bad aK.out rfl⟩
  | ok aU =>
   obtain⟨rfl,fH,aM⟩:=hS.yes aU rfl;have aT:=hide aM;clear hS aM;go_wp2
   go_end0
   exact ax.good aK.out rfl aT.out
end Go.Proofs.YtfcpglhpolpdcaaGreatDoor
