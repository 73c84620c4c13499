/- The walk of reckon: of two types. -/
import Derived.Test.YtfcpglhpolpdcaaGreatDoorM3
import Derived.Maps.RangeWalk
import Derived.Test.YtfcpglhpolpdcaaGreatDoorM19
set_option maxRecDepth 100000
set_option maxHeartbeats 2000000
namespace Go.Proofs.YtfcpglhpolpdcaaGreatDoor
open Go.RowKit
theorem Zk (c:FC)(F B:Nat)(top:Option Addr)(st:List Int)(f:Vf.Fl)(n:Int)(row:Value)(a nn:Int)(w:World)(h:Hid (ay c w F top st f n row))(hE:Hid (Env c B F w))(hl:st.length≤300)(r:Except Int (List Int))(hr:Hid (r=Vf.turn 1 [1,1] st)) :
  Calls Tryz.prog 139 #[.pointer (some ⟨F,0,none⟩),.agg #[.int .i64 8,.int .i64 a,.int .i64 nn]] w fun e w'=>ax c F f n row r w e w':=by
 have hlt:=hE.out.lt;have aJ:=hide (h.out.alloc (ai 8 a nn));have bz:Hid (w.grownBy (w.alloc (ai 8 a nn)) (some F)):=aV _;have aF:Hid (ay c ((w.alloc (ai 8 a nn)).alloc (.cells #[.int .i64 1,.int .i64 1] 3)) F top st f n row):=aJ.out.alloc _;have aA:Hid (w.grownBy ((w.alloc (ai 8 a nn)).alloc (.cells #[.int .i64 1,.int .i64 1] 3)) (some F)):=eB (aV _) _;go_enter Tryz.func139,Tryz.ntmps139
 go_wp2_with fail
 refine (nV c F (w.heap.size+1) top st f n row 1 1 1 _ aF (by omega) (hide (by decide)) (by have:=heap_alloc_new (w.alloc (ai 8 a nn)) (.cells #[.int .i64 1,.int .i64 1] 3);simpa using this) (by omega) r hr).mono ?_;rintro e w9 hS;have aK:Hid (w.grownBy w9 (some F)):=aY aA.out hS.grown;cases r with
 | error er =>
  obtain rfl:=hS.no er rfl;clear hS;go_wp2
  exact⟨rfl,ax.bad aK.out rfl⟩
 | ok aU =>
  obtain⟨rfl,fH,aM⟩:=hS.yes aU rfl;have aT:=hide aM;clear hS aM;go_wp2
  go_end0
  exact ax.good aK.out rfl aT.out
theorem Zl (c:FC)(F B:Nat)(top:Option Addr)(st:List Int)(f:Vf.Fl)(n:Int)(row:Value)(a nn:Int)(w:World)(h:Hid (ay c w F top st f n row))(hE:Hid (Env c B F w))(hl:st.length≤300)(r:Except Int (List Int))(hr:Hid (r=Vf.turn 1 [1,1] st)) :
  Calls Tryz.prog 139 #[.pointer (some ⟨F,0,none⟩),.agg #[.int .i64 9,.int .i64 a,.int .i64 nn]] w fun e w'=>ax c F f n row r w e w':=by
 have hlt:=hE.out.lt;have aJ:=hide (h.out.alloc (ai 9 a nn));have bz:Hid (w.grownBy (w.alloc (ai 9 a nn)) (some F)):=aV _;have aF:Hid (ay c ((w.alloc (ai 9 a nn)).alloc (.cells #[.int .i64 1,.int .i64 1] 3)) F top st f n row):=aJ.out.alloc _;have aA:Hid (w.grownBy ((w.alloc (ai 9 a nn)).alloc (.cells #[.int .i64 1,.int .i64 1] 3)) (some F)):=eB (aV _) _;go_enter Tryz.func139,Tryz.ntmps139
 go_wp2_with fail
 refine (nV c F (w.heap.size+1) top st f n row 1 1 1 _ aF (by omega) (hide (by decide)) (by have:=heap_alloc_new (w.alloc (ai 9 a nn)) (.cells #[.int .i64 1,.int .i64 1] 3);simpa using this) (by omega) r hr).mono ?_;rintro e w9 hS;have aK:Hid (w.grownBy w9 (some F)):=aY aA.out hS.grown;cases r with
 | error er =>
  obtain rfl:=hS.no er rfl;clear hS;go_wp2
  exact⟨rfl,ax.bad aK.out rfl⟩
 | ok aU =>
  obtain⟨rfl,fH,aM⟩:=hS.yes aU rfl;have aT:=hide aM;clear hS aM;go_wp2
  go_end0
  exact ax.good aK.out rfl aT.out
theorem Zm (c:FC)(F B:Nat)(top:Option Addr)(st:List Int)(f:Vf.Fl)(n:Int)(row:Value)(a nn:Int)(w:World)(h:Hid (ay c w F top st f n row))(hE:Hid (Env c B F w))(hl:st.length≤300)(r:Except Int (List Int))(hr:Hid (r=Vf.turn 1 [1,1] st)) :
  Calls Tryz.prog 139 #[.pointer (some ⟨F,0,none⟩),.agg #[.int .i64 10,.int .i64 a,.int .i64 nn]] w fun e w'=>ax c F f n row r w e w':=by
 have hlt:=hE.out.lt;have aJ:=hide (h.out.alloc (ai 10 a nn));have bz:Hid (w.grownBy (w.alloc (ai 10 a nn)) (some F)):=aV _;have aF:Hid (ay c ((w.alloc (ai 10 a nn)).alloc (.cells #[.int .i64 1,.int .i64 1] 3)) F top st f n row):=aJ.out.alloc _;have aA:Hid (w.grownBy ((w.alloc (ai 10 a nn)).alloc (.cells #[.int .i64 1,.int .i64 1] 3)) (some F)):=eB (aV _) _;go_enter Tryz.func139,Tryz.ntmps139
 go_wp2_with fail
 refine (nV c F (w.heap.size+1) top st f n row 1 1 1 _ aF (by omega) (hide (by decide)) (by have:=heap_alloc_new (w.alloc (ai 10 a nn)) (.cells #[.int .i64 1,.int .i64 1] 3);simpa using this) (by omega) r hr).mono ?_;rintro e w9 hS;have aK:Hid (w.grownBy w9 (some F)):=aY aA.out hS.grown;cases r with
 | error er =>
  obtain rfl:=hS.no er rfl;clear hS;go_wp2
  exact⟨rfl,ax.bad aK.out rfl⟩
 | ok aU =>
  obtain⟨rfl,fH,aM⟩:=hS.yes aU rfl;have aT:=hide aM;clear hS aM;go_wp2
  go_end0
  exact ax.good aK.out rfl aT.out
theorem Zn (c:FC)(F B:Nat)(top:Option Addr)(st:List Int)(f:Vf.Fl)(n:Int)(row:Value)(a nn:Int)(w:World)(h:Hid (ay c w F top st f n row))(hE:Hid (Env c B F w))(hl:st.length≤300)(r:Except Int (List Int))(hr:Hid (r=Vf.turn 1 [1,1] st)) :
  Calls Tryz.prog 139 #[.pointer (some ⟨F,0,none⟩),.agg #[.int .i64 11,.int .i64 a,.int .i64 nn]] w fun e w'=>ax c F f n row r w e w':=by
 have hlt:=hE.out.lt;have aJ:=hide (h.out.alloc (ai 11 a nn));have bz:Hid (w.grownBy (w.alloc (ai 11 a nn)) (some F)):=aV _;have aF:Hid (ay c ((w.alloc (ai 11 a nn)).alloc (.cells #[.int .i64 1,.int .i64 1] 3)) F top st f n row):=aJ.out.alloc _;have aA:Hid (w.grownBy ((w.alloc (ai 11 a nn)).alloc (.cells #[.int .i64 1,.int .i64 1] 3)) (some F)):=eB (aV _) _;go_enter Tryz.func139,Tryz.ntmps139
 go_wp2_with fail
 refine (nV c F (w.heap.size+1) top st f n row 1 1 1 _ aF (by omega) (hide (by decide)) (by have:=heap_alloc_new (w.alloc (ai 11 a nn)) (.cells #[.int .i64 1,.int .i64 1] 3);simpa using this) (by omega) r hr).mono ?_;rintro e w9 hS;have aK:Hid (w.grownBy w9 (some F)):=aY aA.out hS.grown;cases r with
 | error er =>
  obtain rfl:=hS.no er rfl;clear hS;go_wp2
  exact⟨rfl,ax.bad aK.out rfl⟩
 | ok aU =>
  obtain⟨rfl,fH,aM⟩:=hS.yes aU rfl;have aT:=hide aM;clear hS aM;go_wp2
  go_end0
  exact ax.good aK.out rfl aT.out
theorem Zo (c:FC)(F B:Nat)(top:Option Addr)(st:List Int)(f:Vf.Fl)(n:Int)(row:Value)(a nn:Int)(w:World)(h:Hid (ay c w F top st f n row))(hE:Hid (Env c B F w))(hl:st.length≤300)(r:Except Int (List Int))(hr:Hid (r=Vf.turn 1 [1,1] st)) :
  Calls Tryz.prog 139 #[.pointer (some ⟨F,0,none⟩),.agg #[.int .i64 12,.int .i64 a,.int .i64 nn]] w fun e w'=>ax c F f n row r w e w':=by
 have hlt:=hE.out.lt;have aJ:=hide (h.out.alloc (ai 12 a nn));have bz:Hid (w.grownBy (w.alloc (ai 12 a nn)) (some F)):=aV _;have aF:Hid (ay c ((w.alloc (ai 12 a nn)).alloc (.cells #[.int .i64 1,.int .i64 1] 3)) F top st f n row):=aJ.out.alloc _;have aA:Hid (w.grownBy ((w.alloc (ai 12 a nn)).alloc (.cells #[.int .i64 1,.int .i64 1] 3)) (some F)):=eB (aV _) _;go_enter Tryz.func139,Tryz.ntmps139
 go_wp2_with fail
 refine (nV c F (w.heap.size+1) top st f n row 1 1 1 _ aF (by omega) (hide (by decide)) (by have:=heap_alloc_new (w.alloc (ai 12 a nn)) (.cells #[.int .i64 1,.int .i64 1] 3);simpa using this) (by omega) r hr).mono ?_;rintro e w9 hS;have aK:Hid (w.grownBy w9 (some F)):=aY aA.out hS.grown;cases r with
 | error er =>
  obtain rfl:=hS.no er rfl;clear hS;go_wp2
  exact⟨rfl,ax.bad aK.out rfl⟩
 | ok aU =>
  obtain⟨rfl,fH,aM⟩:=hS.yes aU rfl;have aT:=hide aM;clear hS aM;go_wp2
  go_end0
  exact ax.good aK.out rfl aT.out
theorem Zp (c:FC)(F B:Nat)(top:Option Addr)(st:List Int)(f:Vf.Fl)(n:Int)(row:Value)(a nn:Int)(w:World)(h:Hid (ay c w F top st f n row))(hE:Hid (Env c B F w))(hl:st.length≤300)(r:Except Int (List Int))(hr:Hid (r=Vf.turn 2 [1,1] st)) :
  Calls Tryz.prog 139 #[.pointer (some ⟨F,0,none⟩),.agg #[.int .i64 15,.int .i64 a,.int .i64 nn]] w fun e w'=>ax c F f n row r w e w':=by
 have hlt:=hE.out.lt;have aJ:=hide (h.out.alloc (ai 15 a nn));have bz:Hid (w.grownBy (w.alloc (ai 15 a nn)) (some F)):=aV _;have aF:Hid (ay c ((w.alloc (ai 15 a nn)).alloc (.cells #[.int .i64 1,.int .i64 1] 3)) F top st f n row):=aJ.out.alloc _;have aA:Hid (w.grownBy ((w.alloc (ai 15 a nn)).alloc (.cells #[.int .i64 1,.int .i64 1] 3)) (some F)):=eB (aV _) _;go_enter Tryz.func139,Tryz.ntmps139
 go_wp2_with fail
 refine (nV c F (w.heap.size+1) top st f n row 2 1 1 _ aF (by omega) (hide (by decide)) (by have:=heap_alloc_new (w.alloc (ai 15 a nn)) (.cells #[.int .i64 1,.int .i64 1] 3);simpa using this) (by omega) r hr).mono ?_;rintro e w9 hS;have aK:Hid (w.grownBy w9 (some F)):=aY aA.out hS.grown;cases r with
 | error er =>
  obtain rfl:=hS.no er rfl;clear hS;go_wp2
  exact⟨rfl,ax.bad aK.out rfl⟩
 | ok aU =>
  obtain⟨rfl,fH,aM⟩:=hS.yes aU rfl;have aT:=hide aM;clear hS aM;go_wp2
  go_end0
  exact ax.good aK.out rfl aT.out
theorem Zq (c:FC)(F B:Nat)(top:Option Addr)(st:List Int)(f:Vf.Fl)(n:Int)(row:Value)(a nn:Int)(w:World)(h:Hid (ay c w F top st f n row))(hE:Hid (Env c B F w))(hl:st.length≤300)(r:Except Int (List Int))(hr:Hid (r=Vf.turn 2 [1,1] st)) :
  Calls Tryz.prog 139 #[.pointer (some ⟨F,0,none⟩),.agg #[.int .i64 16,.int .i64 a,.int .i64 nn]] w fun e w'=>ax c F f n row r w e w':=by
 have hlt:=hE.out.lt;have aJ:=hide (h.out.alloc (ai 16 a nn));have bz:Hid (w.grownBy (w.alloc (ai 16 a nn)) (some F)):=aV _;have aF:Hid (ay c ((w.alloc (ai 16 a nn)).alloc (.cells #[.int .i64 1,.int .i64 1] 3)) F top st f n row):=aJ.out.alloc _;have aA:Hid (w.grownBy ((w.alloc (ai 16 a nn)).alloc (.cells #[.int .i64 1,.int .i64 1] 3)) (some F)):=eB (aV _) _;go_enter Tryz.func139,Tryz.ntmps139
 go_wp2_with fail
 refine (nV c F (w.heap.size+1) top st f n row 2 1 1 _ aF (by omega) (hide (by decide)) (by have:=heap_alloc_new (w.alloc (ai 16 a nn)) (.cells #[.int .i64 1,.int .i64 1] 3);simpa using this) (by omega) r hr).mono ?_;rintro e w9 hS;have aK:Hid (w.grownBy w9 (some F)):=aY aA.out hS.grown;cases r with
 | error er =>
  obtain rfl:=hS.no er rfl;clear hS;go_wp2
  exact⟨rfl,ax.bad aK.out rfl⟩
 | ok aU =>
  obtain⟨rfl,fH,aM⟩:=hS.yes aU rfl;have aT:=hide aM;clear hS aM;go_wp2
  go_end0
  exact ax.good aK.out rfl aT.out
theorem Zt (c:FC)(F B:Nat)(top:Option Addr)(st:List Int)(f:Vf.Fl)(n:Int)(row:Value)(a nn:Int)(w:World)(h:Hid (ay c w F top st f n row))(hE:Hid (Env c B F w))(hl:st.length≤300)(r:Except Int (List Int))(hr:Hid (r=Vf.turn 2 [1,1] st)) :
  Calls Tryz.prog 139 #[.pointer (some ⟨F,0,none⟩),.agg #[.int .i64 17,.int .i64 a,.int .i64 nn]] w fun e w'=>ax c F f n row r w e w':=by
 have hlt:=hE.out.lt;have aJ:=hide (h.out.alloc (ai 17 a nn));have bz:Hid (w.grownBy (w.alloc (ai 17 a nn)) (some F)):=aV _;have aF:Hid (ay c ((w.alloc (ai 17 a nn)).alloc (.cells #[.int .i64 1,.int .i64 1] 3)) F top st f n row):=aJ.out.alloc _;have aA:Hid (w.grownBy ((w.alloc (ai 17 a nn)).alloc (.cells #[.int .i64 1,.int .i64 1] 3)) (some F)):=eB (aV _) _;go_enter Tryz.func139,Tryz.ntmps139
 go_wp2_with fail
 refine (nV c F (w.heap.size+1) top st f n row 2 1 1 _ aF (by omega) (hide (by decide)) (by have:=heap_alloc_new (w.alloc (ai 17 a nn)) (.cells #[.int .i64 1,.int .i64 1] 3);simpa using this) (by omega) r hr).mono ?_;rintro e w9 hS;have aK:Hid (w.grownBy w9 (some F)):=aY aA.out hS.grown;cases r with
 | error er =>
  obtain rfl:=hS.no er rfl;clear hS;go_wp2
  exact⟨rfl,ax.bad aK.out rfl⟩
 | ok aU =>
  obtain⟨rfl,fH,aM⟩:=hS.yes aU rfl;have aT:=hide aM;clear hS aM;go_wp2
  go_end0
  exact ax.good aK.out rfl aT.out
theorem Zu (c:FC)(F B:Nat)(top:Option Addr)(st:List Int)(f:Vf.Fl)(n:Int)(row:Value)(a nn:Int)(w:World)(h:Hid (ay c w F top st f n row))(hE:Hid (Env c B F w))(hl:st.length≤300)(r:Except Int (List Int))(hr:Hid (r=Vf.turn 2 [1,1] st)) :
  Calls Tryz.prog 139 #[.pointer (some ⟨F,0,none⟩),.agg #[.int .i64 18,.int .i64 a,.int .i64 nn]] w fun e w'=>ax c F f n row r w e w':=by
 have hlt:=hE.out.lt;have aJ:=hide (h.out.alloc (ai 18 a nn));have bz:Hid (w.grownBy (w.alloc (ai 18 a nn)) (some F)):=aV _;have aF:Hid (ay c ((w.alloc (ai 18 a nn)).alloc (.cells #[.int .i64 1,.int .i64 1] 3)) F top st f n row):=aJ.out.alloc _;have aA:Hid (w.grownBy ((w.alloc (ai 18 a nn)).alloc (.cells #[.int .i64 1,.int .i64 1] 3)) (some F)):=eB (aV _) _;go_enter Tryz.func139,Tryz.ntmps139
 go_wp2_with fail
 refine (nV c F (w.heap.size+1) top st f n row 2 1 1 _ aF (by omega) (hide (by decide)) (by have:=heap_alloc_new (w.alloc (ai 18 a nn)) (.cells #[.int .i64 1,.int .i64 1] 3);simpa using this) (by omega) r hr).mono ?_;rintro e w9 hS;have aK:Hid (w.grownBy w9 (some F)):=aY aA.out hS.grown;cases r with
 | error er =>
  obtain rfl:=hS.no er rfl;clear hS;go_wp2
  exact⟨rfl,ax.bad aK.out rfl⟩
 | ok aU =>
  obtain⟨rfl,fH,aM⟩:=hS.yes aU rfl;have aT:=hide aM;clear hS aM;go_wp2
  go_end0
  exact ax.good aK.out rfl aT.out
theorem Zv (c:FC)(F B:Nat)(top:Option Addr)(st:List Int)(f:Vf.Fl)(n:Int)(row:Value)(a nn:Int)(w:World)(h:Hid (ay c w F top st f n row))(hE:Hid (Env c B F w))(hl:st.length≤300)(r:Except Int (List Int))(hr:Hid (r=Vf.turn 2 [2,2] st)) :
  Calls Tryz.prog 139 #[.pointer (some ⟨F,0,none⟩),.agg #[.int .i64 19,.int .i64 a,.int .i64 nn]] w fun e w'=>ax c F f n row r w e w':=by
 have hlt:=hE.out.lt;have aJ:=hide (h.out.alloc (ai 19 a nn));have bz:Hid (w.grownBy (w.alloc (ai 19 a nn)) (some F)):=aV _;have aF:Hid (ay c ((w.alloc (ai 19 a nn)).alloc (.cells #[.int .i64 2,.int .i64 2] 3)) F top st f n row):=aJ.out.alloc _;have aA:Hid (w.grownBy ((w.alloc (ai 19 a nn)).alloc (.cells #[.int .i64 2,.int .i64 2] 3)) (some F)):=eB (aV _) _;go_enter Tryz.func139,Tryz.ntmps139
 go_wp2_with fail
 refine (nV c F (w.heap.size+1) top st f n row 2 2 2 _ aF (by omega) (hide (by decide)) (by have:=heap_alloc_new (w.alloc (ai 19 a nn)) (.cells #[.int .i64 2,.int .i64 2] 3);simpa using this) (by omega) r hr).mono ?_;rintro e w9 hS;have aK:Hid (w.grownBy w9 (some F)):=aY aA.out hS.grown;cases r with
 | error er =>
  obtain rfl:=hS.no er rfl;clear hS;go_wp2
  exact⟨rfl,ax.bad aK.out rfl⟩
 | ok aU =>
  obtain⟨rfl,fH,aM⟩:=hS.yes aU rfl;have aT:=hide aM;clear hS aM;go_wp2
  go_end0
  exact ax.good aK.out rfl aT.out
theorem Zw (c:FC)(F B:Nat)(top:Option Addr)(st:List Int)(f:Vf.Fl)(n:Int)(row:Value)(a nn:Int)(w:World)(h:Hid (ay c w F top st f n row))(hE:Hid (Env c B F w))(hl:st.length≤300)(r:Except Int (List Int))(hr:Hid (r=Vf.turn 2 [2,2] st)) :
  Calls Tryz.prog 139 #[.pointer (some ⟨F,0,none⟩),.agg #[.int .i64 20,.int .i64 a,.int .i64 nn]] w fun e w'=>ax c F f n row r w e w':=by
 have hlt:=hE.out.lt;have aJ:=hide (h.out.alloc (ai 20 a nn));have bz:Hid (w.grownBy (w.alloc (ai 20 a nn)) (some F)):=aV _;have aF:Hid (ay c ((w.alloc (ai 20 a nn)).alloc (.cells #[.int .i64 2,.int .i64 2] 3)) F top st f n row):=aJ.out.alloc _;have aA:Hid (w.grownBy ((w.alloc (ai 20 a nn)).alloc (.cells #[.int .i64 2,.int .i64 2] 3)) (some F)):=eB (aV _) _;go_enter Tryz.func139,Tryz.ntmps139
 go_wp2_with fail
 refine (nV c F (w.heap.size+1) top st f n row 2 2 2 _ aF (by omega) (hide (by decide)) (by have:=heap_alloc_new (w.alloc (ai 20 a nn)) (.cells #[.int .i64 2,.int .i64 2] 3);simpa using this) (by omega) r hr).mono ?_;rintro e w9 hS;have aK:Hid (w.grownBy w9 (some F)):=aY aA.out hS.grown;cases r with
 | error er =>
  obtain rfl:=hS.no er rfl;clear hS;go_wp2
  exact⟨rfl,ax.bad aK.out rfl⟩
 | ok aU =>
  obtain⟨rfl,fH,aM⟩:=hS.yes aU rfl;have aT:=hide aM;clear hS aM;go_wp2
  go_end0
  exact ax.good aK.out rfl aT.out
theorem Zx (c:FC)(F B:Nat)(top:Option Addr)(st:List Int)(f:Vf.Fl)(n:Int)(row:Value)(nn:Int)(k:Nat)(x:Int)(hx:Hid (c.u.locals[k]?=some x))(hk:k<256)(w:World)(h:Hid (ay c w F top st f n row))(hE:Hid (Env c B F w))(hl:st.length≤300)(r:Except Int (List Int))(hr:Hid (r=Vf.andThen (Vf.must (f.has k) 11 st) (Vf.put x))) :
  Calls Tryz.prog 139 #[.pointer (some ⟨F,0,none⟩),.agg #[.int .i64 3,.int .i64 (k:Int),.int .i64 nn]] w fun e w'=>ax c F f n row r w e w':=by
 have hlt:=hE.out.lt;have jJ:=hE.out.base;have aJ:=hide (h.out.alloc (ai 3 (k:Int) nn));have bz:Hid (w.grownBy (w.alloc (ai 3 (k:Int) nn)) (some F)):=aV _;obtain⟨Ak,b,off,ha,hb,cx⟩:=hE.out.un.locals k x hx.out;have lM:=hide Ak;have oZ:k<c.u.locals.length:=(List.getElem?_eq_some_iff.1 hx.out).1;have hk1:(k:Int)<(c.u.locals.length:Int):=by omega
 have d2:(w.alloc (ai 3 (k:Int) nn)).cell? ⟨w.heap.size,1,none⟩=some (.int .i64 (k:Int)):=(tV (alloc_at w _)).2.1;have d3:(w.alloc (ai 3 (k:Int) nn)).cell? ⟨b,off+k,none⟩=some (.int .i64 x):=(wU _ _ (by omega)).trans cx;have HA:=hide ha;have HS2:Hid (∀ w3,(w.alloc (ai 3 (k:Int) nn)).grownBy w3 (some F)→w3.cell? ⟨F,4,none⟩=some (.slice c.al c.u.locals.length c.cl)→(w3.cell? ⟨F,4,none⟩=some (.slice (some ⟨b,off,none⟩) c.u.locals.length c.cl)∧w3.cell? ⟨w.heap.size,1,none⟩=some (.int .i64 (k:Int))∧w3.cell? ⟨b,off+k,none⟩=some (.int .i64 x))):=fun w3 hg3 h1=>⟨by rw[h1,HA.out],(aI (kept hg3 (by simp) (by omega)) _).trans d2,(aI (kept hg3 (by simp;omega) (by omega)) _).trans d3⟩;clear Ak cx ha;obtain⟨e10,e11,e12,e13,_⟩:=rG aJ.out.blk;have c14:=(fD aJ.out.blk).1;obtain⟨bb,hbb⟩:∃ bb,bb=f.has k:=⟨_,rfl⟩;have HB:=hide hbb;have H7:Hid (r=Vf.andThen (Vf.must bb 11 st) (Vf.put x)):=by unfold Hid;rw[hr.out,hbb]
 clear hbb hr;obtain⟨fo,hfo⟩:∃ fo:Obj,fo=.cells #[ah f.a,ah f.b,ah f.c,ah f.d] 198 (0,0):=⟨_,rfl⟩;have rR:=hide hfo;clear hfo;have aF:Hid (ay c ((w.alloc (ai 3 (k:Int) nn)).drew.alloc fo) F top st f n row):=aJ.out.drew.alloc _;have aA:Hid (w.grownBy ((w.alloc (ai 3 (k:Int) nn)).drew.alloc fo) (some F)):=eB (ji (aV _)) _;have HT1:Hid ((w.alloc (ai 3 (k:Int) nn)).grownBy ((w.alloc (ai 3 (k:Int) nn)).drew.alloc fo) (some F)):=eB (ji (fK _ _)) _;have Ox:=(fD aF.out.blk).1;have k2:((w.alloc (ai 3 (k:Int) nn)).drew.alloc fo).cell? ⟨w.heap.size,1,none⟩=some (.int .i64 (k:Int)):=(aI (kept HT1.out (by simp) (by omega)) _).trans d2;obtain⟨k10,k11,k12,k13,_⟩:=rG aF.out.blk;go_enter Tryz.func139,Tryz.ntmps139
 go_wp2_with fail
 refine wp_region_held_drew (S:=fun w'=>w'.cell? ⟨F,10,none⟩=some (ah f.a)∧w'.cell? ⟨F,11,none⟩=some (ah f.b)∧w'.cell? ⟨F,12,none⟩=some (ah f.c)∧w'.cell? ⟨F,13,none⟩=some (ah f.d)∧w'.cell? ⟨w.heap.size,1,none⟩=some (.int .i64 (k:Int))) (by kernel_rfl) ⟨e10,e11,e12,e13,d2⟩ (fun hHeld=>?_);refine wpAnyH_take (i:=0) (oi:=_) (v:=?_) rfl (by kernel_rfl) (by kernel_rfl) (by kernel_rfl) (fun _ _ _ h=>h) (Or.inl ⟨by rfl,?_⟩) (by assumption) ?_;rotate_left
 ·intro w hSw
  (try dsimp only at hSw)
  go_simp
  (try with_reducible rfl)
 (try go_frame)
 refine wpAnyH_take (i:=1) (oi:=_) (v:=?_) rfl (by kernel_rfl) (by kernel_rfl) (by kernel_rfl) (fun _ _ _ h=>h) (Or.inl ⟨by rfl,?_⟩) (by assumption) ?_;rotate_left
 ·intro w hSw
  (try dsimp only at hSw)
  go_simp
  (try with_reducible rfl)
 (try go_frame)
 refine wpAnyH_take (i:=2) (oi:=_) (v:=?_) rfl (by kernel_rfl) (by kernel_rfl) (by kernel_rfl) (fun _ _ _ h=>h) (Or.inl ⟨by rfl,?_⟩) (by assumption) ?_;rotate_left
 ·intro w hSw
  (try dsimp only at hSw)
  go_simp
  (try with_reducible rfl)
 (try go_frame)
 refine wpAnyH_take (i:=3) (oi:=_) (v:=?_) rfl (by kernel_rfl) (by kernel_rfl) (by kernel_rfl) (fun _ _ _ h=>h) (Or.inl ⟨by rfl,?_⟩) (by assumption) ?_;rotate_left
 ·intro w hSw
  (try dsimp only at hSw)
  go_simp
  (try with_reducible rfl)
 (try go_frame)
 refine wpAnyH_take (i:=4) (oi:=_) (v:=?_) rfl (by kernel_rfl) (by kernel_rfl) (by kernel_rfl) (fun _ _ _ h=>h) (Or.inl ⟨by rfl,?_⟩) (by assumption) ?_;rotate_left
 ·intro w hSw
  (try dsimp only at hSw)
  go_simp
  (try with_reducible rfl)
 (try go_frame)
 refine wpAnyH_take (i:=5) (oi:=_) (v:=?_) rfl (by kernel_rfl) (by kernel_rfl) (by kernel_rfl) (fun _ _ _ h=>h) (Or.inl ⟨by rfl,?_⟩) (by assumption) ?_;rotate_left
 ·intro w hSw
  (try dsimp only at hSw)
  go_simp
  (try with_reducible rfl)
 (try go_frame)
 refine wpAnyH_take (i:=6) (oi:=_) (v:=?_) rfl (by kernel_rfl) (by kernel_rfl) (by kernel_rfl) (fun _ _ _ h=>h) (Or.inl ⟨by rfl,?_⟩) (by assumption) ?_;rotate_left
 ·intro w hSw
  (try dsimp only at hSw)
  go_simp
  (try with_reducible rfl)
 (try go_frame)
 refine wpAnyH_take (i:=7) (oi:=_) (v:=?_) rfl (by kernel_rfl) (by kernel_rfl) (by kernel_rfl) (fun _ _ _ h=>h) (Or.inl ⟨by rfl,?_⟩) (by assumption) ?_;rotate_left
 ·intro w hSw
  (try dsimp only at hSw)
  go_simp
  (try with_reducible rfl)
 (try go_frame)
 refine wpAnyH_ready (rs:=[8]) (by kernel_rfl) (by simp) ?_;refine AllReadyH.cons (o:=_) rfl (fun K hK=>?_) AllReadyH.nil;go_simp
 refine (V7 f k hk _ bb HB).mono ?_;rintro e w1 ⟨rfl,hw1⟩;rw[← rR.out] at hw1;subst hw1;refine hK.out _ _ ⟨k10,k11,k12,k13,k2⟩ (fun hHeld=>?_);clear hK;refine wpAnyH_ready (rs:=[9]) (by kernel_rfl) (by simp) ?_;refine AllReadyH.cons (o:=_) rfl (fun K hK=>?_) AllReadyH.nil;go_simp
 refine (eZ F bb 11 n _ Ox).mono ?_;rintro e w2 ⟨he,hw2⟩;subst hw2;cases bb with
 | false =>
  obtain rfl:e=.panicked [cz 11 n]:=he;have HE:Hid (r=.error 11):=H7.out;clear hK;go_wp2
  exact⟨rfl,ax.bad aA.out HE.out⟩
 | true =>
  obtain rfl:e=.returned (.tuple #[]):=he;have HR2:Hid (r=Vf.put x st):=H7.out;refine hK.out _ _ ⟨k10,k11,k12,k13,k2⟩ (fun hHeld=>?_);clear hK hHeld;refine wpAnyH_done (by kernel_rfl) ?_ _;have q:=HS2.out _ HT1.out (dV aF.out.blk).2.2.2.2.1;clear e10 e11 e12 e13 k10 k11 k12 k13 k2 c14 Ox d2 d3 H7 HB;generalize ((w.alloc (ai 3 (k:Int) nn)).drew.alloc fo)=W1 at *;go_wp2_with fail
  refine wp_region_held_drew (S:=fun w'=>w'.cell? ⟨F,4,none⟩=some (.slice (some ⟨b,off,none⟩) c.u.locals.length c.cl)∧w'.cell? ⟨w.heap.size,1,none⟩=some (.int .i64 (k:Int))∧w'.cell? ⟨b,off+k,none⟩=some (.int .i64 x)) (by kernel_rfl) q (fun hHeld=>?_);refine wpAnyH_take (i:=0) (oi:=_) (v:=?_) rfl (by kernel_rfl) (by kernel_rfl) (by kernel_rfl) (fun _ _ _ h=>h) (Or.inl ⟨by rfl,?_⟩) (by assumption) ?_;rotate_left
  ·intro w hSw
   (try dsimp only at hSw)
   go_simp
   (try with_reducible rfl)
  (try go_frame)
  refine wpAnyH_take (i:=1) (oi:=_) (v:=?_) rfl (by kernel_rfl) (by kernel_rfl) (by kernel_rfl) (fun _ _ _ h=>h) (Or.inl ⟨by rfl,?_⟩) (by assumption) ?_;rotate_left
  ·intro w hSw
   (try dsimp only at hSw)
   go_simp
   (try with_reducible rfl)
  (try go_frame)
  refine wpAnyH_take (i:=2) (oi:=_) (v:=?_) rfl (by kernel_rfl) (by kernel_rfl) (by kernel_rfl) (fun _ _ _ h=>h) (Or.inl ⟨by rfl,?_⟩) (by assumption) ?_;rotate_left
  ·intro w hSw
   (try dsimp only at hSw)
   go_simp
   (try with_reducible rfl)
  (try go_frame)
  refine wpAnyH_take (i:=3) (oi:=_) (v:=?_) rfl (by kernel_rfl) (by kernel_rfl) (by kernel_rfl) (fun _ _ _ h=>h) (Or.inl ⟨by rfl,?_⟩) (by assumption) ?_;rotate_left
  ·intro w hSw
   (try dsimp only at hSw)
   go_simp
   (try with_reducible rfl)
  (try go_frame)
  refine wpAnyH_take (i:=4) (oi:=_) (v:=?_) rfl (by kernel_rfl) (by kernel_rfl) (by kernel_rfl) (fun _ _ _ h=>h) (Or.inl ⟨by rfl,?_⟩) (by assumption) ?_;rotate_left
  ·intro w hSw
   (try dsimp only at hSw)
   go_simp
   (try with_reducible rfl)
  (try go_frame)
  refine wpAnyH_take (i:=5) (oi:=_) (v:=?_) rfl (by kernel_rfl) (by kernel_rfl) (by kernel_rfl) (fun _ _ _ h=>h) (Or.inl ⟨by rfl,?_⟩) (by assumption) ?_;rotate_left
  ·intro w hSw
   (try dsimp only at hSw)
   go_simp
   (try with_reducible rfl)
  (try go_frame)
  refine wpAnyH_take (i:=6) (oi:=_) (v:=?_) rfl (by kernel_rfl) (by kernel_rfl) (by kernel_rfl) (fun _ _ _ h=>h) (Or.inl ⟨by rfl,?_⟩) (by assumption) ?_;rotate_left
  ·intro w hSw
   (try dsimp only at hSw)
   go_simp
   (try with_reducible rfl)
  (try go_frame)
  refine wpAnyH_take (i:=7) (oi:=_) (v:=?_) rfl (by kernel_rfl) (by kernel_rfl) (by kernel_rfl) (fun _ _ _ h=>h) (Or.inl ⟨by rfl,?_⟩) (by assumption) ?_;rotate_left
  ·intro w hSw
   (try dsimp only at hSw)
   go_simp
   (try with_reducible rfl)
  (try go_frame)
  refine wpAnyH_take (i:=8) (oi:=_) (v:=?_) rfl (by kernel_rfl) (by kernel_rfl) (by kernel_rfl) (fun _ _ _ h=>h) (Or.inl ⟨by rfl,?_⟩) (by assumption) ?_;rotate_left
  ·intro w hSw
   (try dsimp only at hSw)
   go_simp
   (try with_reducible rfl)
  (try go_frame)
  refine wpAnyH_take (i:=9) (oi:=_) (v:=?_) rfl (by kernel_rfl) (by kernel_rfl) (by kernel_rfl) (fun _ _ _ h=>h) (Or.inl ⟨by rfl,?_⟩) (by assumption) ?_;rotate_left
  ·intro w hSw
   (try dsimp only at hSw)
   go_simp
   (try with_reducible rfl)
  (try go_frame)
  refine wpAnyH_take (i:=10) (oi:=_) (v:=?_) rfl (by kernel_rfl) (by kernel_rfl) (by kernel_rfl) (fun _ _ _ h=>h) (Or.inl ⟨by rfl,?_⟩) (by assumption) ?_;rotate_left
  ·intro w hSw
   (try dsimp only at hSw)
   go_simp
   (try with_reducible rfl)
  (try go_frame)
  refine wpAnyH_ready (rs:=[11]) (by kernel_rfl) (by simp) ?_;refine AllReadyH.cons (o:=_) rfl (fun K hK=>?_) AllReadyH.nil;go_simp
  refine (gJ c F top st f n row x _ (hide aF.out.drew) (by omega) r HR2).mono ?_;rintro e w9 hS;have aK:Hid (w.grownBy w9 (some F)):=aY aA.out (iQ hS.grown);cases r with
  | error er =>
   obtain rfl:=hS.no er rfl;clear hS hK;go_wp2
   exact⟨rfl,ax.bad aK.out rfl⟩
  | ok aU =>
   obtain⟨rfl,fH,aM⟩:=hS.yes aU rfl;have aT:=hide aM;refine hK.out _ _ (HS2.out w9 (aY HT1.out (iQ hS.grown)) (dV aT.out.blk).2.2.2.2.1) (fun hHeld=>?_);clear hK hS aM;refine wpAnyH_done (by kernel_rfl) ?_ _;go_wp2
   go_end0
   exact ax.good aK.out rfl aT.out
theorem Zy (c:FC)(F B:Nat)(top:Option Addr)(st:List Int)(f:Vf.Fl)(n:Int)(row:Value)(nn:Int)(k:Nat)(x:Int)(hx:Hid (c.u.locals[k]?=some x))(hk:k<256)(w:World)(h:Hid (ay c w F top st f n row))(hE:Hid (Env c B F w))(hl:st.length≤300)(r:Except Int (List Int))(hr:Hid (r=Vf.dG [x] st)) :
  Calls Tryz.prog 139 #[.pointer (some ⟨F,0,none⟩),.agg #[.int .i64 4,.int .i64 (k:Int),.int .i64 nn]] w fun e w'=>ax c F (f.fill k) n row r w e w':=by
 have hlt:=hE.out.lt;have jJ:=hE.out.base;have aJ:=hide (h.out.alloc (ai 4 (k:Int) nn));have bz:Hid (w.grownBy (w.alloc (ai 4 (k:Int) nn)) (some F)):=aV _;obtain⟨Ak,b,off,ha,hb,cx⟩:=hE.out.un.locals k x hx.out;have lM:=hide Ak;have oZ:k<c.u.locals.length:=(List.getElem?_eq_some_iff.1 hx.out).1;have hk1:(k:Int)<(c.u.locals.length:Int):=by omega
 have d2:(w.alloc (ai 4 (k:Int) nn)).cell? ⟨w.heap.size,1,none⟩=some (.int .i64 (k:Int)):=(tV (alloc_at w _)).2.1;have d3:(w.alloc (ai 4 (k:Int) nn)).cell? ⟨b,off+k,none⟩=some (.int .i64 x):=(wU _ _ (by omega)).trans cx;have HA:=hide ha;have HS2:Hid (∀ w3,(w.alloc (ai 4 (k:Int) nn)).grownBy w3 (some F)→w3.cell? ⟨F,4,none⟩=some (.slice c.al c.u.locals.length c.cl)→(w3.cell? ⟨F,4,none⟩=some (.slice (some ⟨b,off,none⟩) c.u.locals.length c.cl)∧w3.cell? ⟨w.heap.size,1,none⟩=some (.int .i64 (k:Int))∧w3.cell? ⟨b,off+k,none⟩=some (.int .i64 x))):=fun w3 hg3 h1=>⟨by rw[h1,HA.out],(aI (kept hg3 (by simp) (by omega)) _).trans d2,(aI (kept hg3 (by simp;omega) (by omega)) _).trans d3⟩;clear Ak cx ha;obtain⟨ro,hro⟩:∃ ro:Obj,ro=.cells #[.int .i64 x] 3 (0,0):=⟨_,rfl⟩;have Oy:=hide hro;clear hro;have aF:Hid (ay c ((w.alloc (ai 4 (k:Int) nn)).drew.alloc ro) F top st f n row):=aJ.out.drew.alloc _;have aA:Hid (w.grownBy ((w.alloc (ai 4 (k:Int) nn)).drew.alloc ro) (some F)):=eB (ji (aV _)) _;have HT1:Hid ((w.alloc (ai 4 (k:Int) nn)).grownBy ((w.alloc (ai 4 (k:Int) nn)).drew.alloc ro) (some F)):=eB (ji (fK _ _)) _;have uC:Hid (((w.alloc (ai 4 (k:Int) nn)).drew.alloc ro).heap[w.heap.size+1]?=some (.cells #[.int .i64 x] 3 (0,0))):=by
   have e:(w.alloc (ai 4 (k:Int) nn)).drew.heap.size=w.heap.size+1:=by simp
   rw[Oy.out,← e];exact heap_alloc_new _ _
 have q0:=HS2.out _ (fK _ _) (dV aJ.out.blk).2.2.2.2.1;have q1:=HS2.out _ HT1.out (dV aF.out.blk).2.2.2.2.1;rw[Oy.out] at aF aA HT1 uC q1;have xJ:=hide q1;clear q1 d2 d3;go_enter Tryz.func139,Tryz.ntmps139
 go_wp2_with fail
 refine wp_region_held_drew (S:=fun w'=>w'.cell? ⟨F,4,none⟩=some (.slice (some ⟨b,off,none⟩) c.u.locals.length c.cl)∧w'.cell? ⟨w.heap.size,1,none⟩=some (.int .i64 (k:Int))∧w'.cell? ⟨b,off+k,none⟩=some (.int .i64 x)) (by kernel_rfl) q0 (fun hHeld=>?_);refine wpAnyH_take (i:=0) (oi:=_) (v:=?_) rfl (by kernel_rfl) (by kernel_rfl) (by kernel_rfl) (fun _ _ _ h=>h) (Or.inl ⟨by rfl,?_⟩) (by assumption) ?_;rotate_left
 ·intro w hSw
  (try dsimp only at hSw)
  go_simp
  (try with_reducible rfl)
 (try go_frame)
 refine wpAnyH_take (i:=1) (oi:=_) (v:=?_) rfl (by kernel_rfl) (by kernel_rfl) (by kernel_rfl) (fun _ _ _ h=>h) (Or.inl ⟨by rfl,?_⟩) (by assumption) ?_;rotate_left
 ·intro w hSw
  (try dsimp only at hSw)
  go_simp
  (try with_reducible rfl)
 (try go_frame)
 refine wpAnyH_take (i:=2) (oi:=_) (v:=?_) rfl (by kernel_rfl) (by kernel_rfl) (by kernel_rfl) (fun _ _ _ h=>h) (Or.inl ⟨by rfl,?_⟩) (by assumption) ?_;rotate_left
 ·intro w hSw
  (try dsimp only at hSw)
  go_simp
  (try with_reducible rfl)
 (try go_frame)
 refine wpAnyH_take (i:=3) (oi:=_) (v:=?_) rfl (by kernel_rfl) (by kernel_rfl) (by kernel_rfl) (fun _ _ _ h=>h) (Or.inl ⟨by rfl,?_⟩) (by assumption) ?_;rotate_left
 ·intro w hSw
  (try dsimp only at hSw)
  go_simp
  (try with_reducible rfl)
 (try go_frame)
 refine wpAnyH_take (i:=4) (oi:=_) (v:=?_) rfl (by kernel_rfl) (by kernel_rfl) (by kernel_rfl) (fun _ _ _ h=>h) (Or.inl ⟨by rfl,?_⟩) (by assumption) ?_;rotate_left
 ·intro w hSw
  (try dsimp only at hSw)
  go_simp
  (try with_reducible rfl)
 (try go_frame)
 refine wpAnyH_take (i:=5) (oi:=_) (v:=?_) rfl (by kernel_rfl) (by kernel_rfl) (by kernel_rfl) (fun _ _ _ h=>h) (Or.inl ⟨by rfl,?_⟩) (by assumption) ?_;rotate_left
 ·intro w hSw
  (try dsimp only at hSw)
  go_simp
  (try with_reducible rfl)
 (try go_frame)
 refine wpAnyH_take (i:=6) (oi:=_) (v:=?_) rfl (by kernel_rfl) (by kernel_rfl) (by kernel_rfl) (fun _ _ _ h=>h) (Or.inl ⟨by rfl,?_⟩) (by assumption) ?_;rotate_left
 ·intro w hSw
  (try dsimp only at hSw)
  go_simp
  (try with_reducible rfl)
 (try go_frame)
 refine wpAnyH_take (i:=7) (oi:=_) (v:=?_) rfl (by kernel_rfl) (by kernel_rfl) (by kernel_rfl) (fun _ _ _ h=>h) (Or.inl ⟨by rfl,?_⟩) (by assumption) ?_;rotate_left
 ·intro w hSw
  (try dsimp only at hSw)
  go_simp
  (try with_reducible rfl)
 (try go_frame)
 refine wpAnyH_take (i:=8) (oi:=_) (v:=?_) rfl (by kernel_rfl) (by kernel_rfl) (by kernel_rfl) (fun _ _ _ h=>h) (Or.inl ⟨by rfl,?_⟩) (by assumption) ?_;rotate_left
 ·intro w hSw
  (try dsimp only at hSw)
  go_simp
  (try with_reducible rfl)
 (try go_frame)
 refine wpAnyH_take (i:=9) (oi:=_) (v:=?_) rfl (by kernel_rfl) (by kernel_rfl) (by kernel_rfl) (fun _ _ _ h=>h) (Or.inl ⟨by rfl,?_⟩) (by assumption) ?_;rotate_left
 ·intro w hSw
  (try dsimp only at hSw)
  go_simp
  (try with_reducible rfl)
 (try go_frame)
 refine wpAnyH_take (i:=10) (oi:=_) (v:=?_) rfl (by kernel_rfl) (by kernel_rfl) (by kernel_rfl) (fun _ _ _ h=>h) (Or.inl ⟨by rfl,?_⟩) (by assumption) ?_;rotate_left
 ·intro w hSw
  (try dsimp only at hSw)
  go_simp
  (try with_reducible rfl)
 (try go_frame)
 refine wpAnyH_ready (rs:=[11]) (by kernel_rfl) (by simp) ?_;refine AllReadyH.cons (o:=_) rfl (fun K hK=>?_) AllReadyH.nil;go_simp
 refine hK.out _ _ xJ.out (fun hHeld=>?_);clear hK;refine wpAnyH_ready (rs:=[12]) (by kernel_rfl) (by simp) ?_;refine AllReadyH.cons (o:=_) rfl (fun K hK=>?_) AllReadyH.nil;go_simp
 refine (CZ c F (w.heap.size+1) top st f n row x _ aF (by omega) lM uC.out (by omega) r hr).mono ?_;rintro e w2 hS;have HG2:Hid (w.grownBy w2 (some F)):=aY aA.out hS.grown;cases r with
 | error er =>
  obtain rfl:=hS.no er rfl;clear hS hK;go_wp2
  exact⟨rfl,ax.bad HG2.out rfl⟩
 | ok st1 =>
  obtain⟨rfl,bX,hF2⟩:=hS.yes st1 rfl;have bQ:=hide hF2;have q2:=HS2.out w2 (aY HT1.out hS.grown) (dV bQ.out.blk).2.2.2.2.1;refine hK.out _ _ q2 (fun hHeld=>?_);clear hK hS hF2 hHeld q0;refine wpAnyH_done (by kernel_rfl) ?_ _;go_wp2_with fail
  refine wp_region_held_drew (S:=fun w'=>w'.cell? ⟨w.heap.size,1,none⟩=some (.int .i64 (k:Int))) (by kernel_rfl) q2.2.1 (fun hHeld=>?_);refine wpAnyH_take (i:=0) (oi:=_) (v:=?_) rfl (by kernel_rfl) (by kernel_rfl) (by kernel_rfl) (fun _ _ _ h=>h) (Or.inl ⟨by rfl,?_⟩) (by assumption) ?_;rotate_left
  ·intro w hSw
   (try dsimp only at hSw)
   go_simp
   (try with_reducible rfl)
  (try go_frame)
  refine wpAnyH_take (i:=1) (oi:=_) (v:=?_) rfl (by kernel_rfl) (by kernel_rfl) (by kernel_rfl) (fun _ _ _ h=>h) (Or.inl ⟨by rfl,?_⟩) (by assumption) ?_;rotate_left
  ·intro w hSw
   (try dsimp only at hSw)
   go_simp
   (try with_reducible rfl)
  (try go_frame)
  refine wpAnyH_take (i:=2) (oi:=_) (v:=?_) rfl (by kernel_rfl) (by kernel_rfl) (by kernel_rfl) (fun _ _ _ h=>h) (Or.inl ⟨by rfl,?_⟩) (by assumption) ?_;rotate_left
  ·intro w hSw
   (try dsimp only at hSw)
   go_simp
   (try with_reducible rfl)
  (try go_frame)
  refine wpAnyH_take (i:=3) (oi:=_) (v:=?_) rfl (by kernel_rfl) (by kernel_rfl) (by kernel_rfl) (fun _ _ _ h=>h) (Or.inl ⟨by rfl,?_⟩) (by assumption) ?_;rotate_left
  ·intro w hSw
   (try dsimp only at hSw)
   go_simp
   (try with_reducible rfl)
  (try go_frame)
  refine wpAnyH_take (i:=4) (oi:=_) (v:=?_) rfl (by kernel_rfl) (by kernel_rfl) (by kernel_rfl) (fun _ _ _ h=>h) (Or.inl ⟨by rfl,?_⟩) (by assumption) ?_;rotate_left
  ·intro w hSw
   (try dsimp only at hSw)
   go_simp
   (try with_reducible rfl)
  (try go_frame)
  refine wpAnyH_take (i:=5) (oi:=_) (v:=?_) rfl (by kernel_rfl) (by kernel_rfl) (by kernel_rfl) (fun _ _ _ h=>h) (Or.inl ⟨by rfl,?_⟩) (by assumption) ?_;rotate_left
  ·intro w hSw
   (try dsimp only at hSw)
   go_simp
   (try with_reducible rfl)
  (try go_frame)
  refine wpAnyH_ready (rs:=[6]) (by kernel_rfl) (by simp) ?_;refine AllReadyH.cons (o:=_) rfl (fun K hK=>?_) AllReadyH.nil;go_simp
  refine (Mo c F bX st1 f n row k hk _ (hide bQ.out.drew)).mono ?_;rintro e w3 ⟨rfl,hg3,Oz⟩;have fe:Hid (w.grownBy w3 (some F)):=aY HG2.out (iQ hg3);have uD:=hide Oz;refine hK.out _ _ (by rw[← q2.2.1];exact aI (kept (iQ hg3) (by have:=HG2.out.size;have:=lt_of_block (kept (aY HT1.out (fK _ _)) (by simp) (by omega) |>.trans (alloc_at w _));have:=World.block_lt_of_cell? w2 _ q2.2.1;exact this) (by omega)) _) (fun hHeld=>?_);clear hK hg3 Oz;refine wpAnyH_done (by kernel_rfl) ?_ _;go_wp2
  go_end0
  exact ax.good fe.out rfl uD.out
theorem Zz {a:Int}(h:0≤a):∃ k:Nat,a=k:=⟨a.toNat,by omega⟩
theorem OA {m:Vf.Md}{u:Vf.Un}{a nn:Int}{op kd:Int}(h:Vf.bE m u ⟨op,a,nn⟩=0)(he:Vf.ranged m u ⟨op,a,nn⟩=Vf.is m kd a):∃ (k:Nat) (x:Vf.Un),a=k∧m.units[k]?=some x∧x.kind=kd:=by
 have h1:=(qi h).2.2;rw[he] at h1;obtain⟨x,h2,h3,h4⟩:=kN h1;exact⟨a.toNat,x,by omega,h2,h3⟩
theorem xK {m:Vf.Md}{u:Vf.Un}{a nn:Int}{op:Int}{L:Nat}(h:Vf.bE m u ⟨op,a,nn⟩=0)(he:Vf.ranged m u ⟨op,a,nn⟩=(decide (0≤a) && decide (a<L))):∃ k:Nat,a=k∧k<L:=by
 have h1:=(qi h).2.2;rw[he] at h1;simp only[Bool.and_eq_true,decide_eq_true_eq] at h1;exact⟨a.toNat,by omega,by omega⟩
theorem Rt.OB {m:Vf.Md}(h:Rt m){k:Nat}{u:Vf.Un}(hu:m.units[k]?=some u):0≤u.params∧u.params≤u.locals.length∧u.locals.length≤200:=by
 have:=ko (iF (h.heads k u hu).1).2.1;exact⟨this.2.1,this.2.2.1,this.1⟩
theorem Hm (c:FC)(F B:Nat)(top:Option Addr)(st:List Int)(f:Vf.Fl)(n:Int)(row:Value)(op a nn:Int)(w:World)(h:Hid (ay c w F top st f n row))(hE:Hid (Env c B F w))(hl:st.length≤300)(hgn:Hid (kM c.m st))(hR:Hid (Rt c.m))(hfm:Hid (Vf.bE c.m c.u ⟨op,a,nn⟩=0))
  (hop:op=21∨op=23∨op=24∨op=25∨op=26∨op=27∨op=29∨op=30∨op=31∨op=32) (r:Except Int (List Int)) (hr:Hid (r=Vf.speak c.m c.u ⟨op,a,nn⟩ st)) :
  Calls Tryz.prog 178 #[.pointer (some ⟨F,0,none⟩),.agg #[.int .i64 op,.int .i64 a,.int .i64 nn]] w fun e w'=>ax c F f n row r w e w':=by
 rcases hop with rfl | rfl | rfl | rfl | rfl | rfl | rfl | rfl | rfl | rfl
 ·exact Za c F B top st f n row a nn w h hE r (hide hr.out)
 ·obtain⟨k,x,rfl,hx,_⟩:=OA (kd:=2) hfm.out rfl
  exact Y0 c F B top st f n row nn k x (hide hx) (hide (hR.out.OB hx)) _ (hide rfl) w h hE hl r (hide (by rw[hr.out];show Vf.turn (Vf.unit c.m (k:Int)).result ((Vf.unit c.m (k:Int)).locals.take (Vf.unit c.m (k:Int)).params.toNat) st=_;rw[mf hx]))
 ·exact Y9 c F B top st f n row a nn w h hE hl r (hide hr.out)
 ·exact Y8 c F B top st f n row a nn w h hE hl r (hide hr.out)
 ·obtain⟨k,rfl,hk⟩:=xK (L:=c.m.boxes.length) hfm.out rfl
  have hx:=List.getElem?_eq_getElem hk;exact Y2 c F B top st f n row nn k _ (hide hx) w h hE hl r (hide (by rw[hr.out];show Vf.dG [Vf.jI c.m (k:Int)] st=_;rw[Mr hx]))
 ·obtain⟨k,rfl,hk⟩:=xK (L:=c.m.boxes.length) hfm.out rfl
  have hx:=List.getElem?_eq_getElem hk;exact Y3 c F B top st f n row nn k _ (hide hx) w h hE hl r (hide (by rw[hr.out];show Vf.put (Vf.jI c.m (k:Int)) st=_;rw[Mr hx]))
 ·obtain⟨k,x,rfl,hx,_⟩:=OA (kd:=3) hfm.out rfl
  exact Y1 c F B top st f n row nn k x (hide hx) (hide (hR.out.OB hx)) hR.out.units _ (hide rfl) w h hE hl r (hide (by rw[hr.out];show Vf.turn (10+(k:Int)) ((Vf.unit c.m (k:Int)).locals.take (Vf.unit c.m (k:Int)).params.toNat) st=_;rw[mf hx]))
 ·exact Y4 c F B top st f n row a nn hgn hR.out.units w h hE hl r (hide hr.out)
 ·exact Y7 c F B top st f n row a nn w h hE hl r (hide hr.out)
 ·exact Y6 c F B top st f n row a nn hgn hR.out.units w h hE hl r (hide hr.out)
theorem pz (c:FC)(F B:Nat)(top:Option Addr)(st:List Int)(f:Vf.Fl)(n:Int)(row:Value)(op a nn:Int)(w:World)(h:Hid (ay c w F top st f n row))(hE:Hid (Env c B F w))(hl:st.length≤300)(hgn:Hid (kM c.m st))(hR:Hid (Rt c.m))(hfm:Hid (Vf.bE c.m c.u ⟨op,a,nn⟩=0))
  (hop:Hid (op=21∨op=23∨op=24∨op=25∨op=26∨op=27∨op=29∨op=30∨op=31∨op=32)) (r:Except Int (List Int)) (hr:Hid (r=Vf.speak c.m c.u ⟨op,a,nn⟩ st)) :
  Calls Tryz.prog 139 #[.pointer (some ⟨F,0,none⟩),.agg #[.int .i64 op,.int .i64 a,.int .i64 nn]] w fun e w'=>ax c F f n row r w e w':=by
 have aJ:=hide (h.out.alloc (ai op a nn));have bz:Hid (w.grownBy (w.alloc (ai op a nn)) (some F)):=aV _;have uE:=hide (hE.out.grown bz.out);have ne:∀ k:Int,k≠21→k≠23→k≠24→k≠25→k≠26→k≠27→k≠29→k≠30→k≠31→k≠32→(op==k)=false:=by
  intro k h1 h2 h3 h4 h5 h6 h7 h8 h9 h10;have:=hop.out;simp;omega
 have g1:(op==1)=false:=ne 1 (by decide) (by decide) (by decide) (by decide) (by decide) (by decide) (by decide) (by decide) (by decide) (by decide);have g2:(op==2)=false:=ne 2 (by decide) (by decide) (by decide) (by decide) (by decide) (by decide) (by decide) (by decide) (by decide) (by decide);have g3:(op==3)=false:=ne 3 (by decide) (by decide) (by decide) (by decide) (by decide) (by decide) (by decide) (by decide) (by decide) (by decide);have g4:(op==4)=false:=ne 4 (by decide) (by decide) (by decide) (by decide) (by decide) (by decide) (by decide) (by decide) (by decide) (by decide);have g5:(op==5)=false:=ne 5 (by decide) (by decide) (by decide) (by decide) (by decide) (by decide) (by decide) (by decide) (by decide) (by decide);have g6:(op==6)=false:=ne 6 (by decide) (by decide) (by decide) (by decide) (by decide) (by decide) (by decide) (by decide) (by decide) (by decide);have g7:(op==7)=false:=ne 7 (by decide) (by decide) (by decide) (by decide) (by decide) (by decide) (by decide) (by decide) (by decide) (by decide);have g8:(op==8)=false:=ne 8 (by decide) (by decide) (by decide) (by decide) (by decide) (by decide) (by decide) (by decide) (by decide) (by decide);have g9:(op==9)=false:=ne 9 (by decide) (by decide) (by decide) (by decide) (by decide) (by decide) (by decide) (by decide) (by decide) (by decide);have g10:(op==10)=false:=ne 10 (by decide) (by decide) (by decide) (by decide) (by decide) (by decide) (by decide) (by decide) (by decide) (by decide);have g11:(op==11)=false:=ne 11 (by decide) (by decide) (by decide) (by decide) (by decide) (by decide) (by decide) (by decide) (by decide) (by decide);have g12:(op==12)=false:=ne 12 (by decide) (by decide) (by decide) (by decide) (by decide) (by decide) (by decide) (by decide) (by decide) (by decide);have g15:(op==15)=false:=ne 15 (by decide) (by decide) (by decide) (by decide) (by decide) (by decide) (by decide) (by decide) (by decide) (by decide);have g16:(op==16)=false:=ne 16 (by decide) (by decide) (by decide) (by decide) (by decide) (by decide) (by decide) (by decide) (by decide) (by decide);have g17:(op==17)=false:=ne 17 (by decide) (by decide) (by decide) (by decide) (by decide) (by decide) (by decide) (by decide) (by decide) (by decide);have g18:(op==18)=false:=ne 18 (by decide) (by decide) (by decide) (by decide) (by decide) (by decide) (by decide) (by decide) (by decide) (by decide);have g19:(op==19)=false:=ne 19 (by decide) (by decide) (by decide) (by decide) (by decide) (by decide) (by decide) (by decide) (by decide) (by decide);have g20:(op==20)=false:=ne 20 (by decide) (by decide) (by decide) (by decide) (by decide) (by decide) (by decide) (by decide) (by decide) (by decide);have g13:(op==13)=false:=ne 13 (by decide) (by decide) (by decide) (by decide) (by decide) (by decide) (by decide) (by decide) (by decide) (by decide);have g14:(op==14)=false:=ne 14 (by decide) (by decide) (by decide) (by decide) (by decide) (by decide) (by decide) (by decide) (by decide) (by decide);have g28:(op==28)=false:=ne 28 (by decide) (by decide) (by decide) (by decide) (by decide) (by decide) (by decide) (by decide) (by decide) (by decide);have g22:(op==22)=false:=ne 22 (by decide) (by decide) (by decide) (by decide) (by decide) (by decide) (by decide) (by decide) (by decide) (by decide);clear ne;go_enter Tryz.func139,Tryz.ntmps139
 go_wp2_with fail
 refine (Hm c F B top st f n row op a nn _ aJ uE hl hgn hR hfm hop.out r hr).mono ?_;rintro e w9 hS;have aK:Hid (w.grownBy w9 (some F)):=aY bz.out hS.grown;cases r with
 | error er =>
  obtain rfl:=hS.no er rfl;clear hS;go_wp2
  exact⟨rfl,ax.bad aK.out rfl⟩
 | ok aU =>
  obtain⟨rfl,fH,aM⟩:=hS.yes aU rfl;have aT:=hide aM;clear hS aM;go_wp2
  go_end0
  exact ax.good aK.out rfl aT.out
theorem GI (c:FC)(F B:Nat)(top:Option Addr)(st:List Int)(f:Vf.Fl)(n:Int)(row:Value)(op a nn:Int)(w:World)(h:Hid (ay c w F top st f n row))(hE:Hid (Env c B F w))(hl:st.length≤300)(hgn:Hid (kM c.m st))(hR:Hid (Rt c.m))(hfm:Hid (Vf.bE c.m c.u ⟨op,a,nn⟩=0))(hlo:c.u.locals.length≤200)
  (r:Except Int (List Int)) (hr:Hid (r=Vf.eO c.m c.u ⟨op,a,nn⟩ ⟨st,f⟩)) :
  Calls Tryz.prog 139 #[.pointer (some ⟨F,0,none⟩),.agg #[.int .i64 op,.int .i64 a,.int .i64 nn]] w fun e w'=>ax c F (Vf.mP ⟨op,a,nn⟩ f) n row r w e w':=by
 obtain⟨h1,h2,_⟩:=qi hfm.out;have h1':1≤op:=h1;have h2':op≤32:=h2;rcases (by omega:op=1∨op=2∨op=3∨op=4∨op=5∨op=6∨op=7∨op=8∨op=9∨op=10∨op=11∨op=12∨op=13∨op=14∨op=15∨op=16∨op=17∨op=18∨op=19∨op=20∨op=21∨op=22∨op=23∨op=24∨op=25∨op=26∨op=27∨op=28∨op=29∨op=30∨op=31∨op=32) with rfl | rfl | rfl | rfl | rfl | rfl | rfl | rfl | rfl | rfl | rfl | rfl | rfl | rfl | rfl | rfl | rfl | rfl | rfl | rfl | rfl | rfl | rfl | rfl | rfl | rfl | rfl | rfl | rfl | rfl | rfl | rfl
 ·exact Zb c F B top st f n row a nn w h hE hl r (hide hr.out)
 ·exact Zc c F B top st f n row a nn w h hE hl r (hide hr.out)
 ·obtain⟨k,rfl,hk⟩:=xK (L:=c.u.locals.length) hfm.out rfl
  have hx:=List.getElem?_eq_getElem hk;exact Zx c F B top st f n row nn k _ (hide hx) (by omega) w h hE hl r (hide (by rw[hr.out];show Vf.andThen (Vf.must (f.has (k:Int).toNat) 11 st) (Vf.put (Vf.qg c.u (k:Int)))=_;rw[Mt hx];rfl))
 ·obtain⟨k,rfl,hk⟩:=xK (L:=c.u.locals.length) hfm.out rfl
  have hx:=List.getElem?_eq_getElem hk;exact Zy c F B top st f n row nn k _ (hide hx) (by omega) w h hE hl r (hide (by rw[hr.out];show Vf.dG [Vf.qg c.u (k:Int)] st=_;rw[Mt hx]))
 ·exact Zg c F B top st f n row a nn w h hE hl r (hide hr.out)
 ·exact Zd c F B top st f n row a nn w h hE hl r (hide hr.out)
 ·exact Ze c F B top st f n row a nn w h hE hl r (hide hr.out)
 ·exact Zk c F B top st f n row a nn w h hE hl r (hide hr.out)
 ·exact Zl c F B top st f n row a nn w h hE hl r (hide hr.out)
 ·exact Zm c F B top st f n row a nn w h hE hl r (hide hr.out)
 ·exact Zn c F B top st f n row a nn w h hE hl r (hide hr.out)
 ·exact Zo c F B top st f n row a nn w h hE hl r (hide hr.out)
 ·exact Zi c F B top st f n row a nn w h hE hl r (hide hr.out)
 ·exact Zj c F B top st f n row a nn w h hE hl r (hide hr.out)
 ·exact Zp c F B top st f n row a nn w h hE hl r (hide hr.out)
 ·exact Zq c F B top st f n row a nn w h hE hl r (hide hr.out)
 ·exact Zt c F B top st f n row a nn w h hE hl r (hide hr.out)
 ·exact Zu c F B top st f n row a nn w h hE hl r (hide hr.out)
 ·exact Zv c F B top st f n row a nn w h hE hl r (hide hr.out)
 ·exact Zw c F B top st f n row a nn w h hE hl r (hide hr.out)
 ·exact pz c F B top st f n row 21 a nn w h hE hl hgn hR hfm (hide (by decide)) r (hide hr.out)
 ·exact Zf c F B top st f n row a nn w h hE hl r (hide hr.out)
 ·exact pz c F B top st f n row 23 a nn w h hE hl hgn hR hfm (hide (by decide)) r (hide hr.out)
 ·exact pz c F B top st f n row 24 a nn w h hE hl hgn hR hfm (hide (by decide)) r (hide hr.out)
 ·exact pz c F B top st f n row 25 a nn w h hE hl hgn hR hfm (hide (by decide)) r (hide hr.out)
 ·exact pz c F B top st f n row 26 a nn w h hE hl hgn hR hfm (hide (by decide)) r (hide hr.out)
 ·exact pz c F B top st f n row 27 a nn w h hE hl hgn hR hfm (hide (by decide)) r (hide hr.out)
 ·exact Zh c F B top st f n row a nn w h hE hl r (hide hr.out)
 ·exact pz c F B top st f n row 29 a nn w h hE hl hgn hR hfm (hide (by decide)) r (hide hr.out)
 ·exact pz c F B top st f n row 30 a nn w h hE hl hgn hR hfm (hide (by decide)) r (hide hr.out)
 ·exact pz c F B top st f n row 31 a nn w h hE hl hgn hR hfm (hide (by decide)) r (hide hr.out)
 ·exact pz c F B top st f n row 32 a nn w h hE hl hgn hR hfm (hide (by decide)) r (hide hr.out)
end Go.Proofs.YtfcpglhpolpdcaaGreatDoor
