/- The document's answer,chapter 7,walked: Needs (2). (Laid by tools/mkneeds.py.) -/
import Derived.Test.YtbdpdjcdhclbfaaGreatM29
import Derived.Test.YtbdpdjcdhclbfaaGreatM3
set_option maxRecDepth 100000
set_option maxHeartbeats 2000000
namespace Go.Proofs.YtbdpdjcdhclbfaaGreat
open Go.RowKit
theorem rneeds_21 (m:Vf.Md)(ab au:Option Addr)(cb cu:Nat)(u:Vf.Un)(al ac:Option Addr)(cl cc:Nat)(a n:Int)(w:World)  :
  Calls Tryz.prog 45 #[aT m ab au cb cu,jm u al ac cl cc,jE 21 a n] w fun e w'=>rZ ([],[]) e∧w.grownBy w' none:=by
 have ji:∀ (fn:Fn) (first cap:Array Value) (w:World),(Instr.makeFunc fn first cap).run Tryz.prog w=.ok (.func fn first cap) w:=fun _ _ _ _=>rfl;go_enter Tryz.func45,Tryz.ntmps45
 go_wp2
 refine bodyPost_ret (v:=.tuple #[.string ⟨#[]⟩,.string ⟨#[]⟩]) (by simp[results,Tryz.results45,go_sem]) rfl ?_;exact⟨⟨_,_,rfl,rfl,rfl⟩,ai (aF _ _ _) _⟩
theorem rneeds_22 (m:Vf.Md)(ab au:Option Addr)(cb cu:Nat)(u:Vf.Un)(al ac:Option Addr)(cl cc:Nat)(a n:Int)(w:World)  :
  Calls Tryz.prog 45 #[aT m ab au cb cu,jm u al ac cl cc,jE 22 a n] w fun e w'=>rZ ([98],[]) e∧w.grownBy w' none:=by
 have ji:∀ (fn:Fn) (first cap:Array Value) (w:World),(Instr.makeFunc fn first cap).run Tryz.prog w=.ok (.func fn first cap) w:=fun _ _ _ _=>rfl;go_enter Tryz.func45,Tryz.ntmps45
 go_wp2
 refine bodyPost_ret (v:=.tuple #[.string ⟨#[98]⟩,.string ⟨#[]⟩]) (by simp[results,Tryz.results45,go_sem]) rfl ?_;exact⟨⟨_,_,rfl,rfl,rfl⟩,ai (aF _ _ _) _⟩
theorem rneeds_25 (m:Vf.Md)(ab au:Option Addr)(cb cu:Nat)(u:Vf.Un)(al ac:Option Addr)(cl cc:Nat)(a n:Int)(w:World)  :
  Calls Tryz.prog 45 #[aT m ab au cb cu,jm u al ac cl cc,jE 25 a n] w fun e w'=>rZ ([],[]) e∧w.grownBy w' none:=by
 have ji:∀ (fn:Fn) (first cap:Array Value) (w:World),(Instr.makeFunc fn first cap).run Tryz.prog w=.ok (.func fn first cap) w:=fun _ _ _ _=>rfl;go_enter Tryz.func45,Tryz.ntmps45
 go_wp2
 refine bodyPost_ret (v:=.tuple #[.string ⟨#[]⟩,.string ⟨#[]⟩]) (by simp[results,Tryz.results45,go_sem]) rfl ?_;exact⟨⟨_,_,rfl,rfl,rfl⟩,ai (aF _ _ _) _⟩
theorem rneeds_28 (m:Vf.Md)(ab au:Option Addr)(cb cu:Nat)(u:Vf.Un)(al ac:Option Addr)(cl cc:Nat)(a n:Int)(w:World)  :
  Calls Tryz.prog 45 #[aT m ab au cb cu,jm u al ac cl cc,jE 28 a n] w fun e w'=>rZ ([63],[]) e∧w.grownBy w' none:=by
 have ji:∀ (fn:Fn) (first cap:Array Value) (w:World),(Instr.makeFunc fn first cap).run Tryz.prog w=.ok (.func fn first cap) w:=fun _ _ _ _=>rfl;go_enter Tryz.func45,Tryz.ntmps45
 go_wp2
 refine bodyPost_ret (v:=.tuple #[.string ⟨#[63]⟩,.string ⟨#[]⟩]) (by simp[results,Tryz.results45,go_sem]) rfl ?_;exact⟨⟨_,_,rfl,rfl,rfl⟩,ai (aF _ _ _) _⟩
theorem rneeds_30 (m:Vf.Md)(ab au:Option Addr)(cb cu:Nat)(u:Vf.Un)(al ac:Option Addr)(cl cc:Nat)(a n:Int)(w:World)  :
  Calls Tryz.prog 45 #[aT m ab au cb cu,jm u al ac cl cc,jE 30 a n] w fun e w'=>rZ ([],[]) e∧w.grownBy w' none:=by
 have ji:∀ (fn:Fn) (first cap:Array Value) (w:World),(Instr.makeFunc fn first cap).run Tryz.prog w=.ok (.func fn first cap) w:=fun _ _ _ _=>rfl;go_enter Tryz.func45,Tryz.ntmps45
 go_wp2
 refine bodyPost_ret (v:=.tuple #[.string ⟨#[]⟩,.string ⟨#[]⟩]) (by simp[results,Tryz.results45,go_sem]) rfl ?_;exact⟨⟨_,_,rfl,rfl,rfl⟩,ai (aF _ _ _) _⟩
theorem rneeds_32 (m:Vf.Md)(ab au:Option Addr)(cb cu:Nat)(u:Vf.Un)(al ac:Option Addr)(cl cc:Nat)(a n:Int)(w:World)  :
  Calls Tryz.prog 45 #[aT m ab au cb cu,jm u al ac cl cc,jE 32 a n] w fun e w'=>rZ ([],[]) e∧w.grownBy w' none:=by
 have ji:∀ (fn:Fn) (first cap:Array Value) (w:World),(Instr.makeFunc fn first cap).run Tryz.prog w=.ok (.func fn first cap) w:=fun _ _ _ _=>rfl;go_enter Tryz.func45,Tryz.ntmps45
 go_wp2
 refine bodyPost_ret (v:=.tuple #[.string ⟨#[]⟩,.string ⟨#[]⟩]) (by simp[results,Tryz.results45,go_sem]) rfl ?_;exact⟨⟨_,_,rfl,rfl,rfl⟩,ai (aF _ _ _) _⟩
theorem rneeds_3 (m:Vf.Md)(ab au:Option Addr)(cb cu:Nat)(u:Vf.Un)(al ac:Option Addr)(cl cc:Nat)(a n:Int)(w:World)(B:Nat)(hun:Hid (ig B w u al ac cl cc))(hB:B≤w.heap.size)(t:Int)(h0:0≤a)(xX:u.locals[a.toNat]?=some t)(hlt:Vf.jF t) :
  Calls Tryz.prog 45 #[aT m ab au cb cu,jm u al ac cl cc,jE 3 a n] w fun e w'=>rZ ([],[Vf.ag t]) e∧w.grownBy w' none:=by
 have ji:∀ (fn:Fn) (first cap:Array Value) (w:World),(Instr.makeFunc fn first cap).run Tryz.prog w=.ok (.func fn first cap) w:=fun _ _ _ _=>rfl;obtain⟨s1,hs1⟩:∃ s1:ByteArray,s1=⟨#[Vf.ag t]⟩:=⟨_,rfl⟩;have jg:=hide hs1;clear hs1;obtain⟨j,rfl⟩:=yM h0;obtain⟨h64,bl,ol,hal,hbl,ct⟩:=hun.out.locals j t (by simpa using xX);have hj1:(j:Int)<(u.locals.length:Int):=by have:=(List.getElem?_eq_some_iff.1 xX).1;simp at this;omega
 have hbw:bl<w.heap.size:=by omega
 have KL:bl<w.heap.size+1:=by omega
 have hbw2:bl<w.heap.size+1+1:=by omega
 clear xX;subst hal;go_enter Tryz.func45,Tryz.ntmps45
 go_wp2_with fail
 refine (zJ t hlt _ s1 jg).mono ?_;rintro e w2 ⟨rfl,hg2⟩;have HG2:Hid (w.grownBy w2 none):=aJ (ai (aF _ _ _) _) hg2;clear hg2;go_wp2
 refine bodyPost_ret (v:=.tuple #[.string ⟨#[]⟩,.string s1]) (by simp[results,Tryz.results45,go_sem]) rfl ?_;exact⟨⟨⟨#[]⟩,s1,rfl,by rw[jg.out],rfl⟩,HG2.out⟩
theorem rneeds_4 (m:Vf.Md)(ab au:Option Addr)(cb cu:Nat)(u:Vf.Un)(al ac:Option Addr)(cl cc:Nat)(a n:Int)(w:World)(B:Nat)(hun:Hid (ig B w u al ac cl cc))(hB:B≤w.heap.size)(t:Int)(h0:0≤a)(xX:u.locals[a.toNat]?=some t)(hlt:Vf.jF t) :
  Calls Tryz.prog 45 #[aT m ab au cb cu,jm u al ac cl cc,jE 4 a n] w fun e w'=>rZ ([Vf.ag t],[]) e∧w.grownBy w' none:=by
 have ji:∀ (fn:Fn) (first cap:Array Value) (w:World),(Instr.makeFunc fn first cap).run Tryz.prog w=.ok (.func fn first cap) w:=fun _ _ _ _=>rfl;obtain⟨s1,hs1⟩:∃ s1:ByteArray,s1=⟨#[Vf.ag t]⟩:=⟨_,rfl⟩;have jg:=hide hs1;clear hs1;obtain⟨j,rfl⟩:=yM h0;obtain⟨h64,bl,ol,hal,hbl,ct⟩:=hun.out.locals j t (by simpa using xX);have hj1:(j:Int)<(u.locals.length:Int):=by have:=(List.getElem?_eq_some_iff.1 xX).1;simp at this;omega
 have hbw:bl<w.heap.size:=by omega
 have KL:bl<w.heap.size+1:=by omega
 have hbw2:bl<w.heap.size+1+1:=by omega
 clear xX;subst hal;go_enter Tryz.func45,Tryz.ntmps45
 go_wp2_with fail
 refine (zJ t hlt _ s1 jg).mono ?_;rintro e w2 ⟨rfl,hg2⟩;have HG2:Hid (w.grownBy w2 none):=aJ (ai (aF _ _ _) _) hg2;clear hg2;go_wp2
 refine bodyPost_ret (v:=.tuple #[.string s1,.string ⟨#[]⟩]) (by simp[results,Tryz.results45,go_sem]) rfl ?_;exact⟨⟨s1,⟨#[]⟩,by rw[jg.out],rfl,rfl⟩,HG2.out⟩
theorem rneeds_24 (m:Vf.Md)(ab au:Option Addr)(cb cu:Nat)(u:Vf.Un)(al ac:Option Addr)(cl cc:Nat)(a n:Int)(w:World)(hlt:Vf.jF u.result) :
  Calls Tryz.prog 45 #[aT m ab au cb cu,jm u al ac cl cc,jE 24 a n] w fun e w'=>rZ ([Vf.ag u.result],[]) e∧w.grownBy w' none:=by
 have ji:∀ (fn:Fn) (first cap:Array Value) (w:World),(Instr.makeFunc fn first cap).run Tryz.prog w=.ok (.func fn first cap) w:=fun _ _ _ _=>rfl;obtain⟨s1,hs1⟩:∃ s1:ByteArray,s1=⟨#[Vf.ag u.result]⟩:=⟨_,rfl⟩;have jg:=hide hs1;clear hs1;go_enter Tryz.func45,Tryz.ntmps45
 go_wp2_with fail
 refine (zJ u.result hlt _ s1 jg).mono ?_;rintro e w2 ⟨rfl,hg2⟩;have HG2:Hid (w.grownBy w2 none):=aJ (ai (aF _ _ _) _) hg2;clear hg2;go_wp2
 refine bodyPost_ret (v:=.tuple #[.string s1,.string ⟨#[]⟩]) (by simp[results,Tryz.results45,go_sem]) rfl ?_;exact⟨⟨s1,⟨#[]⟩,by rw[jg.out],rfl,rfl⟩,HG2.out⟩
theorem rneeds_26 (m:Vf.Md)(ab au:Option Addr)(cb cu:Nat)(u:Vf.Un)(al ac:Option Addr)(cl cc:Nat)(a n:Int)(w:World)(B:Nat)(hmd:Hid (aD B w m ab au))(hB:B≤w.heap.size)(x:Vf.Bx)(h0:0≤a)(xX:m.boxes[a.toNat]?=some x)(hlt:Vf.jF x.ty) :
  Calls Tryz.prog 45 #[aT m ab au cb cu,jm u al ac cl cc,jE 26 a n] w fun e w'=>rZ ([Vf.ag x.ty],[]) e∧w.grownBy w' none:=by
 have ji:∀ (fn:Fn) (first cap:Array Value) (w:World),(Instr.makeFunc fn first cap).run Tryz.prog w=.ok (.func fn first cap) w:=fun _ _ _ _=>rfl;obtain⟨s1,hs1⟩:∃ s1:ByteArray,s1=⟨#[Vf.ag x.ty]⟩:=⟨_,rfl⟩;have jg:=hide hs1;clear hs1;obtain⟨j,rfl⟩:=yM h0;obtain⟨i1,i2,bl,ol,hal,hbl,b0,b1⟩:=hmd.out.boxes j x (by simpa using xX);have hj1:(j:Int)<(m.boxes.length:Int):=by have:=(List.getElem?_eq_some_iff.1 xX).1;simp at this;omega
 have hbw:bl<w.heap.size:=by omega
 have KL:bl<w.heap.size+1:=by omega
 have hbw2:bl<w.heap.size+1+1:=by omega
 clear xX;subst hal;go_enter Tryz.func45,Tryz.ntmps45
 go_wp2_with fail
 refine (zJ x.ty hlt _ s1 jg).mono ?_;rintro e w2 ⟨rfl,hg2⟩;have HG2:Hid (w.grownBy w2 none):=aJ (ai (aF _ _ _) _) hg2;clear hg2;go_wp2
 refine bodyPost_ret (v:=.tuple #[.string s1,.string ⟨#[]⟩]) (by simp[results,Tryz.results45,go_sem]) rfl ?_;exact⟨⟨s1,⟨#[]⟩,by rw[jg.out],rfl,rfl⟩,HG2.out⟩
theorem rneeds_27 (m:Vf.Md)(ab au:Option Addr)(cb cu:Nat)(u:Vf.Un)(al ac:Option Addr)(cl cc:Nat)(a n:Int)(w:World)(B:Nat)(hmd:Hid (aD B w m ab au))(hB:B≤w.heap.size)(x:Vf.Bx)(h0:0≤a)(xX:m.boxes[a.toNat]?=some x)(hlt:Vf.jF x.ty) :
  Calls Tryz.prog 45 #[aT m ab au cb cu,jm u al ac cl cc,jE 27 a n] w fun e w'=>rZ ([],[Vf.ag x.ty]) e∧w.grownBy w' none:=by
 have ji:∀ (fn:Fn) (first cap:Array Value) (w:World),(Instr.makeFunc fn first cap).run Tryz.prog w=.ok (.func fn first cap) w:=fun _ _ _ _=>rfl;obtain⟨s1,hs1⟩:∃ s1:ByteArray,s1=⟨#[Vf.ag x.ty]⟩:=⟨_,rfl⟩;have jg:=hide hs1;clear hs1;obtain⟨j,rfl⟩:=yM h0;obtain⟨i1,i2,bl,ol,hal,hbl,b0,b1⟩:=hmd.out.boxes j x (by simpa using xX);have hj1:(j:Int)<(m.boxes.length:Int):=by have:=(List.getElem?_eq_some_iff.1 xX).1;simp at this;omega
 have hbw:bl<w.heap.size:=by omega
 have KL:bl<w.heap.size+1:=by omega
 have hbw2:bl<w.heap.size+1+1:=by omega
 clear xX;subst hal;go_enter Tryz.func45,Tryz.ntmps45
 go_wp2_with fail
 refine (zJ x.ty hlt _ s1 jg).mono ?_;rintro e w2 ⟨rfl,hg2⟩;have HG2:Hid (w.grownBy w2 none):=aJ (ai (aF _ _ _) _) hg2;clear hg2;go_wp2
 refine bodyPost_ret (v:=.tuple #[.string ⟨#[]⟩,.string s1]) (by simp[results,Tryz.results45,go_sem]) rfl ?_;exact⟨⟨⟨#[]⟩,s1,rfl,by rw[jg.out],rfl⟩,HG2.out⟩
theorem r9 {w:World}{N:Nat}{x y z:Value}(h:w.heap[N]?=some (.cells #[x,y,z] 47 (0,0))):w.cell? ⟨N,0,none⟩=some x∧w.cell? ⟨N,1,none⟩=some y∧w.cell? ⟨N,2,none⟩=some z:=by
 simp[World.cell?,h]
theorem jo {w:World}{N:Nat}{u:Vf.Un}{al ac:Option Addr}{cl cc:Nat}(h:w.heap[N]?=some (gP u al ac cl cc)):w.cell? ⟨N,0,none⟩=some (.int .i64 u.kind)∧w.cell? ⟨N,1,none⟩=some (.int .i64 u.params)∧w.cell? ⟨N,2,none⟩=some (.slice al u.locals.length cl)∧w.cell? ⟨N,3,none⟩=some (.int .i64 u.result)∧w.cell? ⟨N,4,none⟩=some (.int .i64 u.takes)∧w.cell? ⟨N,5,none⟩=some (.slice ac u.code.length cc):=by
 simp[World.cell?,h]
abbrev fF (op a n:Int):Obj:=.cells #[.int .i64 op,.int .i64 a,.int .i64 n] 47 (0,0)
theorem rneeds_31 (m:Vf.Md)(ab au:Option Addr)(cb cu:Nat)(u:Vf.Un)(al ac:Option Addr)(cl cc:Nat)(a n:Int)(w:World)(h1:Vf.jF u.result)(h2:Vf.jF u.takes) :
  Calls Tryz.prog 45 #[aT m ab au cb cu,jm u al ac cl cc,jE 31 a n] w fun e w'=>rZ ([Vf.ag u.result],[Vf.ag u.takes]) e∧w.grownBy w' none:=by
 have ji:∀ (fn:Fn) (first cap:Array Value) (w:World),(Instr.makeFunc fn first cap).run Tryz.prog w=.ok (.func fn first cap) w:=fun _ _ _ _=>rfl;obtain⟨W0,hW0⟩:∃ W0:World,((w.alloc (uM m ab au cb cu)).alloc (gP u al ac cl cc)).alloc (fF 31 a n)=W0:=⟨_,rfl⟩;obtain⟨t0,t1,t2,t3⟩:=BV w (uM m ab au cb cu) (gP u al ac cl cc) (fF 31 a n);rw[hW0] at t0 t1 t2 t3;obtain⟨m0,m1,_⟩:=lF t1;obtain⟨q0,q1,q2,q3,q4,q5⟩:=jo t2;obtain⟨i0,i1,i2⟩:=r9 t3;have HG:=hide t0;have vH:=hide t1;have vD:=hide t2;have AY:=hide t3;have hz:=lt_of_block t3;clear t0 t1 t2 t3;obtain⟨s1,hs1⟩:∃ s1:ByteArray,s1=⟨#[Vf.ag u.result]⟩:=⟨_,rfl⟩;obtain⟨s2,hs2⟩:∃ s2:ByteArray,s2=⟨#[Vf.ag u.takes]⟩:=⟨_,rfl⟩;have jg:=hide hs1;have HS2:=hide hs2;clear hs1 hs2;go_enter Tryz.func45,Tryz.ntmps45
 go_wp2_with fail
 go_region_held3 (fun w'=>w'.cell? ⟨w.heap.size+1,3,none⟩=some (.int .i64 u.result)∧w'.cell? ⟨w.heap.size+1,4,none⟩=some (.int .i64 u.takes)) (go_keep) (first | (have hx1:=HG2.out;go_at_call 46;refine (zJ u.takes h2 _ s2 HS2).mono ?_;rintro e w4 ⟨rfl,hg4⟩;have sI:Hid (w.grownBy w4 none):=aJ HG2.out hg4;obtain⟨_,_,_,g3,g4,_⟩:=jo ((aC hg4 (lt_of_block Ob.out)).trans Ob.out);clear hg4 hx1) | (go_at_call 46;refine (zJ u.result h1 _ s1 jg).mono ?_;rintro e w2 ⟨rfl,zB⟩;have hg2:=uT zB;have HG2:Hid (w.grownBy w2 none):=aJ HG.out hg2;have Ob:Hid (w2.heap[w.heap.size+1]?=some (gP u al ac cl cc)):=(aC hg2 (lt_of_block vD.out)).trans vD.out;obtain⟨_,_,_,g3,g4,_⟩:=jo Ob.out;clear hg2 zB))
 go_wp2
 refine bodyPost_ret (v:=.tuple #[.string s1,.string s2]) (by simp[results,Tryz.results45,go_sem]) rfl ?_;exact⟨⟨s1,s2,by rw[jg.out],by rw[HS2.out],rfl⟩,sI.out⟩
structure Callee (m:Vf.Md) (a:Int) (x:Vf.Un):Prop where
 at':m.units[a.toNat]?=some x
 nn:0≤a
 p0:0≤x.params
 p6:x.params≤6
 pl:x.params≤x.locals.length
 lt:∀ t ∈ x.locals,Vf.jF t
theorem rneeds_23 (m:Vf.Md)(ab au:Option Addr)(cb cu:Nat)(u:Vf.Un)(al ac:Option Addr)(cl cc:Nat)(a n:Int)(w:World)(B:Nat)(hmd:Hid (aD B w m ab au))(hB:B≤w.heap.size)(x:Vf.Un)(hC:Hid (Callee m a x))(h1:Vf.jF x.result) :
  Calls Tryz.prog 45 #[aT m ab au cb cu,jm u al ac cl cc,jE 23 a n] w fun e w'=>rZ ((x.locals.take x.params.toNat).map Vf.ag,[Vf.ag x.result]) e∧w.grownBy w' none:=by
 have ji:∀ (fn:Fn) (first cap:Array Value) (w:World),(Instr.makeFunc fn first cap).run Tryz.prog w=.ok (.func fn first cap) w:=fun _ _ _ _=>rfl;obtain⟨W0,hW0⟩:∃ W0:World,((w.alloc (uM m ab au cb cu)).alloc (gP u al ac cl cc)).alloc (fF 23 a n)=W0:=⟨_,rfl⟩;obtain⟨t0,t1,t2,t3⟩:=BV w (uM m ab au cb cu) (gP u al ac cl cc) (fF 23 a n);rw[hW0] at t0 t1 t2 t3;obtain⟨m0,m1,_⟩:=lF t1;obtain⟨q0,q1,q2,q3,q4,q5⟩:=jo t2;obtain⟨i0,i1,i2⟩:=r9 t3;have HG:=hide t0;have vH:=hide t1;have vD:=hide t2;have AY:=hide t3;have hz:=lt_of_block t3;clear t0 t1 t2 t3;obtain⟨j,hj⟩:=yM hC.out.nn;have hxu:=hC.out.at';rw[hj] at hxu;obtain⟨b,off,xY,xZ,x8,x9,ha,hb,jB,u0,u1,u2,u3,u4,u5⟩:=hmd.out.units j x hxu;have hj1:(j:Int)<(m.units.length:Int):=by have:=(List.getElem?_eq_some_iff.1 hxu).1;simp at this;omega
 have HX:Hid (m.units[j]?=some x):=hxu;have I8:Hid (∀ t ∈ x.locals,Vf.jF t):=hC.out.lt;have P0:=hide hC.out.p0;have P6:=hide hC.out.p6;have PL:=hide hC.out.pl;have Cj:Hid (aD B W0 m ab au):=hmd.out.low (aK HG.out hB);have hx3:W0.cell? ⟨b,off+j * 6+3,none⟩=some (.int .i64 x.result):=(gZ (aK HG.out hB b hb) _).trans u3;have hbw:b<W0.heap.size:=by omega
 have hBW:B≤W0.heap.size:=by omega
 clear jB u0 u1 u2 u3 u4 u5 hxu hC;subst hj ha;obtain⟨s2,hs2⟩:∃ s2:ByteArray,s2=⟨#[Vf.ag x.result]⟩:=⟨_,rfl⟩;have HS2:=hide hs2;clear hs2;go_enter Tryz.func45,Tryz.ntmps45
 go_wp2_with fail
 go_region_held3 (fun w'=>w'.cell? ⟨w.heap.size+1+1,1,none⟩=some (.int .i64 (j:Int))∧w'.cell? ⟨w.heap.size,1,none⟩=some (.slice (some ⟨b,off,none⟩) m.units.length cu)∧w'.cell? ⟨b,off+j * 6+3,none⟩=some (.int .i64 x.result)) (go_keep) (first | (have hx1:=HG2.out;go_at_call 46;refine (zJ x.result h1 _ s2 HS2).mono ?_;rintro e w4 ⟨rfl,hg4⟩;have sI:Hid (W0.grownBy w4 none):=aJ HG2.out hg4;obtain⟨_,g1,_⟩:=lF ((aC sI.out (lt_of_block vH.out)).trans vH.out);obtain⟨_,g2,_⟩:=r9 ((aC sI.out (lt_of_block AY.out)).trans AY.out);have g3:=(gZ (aC sI.out hbw) (off+j * 6+3)).trans hx3;clear hg4 hx1) | (go_at_call 78;refine (TZ m ab _ cb cu B w.heap.size j x W0.drew (hide (Cj.out.low (fun _ _=>rfl))) hBW (hide vH.out) HX P0.out P6.out PL.out I8).mono ?_;rintro e w2 ⟨⟨s1,hs1,rfl⟩,zB⟩;have jg:=hide hs1;have HG2:Hid (W0.grownBy w2 none):=uT zB;obtain⟨_,g1,_⟩:=lF ((aC HG2.out (lt_of_block vH.out)).trans vH.out);obtain⟨_,g2,_⟩:=r9 ((aC HG2.out (lt_of_block AY.out)).trans AY.out);have g3:=(gZ (aC HG2.out hbw) (off+j * 6+3)).trans hx3;clear hs1 zB))
 go_wp2
 refine bodyPost_ret (v:=.tuple #[.string s1,.string s2]) (by simp[results,Tryz.results45,go_sem]) rfl ?_;exact⟨⟨s1,s2,jg.out,by rw[HS2.out],rfl⟩,aJ HG.out sI.out⟩
theorem rneeds_29 (m:Vf.Md)(ab au:Option Addr)(cb cu:Nat)(u:Vf.Un)(al ac:Option Addr)(cl cc:Nat)(a n:Int)(w:World)(B:Nat)(hmd:Hid (aD B w m ab au))(hB:B≤w.heap.size)(x:Vf.Un)(hC:Hid (Callee m a x))(h1:Vf.jF (10+a)) :
  Calls Tryz.prog 45 #[aT m ab au cb cu,jm u al ac cl cc,jE 29 a n] w fun e w'=>rZ ((x.locals.take x.params.toNat).map Vf.ag,[Vf.ag (10+a)]) e∧w.grownBy w' none:=by
 obtain⟨d,hd⟩:∃ d,d=10+a:=⟨_,rfl⟩;obtain⟨s2,hs2⟩:∃ s2:ByteArray,s2=⟨#[Vf.ag d]⟩:=⟨_,rfl⟩;rw[← hd] at h1 ⊢;have HS2:=hide hs2;have hda:0≤a:=hC.out.nn;have hdw:IntKind.i64.wrap (10+a)=d:=by
  rw[hd];have:Vf.jF (10+a):=by rw[← hd];exact h1
  unfold Vf.jF at this;simp[IntKind.wrap,IntKind.bits,IntKind.signed];omega
 clear hs2 hd hda;have ji:∀ (fn:Fn) (first cap:Array Value) (w:World),(Instr.makeFunc fn first cap).run Tryz.prog w=.ok (.func fn first cap) w:=fun _ _ _ _=>rfl;obtain⟨W0,hW0⟩:∃ W0:World,((w.alloc (uM m ab au cb cu)).alloc (gP u al ac cl cc)).alloc (fF 29 a n)=W0:=⟨_,rfl⟩;obtain⟨t0,t1,t2,t3⟩:=BV w (uM m ab au cb cu) (gP u al ac cl cc) (fF 29 a n);rw[hW0] at t0 t1 t2 t3;obtain⟨m0,m1,_⟩:=lF t1;obtain⟨q0,q1,q2,q3,q4,q5⟩:=jo t2;obtain⟨i0,i1,i2⟩:=r9 t3;have HG:=hide t0;have vH:=hide t1;have vD:=hide t2;have AY:=hide t3;have hz:=lt_of_block t3;clear t0 t1 t2 t3;obtain⟨j,hj⟩:=yM hC.out.nn;have hxu:=hC.out.at';rw[hj] at hxu;obtain⟨b,off,xY,xZ,x8,x9,ha,hb,jB,u0,u1,u2,u3,u4,u5⟩:=hmd.out.units j x hxu;have hj1:(j:Int)<(m.units.length:Int):=by have:=(List.getElem?_eq_some_iff.1 hxu).1;simp at this;omega
 have HX:Hid (m.units[j]?=some x):=hxu;have I8:Hid (∀ t ∈ x.locals,Vf.jF t):=hC.out.lt;have P0:=hide hC.out.p0;have P6:=hide hC.out.p6;have PL:=hide hC.out.pl;have Cj:Hid (aD B W0 m ab au):=hmd.out.low (aK HG.out hB);have hx3:W0.cell? ⟨b,off+j * 6+3,none⟩=some (.int .i64 x.result):=(gZ (aK HG.out hB b hb) _).trans u3;have hbw:b<W0.heap.size:=by omega
 have hBW:B≤W0.heap.size:=by omega
 clear jB u0 u1 u2 u3 u4 u5 hxu hC;subst hj ha;clear hx3;go_enter Tryz.func45,Tryz.ntmps45
 go_wp2_with fail
 go_region_held3 (fun w'=>w'.cell? ⟨w.heap.size+1+1,1,none⟩=some (.int .i64 (j:Int))) (go_keep) (first | (have hx1:=HG2.out;go_at_call 46;refine (zJ d h1 _ s2 HS2).mono ?_;rintro e w4 ⟨rfl,hg4⟩;have sI:Hid (W0.grownBy w4 none):=aJ HG2.out hg4;obtain⟨_,g2,_⟩:=r9 ((aC sI.out (lt_of_block AY.out)).trans AY.out);clear hg4 hx1) | (go_at_call 78;refine (TZ m ab _ cb cu B w.heap.size j x W0.drew (hide (Cj.out.low (fun _ _=>rfl))) hBW (hide vH.out) HX P0.out P6.out PL.out I8).mono ?_;rintro e w2 ⟨⟨s1,hs1,rfl⟩,zB⟩;have jg:=hide hs1;have HG2:Hid (W0.grownBy w2 none):=uT zB;obtain⟨_,g2,_⟩:=r9 ((aC HG2.out (lt_of_block AY.out)).trans AY.out);clear hs1 zB))
 go_wp2
 refine bodyPost_ret (v:=.tuple #[.string s1,.string s2]) (by simp[results,Tryz.results45,go_sem]) rfl ?_;exact⟨⟨s1,s2,jg.out,by rw[HS2.out],rfl⟩,aJ HG.out sI.out⟩
end Go.Proofs.YtbdpdjcdhclbfaaGreat
namespace Go.Proofs.YtbdpdjcdhclbfaaGreat
namespace Vf
def needs (m:Md)(u:Un)(c:Ins):List UInt8 × List UInt8 :=
 if c.op=1 then ([],[110])
 else if c.op=2 then ([],[98])
 else if c.op=3 then ([],[ag (xu u c.a)])
 else if c.op=4 then ([ag (xu u c.a)],[])
 else if c.op=5 then ([42],[])
 else if c.op=6 then ([110],[110])
 else if c.op=7 then ([98],[98])
 else if 8≤c.op∧c.op≤12 then ([110,110],[110])
 else if 15≤c.op∧c.op≤18 then ([110,110],[98])
 else if c.op=19∨c.op=20 then ([98,98],[98])
 else if c.op=13∨c.op=14 then ([63,63],[98])
 else if c.op=28 then ([63],[])
 else if c.op=22 then ([98],[])
 else if c.op=23 then ((params m c.a).map ag,[ag (unit m c.a).result])
 else if c.op=29 then ((params m c.a).map ag,[ag (10+c.a)])
 else if c.op=26 then ([ag (wH m c.a)],[])
 else if c.op=27 then ([],[ag (wH m c.a)])
 else if c.op=31 then ([ag u.result],[ag u.takes])
 else if c.op=24 then ([ag u.result],[])
 else ([],[])
def rQ (m:Md)(u:Un)(c:Ins)(st:List Int):Except Int (List UInt8 × List UInt8) :=
 if c.op=30 then
  match st with
  | _ :: g :: _=>if plain g=true then .error 9 else .ok ([ag g,ag (unit m (g - 10)).takes],[ag (unit m (g - 10)).result])
  | _=>.error 12
 else if c.op=32 then
  match st with
  | g :: _=>if plain g=true then .error 9 else .ok ([ag g],[98])
  | []=>.error 12
 else .ok (needs m u c)
def lG (c:Ins)(put rest:List UInt8):Except Int (List UInt8) :=
 if 300<(put.reverse++rest).length then .error 4 else if (c.op=24∨c.op=25)∧put.reverse++rest≠[] then .error 12 else .ok (put.reverse++rest)
def early (u:Un)(c:Ins):Prop:=(c.op=24∧u.kind≠2)∨(c.op=25∧u.kind=2)∨(c.op=31∧u.kind≠3)
instance (u:Un) (c:Ins):Decidable (early u c):=by unfold early;exact inferInstance
def aN (m:Md)(u:Un)(c:Ins)(k:Kn):Except Int (List UInt8) :=
 if c.op=3∧k.fl.has c.a.toNat=false then .error 11
 else if early u c then .error 8
 else andThen (rQ m u c k.st) fun p=>andThen (jC p.1.reverse (k.st.map ag) 0) fun r=>lG c p.2 r
def lmap (r:Except Int (List Int)):Except Int (List UInt8):=match r with | .ok st=>.ok (st.map ag) | .error e=>.error e
theorem ab5 {t:Int}(h:jF t):ag t≠42∧ag t≠63:=by
 rcases h with rfl | rfl | h
 ·decide
 ·decide
 ·rw[I6 h.1]
  constructor
  ·intro e
   have:=congrArg UInt8.toNat e;rw[UInt8.toNat_ofNat'] at this;have e2:(42:UInt8).toNat=42:=rfl;omega
  ·intro e
   have:=congrArg UInt8.toNat e;rw[UInt8.toNat_ofNat'] at this;have e2:(63:UInt8).toNat=63:=rfl;omega
theorem yC {t:Int}(h:plain t=true):jF t:=by
 unfold plain at h;simp at h;rcases h with h | h
 ·exact .inl h
 ·exact .inr (.inl h)
theorem Ag {t:Int}(h:jF t):plain t=true ↔ ag t=110∨ag t=98:=by
 constructor
 ·intro hp
  unfold plain at hp;simp at hp;rcases hp with rfl | rfl
  ·exact .inl rfl
  ·exact .inr rfl
 ·rintro (e | e)
  ·have:=I7 h (.inl rfl) (e.trans (show (110:UInt8)=ag 1 from rfl))
   subst this;rfl
  ·have:=I7 h (.inr (.inl rfl)) (e.trans (show (98:UInt8)=ag 2 from rfl))
   subst this;rfl
theorem Gx:∀ (ts st:List Int) (last:UInt8),(∀ t ∈ ts,jF t)→(∀ t ∈ st,jF t)→jC (ts.map ag) (st.map ag) last=lmap (jy ts st)
 | [],st,last,_,_=>rfl
 | t :: ts,[],last,_,_=>rfl
 | t :: ts,x :: st,last,h1,h2=>by
  have ht:=ab5 (h1 t List.mem_cons_self);show jC (ag t :: ts.map ag) (ag x :: st.map ag) last=lmap (jy (t :: ts) (x :: st))
  unfold jC jy;rw[if_neg ht.1,if_neg ht.2];by_cases e:x=t
  ·subst e
   rw[if_pos rfl,if_pos rfl];exact Gx ts st last (fun t ht=>h1 t (List.mem_cons_of_mem _ ht)) (fun t ht=>h2 t (List.mem_cons_of_mem _ ht))
  ·rw[if_neg e,if_neg (fun e2=>e (I7 (h2 x List.mem_cons_self) (h1 t List.mem_cons_self) e2))]
   rfl
theorem I9 {c:Ins}(x:Int)(st:List Int)(h:c.op≠24∧c.op≠25):lG c [ag x] (st.map ag)=lmap (put x st):=by
 unfold lG put;simp only[List.reverse_cons,List.reverse_nil,List.nil_append,List.singleton_append,List.length_cons,List.length_map];by_cases hl:st.length+1≤300
 ·rw[if_neg (by omega),if_neg (by omega),if_pos hl]
  rfl
 ·rw[if_pos (by omega),if_neg hl]
  rfl
theorem KM {c:Ins}(st:List Int)(hl:st.length≤300)(h:c.op≠24∧c.op≠25):lG c [] (st.map ag)=.ok (st.map ag):=by
 unfold lG;rw[if_neg (by simp;omega),if_neg (fun hh=>by rcases hh.1 with h1 | h1;exact h.1 h1;exact h.2 h1)];rfl
theorem Oc:∀ (ts st st':List Int),jy ts st=.ok st'→st'.length≤st.length
 | [],st,st',h=>by cases h;exact Nat.le_refl _
 | _ :: _,[],_,h=>by cases h
 | t :: ts,x :: r,st',h=>by
  unfold jy at h;split at h
  ·have:=Oc ts r st' h
   simp;omega
  ·cases h
theorem Ew {c:Ins}(x:Int)(l st:List Int)(hl:∀ t ∈ l,jF t)(hs:∀ t ∈ st,jF t)(h:c.op≠24∧c.op≠25):andThen (jC (l.map ag).reverse (st.map ag) 0) (fun r=>lG c [ag x] r)=lmap (turn x l st):=by
 have e:(l.map ag).reverse=l.reverse.map ag:=by rw[List.map_reverse]
 rw[e,Gx _ _ _ (fun t ht=>hl t (List.mem_reverse.1 ht)) hs];unfold turn;cases jy l.reverse st with
 | error e=>rfl
 | ok r=>exact I9 x r h
theorem Oe {c:Ins}(l st:List Int)(hl:∀ t ∈ l,jF t)(hs:∀ t ∈ st,jF t)(hf:st.length≤300)(h:c.op≠24∧c.op≠25):andThen (jC (l.map ag).reverse (st.map ag) 0) (fun r=>lG c [] r)=lmap (jy l.reverse st):=by
 have e:(l.map ag).reverse=l.reverse.map ag:=by rw[List.map_reverse]
 rw[e,Gx _ _ _ (fun t ht=>hl t (List.mem_reverse.1 ht)) hs];cases hr:jy l.reverse st with
 | error e=>rfl
 | ok r=>exact KM r (by have:=Oc _ _ _ hr;omega) h
theorem KN {c:Ins}(x:Int)(st:List Int)(h:c.op≠24∧c.op≠25):andThen (jC ([]:List UInt8).reverse (st.map ag) 0) (fun r=>lG c [ag x] r)=lmap (put x st):=by
 show lG c [ag x] (st.map ag)=_
 exact I9 x st h
theorem Cr {m:Md}(hm:m.units.length≤30){t:Int}(h:yl m t):jF t:=by
 rcases h with h | ⟨h1,h2⟩
 ·exact yC h
 ·obtain⟨u,hu,_,h3⟩:=yh h2
  have:=(List.getElem?_eq_some_iff.1 hu).1;exact .inr (.inr ⟨h1,by omega⟩)
end Vf
end Go.Proofs.YtbdpdjcdhclbfaaGreat
