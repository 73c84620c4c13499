/- The walk of each,for both looks;of shapes and flows. -/
import Derived.Test.YtbdpdjcdhclbfaaGreatM16
import Derived.Test.YtbdpdjcdhclbfaaGreatM14
import Derived.Deep.QuietTactic
import Derived.BigQuiet
import Derived.Test.YtbdpdjcdhclbfaaGreatM12
import Derived.Maps.RangeWalk
set_option maxRecDepth 100000
set_option maxHeartbeats 6000000
namespace Go.Proofs.YtbdpdjcdhclbfaaGreat
open Go.RowKit
theorem zC (w:World)(a b:Obj):((w.alloc a).alloc b).heap[w.heap.size+1]?=some b:=by
 have e:(w.alloc a).heap.size=w.heap.size+1:=by simp
 rw[← e];exact heap_alloc_new _ _
theorem uU (w:World)(a b c:Obj):(((w.alloc a).alloc b).alloc c).heap[w.heap.size+1+1]?=some c:=by
 have e:((w.alloc a).alloc b).heap.size=w.heap.size+1+1:=by simp
 rw[← e];exact heap_alloc_new _ _
theorem BV (w:World)(a b c:Obj):w.grownBy (((w.alloc a).alloc b).alloc c) none∧(((w.alloc a).alloc b).alloc c).heap[w.heap.size]?=some a∧(((w.alloc a).alloc b).alloc c).heap[w.heap.size+1]?=some b∧(((w.alloc a).alloc b).alloc c).heap[w.heap.size+1+1]?=some c :=
 ⟨ai (aF _ _ _) _,(Below.heap_alloc _ _ _ (by simp;omega)).trans ((Below.heap_alloc _ _ _ (by simp)).trans (heap_alloc_new _ _)),(Below.heap_alloc _ _ _ (by simp)).trans (zC _ _ _),uU _ _ _ _⟩
theorem jd {w:World}{N:Nat}{a b c:Value}(h:w.heap[N]?=some (.cells #[a,b,c] 28 (0,0)))(x y z:Value):(((w.setCell ⟨N,0,none⟩ x).setCell ⟨N,1,none⟩ y).setCell ⟨N,2,none⟩ z).heap[N]?=some (.cells #[x,y,z] 28 (0,0)):=by
 simp only[World.setCell,Array.getElem?_modify,if_true,h,Option.map_some];rfl
theorem af {w w':World}{N:Nat}(h:w.grownBy w' none)(hN:w.heap.size≤N)(o:Nat)(v:Value):w.grownBy (w'.setCell ⟨N,o,none⟩ v) none :=
 ⟨h.os,h.tape,h.output,by have:=h.size;simp[World.setCell];omega,fun k hk hne=>by
  rw[Below.heap_setCell _ ⟨N,o,none⟩ _ _ (by show k≠N;omega)];exact h.block k hk hne⟩
theorem Y3 (m:Vf.Md)(ab au:Option Addr)(cb cu B:Nat)(w:World)(hmd:Hid (aD B w m ab au))(hB:B≤w.heap.size)(hmu:m.units.length≤30)  (er un num:Int)(hr:Hid ((er,un,num)=Vf.uw (Vf.rY m) m.units 0)) :
  Calls Tryz.prog 28 #[aT m ab au cb cu,.func (.func 29) #[] #[]] w fun e w'=>e=.returned (gM er un num)∧w.grownBy w' none:=by
 have ji:∀ (fn:Fn) (first cap:Array Value) (w:World),(Instr.makeFunc fn first cap).run Tryz.prog w=.ok (.func fn first cap) w:=fun _ _ _ _=>rfl;obtain⟨W0,hW0⟩:∃ W0:World,((w.alloc (vv m ab au cb cu)).alloc (E8 29)).alloc aU=W0:=⟨_,rfl⟩;obtain⟨t0,t1,t2,t3⟩:=BV w (vv m ab au cb cu) (E8 29) aU;rw[hW0] at t0 t1 t2 t3;have HT0:=hide t0;have HT1:=hide t1;have HT2:=hide t2;have HT3:=hide t3;have HW0:=hide hW0;clear t0 t1 t2 t3 hW0;go_enter Tryz.func28,Tryz.ntmps28
 go_wp2
 go_loopw [12] (fun v wr=>∃ k:Nat,v=.int .i64 k∧Rq (Vf.rY m) m.units W0 er un num k wr) (fun v _=>m.units.length - (intOf v).toNat)
 case atStart=>exact⟨0,rfl,Nat.zero_le _,by rw[← HW0.out];exact World.grownBy.refl _ _,hr.out⟩
 case round =>
  obtain⟨k,rfl,hA⟩:=hrel;have HA:=hide hA;have hk:=hA.le;have HG:Hid (w.grownBy wr none):=aJ HT0.out HA.out.grown;have hz:=HG.out.size;have xQ:wr.heap[w.heap.size+1+1]?=some aU:=(aC HA.out.grown (lt_of_block HT3.out)).trans HT3.out;have Ht:=hide xQ;have hlk:wr.heap[w.heap.size+1]?=some (E8 29):=(aC HA.out.grown (lt_of_block HT2.out)).trans HT2.out;have hmb:wr.heap[w.heap.size]?=some (vv m ab au cb cu):=(aC HA.out.grown (lt_of_block HT1.out)).trans HT1.out;have Mx:=hide hlk;have vH:=hide hmb;have hsz2:w.heap.size+1+1<wr.heap.size:=lt_of_block xQ;obtain⟨⟨z0,z1,z2⟩,y0,y1,y2⟩:=aP xQ;clear hA xQ hlk hmb;by_cases hlt:k<m.units.length
  ·obtain⟨u,hu⟩:∃ u,m.units[k]?=some u:=⟨_,List.getElem?_eq_getElem hlt⟩
   have E9:aD B wr m ab au:=hmd.out.low (aK HG.out hB);obtain⟨b,off,al,cl,ac,cc,ha,hb,jB,u0,u1,u2,u3,u4,u5⟩:=E9.units k u hu;have HU:=hide hu;have uH:=hide E9;have Aa:=hide jB;have hk1:(k:Int)<(m.units.length:Int):=by omega
   obtain⟨e1,n1,hen⟩:∃ (e1:Int) (n1:Nat),e1=(Vf.rY m u).1∧n1=(Vf.rY m u).2:=⟨_,_,rfl,rfl⟩;have Fa:=hide hen;have HZ:Hid (e1=0→(n1:Int)=0):=fun h0=>by
    have:=Vf.Y0 (show (Vf.rY m u).1=0 by rw[← hen.1];exact h0);have h2:(Vf.rY m u).2=0:=this;rw[hen.2,h2];rfl
   have HN:Hid ((er,un,num)=if e1=0 then Vf.uw (Vf.rY m) (m.units.drop (k+1)) (k+1) else (e1,(k:Int),(n1:Int))):=by
    unfold Hid;rw[HA.out.rest,Rp _ hu,hen.1,hen.2]
   have BX:=hide ha;clear hu E9 jB hen ha;rw[BX.out];go_wp2_with fail
   obtain⟨W1,hW1⟩:∃ W1:World,W1=wr.alloc (gP u al ac cl cc):=⟨_,rfl⟩;have aH:Hid (wr.grownBy W1 none):=by rw[hW1];exact ai (World.grownBy.refl _ _) _
   have rJ:Hid (E1 29 ⟨m,u,ab,au,al,ac,cb,cu,cl,cc,0⟩ (w.heap.size+1) w.heap.size wr.heap.size (W1.alloc AL)) :=
    ⟨(Below.heap_alloc _ _ _ (by have:=aH.out.size;omega)).trans ((aC aH.out (by omega)).trans Mx.out),(Below.heap_alloc _ _ _ (by have:=aH.out.size;omega)).trans ((aC aH.out (by omega)).trans vH.out),by
     have h1:W1.heap[wr.heap.size]?=some (gP u al ac cl cc):=by rw[hW1];exact heap_alloc_new _ _
     exact (Below.heap_alloc _ _ _ (lt_of_block h1)).trans h1⟩
   have HG2:Hid (wr.grownBy (W1.alloc AL) none):=ai aH.out _;have HW1:=hide hW1.symm;rw[HW1.out];clear hW1;refine (Rm 56 #[.pointer (some ⟨w.heap.size+1,0,none⟩),.pointer (some ⟨w.heap.size,0,none⟩),.pointer (some ⟨wr.heap.size,0,none⟩)] e1 (n1:Int) (fun wx=>(W1.alloc AL).grownBy wx none) _ HZ.out ?_ ?_).mono ?_
   ·intro w'
    first | rfl | kernel_rfl | simp[go_sem]
   ·refine (Y1 ⟨m,u,ab,au,al,ac,cb,cu,cl,cc,0⟩ B (w.heap.size+1) w.heap.size wr.heap.size _ rJ (hide (uH.out.low (aK HG2.out (by omega)))) (hide (Aa.out.low (aK HG2.out (by omega)))) (by have:=HG2.out.size;omega) hmu e1 (n1:Int) (hide (by rw[Fa.out.1,Fa.out.2]))).mono ?_
    rintro e wx ⟨hgx,hex⟩;exact⟨hgx,(aC hgx (by simp)).trans (heap_alloc_new _ _),hex⟩
   rintro e w2 ⟨rfl,wx,hgx,hzx,rfl⟩;have sH:Hid (wr.grownBy ((wx.setCell ⟨W1.heap.size,0,none⟩ (.int .i64 e1)).setCell ⟨W1.heap.size,1,none⟩ (.int .i64 (n1:Int))) none):=af (af (aJ HG2.out hgx) (by have:=aH.out.size;omega) _ _) (by have:=aH.out.size;omega) _ _;obtain⟨W3,hW3⟩:∃ W3:World,(wx.setCell ⟨W1.heap.size,0,none⟩ (.int .i64 e1)).setCell ⟨W1.heap.size,1,none⟩ (.int .i64 (n1:Int))=W3:=⟨_,rfl⟩;rw[hW3] at sH;have HW3:=hide hW3;rw[HW3.out];have Fb:W3.heap[w.heap.size+1+1]?=some aU:=(aC sH.out (by omega)).trans Ht.out;have MC:=hide Fb;obtain⟨⟨p0,p1,p2⟩,q0,q1,q2⟩:=aP Fb;have hz3:=sH.out.size;have je:w.heap.size+1+1<W3.heap.size:=by omega
   clear hgx hzx Fb hW3 z0 z1 z2 y0 y1 y2 u0 u1 u2 u3 u4 u5;by_cases h0:e1=0
   ·have e0:(e1 != 0)=false:=by simpa using h0
    have aX:Hid ((er,un,num)=Vf.uw (Vf.rY m) (m.units.drop (k+1)) (k+1)):=by have:=HN.out;rw[if_pos h0] at this;exact this
    clear h0;go_wp2
    go_roundw
    case rel=>exact⟨k+1,by go_num,hlt,ai (aJ HA.out.grown sH.out) _,aX.out⟩
    case measure=>simp[intOf];omega
   ·have e0:(e1 != 0)=true:=by simpa using h0
    have aX:Hid (er=e1∧un=(k:Int)∧num=(n1:Int)):=by have:=HN.out;rw[if_neg h0] at this;cases this;exact⟨rfl,rfl,rfl⟩
    clear h0;go_wp2
    have hX:=jd MC.out (.int .i64 e1) (.int .i64 (k:Int)) (.int .i64 (n1:Int));obtain⟨⟨g0,g1,g2⟩,_⟩:=aP ((Below.heap_alloc _ (.cells #[.int .i64 e1,.int .i64 (n1:Int)] 111) _ (lt_of_block hX)).trans hX);refine bodyPost_ret (v:=gM e1 (k:Int) (n1:Int)) (by simp[results,Tryz.results28,go_sem,g0,g1,g2]) rfl ?_;rw[aX.out.1,aX.out.2.1,aX.out.2.2];exact⟨rfl,ai (af (af (af (aJ HG.out sH.out) (by omega) _ _) (by omega) _ _) (by omega) _ _) _⟩
  ·have aX:Hid (er=0∧un=0∧num=0):=by
    have:=HA.out.rest;rw[List.drop_eq_nil_of_le (by omega)] at this;cases this;exact⟨rfl,rfl,rfl⟩
   go_wp2
   refine bodyPost_ret (v:=gM 0 0 0) (by simp[results,Tryz.results28,go_sem,z0,z1,z2]) rfl ?_;rw[aX.out.1,aX.out.2.1,aX.out.2.2];exact⟨rfl,af (af (af HG.out (by omega) _ _) (by omega) _ _) (by omega) _ _⟩
theorem Y4 (m:Vf.Md)(ab au:Option Addr)(cb cu B:Nat)(w:World)(hmd:Hid (aD B w m ab au))(hB:B≤w.heap.size)(hmu:m.units.length≤30)(hR:Hid (Rt m))(er un num:Int)(hr:Hid ((er,un,num)=Vf.uw (Vf.rH m) m.units 0)) :
  Calls Tryz.prog 28 #[aT m ab au cb cu,.func (.func 32) #[] #[]] w fun e w'=>e=.returned (gM er un num)∧w.grownBy w' none:=by
 have ji:∀ (fn:Fn) (first cap:Array Value) (w:World),(Instr.makeFunc fn first cap).run Tryz.prog w=.ok (.func fn first cap) w:=fun _ _ _ _=>rfl;obtain⟨W0,hW0⟩:∃ W0:World,((w.alloc (vv m ab au cb cu)).alloc (E8 32)).alloc aU=W0:=⟨_,rfl⟩;obtain⟨t0,t1,t2,t3⟩:=BV w (vv m ab au cb cu) (E8 32) aU;rw[hW0] at t0 t1 t2 t3;have HT0:=hide t0;have HT1:=hide t1;have HT2:=hide t2;have HT3:=hide t3;have HW0:=hide hW0;clear t0 t1 t2 t3 hW0;go_enter Tryz.func28,Tryz.ntmps28
 go_wp2
 go_loopw [12] (fun v wr=>∃ k:Nat,v=.int .i64 k∧Rq (Vf.rH m) m.units W0 er un num k wr) (fun v _=>m.units.length - (intOf v).toNat)
 case atStart=>exact⟨0,rfl,Nat.zero_le _,by rw[← HW0.out];exact World.grownBy.refl _ _,hr.out⟩
 case round =>
  obtain⟨k,rfl,hA⟩:=hrel;have HA:=hide hA;have hk:=hA.le;have HG:Hid (w.grownBy wr none):=aJ HT0.out HA.out.grown;have hz:=HG.out.size;have xQ:wr.heap[w.heap.size+1+1]?=some aU:=(aC HA.out.grown (lt_of_block HT3.out)).trans HT3.out;have Ht:=hide xQ;have hlk:wr.heap[w.heap.size+1]?=some (E8 32):=(aC HA.out.grown (lt_of_block HT2.out)).trans HT2.out;have hmb:wr.heap[w.heap.size]?=some (vv m ab au cb cu):=(aC HA.out.grown (lt_of_block HT1.out)).trans HT1.out;have Mx:=hide hlk;have vH:=hide hmb;have hsz2:w.heap.size+1+1<wr.heap.size:=lt_of_block xQ;obtain⟨⟨z0,z1,z2⟩,y0,y1,y2⟩:=aP xQ;clear hA xQ hlk hmb;by_cases hlt:k<m.units.length
  ·obtain⟨u,hu⟩:∃ u,m.units[k]?=some u:=⟨_,List.getElem?_eq_getElem hlt⟩
   have E9:aD B wr m ab au:=hmd.out.low (aK HG.out hB);obtain⟨b,off,al,cl,ac,cc,ha,hb,jB,u0,u1,u2,u3,u4,u5⟩:=E9.units k u hu;have HU:=hide hu;have uH:=hide E9;have Aa:=hide jB;have hk1:(k:Int)<(m.units.length:Int):=by omega
   obtain⟨e1,n1,hen⟩:∃ (e1:Int) (n1:Nat),e1=(Vf.rH m u).1∧n1=(Vf.rH m u).2:=⟨_,_,rfl,rfl⟩;have Fa:=hide hen;have HZ:Hid (e1=0→(n1:Int)=0):=fun h0=>by
    have:=Vf.Ro (Vf.mu u.code.length (Vf.start u)+1) (Vf.start u) (show (Vf.rH m u).1=0 by rw[← hen.1];exact h0);have h2:(Vf.rH m u).2=0:=this;rw[hen.2,h2];rfl
   have HN:Hid ((er,un,num)=if e1=0 then Vf.uw (Vf.rH m) (m.units.drop (k+1)) (k+1) else (e1,(k:Int),(n1:Int))):=by
    unfold Hid;rw[HA.out.rest,Rp _ hu,hen.1,hen.2]
   have BX:=hide ha;clear hu E9 jB hen ha;rw[BX.out];go_wp2_with fail
   obtain⟨W1,hW1⟩:∃ W1:World,W1=wr.alloc (gP u al ac cl cc):=⟨_,rfl⟩;have aH:Hid (wr.grownBy W1 none):=by rw[hW1];exact ai (World.grownBy.refl _ _) _
   have rJ:Hid (E1 32 ⟨m,u,ab,au,al,ac,cb,cu,cl,cc,0⟩ (w.heap.size+1) w.heap.size wr.heap.size (W1.alloc AL)) :=
    ⟨(Below.heap_alloc _ _ _ (by have:=aH.out.size;omega)).trans ((aC aH.out (by omega)).trans Mx.out),(Below.heap_alloc _ _ _ (by have:=aH.out.size;omega)).trans ((aC aH.out (by omega)).trans vH.out),by
     have h1:W1.heap[wr.heap.size]?=some (gP u al ac cl cc):=by rw[hW1];exact heap_alloc_new _ _
     exact (Below.heap_alloc _ _ _ (lt_of_block h1)).trans h1⟩
   have HG2:Hid (wr.grownBy (W1.alloc AL) none):=ai aH.out _;have HW1:=hide hW1.symm;rw[HW1.out];clear hW1;refine (Rm 56 #[.pointer (some ⟨w.heap.size+1,0,none⟩),.pointer (some ⟨w.heap.size,0,none⟩),.pointer (some ⟨wr.heap.size,0,none⟩)] e1 (n1:Int) (fun wx=>(W1.alloc AL).grownBy wx none) _ HZ.out ?_ ?_).mono ?_
   ·intro w'
    first | rfl | kernel_rfl | simp[go_sem]
   ·refine (Y2 ⟨m,u,ab,au,al,ac,cb,cu,cl,cc,0⟩ B (w.heap.size+1) w.heap.size wr.heap.size _ rJ (hide (uH.out.low (aK HG2.out (by omega)))) (hide (Aa.out.low (aK HG2.out (by omega)))) (by have:=HG2.out.size;omega) hR (hide (hR.out.heads k u HU.out).1) (hide (hR.out.heads k u HU.out).2) e1 (n1:Int) (hide (by rw[Fa.out.1,Fa.out.2]))).mono ?_
    rintro e wx ⟨hgx,hex⟩;exact⟨hgx,(aC hgx (by simp)).trans (heap_alloc_new _ _),hex⟩
   rintro e w2 ⟨rfl,wx,hgx,hzx,rfl⟩;have sH:Hid (wr.grownBy ((wx.setCell ⟨W1.heap.size,0,none⟩ (.int .i64 e1)).setCell ⟨W1.heap.size,1,none⟩ (.int .i64 (n1:Int))) none):=af (af (aJ HG2.out hgx) (by have:=aH.out.size;omega) _ _) (by have:=aH.out.size;omega) _ _;obtain⟨W3,hW3⟩:∃ W3:World,(wx.setCell ⟨W1.heap.size,0,none⟩ (.int .i64 e1)).setCell ⟨W1.heap.size,1,none⟩ (.int .i64 (n1:Int))=W3:=⟨_,rfl⟩;rw[hW3] at sH;have HW3:=hide hW3;rw[HW3.out];have Fb:W3.heap[w.heap.size+1+1]?=some aU:=(aC sH.out (by omega)).trans Ht.out;have MC:=hide Fb;obtain⟨⟨p0,p1,p2⟩,q0,q1,q2⟩:=aP Fb;have hz3:=sH.out.size;have je:w.heap.size+1+1<W3.heap.size:=by omega
   clear hgx hzx Fb hW3 z0 z1 z2 y0 y1 y2 u0 u1 u2 u3 u4 u5;by_cases h0:e1=0
   ·have e0:(e1 != 0)=false:=by simpa using h0
    have aX:Hid ((er,un,num)=Vf.uw (Vf.rH m) (m.units.drop (k+1)) (k+1)):=by have:=HN.out;rw[if_pos h0] at this;exact this
    clear h0;go_wp2
    go_roundw
    case rel=>exact⟨k+1,by go_num,hlt,ai (aJ HA.out.grown sH.out) _,aX.out⟩
    case measure=>simp[intOf];omega
   ·have e0:(e1 != 0)=true:=by simpa using h0
    have aX:Hid (er=e1∧un=(k:Int)∧num=(n1:Int)):=by have:=HN.out;rw[if_neg h0] at this;cases this;exact⟨rfl,rfl,rfl⟩
    clear h0;go_wp2
    have hX:=jd MC.out (.int .i64 e1) (.int .i64 (k:Int)) (.int .i64 (n1:Int));obtain⟨⟨g0,g1,g2⟩,_⟩:=aP ((Below.heap_alloc _ (.cells #[.int .i64 e1,.int .i64 (n1:Int)] 111) _ (lt_of_block hX)).trans hX);refine bodyPost_ret (v:=gM e1 (k:Int) (n1:Int)) (by simp[results,Tryz.results28,go_sem,g0,g1,g2]) rfl ?_;rw[aX.out.1,aX.out.2.1,aX.out.2.2];exact⟨rfl,ai (af (af (af (aJ HG.out sH.out) (by omega) _ _) (by omega) _ _) (by omega) _ _) _⟩
  ·have aX:Hid (er=0∧un=0∧num=0):=by
    have:=HA.out.rest;rw[List.drop_eq_nil_of_le (by omega)] at this;cases this;exact⟨rfl,rfl,rfl⟩
   go_wp2
   refine bodyPost_ret (v:=gM 0 0 0) (by simp[results,Tryz.results28,go_sem,z0,z1,z2]) rfl ?_;rw[aX.out.1,aX.out.2.1,aX.out.2.2];exact⟨rfl,af (af (af HG.out (by omega) _ _) (by omega) _ _) (by omega) _ _⟩
theorem Y5 (m:Vf.Md)(ab au:Option Addr)(cb cu B:Nat)(w:World)(hmd:Hid (aD B w m ab au))(hB:B≤w.heap.size)(hmu:m.units.length≤30)(er un num:Int)(hr:Hid ((er,un,num)=Vf.uw (Vf.rY m) m.units 0)) :
  Calls Tryz.prog 17 #[aT m ab au cb cu] w fun e w'=>e=.returned (gM er un num)∧w.grownBy w' none:=by
 have HT:=hide (aF w (vv m ab au cb cu) aU);have HM:Hid (aD B ((w.alloc (vv m ab au cb cu)).alloc aU) m ab au):=hmd.out.low (aK HT.out hB);go_enter Tryz.func17,Tryz.ntmps17
 go_wp2_with fail
 refine (Y3 m ab au cb cu B _ HM (by simp;omega) hmu er un num hr).mono ?_;rintro e w2 ⟨rfl,hg2⟩;have HG2:Hid (w.grownBy w2 none):=aJ HT.out hg2;have xQ:w2.heap[w.heap.size+1]?=some aU:=(aC hg2 (by simp)).trans (zC _ _ _);obtain⟨⟨z0,z1,z2⟩,y0,y1,y2⟩:=aP xQ;clear hg2 xQ;go_wp2
 refine bodyPost_ret (v:=gM er un num) (by simp[results,Tryz.results17,go_sem,z0,z1,z2]) rfl ?_;exact⟨rfl,af (af (af HG2.out (by omega) _ _) (by omega) _ _) (by omega) _ _⟩
theorem Y6 (m:Vf.Md)(ab au:Option Addr)(cb cu B:Nat)(w:World)(hmd:Hid (aD B w m ab au))(hB:B≤w.heap.size)(hR:Hid (Rt m))(er un num:Int)(hr:Hid ((er,un,num)=Vf.uw (Vf.rH m) m.units 0)) :
  Calls Tryz.prog 19 #[aT m ab au cb cu] w fun e w'=>e=.returned (gM er un num)∧w.grownBy w' none:=by
 have HT:=hide (aF w (vv m ab au cb cu) aU);have HM:Hid (aD B ((w.alloc (vv m ab au cb cu)).alloc aU) m ab au):=hmd.out.low (aK HT.out hB);go_enter Tryz.func19,Tryz.ntmps19
 go_wp2_with fail
 refine (Y4 m ab au cb cu B _ HM (by simp;omega) hR.out.units hR er un num hr).mono ?_;rintro e w2 ⟨rfl,hg2⟩;have HG2:Hid (w.grownBy w2 none):=aJ HT.out hg2;have xQ:w2.heap[w.heap.size+1]?=some aU:=(aC hg2 (by simp)).trans (zC _ _ _);obtain⟨⟨z0,z1,z2⟩,y0,y1,y2⟩:=aP xQ;clear hg2 xQ;go_wp2
 refine bodyPost_ret (v:=gM er un num) (by simp[results,Tryz.results19,go_sem,z0,z1,z2]) rfl ?_;exact⟨rfl,af (af (af HG2.out (by omega) _ _) (by omega) _ _) (by omega) _ _⟩
theorem Y7 (m:Vf.Md)(ab au:Option Addr)(cb cu B n M:Nat)(g:FuncId)(uh:Array Value)(I:List Lk→World→Prop)(w:World)(hmd:Hid (aD B w m ab au))(hB:B≤w.heap.size)(hR:Hid (Rt m))(hn:n<m.units.length)(ME:B≤M)(hM:M<w.heap.size)
  (hcf:∀ (vs:Array Value) (w:World),(callFunc g vs).run Tryz.prog w=.ok (.enter g vs) w) (hT:Hid (Mq g uh w.heap.size M I)) (hI:Hid (I [] w)) :
  Calls Tryz.prog 34 #[aT m ab au cb cu,.int .i64 (n:Int),.func (.func g) #[] uh] w fun e w'=>e=.returned (.tuple #[])∧w.grownBy w' (some M)∧∃ ts,I ts w'∧∀ q,q ∈ ts ↔ (q.1=26∨q.1=27)∧Vf.comes m n q=true:=by
 have hmm:∀ w:World,(Instr.makeMap 119 Option.none).run Tryz.prog w=.ok (.map (some w.heap.size)) (w.alloc (.map #[] 0)):=fun _=>rfl;have hmu:m.units.length≤30:=hR.out.units;obtain⟨t0,t1,t2,_⟩:=BV w (Ga m ab au cb cu) (.cells #[.int .i64 (n:Int)] 3 (0,0)) (.map #[] 0);have hM0:=wQ.new ((w.alloc (Ga m ab au cb cu)).alloc (.cells #[.int .i64 (n:Int)] 3 (0,0)));rw[World.size_alloc,World.size_alloc] at hM0;obtain⟨w1,hup,hM1,hg1⟩:=QX hM0 n 1;have k1:∀ q,q<w.heap.size+1+1→w1.heap[q]?=(((w.alloc (Ga m ab au cb cu)).alloc (.cells #[.int .i64 (n:Int)] 3 (0,0))).alloc (.map #[] 0)).heap[q]?:=fun q hq=>hg1.block q (by simp;omega) (by simp;omega);have HST:Hid (xc m ab au cb cu n M w I 0 0 (.slice (some ⟨w.heap.size+1,0,none⟩) 1 1) [n] [] (fun a=>if a=(n:Int) then 1 else 0) w1) :=
  ⟨Vf.uK.start hn,.inr ⟨w.heap.size+1,0,1,[.int .i64 (n:Int)],rfl,by omega,(k1 _ (by omega)).trans t2,by simp,by simp,fun i x hx=>by
   cases i with
   | zero=>simp at hx;subst hx;rfl
   | succ i=>simp at hx⟩,hM1,hT.out.keep _ _ _ hI.out (fun q hq=>(k1 q (by omega)).trans (t0.block q hq (by simp))),(k1 _ (by omega)).trans t1,EY (EZ (ui _ _) t0) hg1 (.inl (by omega))⟩
 clear t0 t1 t2 hM0 hM1 hg1 k1;go_enter Tryz.func34,Tryz.ntmps34
 go_wp2
 go_loopw [6,8] (fun v i wr=>∃ (k:Nat) (R:List Nat) (ts:List Lk) (f:Int→Int),i=.int .i64 k∧xc m ab au cb cu n M w I k 0 v R ts f wr) (fun _ i _=>31 - (intOf i).toNat)
 case atStart=>exact⟨0,[n],[],_,rfl,HST.out⟩
 case round =>
  obtain⟨k,R,ts,f,rfl,hA⟩:=hrel;clear HST hup;have HA:=hide hA;obtain⟨a,c,rfl⟩:=hA.row.form;have hrl:=hA.wk.len;have adV:R.length≤30:=by omega
  clear hA;by_cases hlt:k<R.length
  ·obtain⟨x,hx⟩:∃ x,R[k]?=some x:=⟨_,List.getElem?_eq_getElem hlt⟩
   have hxu:x<m.units.length:=HA.out.wk.lt x (List.mem_of_getElem? hx);obtain⟨u,hu⟩:∃ u,m.units[x]?=some u:=⟨_,List.getElem?_eq_getElem hxu⟩;have zD:aD B wr m ab au:=hmd.out.low (Mm HA.out.grown ME hB);obtain⟨b,off,al,cl,ac,cc,ha,hb,jB,u0,u1,u2,u3,u4,u5⟩:=zD.units x u hu;have Aa:Hid (ig B w u al ac cl cc):=jB.low (fun q hq=>(Mm HA.out.grown ME hB q hq).symm);obtain⟨g',MF,cap',hv,hgl,hc⟩:=HA.out.row.at hx;cases hv;obtain⟨x0,x1⟩:=X8 HA.out.md;have Hu:Hid (Vf.unit m (x:Int)=u):=Lf hu;have hc4:u.code.length≤4000:=(EE (Ao (hR.out.heads x u hu).1).2.1).2.2.2.2.2;have ER:Hid (Vf.Forms m u):=(hR.out.heads x u hu).2;have HX:=hide hx;have k1:(k:Int)<(R.length:Int):=by omega
   have x2:(x:Int)<(m.units.length:Int):=by omega
   subst ha;clear hx hu zD jB;have hbw:b<wr.heap.size:=by have:=HA.out.grown.size;omega
   go_wp2_with fail
   go_quiet (fail)
   clear u0 u1 u2 u3 u4 u5 x0 x1 hc;go_wp2
   go_loopw [6,32] (fun v i wi=>∃ (j:Nat) (R2:List Nat) (vQ:List Lk) (f2:Int→Int),i=.int .i64 j∧j≤u.code.length∧R2[k]?=some x∧xc m ab (some ⟨b,off,none⟩) cb cu n M w I k j v R2 vQ f2 wi) (fun _ i _=>u.code.length - (intOf i).toNat)
   case atStart=>exact⟨0,R,ts,f,rfl,Nat.zero_le _,HX.out,⟨HA.out.wk,HA.out.row,HA.out.met,hT.out.keep _ _ _ HA.out.tell (fun _ _=>rfl),HA.out.md,⟨HA.out.grown.os,HA.out.grown.tape,HA.out.grown.output,HA.out.grown.size,HA.out.grown.block⟩⟩⟩
   case round =>
    clear HA HX;obtain⟨j,R2,vQ,f2,rfl,hj,hx2,hA2⟩:=hrel;have HA2:=hide hA2;have lU:=hide hx2;obtain⟨a2,c2,rfl⟩:=hA2.row.form;have hrl2:R2.length≤30:=by have:=hA2.wk.len;omega
    have hgz:=hA2.grown.size;have QC:k<30:=by have:=(List.getElem?_eq_some_iff.1 hx2).1;omega
    have hts:vQ.length≤130000:=by have:=hA2.wk.few;omega
    clear hA2 hx2;by_cases hjl:j<u.code.length
    ·obtain⟨y,hy⟩:∃ y,u.code[j]?=some y:=⟨_,List.getElem?_eq_getElem hjl⟩
     have HY:Hid ((Vf.unit m (x:Int)).code[j]?=some y):=by rw[Hu.out];exact hy
     obtain⟨_,_,_,bc,oc,hac,hbc,i0,i1,i2⟩:=(Aa.out.low (Mm HA2.out.grown ME hB)).code j y hy;have Gg:Hid (Vf.aA m u y=0):=ER.out y (List.mem_of_getElem? hy);have H2:Hid (wr.grownBy (wr.alloc (aj y.op y.a y.n)) none):=ai (World.grownBy.refl _ _) _;have HI2:Hid (I vQ (wr.alloc (aj y.op y.a y.n))):=hT.out.keep _ _ _ HA2.out.tell (fun q hq=>Below.heap_alloc _ _ _ (by omega));have uJ:Hid (wQ (wr.alloc (aj y.op y.a y.n)) (w.heap.size+1+1) f2):=HA2.out.met.keep (Below.heap_alloc _ _ _ HA2.out.met.lt);have hj1:(j:Int)<(u.code.length:Int):=by omega
     subst hac;clear hy;by_cases xE:Vf.BS y
     ·have HO:=hide xE
      rcases xE with h | h
      ·have e26:(y.op==26)=true:=by simpa using h
       clear h;go_wp2_with fail
       refine (hT.out.call vQ y.op y.a _ HI2.out hts).mono ?_;rintro e w3 ⟨rfl,Hw,hg3⟩;have HN:Hid (xc m ab (some ⟨b,off,none⟩) cb cu n M w I k (j+1) (.slice a2 R2.length c2) R2 (vQ++[(y.op,y.a)]) f2 w3) :=
        HA2.out.step (H2.out) hg3 (.inl rfl) hM (HA2.out.wk.QI lU.out HY.out HO.out) (uJ.out.keep (hg3.block _ (uJ.out.lt) (by simp;omega))) Hw
       clear Hw hg3;go_wp2
       go_roundw
       case rel=>exact⟨j+1,R2,_,f2,by go_num,hjl,lU.out,HN.out⟩
       case measure=>simp[intOf];omega
      ·have e26:(y.op==26)=false:=by simp;omega
       have e27:(y.op==27)=true:=by simpa using h
       clear h;go_wp2_with fail
       refine (hT.out.call vQ y.op y.a _ HI2.out hts).mono ?_;rintro e w3 ⟨rfl,Hw,hg3⟩;have HN:Hid (xc m ab (some ⟨b,off,none⟩) cb cu n M w I k (j+1) (.slice a2 R2.length c2) R2 (vQ++[(y.op,y.a)]) f2 w3) :=
        HA2.out.step (H2.out) hg3 (.inl rfl) hM (HA2.out.wk.QI lU.out HY.out HO.out) (uJ.out.keep (hg3.block _ (uJ.out.lt) (by simp;omega))) Hw
       clear Hw hg3;go_wp2
       go_roundw
       case rel=>exact⟨j+1,R2,_,f2,by go_num,hjl,lU.out,HN.out⟩
       case measure=>simp[intOf];omega
     ·have e26:(y.op==26)=false:=by unfold Vf.BS at xE;simp;omega
      have e27:(y.op==27)=false:=by unfold Vf.BS at xE;simp;omega
      by_cases h23:Vf.AB y
      ·have HO:=hide h23
       obtain⟨ka,hka,Am⟩:∃ ka:Nat,y.a=ka∧ka<m.units.length:=by
        obtain⟨kd,_,hi⟩:=Vf.Hm Gg.out h23;obtain⟨z,h3,_,h4⟩:=yh hi;exact⟨y.a.toNat,by omega,(List.getElem?_eq_some_iff.1 h3).1⟩
       have Gj:=hide hka;have hl2:=QW uJ.out ka;obtain⟨w3,hup,yS,hg3⟩:=QX uJ.out ka (f2 ka+1);have hl3:=QW yS ka;simp only[if_true] at hl3;have hf0:=HA2.out.wk.met ka;obtain⟨n0,hn0⟩:∃ n0,n0=f2 ka:=⟨_,rfl⟩;have uY:=hide hn0;rw[← hn0] at hl2 hup yS hl3 hf0;have f0:0≤n0:=hf0.1;have f1:n0≤200000:=by have:=hf0.2.1;omega
       have hi3:w3.heap[wr.heap.size]?=some (aj y.op y.a y.n):=(hg3.block _ (by simp) (by have:=HA2.out.met.lt;simp;omega)).trans (heap_alloc_new _ _);obtain⟨s0,s1,s2⟩:=EF hi3;rw[← Gj.out] at hl2 hup;rw[Gj.out] at s1;have adW:wr.heap.size<w3.heap.size:=lt_of_block hi3;clear hka hf0 xE hi3 hn0;rcases h23 with h | h
       ·have e23:(y.op==23)=true:=by simpa using h
        clear h;by_cases hin:ka ∈ R2
        ·have Fe:Hid (xc m ab (some ⟨b,off,none⟩) cb cu n M w I k (j+1) (.slice a2 R2.length c2) R2 vQ (fun q=>if q=(ka:Int) then n0+1 else f2 q) w3) :=
          HA2.out.step H2.out hg3 (.inr rfl) hM (by rw[uY.out];exact HA2.out.wk.old lU.out HY.out HO.out Gj.out hin) yS (hT.out.keep _ _ _ HI2.out (fun q hq=>hg3.block q (by have:=HA2.out.grown.size;simp;omega) (by simp;omega)))
         have e1:(n0+1==1)=false:=by have:=((HA2.out.wk.met ka).2.2).2 hin;have h0:=uY.out;simp;omega
         clear yS hg3 hin;go_wp2
         go_roundw
         case rel=>exact⟨j+1,R2,vQ,_,by go_num,hjl,lU.out,Fe.out⟩
         case measure=>simp[intOf];omega
        ·have e1:(n0+1==1)=true:=by have:=HA2.out.wk.met ka;have h0:¬ 1≤f2 ka:=fun h=>hin (this.2.2.1 h);have h1:=uY.out;simp;omega
         have sF:=hide hin;have yw:=hide yS;have sH:=hide hg3;have xR:Hid (QR w3 w.heap.size (.slice a2 R2.length c2) R2):=(HA2.out.row.alloc _).keep fun q hq=>hg3.block q ((HA2.out.row.alloc _).lt q hq).2 (by simp only[ne_eq,Option.some.injEq];intro e;obtain⟨o,ho,hno⟩:=(uJ.out).obj;exact (HA2.out.row.alloc _).ty ho hno (e ▸ hq));have hz3:=hg3.size;clear yS hg3 hin;go_wp2_with (at_builtin;refine Mc rfl _ _ rfl w.heap.size _ R2 ka rfl (xR.out.alloc _) ⟨w3.heap.size,0,none⟩ rfl (JU _ _ _) (by omega) (by have:=HA2.out.grown.size;simp at hz3 ⊢;omega) ?_;intro v' w4 hq4 hg4;have Ff:=hide hq4;have sI:=hide hg4;clear hq4 hg4)
         have Fe:Hid (xc m ab (some ⟨b,off,none⟩) cb cu n M w I k (j+1) v' (R2++[ka]) vQ (fun q=>if q=(ka:Int) then n0+1 else f2 q) w4) :=
          HA2.out.more hT.out (EZ (iC (Ml H2.out) sH.out) (ai (World.grownBy.refl _ _) _)) sI.out (xR.out.alloc _) (by rw[uY.out];exact HA2.out.wk.new lU.out HY.out HO.out Gj.out Am sF.out) (yw.out.keep (Below.heap_alloc _ _ _ yw.out.lt)) Ff.out
         have ae:Hid ((R2++[ka])[k]?=some x):=by unfold Hid;rw[List.getElem?_append_left (List.getElem?_eq_some_iff.1 lU.out).1];exact lU.out
         go_roundw
         case rel=>exact⟨j+1,R2++[ka],vQ,_,by go_num,hjl,ae.out,Fe.out⟩
         case measure=>simp[intOf];omega
       ·have e23:(y.op==23)=false:=by simp;omega
        have e29:(y.op==29)=true:=by simpa using h
        clear h;by_cases hin:ka ∈ R2
        ·have Fe:Hid (xc m ab (some ⟨b,off,none⟩) cb cu n M w I k (j+1) (.slice a2 R2.length c2) R2 vQ (fun q=>if q=(ka:Int) then n0+1 else f2 q) w3) :=
          HA2.out.step H2.out hg3 (.inr rfl) hM (by rw[uY.out];exact HA2.out.wk.old lU.out HY.out HO.out Gj.out hin) yS (hT.out.keep _ _ _ HI2.out (fun q hq=>hg3.block q (by have:=HA2.out.grown.size;simp;omega) (by simp;omega)))
         have e1:(n0+1==1)=false:=by have:=((HA2.out.wk.met ka).2.2).2 hin;have h0:=uY.out;simp;omega
         clear yS hg3 hin;go_wp2
         go_roundw
         case rel=>exact⟨j+1,R2,vQ,_,by go_num,hjl,lU.out,Fe.out⟩
         case measure=>simp[intOf];omega
        ·have e1:(n0+1==1)=true:=by have:=HA2.out.wk.met ka;have h0:¬ 1≤f2 ka:=fun h=>hin (this.2.2.1 h);have h1:=uY.out;simp;omega
         have sF:=hide hin;have yw:=hide yS;have sH:=hide hg3;have xR:Hid (QR w3 w.heap.size (.slice a2 R2.length c2) R2):=(HA2.out.row.alloc _).keep fun q hq=>hg3.block q ((HA2.out.row.alloc _).lt q hq).2 (by simp only[ne_eq,Option.some.injEq];intro e;obtain⟨o,ho,hno⟩:=(uJ.out).obj;exact (HA2.out.row.alloc _).ty ho hno (e ▸ hq));have hz3:=hg3.size;clear yS hg3 hin;go_wp2_with (at_builtin;refine Mc rfl _ _ rfl w.heap.size _ R2 ka rfl (xR.out.alloc _) ⟨w3.heap.size,0,none⟩ rfl (JU _ _ _) (by omega) (by have:=HA2.out.grown.size;simp at hz3 ⊢;omega) ?_;intro v' w4 hq4 hg4;have Ff:=hide hq4;have sI:=hide hg4;clear hq4 hg4)
         have Fe:Hid (xc m ab (some ⟨b,off,none⟩) cb cu n M w I k (j+1) v' (R2++[ka]) vQ (fun q=>if q=(ka:Int) then n0+1 else f2 q) w4) :=
          HA2.out.more hT.out (EZ (iC (Ml H2.out) sH.out) (ai (World.grownBy.refl _ _) _)) sI.out (xR.out.alloc _) (by rw[uY.out];exact HA2.out.wk.new lU.out HY.out HO.out Gj.out Am sF.out) (yw.out.keep (Below.heap_alloc _ _ _ yw.out.lt)) Ff.out
         have ae:Hid ((R2++[ka])[k]?=some x):=by unfold Hid;rw[List.getElem?_append_left (List.getElem?_eq_some_iff.1 lU.out).1];exact lU.out
         go_roundw
         case rel=>exact⟨j+1,R2++[ka],vQ,_,by go_num,hjl,ae.out,Fe.out⟩
         case measure=>simp[intOf];omega
      ·have HN:Hid (xc m ab (some ⟨b,off,none⟩) cb cu n M w I k (j+1) (.slice a2 R2.length c2) R2 vQ f2 (wr.alloc (aj y.op y.a y.n))) :=
        HA2.out.step H2.out (World.grownBy.refl _ (some M)) (.inl rfl) hM (HA2.out.wk.quiet lU.out HY.out xE h23) uJ.out HI2.out
       have e23:(y.op==23)=false:=by unfold Vf.AB at h23;simp;omega
       have e29:(y.op==29)=false:=by unfold Vf.AB at h23;simp;omega
       clear xE h23;go_wp2
       go_roundw
       case rel=>exact⟨j+1,R2,vQ,f2,by go_num,hjl,lU.out,HN.out⟩
       case measure=>simp[intOf];omega
    ·have HN:Hid (xc m ab (some ⟨b,off,none⟩) cb cu n M w I (k+1) 0 (.slice a2 R2.length c2) R2 vQ f2 wr) :=
      HA2.out.step (World.grownBy.refl _ none) (World.grownBy.refl _ (some M)) (.inl rfl) hM (HA2.out.wk.next lU.out (by rw[Hu.out];omega) (by omega)) HA2.out.met HA2.out.tell
     have hj1:¬ (j:Int)<(u.code.length:Int):=by omega
     go_wp2
     go_roundw
     case rel=>exact⟨k+1,R2,vQ,f2,by go_num,HN.out⟩
     case measure=>simp[intOf];omega
  ·have HE:Hid (∀ q,q ∈ ts ↔ (q.1=26∨q.1=27)∧Vf.comes m n q=true):=fun q=>HA.out.wk.all hR.out (by omega) q
   go_wp2
   go_end0
   exact⟨rfl,HA.out.grown,ts,HA.out.tell,HE.out⟩
theorem Rs {l:LL}{e:MapEntry}(h:e ∈ kW l 0):∃ i p,l[i]?=some p∧e={ key:=sZ p.1,val:=.int .i64 p.2,born:=i }:=by
 obtain⟨i,hi⟩:=List.getElem?_of_mem h;rw[JI] at hi;obtain⟨p,hp,rfl⟩:=Option.map_eq_some_iff.1 hi;exact⟨i,p,hp,by simp⟩
theorem Y8 (l:LL):((kW l 0).map (·.born)).Nodup:=by
 have:∀ (l:LL) (i:Nat),(kW l i).map (·.born)=List.range' i l.length:=by
  intro l;induction l with
  | nil=>intro i;rfl
  | cons p r ih=>intro i;simp only[kW,List.map_cons,ih,List.length_cons,List.range'_succ]
 rw[this];exact List.nodup_range'
abbrev Fg (M:Nat) (G:LL) (seen:Array Nat):Obj:=.mapIter (some M) G.length seen G.length
theorem Y9 {w:World}{I M:Nat}{G:LL}{seen:Array Nat}(hI:w.heap[I]?=some (Fg M G seen))(hM:tL w M G)(ty:TypeId) :
  ((∀ i,i<G.length→i ∈ seen.toList)∧(Instr.next (.pointer (some ⟨I,0,none⟩)) false ty).run Tryz.prog w=.ok (.tuple #[.bool false]) w) ∨
  ∃ i p w1,G[i]?=some p∧i ∉ seen.toList∧(Instr.next (.pointer (some ⟨I,0,none⟩)) false ty).run Tryz.prog w=.ok (.tuple #[.bool true,sZ p.1,.int .i64 p.2]) w1∧w1.heap[I]?=some (Fg M G (seen.push i))∧w.grownBy w1 (some I)∧w1.heap.size=w.heap.size∧(Instr.entry (.pointer (some ⟨I,0,none⟩))).run Tryz.prog w1=.ok (.tuple #[sZ p.1,.int .i64 p.2]) w1:=by
 have Za:M≠I:=fun e=>by
  subst e;have:=hM;unfold tL at this;rw[hI] at this;cases this
 rcases run_next_at (P:=Tryz.prog) w ty I M G.length G.length seen (kW G 0).toArray G.length hI hM (fun x hx=>by
  obtain⟨i,p,hp,rfl⟩:=Rs (by simpa using hx);exact (List.getElem?_eq_some_iff.1 hp).1) (Nat.le_refl _) with⟨h0,hr⟩ | ⟨e,he,w1,hw1,hr⟩
 ·refine .inl ⟨fun i hi=>?_,hr⟩
  by_cases hs:i ∈ seen.toList
  ·exact hs
  ·exfalso
   have hx:(kW G 0)[i]?=some { key:=sZ G[i].1,val:=.int .i64 G[i].2,born:=0+i }:=by
    rw[JI,List.getElem?_eq_getElem hi];rfl
   have hmem:({ key:=sZ G[i].1,val:=.int .i64 G[i].2,born:=0+i }:MapEntry) ∈ leftOf (kW G 0).toArray seen:=by
    unfold leftOf;rw[Array.mem_filter];refine⟨by simpa using List.mem_of_getElem? hx,?_⟩;simp only[Nat.zero_add];simpa using hs
   have:=Array.size_pos_of_mem hmem;omega
 ·have he':e ∈ leftOf (kW G 0).toArray seen:=by simpa using he
  unfold leftOf at he';rw[Array.mem_filter] at he';obtain⟨h1,h2⟩:=he';have h1':e ∈ kW G 0:=by simpa using h1
  obtain⟨i,p,hp,rfl⟩:=Rs h1';have hI1:w1.heap[I]?=some (Fg M G seen):=by rcases hw1 with rfl | rfl<;>exact hI
  have hM1:tL w1 M G:=by rcases hw1 with rfl | rfl<;>exact hM
  have hsz:w1.heap.size=w.heap.size:=by rcases hw1 with rfl | rfl<;>rfl
  have hg1:w.grownBy w1 (some I):=by
   rcases hw1 with rfl | rfl
   ·exact ui _ _
   ·exact wJ (ui _ _)
  obtain⟨m1,m2⟩:=MapKept.heap_set (o':=Fg M G (seen.push i)) hI1;refine .inr ⟨i,p,_,hp,by simpa using h2,hr,m1,?_,?_,?_⟩
  ·exact iC hg1 ⟨rfl,rfl,rfl,by simp[Go.ChangeMaps.setBlock],fun k _ hne=>m2 k (fun e=>hne (by rw[e]))⟩
  ·simp[Go.ChangeMaps.setBlock,hsz]
  ·refine run_entry_at (P:=Tryz.prog) _ I M G.length seen (kW G 0).toArray G.length { key:=sZ p.1,val:=.int .i64 p.2,born:=i } m1 ?_ (by simpa using h1') (by simpa using Y8 G)
   exact (m2 M Za).trans hM1
def Fh (G:LL)(seen:List Nat):Nat:=(List.range G.length).countP (fun i=>decide (i ∉ seen))
theorem Zb {G:LL}{seen:List Nat}{i:Nat}(hi:i<G.length)(hs:i ∉ seen):Fh G (seen++[i])+1≤Fh G seen:=by
 refine Vf.LY (fun x hx=>?_) (List.mem_range.2 hi) (by simpa using hs) (by simp);simp at hx ⊢;exact hx.1
def MG (G:LL)(f:Lk→Int)(W0:World)(T M I gk:Nat)(W:World):Prop :=
 ∃ seen:Array Nat,W.heap[I]?=some (Fg M G seen)∧tL W M G∧uV W T (fun q=>f q+told G seen.toList q)∧(∀ i ∈ seen.toList,i<G.length)∧Fh G seen.toList≤gk∧W0.grownBy W (some T)
def tz (m:Vf.Md)(q:Lk)(k:Nat):Int:=if q.1=26∨q.1=27 then (Vf.tc m q k:Int) else 0
structure Zc (m:Vf.Md) (W0:World) (T k:Nat) (W:World):Prop where
 le:k≤m.units.length
 tk:uV W T (fun q=>tz m q k)
 grown:W0.grownBy W (some T)
theorem uV.bump {w:World}{T:Nat}{f:Lk→Int}(h:uV w T f)(k:Lk):∃ w1 w2 n,(Instr.lookup 80 (.map (some T)) (sZ k) false).run Tryz.prog w=.ok (.int .i64 (f k)) w∧(Instr.mapEntry 80 (.map (some T)) (sZ k)).run Tryz.prog w=.ok (.tuple #[.int .i64 (f k),goInt n]) w1∧(Instr.lookup 80 (.map (some T)) (sZ k) false).run Tryz.prog w1=.ok (.int .i64 (f k)) w1 ∧
  (Instr.entryStore 80 (.map (some T)) (.int .i64 n) (.int .i64 (f k+1))).run Tryz.prog w1=.ok () w2∧uV w2 T (fun q=>f q+if q=k then 1 else 0)∧w.grownBy w1 (some T)∧w.grownBy w2 (some T):=by
 obtain⟨l,h1,h2,h3⟩:=h;obtain⟨w1,w2,b1,b2,b3,b4,b5,b6⟩:=XJ h1 k;have b0:=LW h1 k;rw[h3] at b0 b1 b2 b3;refine⟨w1,w2,_,b0,b1,b2,b3,⟨_,b4,h2.bump k,fun q=>?_⟩,b5,b6⟩;show Vf.cnt q (Vf.bump k l)=f q+if q=k then 1 else 0
 rw[Vf.D9];by_cases e:q=k
 ·subst e
  rw[if_pos rfl,if_pos rfl,h3]
 ·rw[if_neg e,if_neg e,h3]
  omega
theorem Zd {w:World}{M:Nat}{G:LL}(h:tL w M G):(Instr.range 80 (.map (some M))).run Tryz.prog w=.ok (.pointer (some ⟨w.heap.size,0,none⟩)) (w.alloc (Fg M G #[])):=by
 have hg:(getObj M).run Tryz.prog w=.ok (.map (kW G 0).toArray G.length) w:=MapKept.run_getObj_map h;have hu:=run_underlying (P:=Tryz.prog) (w:=w) Tryz.underlying80;simp[Instr.range,hu,hg]
theorem uV.look {w:World}{T:Nat}{f:Lk→Int}(h:uV w T f)(k:Lk):(Instr.lookup 80 (.map (some T)) (sZ k) false).run Tryz.prog w=.ok (.int .i64 (f k)) w:=by
 obtain⟨l,h1,h2,h3⟩:=h;have b0:=LW h1 k;rw[h3] at b0;exact b0
theorem Hy {w:World}{T:Nat}{f g:Lk→Int}(h:uV w T f)(e:∀ q,f q=g q):uV w T g:=by
 obtain⟨l,h1,h2,h3⟩:=h;exact⟨l,h1,h2,fun q=>(h3 q).trans (e q)⟩
theorem Ru (m:Vf.Md)(q:Lk)(k:Nat):0≤tz m q k∧tz m q k≤k:=by
 have:=Vf.L6 m q k;unfold tz;split<;>omega
theorem uV.wl {w:World}{T:Nat}{f:Lk→Int}(h:uV w T f):∃ l,tL w T l∧Vf.Wl l∧∀ q,Vf.cnt q l=f q:=h
abbrev J4 (M:Nat):Obj:=.cells #[.map (some M)] 80 (0,0)
def Mine (P M:Nat)(ts:List Lk)(w:World):Prop:=w.heap[P]?=some (J4 M)∧uV w M (fun q=>(ts.count q:Int))
theorem Ze (P M:Nat)(ts:List Lk)(op a:Int)(w:World)(hI:Hid (Mine P M ts w))(hl:ts.length≤130000) :
  Calls Tryz.prog 35 #[.int .i64 op,.int .i64 a,.pointer (some ⟨P,0,none⟩)] w fun e w'=>e=.returned (.tuple #[])∧Mine P M (ts++[(op,a)]) w'∧w.grownBy w' (some M):=by
 obtain⟨hP,hT⟩:=hI.out;have hT1:uV w.drew M (fun q=>(ts.count q:Int)):=hT;obtain⟨w3,w4,nn,b0,b1,b2,b3,b4,b5,b6⟩:=hT1.bump (op,a);have c0:w.cell? ⟨P,0,none⟩=some (.map (some M)):=by simp[World.cell?,hP]
 have Rv:P≠M:=by
  rintro rfl;obtain⟨l,h1,_⟩:=hT;unfold tL at h1;rw[h1] at hP;cases hP
 have HE:Hid (Mine P M (ts++[(op,a)]) w4):=⟨((uT b6).block _ (lt_of_block hP) (by simpa using Rv)).trans hP,Hy b4 (fun q=>by
  show (ts.count q:Int)+(if q=(op,a) then 1 else 0)=((ts++[(op,a)]).count q:Int)
  rw[List.count_append,List.count_singleton];by_cases e:q=(op,a)
  ·rw[if_pos e,e];simp
  ·rw[if_neg e,if_neg (by simpa using fun h=>e h.symm)];simp)⟩
 have HG:Hid (w.grownBy w4 (some M)):=uT b6;obtain⟨n0,hn0⟩:∃ n0:Int,n0=(ts.count (op,a):Int):=⟨_,rfl⟩;have hn2:n0≤130000:=by have:=List.count_le_length (a:=(op,a)) (l:=ts);omega
 have hn1:0≤n0:=by omega
 rw[← hn0] at b0 b1 b2 b3;have ew:IntKind.i64.wrap (n0+1)=n0+1:=by simp[IntKind.wrap,IntKind.bits,IntKind.signed];omega
 clear hP hT hT1 b4 b5 b6 Rv hn0;go_enter Tryz.func35,Tryz.ntmps35
 go_wp2_with fail
 go_region
 all_goals
  go_wp2
  go_end0
  exact⟨rfl,HE.out,HG.out⟩
theorem Zf (m:Vf.Md)(ab au:Option Addr)(cb cu B:Nat)(w:World)(hmd:Hid (aD B w m ab au))(hB:B≤w.heap.size)(hR:Hid (Rt m))(hnb:m.boxes.length≤30)(er num:Int)(hr:Hid ((er,num)=((Vf.EW m).1,((Vf.EW m).2:Int)))) :
  Calls Tryz.prog 20 #[aT m ab au cb cu] w fun e w'=>e=.returned (gM er 0 num)∧w.grownBy w' none:=by
 have hmm:∀ w:World,(Instr.makeMap 80 Option.none).run Tryz.prog w=.ok (.map (some w.heap.size)) (w.alloc (.map #[] 0)):=fun _=>rfl;have hmu:m.units.length≤30:=hR.out.units;obtain⟨W0,hW0⟩:∃ W0:World,((w.alloc (vv m ab au cb cu)).alloc aU).alloc (.map #[] 0)=W0:=⟨_,rfl⟩;obtain⟨t0,t1,t2,t3⟩:=BV w (vv m ab au cb cu) aU (.map #[] 0);rw[hW0] at t0 t1 t2 t3;have HT0:=hide t0;have HT1:=hide t1;have HT2:=hide t2;have HT3:Hid (uV W0 (w.heap.size+1+1) (fun q=>tz m q 0)):=⟨[],t3,Vf.Wl.nil,fun q=>by show Vf.cnt q []=tz m q 0;unfold tz;split<;>rfl⟩;have HW0:=hide hW0;have adX:w.heap.size+1+1<W0.heap.size:=lt_of_block t3;clear t0 t1 t2 t3 hW0;go_enter Tryz.func20,Tryz.ntmps20
 go_wp2
 go_loopw [14] (fun v wr=>∃ k:Nat,v=.int .i64 k∧Zc m W0 (w.heap.size+1+1) k wr) (fun v _=>m.units.length - (intOf v).toNat)
 case atStart=>exact⟨0,rfl,Nat.zero_le _,by rw[HW0.out];exact HT3.out,by rw[HW0.out];exact ui _ _⟩
 case round =>
  obtain⟨k,rfl,hA⟩:=hrel;have HA:=hide hA;have hk:=hA.le;have hgz:=hA.grown.size;have hmb:wr.heap[w.heap.size]?=some (vv m ab au cb cu):=(HA.out.grown.block _ (lt_of_block HT1.out) (by simp;omega)).trans HT1.out;have vH:=hide hmb;have Ht:Hid (wr.heap[w.heap.size+1]?=some aU):=(HA.out.grown.block _ (lt_of_block HT2.out) (by simp)).trans HT2.out;have xz:Hid (aD B wr m ab au):=hmd.out.low (fun j hj=>(HA.out.grown.block j (by omega) (by simp;omega)).trans (aC HT0.out (by omega)));have Rw:Hid (w.heap.size+1+1<wr.heap.size):=HA.out.tk.lt;have Rx:=Rw.out;have hwz:w.heap.size<wr.heap.size:=by omega
  have adY:w.heap.size+1<wr.heap.size:=by omega
  obtain⟨x0,x1⟩:=BU hmb;clear hA hmb;by_cases hlt:k<m.units.length
  ·obtain⟨u,hu⟩:∃ u,m.units[k]?=some u:=⟨_,List.getElem?_eq_getElem hlt⟩
   obtain⟨b,off,al,cl,ac,cc,ha,hb,jB,u0,u1,u2,u3,u4,u5⟩:=xz.out.units k u hu;have hk1:(k:Int)<(m.units.length:Int):=by omega
   have HIS:Hid (Vf.is m 4 (k:Int)=(u.kind==4)):=JG hu;have BX:=hide ha;have hbw:b<wr.heap.size:=by omega
   rw[ha] at x1;clear hu jB ha;rw[BX.out];by_cases h4:u.kind=4
   ·have e4:(u.kind != 4)=false:=by simp[h4]
    have Zg:Hid (Vf.is m 4 (k:Int)=true):=by rw[HIS.out,h4];rfl
    obtain⟨W1,hW1⟩:∃ W1:World,((wr.alloc (gP u al ac cl cc)).alloc (.map #[] 0)).alloc (J4 (wr.heap.size+1))=W1:=⟨_,rfl⟩;obtain⟨hT1,_,hM1,hP1⟩:=BV wr (gP u al ac cl cc) (.map #[] 0) (J4 (wr.heap.size+1));rw[hW1] at hT1 hM1 hP1;have zW:Hid (aD B W1 m ab (some ⟨b,off,none⟩)):=by rw[← BX.out];exact xz.out.low (aK hT1 (by omega))
    have Hz:=hide hT1;have HI1:Hid (Mine (wr.heap.size+1+1) (wr.heap.size+1) [] W1):=⟨hP1,[],hM1,Vf.Wl.nil,fun q=>rfl⟩;have HW1:=hide hW1;have Zh:wr.heap.size+1+1<W1.heap.size:=lt_of_block hP1;have Ry:(((wr.alloc (gP u al ac cl cc)).alloc (.map #[] 0)).alloc (J4 (wr.heap.size+1))).heap[w.heap.size]?=some (vv m ab (some ⟨b,off,none⟩) cb cu):=by rw[HW1.out,← BX.out];exact (aC Hz.out hwz).trans vH.out
    obtain⟨y0,y1⟩:=BU Ry;have Zi:Hid (Mq 35 #[.pointer (some ⟨wr.heap.size+1+1,0,none⟩)] W1.heap.size (wr.heap.size+1) (Mine (wr.heap.size+1+1) (wr.heap.size+1))) :=
     ⟨fun ts w w' h k=>⟨(k _ Zh).trans h.1,h.2.keep (k _ (by omega))⟩,fun ts op a w h hl=>Ze _ _ ts op a w h hl⟩
    clear h4 hW1 hT1 hM1 hP1 Ry;go_wp2_with fail
    rw[HW1.out];refine (Y7 m ab (some ⟨b,off,none⟩) cb cu B k (wr.heap.size+1) 35 #[.pointer (some ⟨wr.heap.size+1+1,0,none⟩)] _ _ zW (by omega) hR hlt (by omega) (by omega) (fun vs w'=>by first | rfl | kernel_rfl | simp[go_sem]) Zi HI1).mono ?_;rintro e w2 ⟨rfl,hg2,ts,⟨hP2,G,hL2,Rz,hcn⟩,hts⟩;have RA:=hide Rz;have hrg:=Zd hL2;have c2:w2.cell? ⟨wr.heap.size+1+1,0,none⟩=some (.map (some (wr.heap.size+1))):=by simp[World.cell?,hP2]
    have RB:W0.grownBy w2 (some (w.heap.size+1+1)):=EY (EZ HA.out.grown Hz.out) hg2 (.inl (by omega));have MH:uV w2 (w.heap.size+1+1) (fun q=>tz m q k):=(HA.out.tk.keep (aC Hz.out Rx)).keep (hg2.block _ (by have:=Hz.out.size;omega) (by simp;omega));have yJ:Hid (MG G (fun q=>tz m q k) W0 (w.heap.size+1+1) (wr.heap.size+1) w2.heap.size (Fh G []) (w2.alloc (Fg (wr.heap.size+1) G #[]))) :=
     ⟨#[],heap_alloc_new _ _,hL2.alloc _,Hy (MH.keep (Below.heap_alloc _ _ _ MH.lt)) (fun q=>by simp[told]),fun i hi=>(by cases hi),Nat.le_refl _,EZ RB (ai (World.grownBy.refl _ _) _)⟩
    have adZ:=Hz.out.size;have hz2:=hg2.size;have hz3:W1.heap.size=wr.heap.size+1+1+1:=by rw[← HW1.out];simp
    have MI:Hid (∀ q,tz m q (k+1)=tz m q k+if (decide (1≤Vf.cnt q G))=true then 1 else 0):=fun q=>by
     have e:(decide (1≤Vf.cnt q G))=true ↔ (q.1=26∨q.1=27)∧Vf.comes m k q=true:=by
      have hc':Vf.cnt q G=(ts.count q:Int):=hcn q;rw[← hts q,hc',decide_eq_true_iff,← List.count_pos_iff];omega
     unfold tz;by_cases hq:q.1=26∨q.1=27
     ·have e3:decide (1≤Vf.cnt q G)=Vf.comes m k q:=by rw[Bool.eq_iff_iff,e];exact⟨fun h=>h.2,fun h=>⟨hq,h⟩⟩
      rw[if_pos hq,if_pos hq,Vf.LZ,Zg.out,e3];cases Vf.comes m k q<;>simp
     ·rw[if_neg hq,if_neg hq,if_neg (fun h=>hq (e.1 h).1)]
      rfl
    clear hL2 hg2 RB MH Rz hcn hts hP2 y0 y1 u0 u1 u2 u3 u4 u5 x0 x1;generalize hIe:w2.heap.size=I at *;generalize Zj:wr.heap.size=N at *;have hIN:N+1<I:=by omega
    have HLN:Hid (w.heap.size+1+1<N):=Rx;clear hIe Zj;go_wp2_with fail
    go_loopg [] (Fh G []) (fun gk wr'=>MG G (fun q=>tz m q k) W0 (w.heap.size+1+1) (N+1) I gk wr')
    case atStart=>exact yJ.out
    case round =>
     obtain⟨seen,hI,hM,hT,hsl,hleft,hgW⟩:=hrel;clear yJ hrg;rcases Y9 hI hM 0 with⟨hall,hnx⟩ | ⟨i,p,w1,hp,hi,hnx,hI1,hg1,hz1,hen⟩
     ·have MJ:Hid (uV wr (w.heap.size+1+1) (fun q=>tz m q (k+1))):=Hy hT (fun q=>by rw[XP RA.out hall hsl,MI.out])
      have xS:=hide hgW;clear hI hM hT hsl hleft hgW hall;go_wp2
      go_roundw
      case rel=>exact⟨k+1,by go_num,hlt,MJ.out,xS.out⟩
      case measure=>simp[intOf];omega
     ·have hilt:i<G.length:=(List.getElem?_eq_some_iff.1 hp).1
      have hTI:w.heap.size+1+1≠I:=by omega
      have hT1:uV w1 (w.heap.size+1+1) (fun q=>tz m q k+told G seen.toList q):=hT.keep (hg1.block _ hT.lt (by simp;omega));have hM1:tL w1 (N+1) G:=hM.keep (hg1.block _ hM.lt (by simp;omega));obtain⟨W5,kX⟩:∃ W5:World,w1.alloc (Mo p.1)=W5:=⟨_,rfl⟩;have RD:uV W5.drew (w.heap.size+1+1) (fun q=>tz m q k+told G seen.toList q):=by rw[← kX];exact hT1.keep (Below.heap_alloc _ _ _ hT1.lt)
      obtain⟨w3,w4,nn,b0,b1,b2,b3,b4,b5,b6⟩:=RD.bump p.1;have hk5:W5.heap[w1.heap.size]?=some (Mo p.1):=by rw[← kX];exact heap_alloc_new _ _
      obtain⟨q0,q1⟩:=X7 hk5;obtain⟨n0,hn0⟩:∃ n0:Int,n0=tz m p.1 k+told G seen.toList p.1:=⟨_,rfl⟩;have hn1:0≤n0:=by have:=Ru m p.1 k;rw[hn0];unfold told;split<;>omega
      have hn2:n0≤31:=by have:=Ru m p.1 k;rw[hn0];unfold told;split<;>omega
      have ew:IntKind.i64.wrap (n0+1)=n0+1:=by simp[IntKind.wrap,IntKind.bits,IntKind.signed];omega
      rw[← hn0] at b0 b1 b2 b3;have hg5:w1.grownBy w4 (some (w.heap.size+1+1)):=by
       have h5:w1.grownBy W5 none:=by rw[← kX];exact ai (World.grownBy.refl _ _) _
       exact iC (Ml h5) (uT b6)
      have Zk:Hid (MG G (fun q=>tz m q k) W0 (w.heap.size+1+1) (N+1) I (Fh G (seen.toList++[i])) w4):=by
       refine⟨seen.push i,(hg5.block _ (lt_of_block hI1) (by simp;omega)).trans hI1,hM1.keep (hg5.block _ hM1.lt (by simp;omega)),Hy b4 (fun q=>?_),fun x hx=>?_,by rw[Array.toList_push];exact Nat.le_refl _,EY (EY hgW hg1 (.inl (by omega))) hg5 (.inr rfl)⟩
       ·rw[Array.toList_push,XO RA.out hp hi q]
        show (tz m q k+told G seen.toList q)+(if q=p.1 then 1 else 0)=tz m q k+(told G seen.toList q+if q=p.1 then 1 else 0)
        omega
       ·rw[Array.toList_push] at hx
        rcases List.mem_append.1 hx with h | h
        ·exact hsl x h
        ·simp at h;omega
      have Zl:=hide (Zb hilt hi);have Eg:=hide hleft;have yt:=hide kX;clear hI hM hT hsl hleft hgW hI1 hg1 hz1 hT1 hM1 RD hk5 hn0 b4 b5 b6 kX hg5 hp hi;go_wp2_with fail
      rw[yt.out];go_region
      all_goals
       go_wp2
       go_roundg (Fh G (seen.toList++[i]))
       case measure=>have h1:=Zl.out;have h2:=Eg.out;omega
       case rel=>exact Zk.out
   ·have e4:(u.kind != 4)=true:=by simpa using h4
    have MI:Hid (∀ q,tz m q (k+1)=tz m q k):=fun q=>by unfold tz;rw[Vf.LZ,HIS.out];simp[h4]
    clear h4;go_wp2
    go_roundw
    case rel=>exact⟨k+1,by go_num,hlt,Hy (HA.out.tk.keep (Below.heap_alloc _ _ _ Rw.out)) (fun q=>by rw[MI.out]),EZ HA.out.grown (ai (World.grownBy.refl _ _) _)⟩
    case measure=>simp[intOf];omega
  ·obtain rfl:k=m.units.length:=by omega
   have RF:=hide HA.out.tk;have tN:=hide HA.out.grown;obtain⟨⟨z0,z1,z2⟩,y0,y1,y2⟩:=aP Ht.out;have HG:Hid (w.grownBy wr none):=⟨tN.out.os.trans HT0.out.os,tN.out.tape.trans HT0.out.tape,tN.out.output.trans HT0.out.output,Nat.le_trans HT0.out.size tN.out.size,fun j hj _=>(tN.out.block j (by have:=HT0.out.size;omega) (by simp;omega)).trans (HT0.out.block j hj (by simp))⟩;clear HA;go_wp2
   go_loopw [45] (fun v wr'=>∃ n:Nat,v=.int .i64 n∧n≤m.boxes.length∧wr'=wr∧Hid ((er,num)=((Vf.gT (Vf.ug m) ((List.range m.boxes.length).drop n) n).1,((Vf.gT (Vf.ug m) ((List.range m.boxes.length).drop n) n).2:Int)))) (fun v _=>m.boxes.length - (intOf v).toNat)
   case atStart=>exact⟨0,rfl,Nat.zero_le _,rfl,hr.out⟩
   case round =>
    obtain⟨n,rfl,hnl,Zm,HF⟩:=hrel;subst Zm;by_cases hn:n<m.boxes.length
    ·have hx:(List.range m.boxes.length)[n]?=some n:=by rw[List.getElem?_range hn]
     have sj:Hid ((er,num)=if Vf.ug m n=0 then ((Vf.gT (Vf.ug m) ((List.range m.boxes.length).drop (n+1)) (n+1)).1,((Vf.gT (Vf.ug m) ((List.range m.boxes.length).drop (n+1)) (n+1)).2:Int)) else (Vf.ug m n,(n:Int))):=by
      unfold Hid;rw[HF.out,Gh _ hx];split<;>rfl
     have Zn:_=Result.ok (Value.int .i64 (Vf.tc m (26,(n:Int)) m.units.length:Int)) _:=RF.out.look (26,(n:Int));have Zo:_=Result.ok (Value.int .i64 (Vf.tc m (27,(n:Int)) m.units.length:Int)) _:=RF.out.look (27,(n:Int));obtain⟨a26,MK⟩:∃ a:Nat,a=Vf.tc m (26,(n:Int)) m.units.length:=⟨_,rfl⟩;obtain⟨a27,ML⟩:∃ a:Nat,a=Vf.tc m (27,(n:Int)) m.units.length:=⟨_,rfl⟩;rw[← MK] at Zn;rw[← ML] at Zo;have Ab:Hid (Vf.ug m n=if 1<a26∨1<a27 then 8 else 0):=by unfold Hid;unfold Vf.ug;rw[MK,ML]
     clear hx MK ML HF;by_cases xE:1<a26
     ·have d1:decide (1<a26)=true:=by simpa using xE
      have HE:Hid (er=8∧num=(n:Int)):=by
       have h1:=sj.out;have ho:Vf.ug m n=8:=by rw[Ab.out,if_pos (Or.inl xE)]
       rw[ho,if_neg (by decide)] at h1;cases h1;exact⟨rfl,rfl⟩
      go_wp2
      refine bodyPost_ret (v:=gM 8 0 (n:Int)) (by simp[results,Tryz.results20,go_sem,z0,z1,z2]) rfl ?_;rw[HE.out.1,HE.out.2];exact⟨rfl,af (af (af HG.out (by omega) _ _) (by omega) _ _) (by omega) _ _⟩
     ·have d1:decide (1<a26)=false:=by simpa using xE
      by_cases h27:1<a27
      ·have d2:decide (1<a27)=true:=by simpa using h27
       have HE:Hid (er=8∧num=(n:Int)):=by
        have h1:=sj.out;have ho:Vf.ug m n=8:=by rw[Ab.out,if_pos (Or.inr h27)]
        rw[ho,if_neg (by decide)] at h1;cases h1;exact⟨rfl,rfl⟩
       go_wp2
       refine bodyPost_ret (v:=gM 8 0 (n:Int)) (by simp[results,Tryz.results20,go_sem,z0,z1,z2]) rfl ?_;rw[HE.out.1,HE.out.2];exact⟨rfl,af (af (af HG.out (by omega) _ _) (by omega) _ _) (by omega) _ _⟩
      ·have d2:decide (1<a27)=false:=by simpa using h27
       have HE:Hid ((er,num)=((Vf.gT (Vf.ug m) ((List.range m.boxes.length).drop (n+1)) (n+1)).1,((Vf.gT (Vf.ug m) ((List.range m.boxes.length).drop (n+1)) (n+1)).2:Int))):=by
        have h1:=sj.out;have ho:Vf.ug m n=0:=by rw[Ab.out,if_neg (by rintro (h | h);exact xE h;exact h27 h)]
        rw[ho,if_pos rfl] at h1;exact h1
       go_wp2
       go_roundw
       case rel=>exact⟨n+1,by go_num,hn,trivial,HE⟩
       case measure=>simp[intOf];omega
    ·have HE:Hid (er=0∧num=0):=by
      have h1:=HF.out;rw[List.drop_eq_nil_of_le (by simp;omega)] at h1;cases h1;exact⟨rfl,rfl⟩
     go_wp2
     refine bodyPost_ret (v:=gM 0 0 0) (by simp[results,Tryz.results20,go_sem,z0,z1,z2]) rfl ?_;rw[HE.out.1,HE.out.2];exact⟨rfl,af (af (af HG.out (by omega) _ _) (by omega) _ _) (by omega) _ _⟩
end Go.Proofs.YtbdpdjcdhclbfaaGreat
