/- The walk of OptTells. -/
import Derived.Test.YtbdpdjcdhclbfaaGreatM40
import Derived.Test.YtbdpdjcdhclbfaaGreatM41
import Derived.Test.YtbdpdjcdhclbfaaGreatM25
set_option maxRecDepth 100000
set_option maxHeartbeats 2000000
namespace Go.Proofs.YtbdpdjcdhclbfaaGreat.Ow
open Go.RowKit Vf Vm Ot
theorem adw (m:Md)(ab au:Option Addr)(cb cu:Nat)(w:World)(hin:aD w.heap.size w m ab au) :
  Calls Tryz.prog 3 #[AP m ab au cb cu] w fun e w'=>e=.returned (.bool true)∧Below w.heap.size w w':=by
 have sF:=hide hin;clear hin;have xJ:Hid (∀ W:World,Below w.heap.size w W→w.heap.size≤W.heap.size∧aD w.heap.size W m ab au):=fun W h=>⟨h.size,sF.out.low h.block⟩;obtain⟨V,hV⟩:∃ V,V=w.alloc (xI m ab au cb cu):=⟨_,rfl⟩;have ll:Hid (Below w.heap.size w V):=by rw[hV];exact fG _ _
 have uY:Hid (V.heap[w.heap.size]?=some (xI m ab au cb cu)):=by rw[hV];exact heap_alloc_new _ _
 have HV:=hide hV.symm;clear hV;obtain⟨r,hr⟩:∃ r,r=verify m:=⟨_,rfl⟩;obtain⟨n,hn⟩:∃ n,n=made m:=⟨_,rfl⟩;have hmd:=abd w.heap.size m ab au cb cu V (hide (xJ.out _ ll.out).1) (hide (xJ.out _ ll.out).2);unfold Ku at hmd;rw[← hr,← hn] at hmd;have uH:=hide hmd;have JX:Hid (∀ W,Below w.heap.size w W→Calls Tryz.prog 5 #[AP m ab au cb cu] W fun e w'=>∃ ab cb au cu,e=.returned (.tuple #[AP n ab au cb cu,gM r.1 r.2.1 r.2.2])∧aD w'.heap.size w' n ab au∧Below W.heap.size W w'):=fun W h=>by
  have:=ado w.heap.size m ab au cb cu W (hide (xJ.out _ h).1) (hide (xJ.out _ h).2);unfold Ku at this;rw[← hr,← hn] at this;exact this
 clear hmd hr hn;obtain⟨a0,a1,_,_⟩:=vR uY.out;go_enter Tryz.func3,Tryz.ntmps3
 go_upto_region 1 with fail
 rw[HV.out];clear HV;go_wp2_with fail
 refine uH.out.mono ?_;rintro e w2 ⟨nb,OJ,nu,OL,rfl,hM,hb2⟩;obtain⟨W2,hW2⟩:∃ W2,W2=(w2.alloc (xI n nb nu OJ OL)).alloc (.cells #[.int .i64 r.1,.int .i64 r.2.1,.int .i64 r.2.2] 28):=⟨_,rfl⟩;have hbW:Below w2.heap.size w2 W2:=by rw[hW2];exact vY _ _ _
 have HB2:Hid (Below w.heap.size w W2):=az (az ll.out hb2) hbW;have HA:=hide (lD hbW (lD hb2 uY.out));have Gt:Hid (W2.heap[w2.heap.size]?=some (xI n nb nu OJ OL)):=by rw[hW2];exact yY _ _ _
 have wm:Hid (W2.heap[w2.heap.size+1]?=some (.cells #[.int .i64 r.1,.int .i64 r.2.1,.int .i64 r.2.2] 28 (0,0))):=by rw[hW2];exact yZ _ _ _
 have HMN:Hid (aD W2.heap.size W2 n nb nu):=FL hM hbW;have HW2:=hide hW2.symm;clear hW2 hbW hb2 hM uH a0 a1 uY;go_upto_region 2 with fail
 rw[HW2.out];clear HW2;generalize hQ:w2.heap.size=Q at *;obtain⟨a0,a1,_,_⟩:=vR HA.out;have Vd:=hide (JX.out _ HB2.out);go_wp2_with fail
 refine Vd.out.mono ?_;rintro e w3 ⟨tb,OM,tu,OO,rfl,yS,hb3⟩;obtain⟨W3,hW3⟩:∃ W3,W3=(w3.alloc (xI n tb tu OM OO)).alloc (.cells #[.int .i64 r.1,.int .i64 r.2.1,.int .i64 r.2.2] 28):=⟨_,rfl⟩;have hbW:Below w3.heap.size w3 W3:=by rw[hW3];exact vY _ _ _
 have El:=az hb3 hbW;have HB3:Hid (Below w.heap.size w W3):=az HB2.out El;have jh:=hide (lD El Gt.out);have ady:=hide (lD El wm.out);have MJ:Hid (W3.heap[w3.heap.size]?=some (xI n tb tu OM OO)):=by rw[hW3];exact yY _ _ _
 have HTW:Hid (W3.heap[w3.heap.size+1]?=some (.cells #[.int .i64 r.1,.int .i64 r.2.1,.int .i64 r.2.2] 28 (0,0))):=by rw[hW3];exact yZ _ _ _
 have HS:=hide (Mf n nb nu tb tu OJ OL OM OO W3 (hide (FL HMN.out El)) (hide (FL yS hbW)));have HW3:=hide hW3.symm;clear hW3 hbW hb3 El yS Vd a0 a1;go_upto_region 3 with fail
 rw[HW3.out];clear HW3;generalize hQ3:w3.heap.size=Q3 at *;obtain⟨n0,n1,_,_⟩:=vR jh.out;obtain⟨w0,w1',w2',_,_,_⟩:=Er ady.out;obtain⟨t0,t1,_,_⟩:=vR MJ.out;obtain⟨v0,yG,v2',_,_,_⟩:=Er HTW.out;have heq:∀ W:World,(Op.equalIn 10000 28 (gM r.1 r.2.1 r.2.2) (gM r.1 r.2.1 r.2.2)).run Tryz.prog W=.ok true W:=fun W=>by
  have:=abE r.1 r.2.1 r.2.2 r.1 r.2.1 r.2.2 W;simpa using this
 go_wp2_with fail
 refine HS.out.mono ?_;rintro e w4 ⟨rfl,hb4⟩;have uk:Hid (Below w.heap.size w w4):=az HB3.out hb4;clear hb4;go_wp2
 go_ret
 exact⟨rfl,uk.out⟩
end Go.Proofs.YtbdpdjcdhclbfaaGreat.Ow
