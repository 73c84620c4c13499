/- The walk of ref6.Same,of two that are alike. -/
import Derived.Test.YtbdpdjcdhclbfaaGreatM24
set_option maxRecDepth 100000
set_option maxHeartbeats 4000000
namespace Go.Proofs.YtbdpdjcdhclbfaaGreat.Ow
open Go.RowKit Vf Vm Ot
theorem adu {B C:Nat}{w:World}{m:Vf.Md}{ab au:Option Addr}(h:aD B w m ab au)(hB:B≤C):aD C w m ab au:=by
 refine⟨h.few,fun i x hx=>?_,fun i x hx=>?_⟩
 ·obtain⟨a,b,c,d,e,f,g⟩:=h.boxes i x hx
  exact⟨a,b,c,d,e,by omega,g⟩
 ·obtain⟨b,off,al,cl,ac,cc,e,hb,hu,g⟩:=h.units i x hx
  exact⟨b,off,al,cl,ac,cc,e,by omega,S9 hu hB,g⟩
theorem FL {w w':World}{m:Vf.Md}{ab au:Option Addr}(h:aD w.heap.size w m ab au)(hb:Below w.heap.size w w'):aD w'.heap.size w' m ab au:=adu (h.low hb.block) hb.size
theorem U0 (B:Nat)(l:List Int)(a1 a2:Option Addr)(c1 c2:Nat)(w:World)(h1:Hid (IntsIn B w l a1))(h2:Hid (IntsIn B w l a2))(hn:l.length≤9223372036854775807) :
  Calls Tryz.prog 13 #[.slice a1 l.length c1,.slice a2 l.length c2] w fun e w'=>e=.returned (.bool true)∧∃ d,w'=w.drewN d:=by
 have eq0:((l.length:Int) != (l.length:Int))=false:=by simp
 go_enter Tryz.func13,Tryz.ntmps13
 go_wp2
 go_loopw [13] (fun i wr=>∃ k d:Nat,k≤l.length∧i=.int .i64 k∧wr=w.drewN d) (fun i _=>l.length - (intOf i).toNat)
 case atStart=>exact⟨0,0,Nat.zero_le _,rfl,rfl⟩
 case round =>
  obtain⟨k,d,hk,rfl,rfl⟩:=hrel;by_cases hlt:k<l.length
  ·obtain⟨x,hx⟩:∃ x,l[k]?=some x:=⟨_,List.getElem?_eq_getElem hlt⟩
   obtain⟨_,b1,o1,rfl,_,x1⟩:=h1.out k x hx;obtain⟨_,b2,o2,rfl,_,x2⟩:=h2.out k x hx;have eqx:(x != x)=false:=by simp
   have b0:(0:Int)≤(k:Int):=by omega
   have b1:(k:Int)<(l.length:Int):=by omega
   clear hx;go_wp2
   go_quiet (fail)
   go_wp2
   go_roundw
   case rel=>exact⟨k+1,_,by omega,by go_num,rfl⟩
   case measure=>simp[intOf];omega
  ·go_wp2
   go_ret
   exact⟨rfl,d,rfl⟩
theorem adv (x y:Int)(w:World):Sem.run Tryz.prog (binOp BinOp.neq 36 (.agg #[.int .i64 x,.int .i64 y]) (.agg #[.int .i64 x,.int .i64 y])) w=.ok (.bool false) w:=by
 simp[go_sem]
theorem U5 (x y z:Int)(w:World):Sem.run Tryz.prog (binOp BinOp.neq 47 (.agg #[.int .i64 x,.int .i64 y,.int .i64 z]) (.agg #[.int .i64 x,.int .i64 y,.int .i64 z])) w=.ok (.bool false) w:=by
 simp[go_sem]
theorem Mf (m:Vf.Md)(ab au vJ zf:Option Addr)(cb cu cb' AU:Nat)(w:World)(h1:Hid (aD w.heap.size w m ab au))(h2:Hid (aD w.heap.size w m vJ zf)) :
  Calls Tryz.prog 6 #[.agg #[.slice ab m.boxes.length cb,.slice au m.units.length cu],.agg #[.slice vJ m.boxes.length cb',.slice zf m.units.length AU]] w fun e w'=>e=.returned (.bool true)∧Below w.heap.size w w':=by
 obtain⟨hl1,hl2⟩:=h1.out.few;have eqb:((m.boxes.length:Int) != (m.boxes.length:Int))=false:=by simp
 have equ:((m.units.length:Int) != (m.units.length:Int))=false:=by simp
 obtain⟨W0,hW0⟩:∃ W0,W0=(w.alloc (xI m ab au cb cu)).alloc (xI m vJ zf cb' AU):=⟨_,rfl⟩;have U6:W0.heap.size=w.heap.size+2:=by rw[hW0];simp
 have HB0:Hid (Below w.heap.size w W0):=by rw[hW0];exact ((Below.refl _ w).alloc (Nat.le_refl _) _).alloc (by simp) _
 have uY:Hid (W0.heap[w.heap.size]?=some (xI m ab au cb cu)):=by rw[hW0];exact yY _ _ _
 have wM:Hid (W0.heap[w.heap.size+1]?=some (xI m vJ zf cb' AU)):=by rw[hW0];exact yZ _ _ _
 have HW0:=hide hW0;have HZ0:=hide U6;clear hW0 U6;go_enter Tryz.func6,Tryz.ntmps6
 go_wp2
 go_loopw [29] (fun i wr=>∃ k d:Nat,k≤m.boxes.length∧i=.int .i64 k∧wr=W0.drewN d) (fun i _=>m.boxes.length - (intOf i).toNat)
 case atStart=>exact⟨0,0,Nat.zero_le _,rfl,by rw[HW0.out];rfl⟩
 case round =>
  obtain⟨k,d,hk,rfl,rfl⟩:=hrel;obtain⟨c0,c1⟩:=Aw.BU uY.out;obtain⟨c2,c3⟩:=Aw.BU wM.out;by_cases hlt:k<m.boxes.length
  ·obtain⟨x,hx⟩:∃ x,m.boxes[k]?=some x:=⟨_,List.getElem?_eq_getElem hlt⟩
   obtain⟨_,_,b1,o1,rfl,_,x1,y1⟩:=(FL h1.out HB0.out).boxes k x hx;obtain⟨_,_,b2,o2,rfl,_,x2,y2⟩:=(FL h2.out HB0.out).boxes k x hx;have be:=adv x.ty x.cap;have b0:(0:Int)≤(k:Int):=by omega
   have b1:(k:Int)<(m.boxes.length:Int):=by omega
   clear hx;go_wp2
   go_quiet (fail)
   go_wp2
   go_roundw
   case rel=>exact⟨k+1,_,by omega,by go_num,rfl⟩
   case measure=>simp[intOf];omega
  ·go_wp2
   clear c0 c1 c2 c3;go_loopw [47] (fun i wr=>∃ k:Nat,k≤m.units.length∧i=.int .i64 k∧Below W0.heap.size W0 wr) (fun i _=>m.units.length - (intOf i).toNat)
   case atStart=>exact⟨0,Nat.zero_le _,rfl,zU (Below.refl _ _) _⟩
   case round =>
    obtain⟨k,hk,rfl,hB⟩:=hrel;have HB:Hid (Below W0.heap.size W0 wr):=hB;have Jk:Hid (Below w.heap.size w wr):=HB0.out.trans (hB.mono (by rw[HZ0.out];omega));have hM0:wr.heap[w.heap.size]?=some (xI m ab au cb cu):=(hB.block _ (by rw[HZ0.out];omega)).trans uY.out;have hM1:wr.heap[w.heap.size+1]?=some (xI m vJ zf cb' AU):=(hB.block _ (by rw[HZ0.out];omega)).trans wM.out;have U7:w.heap.size+1<wr.heap.size:=lt_of_block hM1;obtain⟨c0,c1⟩:=Aw.BU hM0;obtain⟨c2,c3⟩:=Aw.BU hM1;clear hB hM0 hM1;by_cases hlt:k<m.units.length
    ·obtain⟨u,hu⟩:∃ u,m.units[k]?=some u:=⟨_,List.getElem?_eq_getElem hlt⟩
     obtain⟨b1,o1,al,cl,ac,cc,rfl,st1,U8,x0,x1,x2,x3,x4,x5⟩:=(FL h1.out Jk.out).units k u hu;obtain⟨b2,o2,al',cl',K6,cc',rfl,st2,U9,y0,y1,y2,y3,y4,y5⟩:=(FL h2.out Jk.out).units k u hu;have Gi:=hide U8;have Ef:=hide U9;have n0:(0:Int)≤(k:Int):=by omega
     have n1:(k:Int)<(m.units.length:Int):=by omega
     have hb1:b1<wr.heap.size:=st1;have hb2:b2<wr.heap.size:=st2;have hb1':b1<wr.heap.size+1:=by omega
     have hb2':b2<wr.heap.size+1:=by omega
     have hw0:w.heap.size<wr.heap.size:=by omega
     have Va:w.heap.size<wr.heap.size+1:=by omega
     have Vb:w.heap.size+1<wr.heap.size+1:=by omega
     clear hu U8 U9 st1 st2;go_wp2
     go_region
     ·skip
      obtain⟨W1,hW1⟩:∃ W1,W1=((wr.alloc (Aw.gP u al ac cl cc)).alloc (Aw.gP u al' K6 cl' cc')).drew:=⟨_,rfl⟩;have HB1:Hid (Below wr.heap.size wr W1):=by rw[hW1];exact Below.drew (((Below.refl _ wr).alloc (Nat.le_refl _) _).alloc (by simp) _)
      have hX:W1.heap[wr.heap.size]?=some (Aw.gP u al ac cl cc):=by rw[hW1];exact yY _ _ _
      have hY:W1.heap[(wr.heap.size+1)]?=some (Aw.gP u al' K6 cl' cc'):=by rw[hW1];exact yZ _ _ _
      rw[← hW1];clear hW1;have HX:=hide hX;have HY:=hide hY;have BQ:=hide (Ir Gi.out HB1.out);have Av:=hide (Ir Ef.out HB1.out);have uF:Hid (Below W0.heap.size W0 W1):=HB.out.trans (HB1.out.mono HB.out.size);obtain⟨hll,hlc⟩:=BQ.out.few;obtain⟨p0,p1,p2,p3,p4,p5⟩:=Aw.Eo hX;obtain⟨q0,q1,q2,q3,q4,q5⟩:=Aw.Eo hY;have k1:(u.kind != u.kind)=false:=by simp
      have k2:(u.params != u.params)=false:=by simp
      have k3:(u.result != u.result)=false:=by simp
      have k4:(u.takes != u.takes)=false:=by simp
      have k5:((u.code.length:Int) != (u.code.length:Int))=false:=by simp
      clear hX hY x0 x1 x2 x3 x4 x5 y0 y1 y2 y3 y4 y5 HB Jk c0 c1 c2 c3 Gi Ef HB1 hb1 hb2 hb1' hb2' hw0 Va Vb U7;generalize wr.heap.size=P at *;generalize (wr.heap.size+1)=Q at *;go_wp2_with fail
      refine (U0 W1.heap.size u.locals al al' cl cl' _ (hide BQ.out.locals) (hide Av.out.locals) hll).mono ?_;rintro e w2 ⟨rfl,d2,rfl⟩;go_wp2
      go_loopw [106] (fun i wr3=>∃ j d:Nat,j≤u.code.length∧i=.int .i64 j∧wr3=W1.drewN d) (fun i _=>u.code.length - (intOf i).toNat)
      case atStart=>exact⟨0,d2,Nat.zero_le _,rfl,rfl⟩
      case round =>
       obtain⟨j,d,hj,rfl,rfl⟩:=hrel;by_cases hjl:j<u.code.length
       ·obtain⟨x,hx⟩:∃ x,u.code[j]?=some x:=⟨_,List.getElem?_eq_getElem hjl⟩
        obtain⟨_,_,_,g1,r1,hac,_,x0,x1,x2⟩:=BQ.out.code j x hx;obtain⟨_,_,_,g2,r2,OI,_,y0,y1,y2⟩:=Av.out.code j x hx;subst hac OI;have ie:=U5 x.op x.a x.n;have m0:(0:Int)≤(j:Int):=by omega
        have m1:(j:Int)<(u.code.length:Int):=by omega
        clear hx;go_wp2
        go_quiet (fail)
        go_wp2
        go_roundw
        case rel=>exact⟨j+1,_,by omega,by go_num,rfl⟩
        case measure=>simp[intOf];omega
       ·go_wp2
        go_roundw
        case rel=>exact⟨k+1,by omega,by go_num,(uF.out.trans ⟨rfl,rfl,rfl,Nat.le_refl _,fun _ _=>rfl⟩)⟩
        case measure=>simp[intOf];omega
     ·skip
      obtain⟨W1,hW1⟩:∃ W1,W1=((wr.alloc (Aw.gP u al' K6 cl' cc')).alloc (Aw.gP u al ac cl cc)).drew:=⟨_,rfl⟩;have HB1:Hid (Below wr.heap.size wr W1):=by rw[hW1];exact Below.drew (((Below.refl _ wr).alloc (Nat.le_refl _) _).alloc (by simp) _)
      have hX:W1.heap[(wr.heap.size+1)]?=some (Aw.gP u al ac cl cc):=by rw[hW1];exact yZ _ _ _
      have hY:W1.heap[wr.heap.size]?=some (Aw.gP u al' K6 cl' cc'):=by rw[hW1];exact yY _ _ _
      rw[← hW1];clear hW1;have HX:=hide hX;have HY:=hide hY;have BQ:=hide (Ir Gi.out HB1.out);have Av:=hide (Ir Ef.out HB1.out);have uF:Hid (Below W0.heap.size W0 W1):=HB.out.trans (HB1.out.mono HB.out.size);obtain⟨hll,hlc⟩:=BQ.out.few;obtain⟨p0,p1,p2,p3,p4,p5⟩:=Aw.Eo hX;obtain⟨q0,q1,q2,q3,q4,q5⟩:=Aw.Eo hY;have k1:(u.kind != u.kind)=false:=by simp
      have k2:(u.params != u.params)=false:=by simp
      have k3:(u.result != u.result)=false:=by simp
      have k4:(u.takes != u.takes)=false:=by simp
      have k5:((u.code.length:Int) != (u.code.length:Int))=false:=by simp
      clear hX hY x0 x1 x2 x3 x4 x5 y0 y1 y2 y3 y4 y5 HB Jk c0 c1 c2 c3 Gi Ef HB1 hb1 hb2 hb1' hb2' hw0 Va Vb U7;generalize (wr.heap.size+1)=P at *;generalize wr.heap.size=Q at *;go_wp2_with fail
      refine (U0 W1.heap.size u.locals al al' cl cl' _ (hide BQ.out.locals) (hide Av.out.locals) hll).mono ?_;rintro e w2 ⟨rfl,d2,rfl⟩;go_wp2
      go_loopw [106] (fun i wr3=>∃ j d:Nat,j≤u.code.length∧i=.int .i64 j∧wr3=W1.drewN d) (fun i _=>u.code.length - (intOf i).toNat)
      case atStart=>exact⟨0,d2,Nat.zero_le _,rfl,rfl⟩
      case round =>
       obtain⟨j,d,hj,rfl,rfl⟩:=hrel;by_cases hjl:j<u.code.length
       ·obtain⟨x,hx⟩:∃ x,u.code[j]?=some x:=⟨_,List.getElem?_eq_getElem hjl⟩
        obtain⟨_,_,_,g1,r1,hac,_,x0,x1,x2⟩:=BQ.out.code j x hx;obtain⟨_,_,_,g2,r2,OI,_,y0,y1,y2⟩:=Av.out.code j x hx;subst hac OI;have ie:=U5 x.op x.a x.n;have m0:(0:Int)≤(j:Int):=by omega
        have m1:(j:Int)<(u.code.length:Int):=by omega
        clear hx;go_wp2
        go_quiet (fail)
        go_wp2
        go_roundw
        case rel=>exact⟨j+1,_,by omega,by go_num,rfl⟩
        case measure=>simp[intOf];omega
       ·go_wp2
        go_roundw
        case rel=>exact⟨k+1,by omega,by go_num,(uF.out.trans ⟨rfl,rfl,rfl,Nat.le_refl _,fun _ _=>rfl⟩)⟩
        case measure=>simp[intOf];omega
    ·go_wp2
     go_ret
     exact⟨rfl,Jk.out⟩
end Go.Proofs.YtbdpdjcdhclbfaaGreat.Ow
