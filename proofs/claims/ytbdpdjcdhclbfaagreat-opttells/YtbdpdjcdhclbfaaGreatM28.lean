/- The document's answer,chapter 7,walked: WHAT ITS Head ANSWERS. -/
import Derived.Test.YtbdpdjcdhclbfaaGreatM27
set_option maxRecDepth 100000
set_option maxHeartbeats 8000000
namespace Go.Proofs.YtbdpdjcdhclbfaaGreat
open Go.RowKit
theorem TT {u:Vf.Un}:Vf.sized u=true ↔ u.locals.length≤200∧0≤u.params∧u.params≤6∧u.params≤u.locals.length∧(u.kind=4→u.params=0)∧0<u.code.length∧u.code.length≤4000:=by
 unfold Vf.sized;simp only[Bool.and_eq_true,decide_eq_true_eq];by_cases h4:u.kind=4
 ·have e4:(u.kind==4)=true:=by simpa using h4
  rw[e4];simp only[if_true];omega
 ·have e4:(u.kind==4)=false:=by simpa using h4
  rw[e4];simp only[Bool.false_eq_true,if_false];omega
structure NV (m:Vf.Md) (u:Vf.Un) (W0:World) (er:Int) (k:Nat) (W:World):Prop where
 le:k≤u.locals.length
 grown:W0.grownBy W none
 rest:er=if (u.locals.drop k).all (fun t=>Vf.plain t || Vf.is m 3 (t - 10)) then 0 else 9
theorem abN (m:Vf.Md)(ab au:Option Addr)(cb cu:Nat)(u:Vf.Un)(al ac:Option Addr)(cl cc:Nat)(w:World)(h:Vf.zo u=false) :
  Calls Tryz.prog 42 #[aT m ab au cb cu,jm u al ac cl cc] w fun e w'=>e=.returned (.int .i64 1)∧w.grownBy w' none:=by
 have HG2:Hid (w.grownBy ((w.alloc (uM m ab au cb cu)).alloc (gP u al ac cl cc)) none):=aF _ _ _;have hk:u.kind<2∨4<u.kind:=by
  unfold Vf.zo at h;simp at h;omega
 clear h;rcases hk with hk | hk
 ·skip
  go_enter Tryz.func42,Tryz.ntmps42
  go_wp2
  all_goals
   first
   | (exfalso;omega)
   | (go_ret;exact⟨rfl,aF _ _ _⟩)
 ·have hk2:¬ u.kind<2:=by omega
  go_enter Tryz.func42,Tryz.ntmps42
  go_wp2
  all_goals
   first
   | (exfalso;omega)
   | (go_ret;exact⟨rfl,aF _ _ _⟩)
theorem abO (m:Vf.Md)(ab au:Option Addr)(cb cu:Nat)(u:Vf.Un)(al ac:Option Addr)(cl cc:Nat)(w:World)(h1:Vf.zo u=true)(h:Vf.sized u=false) :
  Calls Tryz.prog 42 #[aT m ab au cb cu,jm u al ac cl cc] w fun e w'=>e=.returned (.int .i64 5)∧w.grownBy w' none:=by
 have HG2:Hid (w.grownBy ((w.alloc (uM m ab au cb cu)).alloc (gP u al ac cl cc)) none):=aF _ _ _;have hk:¬ u.kind<2∧¬ 4<u.kind:=by
  unfold Vf.zo at h1;simp at h1;omega
 obtain⟨k1,k2⟩:=hk;have hn:¬ (u.locals.length≤200∧0≤u.params∧u.params≤6∧u.params≤u.locals.length∧(u.kind=4→u.params=0)∧0<u.code.length∧u.code.length≤4000):=fun hh=>by
  rw[TT.2 hh] at h;cases h
 clear h h1;have q1:decide (u.kind<2)=false:=by simpa using k1
 have q2:decide (4<u.kind)=false:=by simpa using k2
 by_cases g1:(200:Int)<(u.locals.length:Int)
 ·have d1:decide ((200:Int)<(u.locals.length:Int))=true:=by simpa using g1
  clear hn k1 k2 g1;go_enter Tryz.func42,Tryz.ntmps42
  go_wp2
  all_goals
   first
   | (exfalso;omega)
   | (go_ret;exact⟨rfl,aF _ _ _⟩)
 have d1:decide ((200:Int)<(u.locals.length:Int))=false:=by simpa using g1
 by_cases g2:u.params<0
 ·have d2:decide (u.params<0)=true:=by simpa using g2
  clear hn k1 k2 g1 g2;go_enter Tryz.func42,Tryz.ntmps42
  go_wp2
  all_goals
   first
   | (exfalso;omega)
   | (go_ret;exact⟨rfl,aF _ _ _⟩)
 have d2:decide (u.params<0)=false:=by simpa using g2
 by_cases g3:6<u.params
 ·have d3:decide (6<u.params)=true:=by simpa using g3
  clear hn k1 k2 g1 g2 g3;go_enter Tryz.func42,Tryz.ntmps42
  go_wp2
  all_goals
   first
   | (exfalso;omega)
   | (go_ret;exact⟨rfl,aF _ _ _⟩)
 have d3:decide (6<u.params)=false:=by simpa using g3
 by_cases g4:(u.locals.length:Int)<u.params
 ·have d4:decide ((u.locals.length:Int)<u.params)=true:=by simpa using g4
  clear hn k1 k2 g1 g2 g3 g4;go_enter Tryz.func42,Tryz.ntmps42
  go_wp2
  all_goals
   first
   | (exfalso;omega)
   | (go_ret;exact⟨rfl,aF _ _ _⟩)
 have d4:decide ((u.locals.length:Int)<u.params)=false:=by simpa using g4
 by_cases g5:u.kind=4∧u.params≠0
 ·obtain⟨g5,g6⟩:=g5
  have e4:(u.kind==4)=true:=by simpa using g5
  have e5:(u.params != 0)=true:=by simpa using g6
  clear hn g5 g6 k1 k2 g1 g2 g3 g4;go_enter Tryz.func42,Tryz.ntmps42
  go_wp2
  all_goals
   first
   | (exfalso;omega)
   | (go_ret;exact⟨rfl,aF _ _ _⟩)
 have e45:(u.kind==4)=false∨((u.kind==4)=true∧(u.params != 0)=false):=by
  by_cases h4:u.kind=4
  ·right
   have:u.params=0:=Classical.byContradiction fun hh=>g5 ⟨h4,hh⟩;simp[h4,this]
  ·left
   simpa using h4
 by_cases g6:(u.code.length:Int)=0
 ·have e6:((u.code.length:Int)==0)=true:=by simpa using g6
  clear hn g5 g6 k1 k2 g1 g2 g3 g4;rcases e45 with e4 | ⟨e4,e5⟩
  ·skip
   go_enter Tryz.func42,Tryz.ntmps42
   go_wp2
   all_goals
    first
    | (exfalso;omega)
    | (go_ret;exact⟨rfl,aF _ _ _⟩)
  ·skip
   go_enter Tryz.func42,Tryz.ntmps42
   go_wp2
   all_goals
    first
    | (exfalso;omega)
    | (go_ret;exact⟨rfl,aF _ _ _⟩)
 ·have e6:((u.code.length:Int)==0)=false:=by simpa using g6
  have g7:(4000:Int)<(u.code.length:Int):=by
   refine Classical.byContradiction fun hh=>hn ⟨by omega,by omega,by omega,by omega,fun h4=>?_,by omega,by omega⟩;exact Classical.byContradiction fun h5=>g5 ⟨h4,h5⟩
  have d7:decide ((4000:Int)<(u.code.length:Int))=true:=by simpa using g7
  clear hn g5 g6 k1 k2 g1 g2 g3 g4 g7;rcases e45 with e4 | ⟨e4,e5⟩
  ·skip
   go_enter Tryz.func42,Tryz.ntmps42
   go_wp2
   all_goals
    first
    | (exfalso;omega)
    | (go_ret;exact⟨rfl,aF _ _ _⟩)
  ·skip
   go_enter Tryz.func42,Tryz.ntmps42
   go_wp2
   all_goals
    first
    | (exfalso;omega)
    | (go_ret;exact⟨rfl,aF _ _ _⟩)
theorem abP (m:Vf.Md)(ab au:Option Addr)(cb cu B:Nat)(u:Vf.Un)(al ac:Option Addr)(cl cc:Nat)(w:World)(hmd:Hid (aD B w m ab au))(hun:Hid (ig B w u al ac cl cc))(hB:B≤w.heap.size)(hmu:m.units.length≤30)(h1:Vf.zo u=true)(h2:Vf.sized u=true)(er:Int)(hr:Hid (er=if Vf.typed m u=true then 0 else 9)) :
  Calls Tryz.prog 42 #[aT m ab au cb cu,jm u al ac cl cc] w fun e w'=>e=.returned (.int .i64 er)∧w.grownBy w' none:=by
 obtain⟨W0,hW0⟩:∃ W0:World,(w.alloc (uM m ab au cb cu)).alloc (gP u al ac cl cc)=W0:=⟨_,rfl⟩;have HG2:Hid (w.grownBy W0 none):=by rw[← hW0];exact aF _ _ _
 have vH:Hid (W0.heap[w.heap.size]?=some (uM m ab au cb cu)):=by rw[← hW0];exact (Below.heap_alloc _ _ _ (by simp)).trans (heap_alloc_new w _)
 have HW0:=hide hW0;clear hW0;have hk:¬ u.kind<2∧¬ 4<u.kind:=by
  unfold Vf.zo at h1;simp at h1;omega
 obtain⟨k1,k2⟩:=hk;obtain⟨s1,s2,s3,s4,s5,s6,s7⟩:=TT.1 h2;have q1:decide (u.kind<2)=false:=by simpa using k1
 have q2:decide (4<u.kind)=false:=by simpa using k2
 have d1:decide ((200:Int)<(u.locals.length:Int))=false:=by simp;omega
 have d2:decide (u.params<0)=false:=by simp;omega
 have d3:decide (6<u.params)=false:=by simp;omega
 have d4:decide ((u.locals.length:Int)<u.params)=false:=by simp;omega
 have e6:((u.code.length:Int)==0)=false:=by rw[beq_eq_false_iff_ne];omega
 have d7:decide ((4000:Int)<(u.code.length:Int))=false:=by simp;omega
 have HB:Hid (er=if (((u.kind==4 || Vf.plain u.result) && (u.kind != 3 || Vf.plain u.takes)) && u.locals.all (fun t=>Vf.plain t || Vf.is m 3 (t - 10)))=true then 0 else 9):=hr.out;obtain⟨p1,hp1⟩:∃ p,p=Vf.plain u.result:=⟨_,rfl⟩;obtain⟨p2,hp2⟩:∃ p,p=Vf.plain u.takes:=⟨_,rfl⟩;rw[← hp1,← hp2] at HB;have uE:=hide hp1;have vM:=hide hp2;have uX:=hide s5;clear hr hp1 hp2 h1 h2 k1 k2 s2 s3 s4 s5 s6 s7;cases e4:(u.kind==4) with
 | true =>
  have e4':(u.kind != 4)=false:=by simp at e4;simp[e4]
  have e3:(u.kind==3)=false:=by simp at e4;simp[e4]
  have e3':(u.kind != 3)=true:=by simp at e4;simp[e4]
  have e5:(u.params != 0)=false:=by have:=uX.out (by simpa using e4);simp[this]
  have HT:Hid (er=if (u.locals.drop 0).all (fun t=>Vf.plain t || Vf.is m 3 (t - 10)) then 0 else 9):=by unfold Hid;rw[HB.out,e4,e3'];simp
  go_enter Tryz.func42,Tryz.ntmps42
  go_wp2_with fail
  go_loopw [82] (fun v wr=>∃ k:Nat,v=.int .i64 k∧NV m u W0 er k wr) (fun v _=>u.locals.length - (intOf v).toNat)
  case atStart=>exact⟨0,rfl,Nat.zero_le _,by rw[← HW0.out];exact World.grownBy.refl _ _,HT.out⟩
  case round =>
   obtain⟨k,rfl,hA⟩:=hrel;have HA:=hide hA;have hk:=hA.le;clear hA;have HG:Hid (w.grownBy wr none):=aJ HG2.out HA.out.grown;by_cases hlt:k<u.locals.length
   ·obtain⟨t,ht⟩:∃ t,u.locals[k]?=some t:=⟨_,List.getElem?_eq_getElem hlt⟩
    have hlow:Low B w wr:=aK HG.out hB;obtain⟨h64,bl,ol,hal,hbl,ct⟩:=(hun.out.locals.low hlow) k t ht;have hub:wr.heap[w.heap.size]?=some (uM m ab au cb cu):=(aC HA.out.grown (lt_of_block vH.out)).trans vH.out;obtain⟨y0,y1,_⟩:=lF hub;have xz:Hid (aD B wr m ab au):=hmd.out.low hlow;have hwr:w.heap.size<wr.heap.size:=lt_of_block hub;have HN:Hid (er=if ((Vf.plain t || Vf.is m 3 (t - 10)) && (u.locals.drop (k+1)).all (fun t=>Vf.plain t || Vf.is m 3 (t - 10))) then 0 else 9):=by
     unfold Hid;obtain⟨hk',hte⟩:=List.getElem?_eq_some_iff.1 ht;rw[HA.out.rest,List.drop_eq_getElem_cons hk',hte,List.all_cons]
    obtain⟨p,hp⟩:∃ p,p=Vf.plain t:=⟨_,rfl⟩;rw[← hp] at HN;have uq:=hide hp;have vO:=hide h64;have yN:=hide hal;clear ht hub hlow h64 hp;rw[yN.out];cases p with
    | true =>
     have aX:Hid (er=if (u.locals.drop (k+1)).all (fun t=>Vf.plain t || Vf.is m 3 (t - 10)) then 0 else 9):=by rw[HN.out];rfl
     go_wp2_with fail
     refine (xL t _ true uq).mono ?_;rintro e w2 ⟨rfl,rfl⟩;go_wp2
     go_roundw
     case rel=>exact⟨k+1,by go_num,hlt,HA.out.grown,aX.out⟩
     case measure=>simp[intOf];omega
    | false =>
     by_cases Af:t<10
     ·have d10:decide (t<10)=true:=by simpa using Af
      have aX:Hid (er=9):=by
       unfold Hid;rw[HN.out,F7 (by omega)];rfl
      go_wp2_with fail
      refine (xL t _ false uq).mono ?_;rintro e w2 ⟨rfl,rfl⟩;go_wp2
      go_ret
      rw[aX.out];exact⟨rfl,HG.out⟩
     ·have d10:decide (t<10)=false:=by simpa using Af
      obtain⟨q,hq⟩:∃ q,q=Vf.is m 3 (t - 10):=⟨_,rfl⟩;have aX:Hid (er=if (q && (u.locals.drop (k+1)).all (fun t=>Vf.plain t || Vf.is m 3 (t - 10))) then 0 else 9):=by rw[HN.out,hq];rfl
      obtain⟨d,hd⟩:∃ d:Int,d=IntKind.i64.wrap (t - 10):=⟨_,rfl⟩;have HQ:Hid (q=Vf.is m 3 d):=by
       unfold Hid;rw[hq,hd];exact F8 hmu vO.out
      have hd':=hd.symm;clear hd hq Af;go_wp2_with fail
      refine (xL t _ false uq).mono ?_;rintro e w2 ⟨rfl,rfl⟩;go_wp2_with fail
      refine (IZ m ab au cb cu B 3 d _ xz (by omega) q HQ).mono ?_;rintro e w3 ⟨rfl,rfl⟩;cases q with
      | true =>
       have jh:Hid (er=if (u.locals.drop (k+1)).all (fun t=>Vf.plain t || Vf.is m 3 (t - 10)) then 0 else 9):=by rw[aX.out];rfl
       go_wp2
       go_roundw
       case rel=>exact⟨k+1,by go_num,hlt,ai HA.out.grown _,jh.out⟩
       case measure=>simp[intOf];omega
      | false =>
       have jh:Hid (er=9):=by rw[aX.out];rfl
       go_wp2
       go_ret
       rw[jh.out];exact⟨rfl,ai HG.out _⟩
   ·have HN:Hid (er=0):=by unfold Hid;rw[HA.out.rest,List.drop_eq_nil_of_le (by omega)];rfl
    go_wp2
    go_ret
    rw[HN.out];exact⟨rfl,HG.out⟩
 | false =>
  have e4':(u.kind != 4)=true:=by simp at e4;simp[e4]
  cases p1 with
  | false =>
   have HN:Hid (er=9):=by rw[HB.out,e4];rfl
   go_enter Tryz.func42,Tryz.ntmps42
   go_wp2_with fail
   refine (xL u.result _ false uE).mono ?_;rintro e w2 ⟨rfl,rfl⟩;go_wp2
   go_ret
   rw[HN.out];exact⟨rfl,aF _ _ _⟩
  | true =>
   cases e3:(u.kind==3) with
   | false =>
    have e3':(u.kind != 3)=true:=by simp at e3;simp[e3]
    have HT:Hid (er=if (u.locals.drop 0).all (fun t=>Vf.plain t || Vf.is m 3 (t - 10)) then 0 else 9):=by unfold Hid;rw[HB.out,e4,e3'];simp
    go_enter Tryz.func42,Tryz.ntmps42
    go_wp2_with fail
    refine (xL u.result _ true uE).mono ?_;rintro e w2 ⟨rfl,rfl⟩;go_wp2_with fail
    go_loopw [82] (fun v wr=>∃ k:Nat,v=.int .i64 k∧NV m u W0 er k wr) (fun v _=>u.locals.length - (intOf v).toNat)
    case atStart=>exact⟨0,rfl,Nat.zero_le _,by rw[← HW0.out];exact World.grownBy.refl _ _,HT.out⟩
    case round =>
     obtain⟨k,rfl,hA⟩:=hrel;have HA:=hide hA;have hk:=hA.le;clear hA;have HG:Hid (w.grownBy wr none):=aJ HG2.out HA.out.grown;by_cases hlt:k<u.locals.length
     ·obtain⟨t,ht⟩:∃ t,u.locals[k]?=some t:=⟨_,List.getElem?_eq_getElem hlt⟩
      have hlow:Low B w wr:=aK HG.out hB;obtain⟨h64,bl,ol,hal,hbl,ct⟩:=(hun.out.locals.low hlow) k t ht;have hub:wr.heap[w.heap.size]?=some (uM m ab au cb cu):=(aC HA.out.grown (lt_of_block vH.out)).trans vH.out;obtain⟨y0,y1,_⟩:=lF hub;have xz:Hid (aD B wr m ab au):=hmd.out.low hlow;have hwr:w.heap.size<wr.heap.size:=lt_of_block hub;have HN:Hid (er=if ((Vf.plain t || Vf.is m 3 (t - 10)) && (u.locals.drop (k+1)).all (fun t=>Vf.plain t || Vf.is m 3 (t - 10))) then 0 else 9):=by
       unfold Hid;obtain⟨hk',hte⟩:=List.getElem?_eq_some_iff.1 ht;rw[HA.out.rest,List.drop_eq_getElem_cons hk',hte,List.all_cons]
      obtain⟨p,hp⟩:∃ p,p=Vf.plain t:=⟨_,rfl⟩;rw[← hp] at HN;have uq:=hide hp;have vO:=hide h64;have yN:=hide hal;clear ht hub hlow h64 hp;rw[yN.out];cases p with
      | true =>
       have aX:Hid (er=if (u.locals.drop (k+1)).all (fun t=>Vf.plain t || Vf.is m 3 (t - 10)) then 0 else 9):=by rw[HN.out];rfl
       go_wp2_with fail
       refine (xL t _ true uq).mono ?_;rintro e w2 ⟨rfl,rfl⟩;go_wp2
       go_roundw
       case rel=>exact⟨k+1,by go_num,hlt,HA.out.grown,aX.out⟩
       case measure=>simp[intOf];omega
      | false =>
       by_cases Af:t<10
       ·have d10:decide (t<10)=true:=by simpa using Af
        have aX:Hid (er=9):=by
         unfold Hid;rw[HN.out,F7 (by omega)];rfl
        go_wp2_with fail
        refine (xL t _ false uq).mono ?_;rintro e w2 ⟨rfl,rfl⟩;go_wp2
        go_ret
        rw[aX.out];exact⟨rfl,HG.out⟩
       ·have d10:decide (t<10)=false:=by simpa using Af
        obtain⟨q,hq⟩:∃ q,q=Vf.is m 3 (t - 10):=⟨_,rfl⟩;have aX:Hid (er=if (q && (u.locals.drop (k+1)).all (fun t=>Vf.plain t || Vf.is m 3 (t - 10))) then 0 else 9):=by rw[HN.out,hq];rfl
        obtain⟨d,hd⟩:∃ d:Int,d=IntKind.i64.wrap (t - 10):=⟨_,rfl⟩;have HQ:Hid (q=Vf.is m 3 d):=by
         unfold Hid;rw[hq,hd];exact F8 hmu vO.out
        have hd':=hd.symm;clear hd hq Af;go_wp2_with fail
        refine (xL t _ false uq).mono ?_;rintro e w2 ⟨rfl,rfl⟩;go_wp2_with fail
        refine (IZ m ab au cb cu B 3 d _ xz (by omega) q HQ).mono ?_;rintro e w3 ⟨rfl,rfl⟩;cases q with
        | true =>
         have jh:Hid (er=if (u.locals.drop (k+1)).all (fun t=>Vf.plain t || Vf.is m 3 (t - 10)) then 0 else 9):=by rw[aX.out];rfl
         go_wp2
         go_roundw
         case rel=>exact⟨k+1,by go_num,hlt,ai HA.out.grown _,jh.out⟩
         case measure=>simp[intOf];omega
        | false =>
         have jh:Hid (er=9):=by rw[aX.out];rfl
         go_wp2
         go_ret
         rw[jh.out];exact⟨rfl,ai HG.out _⟩
     ·have HN:Hid (er=0):=by unfold Hid;rw[HA.out.rest,List.drop_eq_nil_of_le (by omega)];rfl
      go_wp2
      go_ret
      rw[HN.out];exact⟨rfl,HG.out⟩
   | true =>
    have e3':(u.kind != 3)=false:=by simp at e3;simp[e3]
    cases p2 with
    | false =>
     have HN:Hid (er=9):=by rw[HB.out,e4,e3'];rfl
     go_enter Tryz.func42,Tryz.ntmps42
     go_wp2_with fail
     refine (xL u.result _ true uE).mono ?_;rintro e w2 ⟨rfl,rfl⟩;go_wp2_with fail
     refine (xL u.takes _ false vM).mono ?_;rintro e w3 ⟨rfl,rfl⟩;go_wp2
     go_ret
     rw[HN.out];exact⟨rfl,aF _ _ _⟩
    | true =>
     have HT:Hid (er=if (u.locals.drop 0).all (fun t=>Vf.plain t || Vf.is m 3 (t - 10)) then 0 else 9):=by unfold Hid;rw[HB.out,e4,e3'];simp
     go_enter Tryz.func42,Tryz.ntmps42
     go_wp2_with fail
     refine (xL u.result _ true uE).mono ?_;rintro e w2 ⟨rfl,rfl⟩;go_wp2_with fail
     refine (xL u.takes _ true vM).mono ?_;rintro e w3 ⟨rfl,rfl⟩;go_wp2_with fail
     go_loopw [82] (fun v wr=>∃ k:Nat,v=.int .i64 k∧NV m u W0 er k wr) (fun v _=>u.locals.length - (intOf v).toNat)
     case atStart=>exact⟨0,rfl,Nat.zero_le _,by rw[← HW0.out];exact World.grownBy.refl _ _,HT.out⟩
     case round =>
      obtain⟨k,rfl,hA⟩:=hrel;have HA:=hide hA;have hk:=hA.le;clear hA;have HG:Hid (w.grownBy wr none):=aJ HG2.out HA.out.grown;by_cases hlt:k<u.locals.length
      ·obtain⟨t,ht⟩:∃ t,u.locals[k]?=some t:=⟨_,List.getElem?_eq_getElem hlt⟩
       have hlow:Low B w wr:=aK HG.out hB;obtain⟨h64,bl,ol,hal,hbl,ct⟩:=(hun.out.locals.low hlow) k t ht;have hub:wr.heap[w.heap.size]?=some (uM m ab au cb cu):=(aC HA.out.grown (lt_of_block vH.out)).trans vH.out;obtain⟨y0,y1,_⟩:=lF hub;have xz:Hid (aD B wr m ab au):=hmd.out.low hlow;have hwr:w.heap.size<wr.heap.size:=lt_of_block hub;have HN:Hid (er=if ((Vf.plain t || Vf.is m 3 (t - 10)) && (u.locals.drop (k+1)).all (fun t=>Vf.plain t || Vf.is m 3 (t - 10))) then 0 else 9):=by
        unfold Hid;obtain⟨hk',hte⟩:=List.getElem?_eq_some_iff.1 ht;rw[HA.out.rest,List.drop_eq_getElem_cons hk',hte,List.all_cons]
       obtain⟨p,hp⟩:∃ p,p=Vf.plain t:=⟨_,rfl⟩;rw[← hp] at HN;have uq:=hide hp;have vO:=hide h64;have yN:=hide hal;clear ht hub hlow h64 hp;rw[yN.out];cases p with
       | true =>
        have aX:Hid (er=if (u.locals.drop (k+1)).all (fun t=>Vf.plain t || Vf.is m 3 (t - 10)) then 0 else 9):=by rw[HN.out];rfl
        go_wp2_with fail
        refine (xL t _ true uq).mono ?_;rintro e w2 ⟨rfl,rfl⟩;go_wp2
        go_roundw
        case rel=>exact⟨k+1,by go_num,hlt,HA.out.grown,aX.out⟩
        case measure=>simp[intOf];omega
       | false =>
        by_cases Af:t<10
        ·have d10:decide (t<10)=true:=by simpa using Af
         have aX:Hid (er=9):=by
          unfold Hid;rw[HN.out,F7 (by omega)];rfl
         go_wp2_with fail
         refine (xL t _ false uq).mono ?_;rintro e w2 ⟨rfl,rfl⟩;go_wp2
         go_ret
         rw[aX.out];exact⟨rfl,HG.out⟩
        ·have d10:decide (t<10)=false:=by simpa using Af
         obtain⟨q,hq⟩:∃ q,q=Vf.is m 3 (t - 10):=⟨_,rfl⟩;have aX:Hid (er=if (q && (u.locals.drop (k+1)).all (fun t=>Vf.plain t || Vf.is m 3 (t - 10))) then 0 else 9):=by rw[HN.out,hq];rfl
         obtain⟨d,hd⟩:∃ d:Int,d=IntKind.i64.wrap (t - 10):=⟨_,rfl⟩;have HQ:Hid (q=Vf.is m 3 d):=by
          unfold Hid;rw[hq,hd];exact F8 hmu vO.out
         have hd':=hd.symm;clear hd hq Af;go_wp2_with fail
         refine (xL t _ false uq).mono ?_;rintro e w2 ⟨rfl,rfl⟩;go_wp2_with fail
         refine (IZ m ab au cb cu B 3 d _ xz (by omega) q HQ).mono ?_;rintro e w3 ⟨rfl,rfl⟩;cases q with
         | true =>
          have jh:Hid (er=if (u.locals.drop (k+1)).all (fun t=>Vf.plain t || Vf.is m 3 (t - 10)) then 0 else 9):=by rw[aX.out];rfl
          go_wp2
          go_roundw
          case rel=>exact⟨k+1,by go_num,hlt,ai HA.out.grown _,jh.out⟩
          case measure=>simp[intOf];omega
         | false =>
          have jh:Hid (er=9):=by rw[aX.out];rfl
          go_wp2
          go_ret
          rw[jh.out];exact⟨rfl,ai HG.out _⟩
      ·have HN:Hid (er=0):=by unfold Hid;rw[HA.out.rest,List.drop_eq_nil_of_le (by omega)];rfl
       go_wp2
       go_ret
       rw[HN.out];exact⟨rfl,HG.out⟩
theorem abQ (m:Vf.Md)(ab au:Option Addr)(cb cu B:Nat)(u:Vf.Un)(al ac:Option Addr)(cl cc:Nat)(w:World)(hmd:Hid (aD B w m ab au))(hun:Hid (ig B w u al ac cl cc))(hB:B≤w.heap.size)(hmu:m.units.length≤30)(er:Int)(hr:Hid (er=Vf.jr m u)) :
  Calls Tryz.prog 42 #[aT m ab au cb cu,jm u al ac cl cc] w fun e w'=>e=.returned (.int .i64 er)∧w.grownBy w' none:=by
 have HR:=hr.out;unfold Vf.jr at HR;cases h1:Vf.zo u with
 | false =>
  rw[HR,if_pos h1];exact abN m ab au cb cu u al ac cl cc w h1
 | true =>
  rw[if_neg (by rw[h1];decide)] at HR;cases h2:Vf.sized u with
  | false =>
   rw[HR,if_pos h2];exact abO m ab au cb cu u al ac cl cc w h1 h2
  | true =>
   rw[if_neg (by rw[h2];decide)] at HR;refine abP m ab au cb cu B u al ac cl cc w hmd hun hB hmu h1 h2 er ?_;unfold Hid;rw[HR];cases Vf.typed m u<;>rfl
namespace Vf
def vS (m:Md)(k:Nat)(b:Bool):Int × Int × Int :=
 if (uw (rY m) (m.units.drop k) k).1=0 then (if (b && (m.units.drop k).all (fun u=>u.kind != 4))=true then (6,0,0) else (0,0,0)) else uw (rY m) (m.units.drop k) k
theorem abR {m:Md}{k:Nat}{u:Un}(b:Bool)(h:m.units[k]?=some u):vS m k b=if (rY m u).1=0 then vS m (k+1) (b && u.kind != 4) else ((rY m u).1,(k:Int),((rY m u).2:Int)):=by
 obtain⟨hk,rfl⟩:=List.getElem?_eq_some_iff.1 h;have e:uw (rY m) (m.units.drop k) k=if (rY m m.units[k]).1=0 then uw (rY m) (m.units.drop (k+1)) (k+1) else ((rY m m.units[k]).1,(k:Int),((rY m m.units[k]).2:Int)):=by
  rw[List.drop_eq_getElem_cons hk];rfl
 unfold vS;rw[e,List.drop_eq_getElem_cons hk,List.all_cons];by_cases h0:(rY m m.units[k]).1=0
 ·rw[if_pos h0,if_pos h0,Bool.and_assoc]
 ·rw[if_neg h0,if_neg h0,if_neg h0]
theorem abS {m:Md}{k:Nat}(b:Bool)(h:m.units.length≤k):vS m k b=if b=true then (6,0,0) else (0,0,0):=by
 unfold vS;rw[List.drop_eq_nil_of_le h];simp[uw]
theorem abT (m:Md):from' m 4 0=if wR m=0 then (if (gT rM m.boxes 0).1=0 then vS m 0 true else ((gT rM m.boxes 0).1,0,((gT rM m.boxes 0).2:Int))) else (5,0,0):=by
 have ht:H7 m=if (m.units.all (fun u=>u.kind != 4))=true then 6 else 0:=by
  unfold H7;have e:m.units.any (fun u=>u.kind==4)=!(m.units.all (fun u=>u.kind != 4)):=by
   rw[List.not_all_eq_any_not];congr 1
   funext u
   cases h:(u.kind==4)<;>simp_all
  rw[e];cases m.units.all (fun u=>u.kind != 4)<;>rfl
 unfold from'
 simp only[looks];by_cases h0:wR m=0
 ·rw[if_pos h0,if_pos h0]
  unfold from'
  simp only[looks,Fj];by_cases h1:(gT rM m.boxes 0).1=0
  ·rw[if_pos h1,if_pos h1]
   unfold from' vS
   simp only[looks,List.drop_zero,Bool.true_and];by_cases h2:(uw (rY m) m.units 0).1=0
   ·rw[if_pos h2,if_pos h2]
    unfold from'
    simp only[looks];rw[ht];by_cases h3:(m.units.all (fun u=>u.kind != 4))=true
    ·rw[if_pos h3,if_pos h3,if_neg (by decide)]
    ·rw[if_neg h3,if_neg h3,if_pos rfl]
     rfl
   ·rw[if_neg h2,if_neg h2]
  ·rw[if_neg h1,if_neg h1]
 ·rw[if_neg h0,if_neg h0]
  have:wR m=5:=by
   unfold wR at h0 ⊢;split
   ·rfl
   ·rename_i h;rw[if_neg h] at h0;exact absurd rfl h0
  rw[this]
end Vf
structure vC (m:Vf.Md) (ab au:Option Addr) (cb cu:Nat) (w W:World):Prop where
 grown:w.grownBy W none
 mb:W.heap[w.heap.size]?=some (uM m ab au cb cu)
 wz:W.heap[w.heap.size+1]?=some aU
theorem vC.next {m:Vf.Md}{ab au:Option Addr}{cb cu:Nat}{w W W':World}(h:vC m ab au cb cu w W)(hg:W.grownBy W' none):vC m ab au cb cu w W' :=
 ⟨aJ h.grown hg,(aC hg (lt_of_block h.mb)).trans h.mb,(aC hg (lt_of_block h.wz)).trans h.wz⟩
theorem vC.new {m:Vf.Md}{ab au:Option Addr}{cb cu:Nat}{w W:World}(h:vC m ab au cb cu w W)(o:Obj):vC m ab au cb cu w (W.alloc o):=h.next (ai (World.grownBy.refl _ _) _)
theorem Eo {w:World}{N:Nat}{u:Vf.Un}{al ac:Option Addr}{cl cc:Nat}(h:w.heap[N]?=some (gP u al ac cl cc)):w.cell? ⟨N,0,none⟩=some (.int .i64 u.kind)∧w.cell? ⟨N,1,none⟩=some (.int .i64 u.params)∧w.cell? ⟨N,2,none⟩=some (.slice al u.locals.length cl)∧w.cell? ⟨N,3,none⟩=some (.int .i64 u.result)∧w.cell? ⟨N,4,none⟩=some (.int .i64 u.takes)∧w.cell? ⟨N,5,none⟩=some (.slice ac u.code.length cc):=by
 simp[World.cell?,h]
def Gv (m:Vf.Md)(r:Int × Int × Int)(k:Nat):Prop:=r=if (Vf.gT Vf.rM (m.boxes.drop k) k).1=0 then Vf.vS m 0 true else ((Vf.gT Vf.rM (m.boxes.drop k) k).1,0,((Vf.gT Vf.rM (m.boxes.drop k) k).2:Int))
def I1 (m:Vf.Md)(u:Vf.Un)(k:Nat)(nx r:Int × Int × Int)(j:Nat):Prop:=r=if (Vf.gT (Vf.aA m u) (u.code.drop j) j).1=0 then nx else ((Vf.gT (Vf.aA m u) (u.code.drop j) j).1,(k:Int),((Vf.gT (Vf.aA m u) (u.code.drop j) j).2:Int))
theorem abU (m:Vf.Md)(ab au:Option Addr)(cb cu B:Nat)(w:World)(hmd:Hid (aD B w m ab au))(hB:B≤w.heap.size)(r:Int × Int × Int)(hr:Hid (r=Vf.from' m 4 0)) :
  Calls Tryz.prog 23 #[aT m ab au cb cu] w fun e w'=>e=.returned (gM r.1 r.2.1 r.2.2)∧w.grownBy w' none:=by
 have HR:Hid (r=if Vf.wR m=0 then (if (Vf.gT Vf.rM m.boxes 0).1=0 then Vf.vS m 0 true else ((Vf.gT Vf.rM m.boxes 0).1,0,((Vf.gT Vf.rM m.boxes 0).2:Int))) else (5,0,0)):=by
  unfold Hid;rw[hr.out,Vf.abT]
 clear hr;obtain⟨W0,hW0⟩:∃ W0:World,(w.alloc (uM m ab au cb cu)).alloc aU=W0:=⟨_,rfl⟩;have HT:Hid (vC m ab au cb cu w W0):=by
  rw[← hW0];exact⟨aF _ _ _,(Below.heap_alloc _ _ _ (by simp)).trans (heap_alloc_new w _),zC _ _ _⟩
 obtain⟨m0,m1,_⟩:=lF HT.out.mb;obtain⟨⟨z0,z1,z2⟩,y0,y1,y2⟩:=aP HT.out.wz;have hz0:=lt_of_block HT.out.wz;by_cases hs:30<m.boxes.length∨30<m.units.length
 ·have HE:Hid (r=(5,0,0)):=by
   have:Vf.wR m=5:=by unfold Vf.wR;rw[if_pos hs]
   unfold Hid;rw[HR.out,this,if_neg (by decide)]
  clear HR;rcases hs with hs | hs
  ·go_enter Tryz.func23,Tryz.ntmps23
   go_wp2_with fail
   refine bodyPost_ret (v:=gM 5 0 0) (by simp[results,Tryz.results23,go_sem,z0,z1,z2]) rfl ?_;rw[HE.out];exact⟨rfl,af (af (af HT.out.grown (by omega) _ _) (by omega) _ _) (by omega) _ _⟩
  ·by_cases hs1:30<m.boxes.length
   ·go_enter Tryz.func23,Tryz.ntmps23
    go_wp2_with fail
    refine bodyPost_ret (v:=gM 5 0 0) (by simp[results,Tryz.results23,go_sem,z0,z1,z2]) rfl ?_;rw[HE.out];exact⟨rfl,af (af (af HT.out.grown (by omega) _ _) (by omega) _ _) (by omega) _ _⟩
   ·go_enter Tryz.func23,Tryz.ntmps23
    go_wp2_with fail
    refine bodyPost_ret (v:=gM 5 0 0) (by simp[results,Tryz.results23,go_sem,z0,z1,z2]) rfl ?_;rw[HE.out];exact⟨rfl,af (af (af HT.out.grown (by omega) _ _) (by omega) _ _) (by omega) _ _⟩
 have n1:¬ 30<m.boxes.length:=fun h=>hs (.inl h);have n2:¬ 30<m.units.length:=fun h=>hs (.inr h);have En:Hid (Gv m r 0):=by
  unfold Hid Gv;have:Vf.wR m=0:=by unfold Vf.wR;rw[if_neg hs]
  rw[HR.out,if_pos this];rfl
 clear HR hs;go_enter Tryz.func23,Tryz.ntmps23
 go_wp2_with fail
 go_loopw [26] (fun v wr=>∃ k:Nat,v=.int .i64 k∧k≤m.boxes.length∧vC m ab au cb cu w wr∧Gv m r k) (fun v _=>m.boxes.length - (intOf v).toNat)
 case atStart=>exact⟨0,rfl,Nat.zero_le _,HT.out,En.out⟩
 case round =>
  clear m0 m1 z0 z1 z2 y0 y1 y2 hz0 En HT;obtain⟨k,rfl,hk,hA,hby⟩:=hrel;have HA:=hide hA;have uS:=hide hby;obtain⟨m0,m1,_⟩:=lF HA.out.mb;obtain⟨⟨z0,z1,z2⟩,y0,y1,y2⟩:=aP HA.out.wz;have wm:=hide HA.out.wz;have hzl:=lt_of_block HA.out.wz;clear hA hby;by_cases hlt:k<m.boxes.length
  ·obtain⟨x,hx⟩:∃ x,m.boxes[k]?=some x:=⟨_,List.getElem?_eq_getElem hlt⟩
   obtain⟨i1,i2,b,off,ha,hb,b0,b1⟩:=(hmd.out.low (aK HA.out.grown hB)).boxes k x hx;have HN:Hid (r=if Vf.rM x=0 then (if (Vf.gT Vf.rM (m.boxes.drop (k+1)) (k+1)).1=0 then Vf.vS m 0 true else ((Vf.gT Vf.rM (m.boxes.drop (k+1)) (k+1)).1,0,((Vf.gT Vf.rM (m.boxes.drop (k+1)) (k+1)).2:Int))) else (Vf.rM x,0,(k:Int))):=by
    unfold Hid;have h1:=uS.out;unfold Gv at h1;rw[Gh _ hx] at h1;rw[h1];by_cases h0:Vf.rM x=0
    ·rw[if_pos h0,if_pos h0]
    ·rw[if_neg h0,if_neg h0,if_neg h0]
   obtain⟨p,hp⟩:∃ p,p=Vf.plain x.ty:=⟨_,rfl⟩;have HP:=hide hp;have Ab:Hid (Vf.rM x=if p=false then 9 else if x.cap<1∨20<x.cap then 3 else 0):=by unfold Hid;unfold Vf.rM;rw[hp]
   have hk1:(k:Int)<(m.boxes.length:Int):=by omega
   clear hx hp uS;subst ha;go_wp2_with fail
   refine (xL x.ty _ p HP).mono ?_;rintro e w2 ⟨rfl,hw2⟩;subst hw2;cases p with
   | false =>
    have HE:Hid (r=(9,0,(k:Int))):=by
     have h1:=HN.out;have ho:Vf.rM x=9:=Ab.out;rw[ho,if_neg (by decide)] at h1;exact h1
    go_wp2
    have hX:=jd wm.out (.int .i64 9) (.int .i64 0) (.int .i64 (k:Int));obtain⟨⟨g0,g1,g2⟩,_⟩:=aP ((Below.heap_alloc _ (.cells #[.int .i64 x.ty,.int .i64 x.cap] 36) _ (lt_of_block hX)).trans hX);refine bodyPost_ret (v:=gM 9 0 (k:Int)) (by simp[results,Tryz.results23,go_sem,g0,g1,g2]) rfl ?_;rw[HE.out];exact⟨rfl,ai (af (af (af HA.out.grown (by omega) _ _) (by omega) _ _) (by omega) _ _) _⟩
   | true =>
    by_cases hc:x.cap<1∨20<x.cap
    ·have HE:Hid (r=(3,0,(k:Int))):=by
      have h1:=HN.out;have ho:Vf.rM x=3:=by rw[Ab.out,if_neg (by decide),if_pos hc]
      rw[ho,if_neg (by decide)] at h1;exact h1
     rcases hc with hc | hc
     ·have d1:decide (x.cap<1)=true:=by simpa using hc
      go_wp2
      have hX:=jd wm.out (.int .i64 3) (.int .i64 0) (.int .i64 (k:Int));obtain⟨⟨g0,g1,g2⟩,_⟩:=aP ((Below.heap_alloc _ (.cells #[.int .i64 x.ty,.int .i64 x.cap] 36) _ (lt_of_block hX)).trans hX);refine bodyPost_ret (v:=gM 3 0 (k:Int)) (by simp[results,Tryz.results23,go_sem,g0,g1,g2]) rfl ?_;rw[HE.out];exact⟨rfl,ai (af (af (af HA.out.grown (by omega) _ _) (by omega) _ _) (by omega) _ _) _⟩
     ·have d1:decide (x.cap<1)=false:=by simp;omega
      have d2:decide (20<x.cap)=true:=by simpa using hc
      go_wp2
      have hX:=jd wm.out (.int .i64 3) (.int .i64 0) (.int .i64 (k:Int));obtain⟨⟨g0,g1,g2⟩,_⟩:=aP ((Below.heap_alloc _ (.cells #[.int .i64 x.ty,.int .i64 x.cap] 36) _ (lt_of_block hX)).trans hX);refine bodyPost_ret (v:=gM 3 0 (k:Int)) (by simp[results,Tryz.results23,go_sem,g0,g1,g2]) rfl ?_;rw[HE.out];exact⟨rfl,ai (af (af (af HA.out.grown (by omega) _ _) (by omega) _ _) (by omega) _ _) _⟩
    ·have d1:decide (x.cap<1)=false:=by simp;omega
     have d2:decide (20<x.cap)=false:=by simp;omega
     have HE:Hid (Gv m r (k+1)):=by
      have h1:=HN.out;have ho:Vf.rM x=0:=by rw[Ab.out,if_neg (by decide),if_neg hc]
      rw[ho,if_pos rfl] at h1;exact h1
     clear hc;go_wp2
     go_roundw
     case rel=>exact⟨k+1,by go_num,hlt,HA.out.new _,HE.out⟩
     case measure=>simp[intOf];omega
  ·have zi:Hid (r=Vf.vS m 0 true):=by
    have h1:=uS.out;unfold Gv at h1;rw[List.drop_eq_nil_of_le (by omega)] at h1;exact h1
   clear uS;go_wp2_with fail
   go_loopw [5,51] (fun v5 v wr=>∃ (k:Nat) (b:Bool),v=.int .i64 k∧v5=.bool b∧k≤m.units.length∧vC m ab au cb cu w wr∧r=Vf.vS m k b) (fun _ v _=>m.units.length - (intOf v).toNat)
   case atStart=>exact⟨0,true,rfl,rfl,Nat.zero_le _,HA.out,zi.out⟩
   case round =>
    clear m0 m1 z0 z1 z2 y0 y1 y2 hzl wm HA zi;obtain⟨k,b,rfl,rfl,hk,hA,hby⟩:=hrel;have HA:=hide hA;have uS:=hide hby;obtain⟨m0,m1,_⟩:=lF HA.out.mb;obtain⟨⟨z0,z1,z2⟩,y0,y1,y2⟩:=aP HA.out.wz;have hzl:=lt_of_block HA.out.wz;clear hA hby;by_cases hlt:k<m.units.length
    ·obtain⟨u,hu⟩:∃ u,m.units[k]?=some u:=⟨_,List.getElem?_eq_getElem hlt⟩
     obtain⟨bb,off,al,cl,ac,cc,ha,hb,jB,u0,u1,u2,u3,u4,u5⟩:=(hmd.out.low (aK HA.out.grown hB)).units k u hu;have HN:Hid (r=if Vf.jr m u=0 then (if (Vf.gT (Vf.aA m u) (u.code.drop 0) 0).1=0 then Vf.vS m (k+1) (b && u.kind != 4) else ((Vf.gT (Vf.aA m u) (u.code.drop 0) 0).1,(k:Int),((Vf.gT (Vf.aA m u) (u.code.drop 0) 0).2:Int))) else (Vf.jr m u,(k:Int),0)):=by
      unfold Hid;rw[uS.out,Vf.abR b hu];unfold Vf.rY;by_cases h0:Vf.jr m u=0
      ·rw[if_pos h0,if_pos h0];rfl
      ·rw[if_neg h0,if_neg h0,if_neg h0];rfl
     have HU:=hide hu;have Aa:=hide jB;have I4:Hid (∀ W,Low B w W→ig B W u al ac cl cc):=fun W hW=>jB.low (fun j hj=>(hW j hj).trans (aK HA.out.grown hB j hj).symm);have hcl:u.code.length≤9223372036854775807:=Aa.out.few.2;have hk1:(k:Int)<(m.units.length:Int):=by omega
     obtain⟨he,NW⟩:∃ he,he=Vf.jr m u:=⟨_,rfl⟩;rw[← NW] at HN;have HHE:=hide NW;have hbw:bb<wr.heap.size:=by have:=HA.out.grown.size;omega
     have xM:w.heap.size<wr.heap.size:=by omega
     clear hu jB NW uS;subst ha;go_wp2_with fail
     have aH:Hid (wr.grownBy (wr.alloc (gP u al ac cl cc)) none):=ai (World.grownBy.refl _ _) _;have uH:Hid (aD B (wr.alloc (gP u al ac cl cc)) m _ _):=hmd.out.low (aK (aJ HA.out.grown aH.out) hB);have TU:Hid (ig B (wr.alloc (gP u al ac cl cc)) u al ac cl cc):=Aa.out.low (aK aH.out (by have:=HA.out.grown.size;omega));refine (abQ m _ _ cb cu B u al ac cl cc _ uH TU (by have:=HA.out.grown.size;simp;omega) (by omega) he HHE).mono ?_;rintro e w2 ⟨rfl,hg2⟩;have HA2:Hid (vC m _ _ cb cu w w2):=(HA.out.new (gP u al ac cl cc)).next hg2;have vD:Hid (w2.heap[wr.heap.size]?=some (gP u al ac cl cc)):=(aC hg2 (by simp)).trans (heap_alloc_new wr _);generalize hN:wr.heap.size=N at vD ⊢;clear m0 m1 z0 z1 z2 y0 y1 y2 hzl HA aH uH TU hg2 hN hbw u0 u1 u2 u3 u4 u5;obtain⟨m0,m1,_⟩:=lF HA2.out.mb;obtain⟨⟨z0,z1,z2⟩,y0,y1,y2⟩:=aP HA2.out.wz;have hzl:=lt_of_block HA2.out.wz;obtain⟨u0,u1,u2,u3,u4,u5⟩:=Eo vD.out;by_cases h0:he=0
     ·have e0:(he != 0)=false:=by simpa using h0
      have TV:Hid (I1 m u k (Vf.vS m (k+1) (b && u.kind != 4)) r 0):=by
       have h1:=HN.out;rw[if_pos h0] at h1;exact h1
      clear h0 HN;go_wp2_with fail
      go_loopw [67] (fun v wr=>∃ j:Nat,v=.int .i64 j∧j≤u.code.length∧vC m _ _ cb cu w wr∧wr.heap[N]?=some (gP u al ac cl cc)∧I1 m u k (Vf.vS m (k+1) (b && u.kind != 4)) r j) (fun v _=>u.code.length - (intOf v).toNat)
      case atStart=>exact⟨0,rfl,Nat.zero_le _,HA2.out,vD.out,TV.out⟩
      case round =>
       clear m0 m1 z0 z1 z2 y0 y1 y2 hzl HA2 TV vD u0 u1 u2 u3 u4 u5;obtain⟨j,rfl,hj,hA,hub,hby⟩:=hrel;have HA:=hide hA;have uS:=hide hby;have vD:=hide hub;obtain⟨m0,m1,_⟩:=lF HA.out.mb;obtain⟨⟨z0,z1,z2⟩,y0,y1,y2⟩:=aP HA.out.wz;have hzl:=lt_of_block HA.out.wz;obtain⟨u0,u1,u2,u3,u4,u5⟩:=Eo vD.out;have TW:=lt_of_block vD.out;clear hA hby hub;by_cases hjl:j<u.code.length
       ·obtain⟨c,hc⟩:∃ c,u.code[j]?=some c:=⟨_,List.getElem?_eq_getElem hjl⟩
        have hmw:aD B wr m ab _:=hmd.out.low (aK HA.out.grown hB);have TY:Hid (ig B wr u al ac cl cc):=I4.out wr (aK HA.out.grown hB);obtain⟨i1,i2,i3,b2,MF,hac,hb2,c0,c1,c2⟩:=TY.out.code j c hc;have uH:=hide hmw;have aX:Hid (r=if Vf.aA m u c=0 then (if (Vf.gT (Vf.aA m u) (u.code.drop (j+1)) (j+1)).1=0 then Vf.vS m (k+1) (b && u.kind != 4) else ((Vf.gT (Vf.aA m u) (u.code.drop (j+1)) (j+1)).1,(k:Int),((Vf.gT (Vf.aA m u) (u.code.drop (j+1)) (j+1)).2:Int))) else (Vf.aA m u c,(k:Int),(j:Int))):=by
         unfold Hid;have h1:=uS.out;unfold I1 at h1;rw[Gh _ hc] at h1;rw[h1];by_cases h0:Vf.aA m u c=0
         ·rw[if_pos h0,if_pos h0]
         ·rw[if_neg h0,if_neg h0,if_neg h0]
        obtain⟨op,a,n⟩:=c;obtain⟨fe,hfe⟩:∃ fe,fe=Vf.aA m u ⟨op,a,n⟩:=⟨_,rfl⟩;rw[← hfe] at aX;have gU:=hide hfe;have hj1:(j:Int)<(u.code.length:Int):=by omega
        have hbw:b2<wr.heap.size:=by have:=HA.out.grown.size;omega
        have xM:w.heap.size<wr.heap.size:=by omega
        clear hc hfe hmw uS uH TY;subst hac;go_wp2_with fail
        have aH:Hid (wr.grownBy (wr.alloc (.cells #[.int .i64 op,.int .i64 a,.int .i64 n] 47)) none):=ai (World.grownBy.refl _ _) _;have uH:Hid (aD B (wr.alloc (.cells #[.int .i64 op,.int .i64 a,.int .i64 n] 47)) m _ _):=hmd.out.low (aK (aJ HA.out.grown aH.out) hB);refine (abM m _ _ cb cu B u al _ cl cc op a n _ uH (by have:=HA.out.grown.size;simp;omega) fe gU).mono ?_;rintro e w3 ⟨rfl,hg3⟩;have zI:Hid (vC m _ _ cb cu w w3):=(HA.out.new _).next hg3;have abW:Hid (w3.heap[N]?=some (gP u al _ cl cc)):=(aC hg3 (by simp;omega)).trans ((Below.heap_alloc _ _ _ TW).trans vD.out);clear m0 m1 z0 z1 z2 y0 y1 y2 hzl aH uH hg3 hbw u0 u1 u2 u3 u4 u5 c0 c1 c2 TW vD;obtain⟨⟨z0,z1,z2⟩,y0,y1,y2⟩:=aP zI.out.wz;have hzl:=lt_of_block zI.out.wz;by_cases h0:fe=0
        ·have e0:(fe != 0)=false:=by simpa using h0
         have HE:Hid (I1 m u k (Vf.vS m (k+1) (b && u.kind != 4)) r (j+1)):=by
          have h1:=aX.out;rw[if_pos h0] at h1;exact h1
         clear h0 aX;go_wp2
         go_roundw
         case rel=>exact⟨j+1,by go_num,hjl,zI.out,abW.out,HE.out⟩
         case measure=>simp[intOf];omega
        ·have e0:(fe != 0)=true:=by simpa using h0
         have HE:Hid (r=(fe,(k:Int),(j:Int))):=by
          have h1:=aX.out;rw[if_neg h0] at h1;exact h1
         clear h0 aX;go_wp2
         refine bodyPost_ret (v:=gM fe (k:Int) (j:Int)) (by simp[results,Tryz.results23,go_sem,z0,z1,z2]) rfl ?_;rw[HE.out];exact⟨rfl,af (af (af zI.out.grown (by omega) _ _) (by omega) _ _) (by omega) _ _⟩
       ·have zi:Hid (r=Vf.vS m (k+1) (b && u.kind != 4)):=by
         have h1:=uS.out;unfold I1 at h1;rw[List.drop_eq_nil_of_le (by omega)] at h1;exact h1
        clear uS vD;cases b with
        | false =>
         go_wp2
         go_roundw
         case rel=>exact⟨k+1,false,by go_num,rfl,hlt,HA.out,zi.out⟩
         case measure=>simp[intOf];omega
        | true =>
         cases e4:(u.kind != 4) with
         | false =>
          have NY:Hid (r=Vf.vS m (k+1) false):=by have h1:=zi.out;rw[e4] at h1;exact h1
          clear zi;go_wp2
          go_roundw
          case rel=>exact⟨k+1,false,by go_num,rfl,hlt,HA.out,NY.out⟩
          case measure=>simp[intOf];omega
         | true =>
          have NY:Hid (r=Vf.vS m (k+1) true):=by have h1:=zi.out;rw[e4] at h1;exact h1
          clear zi;go_wp2
          go_roundw
          case rel=>exact⟨k+1,true,by go_num,rfl,hlt,HA.out,NY.out⟩
          case measure=>simp[intOf];omega
     ·have e0:(he != 0)=true:=by simpa using h0
      have HE:Hid (r=(he,(k:Int),0)):=by
       have h1:=HN.out;rw[if_neg h0] at h1;exact h1
      clear h0 HN;go_wp2
      refine bodyPost_ret (v:=gM he (k:Int) 0) (by simp[results,Tryz.results23,go_sem,z0,z1,z2]) rfl ?_;rw[HE.out];exact⟨rfl,af (af (af HA2.out.grown (by omega) _ _) (by omega) _ _) (by omega) _ _⟩
    ·have zi:Hid (r=if b=true then (6,0,0) else (0,0,0)):=by
      unfold Hid;rw[uS.out,Vf.abS b (by omega)]
     clear uS;cases b with
     | true =>
      have HE:Hid (r=(6,0,0)):=zi.out;go_wp2
      refine bodyPost_ret (v:=gM 6 0 0) (by simp[results,Tryz.results23,go_sem,z0,z1,z2]) rfl ?_;rw[HE.out];exact⟨rfl,af (af (af HA.out.grown (by omega) _ _) (by omega) _ _) (by omega) _ _⟩
     | false =>
      have HE:Hid (r=(0,0,0)):=zi.out;go_wp2
      refine bodyPost_ret (v:=gM 0 0 0) (by simp[results,Tryz.results23,go_sem,z0,z1,z2]) rfl ?_;rw[HE.out];exact⟨rfl,af (af (af HA.out.grown (by omega) _ _) (by omega) _ _) (by omega) _ _⟩
end Go.Proofs.YtbdpdjcdhclbfaaGreat
