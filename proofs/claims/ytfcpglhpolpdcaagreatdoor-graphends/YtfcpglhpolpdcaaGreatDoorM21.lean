/- The walks of is,kindly,sized,typed,ranged,head,forms. -/
import Derived.Test.YtfcpglhpolpdcaaGreatDoorM20
import Derived.MapKept
import Derived.Maps.RangeRun
import Derived.Test.YtfcpglhpolpdcaaGreatDoorM3
set_option maxRecDepth 100000
set_option maxHeartbeats 4000000
namespace Go.Proofs.YtfcpglhpolpdcaaGreatDoor
open Go.RowKit
abbrev eU (m:Vf.Md) (ab au:Option Addr) (cb cu:Nat):Value:=.agg #[.slice ab m.boxes.length cb,.slice au m.units.length cu]
abbrev ig (m:Vf.Md) (ab au:Option Addr) (cb cu:Nat):Obj:=.cells #[.slice ab m.boxes.length cb,.slice au m.units.length cu] 149 (0,0)
abbrev jq (c:FC):Value:=.agg #[.slice c.ab c.m.boxes.length c.cb,.slice c.au c.m.units.length c.cu,.int .i64 c.u.kind,.int .i64 c.u.params,.slice c.al c.u.locals.length c.cl,.int .i64 c.u.result,.int .i64 c.u.takes,.slice c.ac c.u.code.length c.cc]
abbrev dR (c:FC):Obj:=.cells #[.slice c.ab c.m.boxes.length c.cb,.slice c.au c.m.units.length c.cu,.int .i64 c.u.kind,.int .i64 c.u.params,.slice c.al c.u.locals.length c.cl,.int .i64 c.u.result,.int .i64 c.u.takes,.slice c.ac c.u.code.length c.cc] 190 (0,0)
theorem OC {m:Vf.Md}{k n:Int}(h:¬ 0≤n):Vf.is m k n=false:=by unfold Vf.is;simp[h]
theorem OD {m:Vf.Md}{k n:Int}(h:(m.units.length:Int)≤n):Vf.is m k n=false:=by
 unfold Vf.is;rw[List.getElem?_eq_none (by omega)];simp
theorem OE {m:Vf.Md}{k:Int}{n:Nat}{u:Vf.Un}(h:m.units[n]?=some u):Vf.is m k (n:Int)=(u.kind==k):=by
 unfold Vf.is;simp[h]
theorem Al (m:Vf.Md)(ab au:Option Addr)(cb cu B:Nat)(k n:Int)(w:World)(hm:Hid (aW B w m ab au))(hB:B≤w.heap.size)(b:Bool)(hb:Hid (b=Vf.is m k n)) :
  Calls Tryz.prog 170 #[eU m ab au cb cu,.int .i64 k,.int .i64 n] w fun e w'=>e=.returned (.bool b)∧w'=w.alloc (ig m ab au cb cu):=by
 by_cases h0:0≤n
 ·obtain⟨j,rfl⟩:=Zz h0
  by_cases h1:j<m.units.length
  ·obtain⟨u,hu⟩:∃ u,m.units[j]?=some u:=⟨_,List.getElem?_eq_getElem h1⟩
   obtain⟨bu,off,al,cl,ac,cc,ha,hbu,_,u0,_⟩:=hm.out.units j u hu;have HR:Hid (b=(u.kind==k)):=by rw[hb.out,OE hu];rfl
   have hd:(0:Int)≤(j:Int):=by omega
   have hd1:(j:Int)<(m.units.length:Int):=by omega
   have hbl:bu<w.heap.size:=by omega
   subst ha;clear hu hb;go_enter Tryz.func170,Tryz.ntmps170
   go_wp2
   go_ret
   rw[HR.out];exact⟨rfl,rfl⟩
  ·have HR:Hid (b=false):=by rw[hb.out,OD (by omega)];rfl
   have hd:(0:Int)≤(j:Int):=by omega
   have hd1:decide (j<m.units.length)=false:=by simpa using h1
   go_enter Tryz.func170,Tryz.ntmps170
   go_wp2
   go_ret
   rw[HR.out];exact⟨rfl,rfl⟩
 ·have HR:Hid (b=false):=by rw[hb.out,OC h0];rfl
  have hd:decide (0≤n)=false:=by simpa using h0
  go_enter Tryz.func170,Tryz.ntmps170
  go_wp2
  go_ret
  rw[HR.out];exact⟨rfl,rfl⟩
theorem uF {w:World}{N:Nat}{c:FC}(h:w.heap[N]?=some (dR c)):w.cell? ⟨N,0,none⟩=some (.slice c.ab c.m.boxes.length c.cb)∧w.cell? ⟨N,1,none⟩=some (.slice c.au c.m.units.length c.cu)∧w.cell? ⟨N,2,none⟩=some (.int .i64 c.u.kind)∧w.cell? ⟨N,3,none⟩=some (.int .i64 c.u.params)∧w.cell? ⟨N,4,none⟩=some (.slice c.al c.u.locals.length c.cl)∧w.cell? ⟨N,5,none⟩=some (.int .i64 c.u.result)∧w.cell? ⟨N,6,none⟩=some (.int .i64 c.u.takes)∧w.cell? ⟨N,7,none⟩=some (.slice c.ac c.u.code.length c.cc):=by
 simp[World.cell?,h]
theorem rT {b b':Bool}(h:b'=b):Ending.returned (Value.bool b')=Ending.returned (Value.bool b):=by rw[h]
theorem ZA (c:FC)(w:World)(b:Bool)(hb:Hid (b=Vf.zk c.u)) :
  Calls Tryz.prog 133 #[jq c] w fun e w'=>e=.returned (.bool b)∧w'=w.alloc (dR c):=by
 have HB:Hid (b=(c.u.kind==2 || c.u.kind==3 || c.u.kind==4)):=hb.out;clear hb;cases e2:(c.u.kind==2)
 ·cases e3:(c.u.kind==3)
  ·have HT:Hid (b=(c.u.kind==4)):=by rw[HB.out,e2,e3];rfl
   go_enter Tryz.func133,Tryz.ntmps133
   go_wp2
   go_ret
   rw[HT.out];exact⟨rfl,rfl⟩
  ·have HT:Hid (b=true):=by rw[HB.out,e2,e3];rfl
   go_enter Tryz.func133,Tryz.ntmps133
   go_wp2
   go_ret
   rw[HT.out];exact⟨rfl,rfl⟩
 ·have HT:Hid (b=true):=by rw[HB.out,e2];rfl
  go_enter Tryz.func133,Tryz.ntmps133
  go_wp2
  go_ret
  rw[HT.out];exact⟨rfl,rfl⟩
theorem ZB (c:FC)(w:World)(b:Bool)(hb:Hid (b=Vf.sized c.u)) :
  Calls Tryz.prog 134 #[jq c] w fun e w'=>e=.returned (.bool b)∧w'=w.alloc (dR c):=by
 go_enter Tryz.func134,Tryz.ntmps134
 go_wp2
 all_goals
  go_ret
  refine⟨rT ?_,rfl⟩;rw[hb.out];unfold Vf.sized;rw[Bool.eq_iff_iff];simp only[Bool.and_eq_true,decide_eq_true_eq];first | (simp[*]<;>omega) | (simp[*];done) | (split<;>simp<;>omega)
structure H8 (c:FC) (w:World) (b:Bool) (k:Nat) (W:World):Prop where
 le:k≤c.u.locals.length
 grown:w.grownBy W none
 rest:b=(c.u.locals.drop k).all (fun t=>Vf.plain t || Vf.is c.m 3 (t - 10))
theorem aR {w w':World}(h:w.grownBy w' none)(o:Obj):w.grownBy (w'.alloc o) none :=
 ⟨h.os,h.tape,h.output,by have:=h.size;simp;omega,fun k hk hne=>(Below.heap_alloc _ _ _ (by have:=h.size;omega)).trans (h.block k hk hne)⟩
theorem bY {w w':World}{b:Nat}(hg:w.grownBy w' none)(hb:b<w.heap.size):w'.heap[b]?=w.heap[b]?:=hg.block b hb (by simp)
theorem gD {B:Nat}{w w':World}(h:w.grownBy w' none)(hB:B≤w.heap.size):Low B w w':=fun k hk=>h.block k (by omega) (by simp)
theorem bZ {a b c:World}(h:a.grownBy b none)(k:b.grownBy c none):a.grownBy c none:=⟨k.os.trans h.os,k.tape.trans h.tape,k.output.trans h.output,Nat.le_trans h.size k.size,fun x hx hne=>(k.block x (by have:=h.size;omega) hne).trans (h.block x hx hne)⟩
theorem H9 {m:Vf.Md}(hmu:m.units.length≤30){t:Int}(h:bP t):Vf.is m 3 (t - 10)=Vf.is m 3 (IntKind.i64.wrap (t - 10)):=by
 by_cases h0:-9223372036854775808≤t - 10
 ·have e:IntKind.i64.wrap (t - 10)=t - 10:=by
   have:=h.2;simp[IntKind.wrap,IntKind.bits,IntKind.signed];omega
  rw[e]
 ·have e:(m.units.length:Int)≤IntKind.i64.wrap (t - 10):=by
   have:=h.1;simp[IntKind.wrap,IntKind.bits,IntKind.signed];omega
  rw[OD e,OC (by omega)]
theorem ZC (c:FC)(B:Nat)(w:World)(hmd:Hid (aW B w c.m c.ab c.au))(hun:Hid (gI B w c.u c.al c.ac c.cl c.cc))(hB:B≤w.heap.size)(hmu:c.m.units.length≤30)(b:Bool)(hb:Hid (b=Vf.typed c.m c.u)) :
  Calls Tryz.prog 135 #[jq c] w fun e w'=>e=.returned (.bool b)∧w.grownBy w' none:=by
 obtain⟨y0,y1,y2,y3,y4,y5,y6,y7⟩:=uF (heap_alloc_new w (dR c));have hlo:c.u.locals.length≤9223372036854775807:=hun.out.few.1;have HB:Hid (b=(((c.u.kind==4 || Vf.plain c.u.result) && (c.u.kind != 3 || Vf.plain c.u.takes)) && c.u.locals.all (fun t=>Vf.plain t || Vf.is c.m 3 (t - 10)))):=hb.out;obtain⟨p1,hp1⟩:∃ p,p=Vf.plain c.u.result:=⟨_,rfl⟩;obtain⟨p2,hp2⟩:∃ p,p=Vf.plain c.u.takes:=⟨_,rfl⟩;rw[← hp1,← hp2] at HB;have uG:=hide hp1;have xe:=hide hp2;clear hb hp1 hp2;cases e4:(c.u.kind==4) with
 | true =>
  have e4':(c.u.kind != 4)=false:=by simp at e4;simp[e4]
  have e3:(c.u.kind==3)=false:=by simp at e4;simp[e4]
  have e3':(c.u.kind != 3)=true:=by simp at e4;simp[e4]
  have HT:Hid (b=(c.u.locals.drop 0).all (fun t=>Vf.plain t || Vf.is c.m 3 (t - 10))):=by unfold Hid;rw[HB.out,e4,e3'];simp
  go_enter Tryz.func135,Tryz.ntmps135
  go_wp2_with fail
  go_loopw [33] (fun v wr=>∃ k:Nat,v=.int .i64 k∧H8 c (w.alloc (dR c)) b k wr) (fun v _=>c.u.locals.length - (intOf v).toNat)
  case atStart=>exact⟨0,rfl,Nat.zero_le _,World.grownBy.refl _ _,HT.out⟩
  case round =>
   obtain⟨k,rfl,hA⟩:=hrel;have HA:=hide hA;have hk:=hA.le;clear hA;by_cases hlt:k<c.u.locals.length
   ·obtain⟨t,ht⟩:∃ t,c.u.locals[k]?=some t:=⟨_,List.getElem?_eq_getElem hlt⟩
    have hlow:Low B w wr:=fun j hj=>(bY HA.out.grown (by simp;omega)).trans (Below.heap_alloc _ _ _ (by omega));obtain⟨h64,bl,ol,hal,hbl,ct⟩:=(hun.out.locals.low hlow) k t ht;have hub:wr.heap[w.heap.size]?=some (dR c):=(bY HA.out.grown (by simp)).trans (heap_alloc_new w _);obtain⟨y0,y1,_⟩:=uF hub;have lN:Hid (aW B wr c.m c.ab c.au):=hmd.out.low hlow;have hwr:w.heap.size<wr.heap.size:=lt_of_block hub;have HN:Hid (b=((Vf.plain t || Vf.is c.m 3 (t - 10)) && (c.u.locals.drop (k+1)).all (fun t=>Vf.plain t || Vf.is c.m 3 (t - 10)))):=by
     unfold Hid;obtain⟨hk',hte⟩:=List.getElem?_eq_some_iff.1 ht;rw[HA.out.rest,List.drop_eq_getElem_cons hk',hte,List.all_cons]
    obtain⟨p,hp⟩:∃ p,p=Vf.plain t:=⟨_,rfl⟩;rw[← hp] at HN;have rU:=hide hp;have lM:=hide h64;have uH:=hide hal;clear ht hub hlow h64 hp;rw[uH.out];cases p with
    | true =>
     have bK:Hid (b=(c.u.locals.drop (k+1)).all (fun t=>Vf.plain t || Vf.is c.m 3 (t - 10))):=by rw[HN.out];rfl
     go_wp2_with fail
     refine (lK t _ true rU).mono ?_;rintro e w2 ⟨rfl,rfl⟩;go_wp2
     go_roundw
     case rel=>exact⟨k+1,by go_num,hlt,HA.out.grown,bK.out⟩
     case measure=>simp[intOf];omega
    | false =>
     obtain⟨q,hq⟩:∃ q,q=Vf.is c.m 3 (t - 10):=⟨_,rfl⟩;have bK:Hid (b=(q && (c.u.locals.drop (k+1)).all (fun t=>Vf.plain t || Vf.is c.m 3 (t - 10)))):=by rw[HN.out,hq];rfl
     obtain⟨d,hd⟩:∃ d:Int,d=IntKind.i64.wrap (t - 10):=⟨_,rfl⟩;have HQ:Hid (q=Vf.is c.m 3 d):=by
      unfold Hid;rw[hq,hd];exact H9 hmu lM.out
     have hd':=hd.symm;clear hd hq;go_wp2_with fail
     refine (lK t _ false rU).mono ?_;rintro e w2 ⟨rfl,rfl⟩;go_wp2_with fail
     refine (Al c.m c.ab c.au c.cb c.cu B 3 d _ lN (by omega) q HQ).mono ?_;rintro e w3 ⟨rfl,rfl⟩;cases q with
     | true =>
      have oC:Hid (b=(c.u.locals.drop (k+1)).all (fun t=>Vf.plain t || Vf.is c.m 3 (t - 10))):=by rw[bK.out];rfl
      go_wp2
      go_roundw
      case rel=>exact⟨k+1,by go_num,hlt,aR HA.out.grown _,oC.out⟩
      case measure=>simp[intOf];omega
     | false =>
      have oC:Hid (b=false):=by rw[bK.out];rfl
      go_wp2
      go_ret
      rw[oC.out];exact⟨rfl,aR (bZ (aR (World.grownBy.refl _ _) _) HA.out.grown) _⟩
   ·have HN:Hid (b=true):=by unfold Hid;rw[HA.out.rest,List.drop_eq_nil_of_le (by omega)];rfl
    go_wp2
    go_ret
    rw[HN.out];exact⟨rfl,bZ (aR (World.grownBy.refl _ _) _) HA.out.grown⟩
 | false =>
  have e4':(c.u.kind != 4)=true:=by simp at e4;simp[e4]
  cases p1 with
  | false =>
   have HN:Hid (b=false):=by rw[HB.out,e4];rfl
   go_enter Tryz.func135,Tryz.ntmps135
   go_wp2_with fail
   refine (lK c.u.result _ false uG).mono ?_;rintro e w2 ⟨rfl,rfl⟩;go_wp2
   go_ret
   rw[HN.out];exact⟨rfl,aR (World.grownBy.refl _ _) _⟩
  | true =>
   cases e3:(c.u.kind==3) with
   | false =>
    have e3':(c.u.kind != 3)=true:=by simp at e3;simp[e3]
    have HT:Hid (b=(c.u.locals.drop 0).all (fun t=>Vf.plain t || Vf.is c.m 3 (t - 10))):=by unfold Hid;rw[HB.out,e4,e3'];simp
    go_enter Tryz.func135,Tryz.ntmps135
    go_wp2_with fail
    refine (lK c.u.result _ true uG).mono ?_;rintro e w2 ⟨rfl,rfl⟩;go_wp2_with fail
    go_loopw [33] (fun v wr=>∃ k:Nat,v=.int .i64 k∧H8 c (w.alloc (dR c)) b k wr) (fun v _=>c.u.locals.length - (intOf v).toNat)
    case atStart=>exact⟨0,rfl,Nat.zero_le _,World.grownBy.refl _ _,HT.out⟩
    case round =>
     obtain⟨k,rfl,hA⟩:=hrel;have HA:=hide hA;have hk:=hA.le;clear hA;by_cases hlt:k<c.u.locals.length
     ·obtain⟨t,ht⟩:∃ t,c.u.locals[k]?=some t:=⟨_,List.getElem?_eq_getElem hlt⟩
      have hlow:Low B w wr:=fun j hj=>(bY HA.out.grown (by simp;omega)).trans (Below.heap_alloc _ _ _ (by omega));obtain⟨h64,bl,ol,hal,hbl,ct⟩:=(hun.out.locals.low hlow) k t ht;have hub:wr.heap[w.heap.size]?=some (dR c):=(bY HA.out.grown (by simp)).trans (heap_alloc_new w _);obtain⟨y0,y1,_⟩:=uF hub;have lN:Hid (aW B wr c.m c.ab c.au):=hmd.out.low hlow;have hwr:w.heap.size<wr.heap.size:=lt_of_block hub;have HN:Hid (b=((Vf.plain t || Vf.is c.m 3 (t - 10)) && (c.u.locals.drop (k+1)).all (fun t=>Vf.plain t || Vf.is c.m 3 (t - 10)))):=by
       unfold Hid;obtain⟨hk',hte⟩:=List.getElem?_eq_some_iff.1 ht;rw[HA.out.rest,List.drop_eq_getElem_cons hk',hte,List.all_cons]
      obtain⟨p,hp⟩:∃ p,p=Vf.plain t:=⟨_,rfl⟩;rw[← hp] at HN;have rU:=hide hp;have lM:=hide h64;have uH:=hide hal;clear ht hub hlow h64 hp;rw[uH.out];cases p with
      | true =>
       have bK:Hid (b=(c.u.locals.drop (k+1)).all (fun t=>Vf.plain t || Vf.is c.m 3 (t - 10))):=by rw[HN.out];rfl
       go_wp2_with fail
       refine (lK t _ true rU).mono ?_;rintro e w2 ⟨rfl,rfl⟩;go_wp2
       go_roundw
       case rel=>exact⟨k+1,by go_num,hlt,HA.out.grown,bK.out⟩
       case measure=>simp[intOf];omega
      | false =>
       obtain⟨q,hq⟩:∃ q,q=Vf.is c.m 3 (t - 10):=⟨_,rfl⟩;have bK:Hid (b=(q && (c.u.locals.drop (k+1)).all (fun t=>Vf.plain t || Vf.is c.m 3 (t - 10)))):=by rw[HN.out,hq];rfl
       obtain⟨d,hd⟩:∃ d:Int,d=IntKind.i64.wrap (t - 10):=⟨_,rfl⟩;have HQ:Hid (q=Vf.is c.m 3 d):=by
        unfold Hid;rw[hq,hd];exact H9 hmu lM.out
       have hd':=hd.symm;clear hd hq;go_wp2_with fail
       refine (lK t _ false rU).mono ?_;rintro e w2 ⟨rfl,rfl⟩;go_wp2_with fail
       refine (Al c.m c.ab c.au c.cb c.cu B 3 d _ lN (by omega) q HQ).mono ?_;rintro e w3 ⟨rfl,rfl⟩;cases q with
       | true =>
        have oC:Hid (b=(c.u.locals.drop (k+1)).all (fun t=>Vf.plain t || Vf.is c.m 3 (t - 10))):=by rw[bK.out];rfl
        go_wp2
        go_roundw
        case rel=>exact⟨k+1,by go_num,hlt,aR HA.out.grown _,oC.out⟩
        case measure=>simp[intOf];omega
       | false =>
        have oC:Hid (b=false):=by rw[bK.out];rfl
        go_wp2
        go_ret
        rw[oC.out];exact⟨rfl,aR (bZ (aR (World.grownBy.refl _ _) _) HA.out.grown) _⟩
     ·have HN:Hid (b=true):=by unfold Hid;rw[HA.out.rest,List.drop_eq_nil_of_le (by omega)];rfl
      go_wp2
      go_ret
      rw[HN.out];exact⟨rfl,bZ (aR (World.grownBy.refl _ _) _) HA.out.grown⟩
   | true =>
    have e3':(c.u.kind != 3)=false:=by simp at e3;simp[e3]
    cases p2 with
    | false =>
     have HN:Hid (b=false):=by rw[HB.out,e4,e3'];rfl
     go_enter Tryz.func135,Tryz.ntmps135
     go_wp2_with fail
     refine (lK c.u.result _ true uG).mono ?_;rintro e w2 ⟨rfl,rfl⟩;go_wp2_with fail
     refine (lK c.u.takes _ false xe).mono ?_;rintro e w3 ⟨rfl,rfl⟩;go_wp2
     go_ret
     rw[HN.out];exact⟨rfl,aR (World.grownBy.refl _ _) _⟩
    | true =>
     have HT:Hid (b=(c.u.locals.drop 0).all (fun t=>Vf.plain t || Vf.is c.m 3 (t - 10))):=by unfold Hid;rw[HB.out,e4,e3'];simp
     go_enter Tryz.func135,Tryz.ntmps135
     go_wp2_with fail
     refine (lK c.u.result _ true uG).mono ?_;rintro e w2 ⟨rfl,rfl⟩;go_wp2_with fail
     refine (lK c.u.takes _ true xe).mono ?_;rintro e w3 ⟨rfl,rfl⟩;go_wp2_with fail
     go_loopw [33] (fun v wr=>∃ k:Nat,v=.int .i64 k∧H8 c (w.alloc (dR c)) b k wr) (fun v _=>c.u.locals.length - (intOf v).toNat)
     case atStart=>exact⟨0,rfl,Nat.zero_le _,World.grownBy.refl _ _,HT.out⟩
     case round =>
      obtain⟨k,rfl,hA⟩:=hrel;have HA:=hide hA;have hk:=hA.le;clear hA;by_cases hlt:k<c.u.locals.length
      ·obtain⟨t,ht⟩:∃ t,c.u.locals[k]?=some t:=⟨_,List.getElem?_eq_getElem hlt⟩
       have hlow:Low B w wr:=fun j hj=>(bY HA.out.grown (by simp;omega)).trans (Below.heap_alloc _ _ _ (by omega));obtain⟨h64,bl,ol,hal,hbl,ct⟩:=(hun.out.locals.low hlow) k t ht;have hub:wr.heap[w.heap.size]?=some (dR c):=(bY HA.out.grown (by simp)).trans (heap_alloc_new w _);obtain⟨y0,y1,_⟩:=uF hub;have lN:Hid (aW B wr c.m c.ab c.au):=hmd.out.low hlow;have hwr:w.heap.size<wr.heap.size:=lt_of_block hub;have HN:Hid (b=((Vf.plain t || Vf.is c.m 3 (t - 10)) && (c.u.locals.drop (k+1)).all (fun t=>Vf.plain t || Vf.is c.m 3 (t - 10)))):=by
        unfold Hid;obtain⟨hk',hte⟩:=List.getElem?_eq_some_iff.1 ht;rw[HA.out.rest,List.drop_eq_getElem_cons hk',hte,List.all_cons]
       obtain⟨p,hp⟩:∃ p,p=Vf.plain t:=⟨_,rfl⟩;rw[← hp] at HN;have rU:=hide hp;have lM:=hide h64;have uH:=hide hal;clear ht hub hlow h64 hp;rw[uH.out];cases p with
       | true =>
        have bK:Hid (b=(c.u.locals.drop (k+1)).all (fun t=>Vf.plain t || Vf.is c.m 3 (t - 10))):=by rw[HN.out];rfl
        go_wp2_with fail
        refine (lK t _ true rU).mono ?_;rintro e w2 ⟨rfl,rfl⟩;go_wp2
        go_roundw
        case rel=>exact⟨k+1,by go_num,hlt,HA.out.grown,bK.out⟩
        case measure=>simp[intOf];omega
       | false =>
        obtain⟨q,hq⟩:∃ q,q=Vf.is c.m 3 (t - 10):=⟨_,rfl⟩;have bK:Hid (b=(q && (c.u.locals.drop (k+1)).all (fun t=>Vf.plain t || Vf.is c.m 3 (t - 10)))):=by rw[HN.out,hq];rfl
        obtain⟨d,hd⟩:∃ d:Int,d=IntKind.i64.wrap (t - 10):=⟨_,rfl⟩;have HQ:Hid (q=Vf.is c.m 3 d):=by
         unfold Hid;rw[hq,hd];exact H9 hmu lM.out
        have hd':=hd.symm;clear hd hq;go_wp2_with fail
        refine (lK t _ false rU).mono ?_;rintro e w2 ⟨rfl,rfl⟩;go_wp2_with fail
        refine (Al c.m c.ab c.au c.cb c.cu B 3 d _ lN (by omega) q HQ).mono ?_;rintro e w3 ⟨rfl,rfl⟩;cases q with
        | true =>
         have oC:Hid (b=(c.u.locals.drop (k+1)).all (fun t=>Vf.plain t || Vf.is c.m 3 (t - 10))):=by rw[bK.out];rfl
         go_wp2
         go_roundw
         case rel=>exact⟨k+1,by go_num,hlt,aR HA.out.grown _,oC.out⟩
         case measure=>simp[intOf];omega
        | false =>
         have oC:Hid (b=false):=by rw[bK.out];rfl
         go_wp2
         go_ret
         rw[oC.out];exact⟨rfl,aR (bZ (aR (World.grownBy.refl _ _) _) HA.out.grown) _⟩
      ·have HN:Hid (b=true):=by unfold Hid;rw[HA.out.rest,List.drop_eq_nil_of_le (by omega)];rfl
       go_wp2
       go_ret
       rw[HN.out];exact⟨rfl,bZ (aR (World.grownBy.refl _ _) _) HA.out.grown⟩
abbrev Lk:Type:=Int × Int
abbrev LL:Type:=List (Lk × Int)
namespace Vf
def idx (k:Lk):LL→Nat
 | []=>0
 | p :: r=>if k=p.1 then 0 else idx k r+1
def cnt (k:Lk)(l:LL):Int:=((l[idx k l]?).map (·.2)).getD 0
def jr (k:Lk)(l:LL):LL:=if idx k l<l.length then l else l++[(k,0)]
def jQ (j:Nat)(v:Int)(l:LL):LL:=l.modify j (fun p=>(p.1,v))
def bump (k:Lk)(l:LL):LL:=jQ (idx k l) (cnt k l+1) (jr k l)
theorem DF (k:Lk):∀ l:LL,idx k l≤l.length
 | []=>Nat.le_refl _
 | p :: r=>by
  unfold idx;split
  ·exact Nat.zero_le _
  ·have:=DF k r;simp;omega
theorem rV {k:Lk}:∀ {l:LL},idx k l<l.length→∃ v,l[idx k l]?=some (k,v)
 | [],h=>by simp at h
 | p :: r,h=>by
  unfold idx at h ⊢;split
  ·rename_i hk
   exact⟨p.2,by rw[hk];rfl⟩
  ·rename_i hk
   rw[if_neg hk] at h;obtain⟨v,hv⟩:=rV (k:=k) (l:=r) (by simp at h;omega);exact⟨v,by simpa using hv⟩
theorem OG {k:Lk}{v:Int}:∀ {l:LL},¬ idx k l<l.length→idx k (l++[(k,v)])=l.length
 | [],_=>by simp[idx]
 | p :: r,h=>by
  unfold idx at h;by_cases hk:k=p.1
  ·rw[if_pos hk] at h;simp at h
  ·rw[if_neg hk] at h
   have:=OG (k:=k) (v:=v) (l:=r) (by simp at h;omega);show (if k=p.1 then 0 else idx k (r++[(k,v)])+1)=_
   rw[if_neg hk,this];rfl
theorem Ia (k:Lk)(l:LL):idx k (jr k l)=idx k l∧idx k l<(jr k l).length∧(jr k l)[idx k l]?=some (k,cnt k l):=by
 unfold jr;by_cases h:idx k l<l.length
 ·rw[if_pos h]
  obtain⟨v,hv⟩:=rV h;exact⟨rfl,h,by unfold cnt;rw[hv];rfl⟩
 ·rw[if_neg h]
  have e:idx k l=l.length:=by have:=DF k l;omega
  refine⟨(OG h).trans e.symm,by simp;omega,?_⟩;unfold cnt;rw[e];simp
end Vf
abbrev dW (k:Lk):Value:=.agg #[.int .i64 k.1,.int .i64 k.2]
def bM:LL→Nat→List MapEntry
 | [],_=>[]
 | p :: r,i=>{ key:=dW p.1,val:=.int .i64 p.2,born:=i } :: bM r (i+1)
theorem DI:∀ (l:LL) (i j:Nat),(bM l i)[j]?=(l[j]?).map (fun p=>{ key:=dW p.1,val:=.int .i64 p.2,born:=i+j })
 | [],_,_=>by simp[bM]
 | p :: r,i,0=>by simp[bM]
 | p :: r,i,j+1=>by
  have:=DI r (i+1) j;simp only[bM,List.getElem?_cons_succ];rw[this];congr 2
  funext p
  congr 1
  omega
theorem OH (k:Lk)(v:Int):∀ (l:LL) (i:Nat),bM (l++[(k,v)]) i=bM l i++[{ key:=dW k,val:=.int .i64 v,born:=i+l.length }]
 | [],i=>rfl
 | p :: r,i=>by
  simp only[bM,List.cons_append];rw[OH k v r (i+1)];congr 4
  simp;omega
theorem OI (v:Int):∀ (l:LL) (i j:Nat),(bM l i).modify j (fun e=>{ e with val:=.int .i64 v })=bM (Vf.jQ j v l) i
 | [],i,j=>by cases j<;>rfl
 | p :: r,i,0=>rfl
 | p :: r,i,j+1=>by
  show _ :: (bM r (i+1)).modify j _=_
  rw[OI v r (i+1) j];rfl
theorem OJ {k:Lk}:∀ (l:LL) (i j:Nat) (v:Int),l[j]?=some (k,v)→(bM l i).modify j (fun e=>{ e with key:=dW k })=bM l i
 | [],i,j,v,h=>by simp at h
 | p :: r,i,0,v,h=>by simp at h;subst h;rfl
 | p :: r,i,j+1,v,h=>by
  show _ :: (bM r (i+1)).modify j _=_
  rw[OJ r (i+1) j v (by simpa using h)];rfl
def eF (w:World)(M:Nat)(l:LL):Prop:=w.heap[M]?=some (.map (bM l 0).toArray l.length)
theorem Tryz.OL:(Tryz.prog.info? 3).map (fun i=>i.size)=some 1:=by kernel_rfl
theorem eq_int (d:Nat)(x y:Int)(w:World):(Op.equalIn (d+1) 3 (.int .i64 x) (.int .i64 y)).run Tryz.prog w=.ok (x==y) w:=by
 simp[Op.equalIn,run_underlying Tryz.underlying3]
theorem ZE (k k':Lk)(w:World):(Op.equal 205 (dW k) (dW k')).run Tryz.prog w=.ok (decide (k=k')) w:=by
 have hu:=run_underlying (P:=Tryz.prog) (w:=w) Tryz.underlying205;obtain⟨j,hj,hj2⟩:=Option.map_eq_some_iff.1 Tryz.OL;have p0:∀ (a b:Value) (w:World),(part 3 #[a,b] 0).run Tryz.prog w=.ok a w:=fun _ _ _=>by simp[part,sizeOf,typeInfo,hj,hj2]
 have p1:∀ (a b:Value) (w:World),(part 3 #[a,b] 1).run Tryz.prog w=.ok b w:=fun _ _ _=>by simp[part,sizeOf,typeInfo,hj,hj2]
 have hst:Tryz.prog.stoodInHeld 205=false:=by kernel_rfl
 have h:∀ d:Nat,(Op.equalIn (d+2) 205 (dW k) (dW k')).run Tryz.prog w=.ok (decide (k=k')) w:=fun d=>by
  rw[Op.equalIn];have hp:(Sem.program Sem.pure).run Tryz.prog w=.ok Tryz.prog w:=rfl;simp[hu,program,hp,hst,p0,p1,eq_int];obtain⟨a,b⟩:=k;obtain⟨a',b'⟩:=k';by_cases ha:a=a'
  ·by_cases hb:b=b'
   ·simp[ha,hb]
   ·simp[ha,hb]
  ·simp[ha]
 exact h 9998
def uI (k:Lk):LL→Nat→Option (Nat × Value)
 | [],_=>none
 | p :: r,i=>if k=p.1 then some (i,.int .i64 p.2) else uI k r (i+1)
theorem OM (k:Lk)(w:World):∀ (l:LL) (i:Nat),(Instr.findAsking 205 (dW k) (bM l i) i).run Tryz.prog w=.ok (uI k l i) w
 | [],i=>rfl
 | (k',v) :: r,i=>by
  have h:=ZE k k' w;have hr:=OM k w r (i+1);unfold bM Instr.findAsking uI;by_cases hk:k=k'
  ·subst hk
   simp[h]
  ·simp[h,hk,hr]
theorem Ib (k:Lk):∀ (l:LL) (i:Nat),uI k l i=if Vf.idx k l<l.length then some (i+Vf.idx k l,.int .i64 (Vf.cnt k l)) else none
 | [],i=>rfl
 | p :: r,i=>by
  unfold uI;by_cases hk:k=p.1
  ·have e:Vf.idx k (p :: r)=0:=by unfold Vf.idx;rw[if_pos hk]
   rw[if_pos hk,e,if_pos (by simp)];unfold Vf.cnt;rw[e];rfl
  ·have e:Vf.idx k (p :: r)=Vf.idx k r+1:=by rw[Vf.idx,if_neg hk]
   have ec:Vf.cnt k (p :: r)=Vf.cnt k r:=by unfold Vf.cnt;rw[e];rfl
   rw[if_neg hk,Ib k r (i+1),e,ec];by_cases h:Vf.idx k r<r.length
   ·rw[if_pos h,if_pos (by simp;omega),show i+1+Vf.idx k r=i+(Vf.idx k r+1) by omega]
   ·rw[if_neg h,if_neg (by simp;omega)]
theorem OO (k:Lk)(l:LL)(w:World):(Instr.findKey 205 (dW k) (bM l 0)).run Tryz.prog w=.ok (uI k l 0) w:=by
 have hu:=run_underlying (P:=Tryz.prog) (w:=w) Tryz.underlying205;have hr:=OM k w l 0;cases l with
 | nil=>simp[Instr.findKey,hu,bM,Instr.findNow,uI]
 | cons p r =>
  have hn:∀ fs,Instr.findNow (.struct fs) (dW k) (bM (p :: r) 0) 0=none:=fun fs=>by
   unfold bM Instr.findNow;rfl
  simp[Instr.findKey,hu,hn,hr]
theorem DJ (k:Lk)(b:Bool)(w:World):(Instr.checkKey b 10000 205 (dW k)).run Tryz.prog w=.ok () w:=by
 have hu:=run_underlying (P:=Tryz.prog) (w:=w) Tryz.underlying205;obtain⟨j,hj,hj2⟩:=Option.map_eq_some_iff.1 Tryz.OL;have p0:∀ (a b:Value) (w:World),(part 3 #[a,b] 0).run Tryz.prog w=.ok a w:=fun _ _ _=>by simp[part,sizeOf,typeInfo,hj,hj2]
 have p1:∀ (a b:Value) (w:World),(part 3 #[a,b] 1).run Tryz.prog w=.ok b w:=fun _ _ _=>by simp[part,sizeOf,typeInfo,hj,hj2]
 have hk:∀ (x:Int),(Instr.checkKey b 9999 3 (.int .i64 x)).run Tryz.prog w=.ok () w:=fun x=>MapKept.run_checkKey (n:=9998) Tryz.underlying3 (by simp[MapKept.IsKey]) b;rw[show (10000:Nat)=9999+1 from rfl,Instr.checkKey];simp[hu,p0,p1,hk]
theorem Ic {k:Lk}{l:LL}(h:¬ Vf.idx k l<l.length):Vf.cnt k l=0:=by
 unfold Vf.cnt;rw[List.getElem?_eq_none (by omega)];rfl
theorem Ie {w:World}{M:Nat}{l:LL}(h:eF w M l)(k:Lk):(Instr.lookup 203 (.map (some M)) (dW k) false).run Tryz.prog w=.ok (.int .i64 (Vf.cnt k l)) w:=by
 unfold eF at h;have hg:(getObj M).run Tryz.prog w=.ok (.map (bM l 0).toArray l.length) w:=MapKept.run_getObj_map h;have hu:=run_underlying (P:=Tryz.prog) (w:=w) Tryz.underlying203;have hf:=OO k l w;rw[Ib] at hf;by_cases hi:Vf.idx k l<l.length
 ·rw[if_pos hi] at hf
  simp[Instr.lookup,hu,hg,DJ,hf]
 ·rw[if_neg hi] at hf
  simp[Instr.lookup,hu,hg,DJ,hf,Ic hi]
theorem Am {w:World}{M:Nat}{l:LL}(h:eF w M l)(l':LL):eF { w with heap:=w.heap.setIfInBounds M (.map (bM l' 0).toArray l'.length) } M l'∧w.grownBy { w with heap:=w.heap.setIfInBounds M (.map (bM l' 0).toArray l'.length) } (some M):=by
 obtain⟨m1,m2⟩:=MapKept.heap_set (o':=.map (bM l' 0).toArray l'.length) h;exact⟨m1,rfl,rfl,rfl,by simp,fun k _ hne=>m2 k (fun e=>hne (by rw[e]))⟩
theorem ZF {w:World}{M:Nat}{l:LL}(h:eF w M l)(k:Lk):∃ w1,(Instr.mapEntry 203 (.map (some M)) (dW k)).run Tryz.prog w=.ok (.tuple #[.int .i64 (Vf.cnt k l),goInt (Vf.idx k l)]) w1∧eF w1 M (Vf.jr k l)∧w.grownBy w1 (some M):=by
 have h0:=h;unfold eF at h;have hg:(getObj M).run Tryz.prog w=.ok (.map (bM l 0).toArray l.length) w:=MapKept.run_getObj_map h;have hu:=run_underlying (P:=Tryz.prog) (w:=w) Tryz.underlying203;have hf:=OO k l w;rw[Ib] at hf;by_cases hi:Vf.idx k l<l.length
 ·rw[if_pos hi] at hf
  obtain⟨v,hv⟩:=Vf.rV hi;have hes:(bM l 0)[Vf.idx k l]?=some { key:=dW k,val:=.int .i64 v,born:=0+Vf.idx k l }:=by
   rw[DI,hv];rfl
  have hst:(Instr.keyThatStays (dW k) (dW k)).run Tryz.prog w=.ok (dW k) w:=by
   unfold Instr.keyThatStays;simp[Instr.sameBits]
  have hmod:=OJ l 0 _ v hv;have hset:=MapKept.run_setObj_map (P:=Tryz.prog) (.map (bM l 0).toArray l.length) h;have he:Vf.jr k l=l:=by unfold Vf.jr;rw[if_pos hi]
  refine⟨_,?_,by rw[he];exact (Am h0 l).1,(Am h0 l).2⟩;simp only[Nat.zero_add] at hf hes;simp[Instr.mapEntry,hu,hg,DJ,hf,hes,hst,hmod,hset]
 ·rw[if_neg hi] at hf
  have hset:=MapKept.run_setObj_map (P:=Tryz.prog) (.map (bM (l++[(k,0)]) 0).toArray (l++[(k,0)]).length) h;have he:Vf.jr k l=l++[(k,0)]:=by unfold Vf.jr;rw[if_neg hi]
  have hpush:=OH k 0 l 0;rw[Nat.zero_add] at hpush;have hlen:(l++[(k,0)]).length=l.length+1:=by simp
  have hix:Vf.idx k l=l.length:=by have:=Vf.DF k l;omega
  rw[hlen] at hset;refine⟨_,?_,by rw[he];exact (Am h0 (l++[(k,0)])).1,(Am h0 (l++[(k,0)])).2⟩;rw[Ic hi,hix,hlen];simp[Instr.mapEntry,hu,hg,DJ,hf,← hpush,hset]
theorem find_born:∀ (l:LL) (i j:Nat),j<l.length→(bM l i).findIdx? (fun e=>((e.born:Int)==((i+j:Nat):Int)))=some j
 | [],i,j,h=>by simp at h
 | p :: r,i,0,h=>by simp[bM,List.findIdx?_cons]
 | p :: r,i,j+1,h=>by
  have:=find_born r (i+1) j (by simp at h;omega);rw[show i+1+j=i+(j+1) by omega] at this;simp only[bM,List.findIdx?_cons];rw[if_neg (by simp;omega),this];rfl
theorem ZG {w:World}{M:Nat}{l:LL}(h:eF w M l){j:Nat}(hj:j<l.length)(v:Int):∃ w1,(Instr.entryStore 203 (.map (some M)) (goInt j) (.int .i64 v)).run Tryz.prog w=.ok () w1∧eF w1 M (Vf.jQ j v l)∧w.grownBy w1 (some M):=by
 have h0:=h;unfold eF at h;have hg:(getObj M).run Tryz.prog w=.ok (.map (bM l 0).toArray l.length) w:=MapKept.run_getObj_map h;have hlen:(Vf.jQ j v l).length=l.length:=by unfold Vf.jQ;simp
 have hset:=MapKept.run_setObj_map (P:=Tryz.prog) (.map (bM (Vf.jQ j v l) 0).toArray l.length) h;have hfi:=find_born l 0 j hj;rw[Nat.zero_add] at hfi;have hmod:=OI v l 0 j;have hs:=Am h0 (Vf.jQ j v l);rw[hlen] at hs;refine⟨_,?_,hs.1,hs.2⟩;simp[Instr.entryStore,hg,goInt,asInt,asIntOf,hfi,hmod,hset]
theorem ZH {w:World}{M:Nat}{l:LL}(h:eF w M l)(k:Lk):∃ w1 w2,(Instr.mapEntry 203 (.map (some M)) (dW k)).run Tryz.prog w=.ok (.tuple #[.int .i64 (Vf.cnt k l),goInt (Vf.idx k l)]) w1∧(Instr.lookup 203 (.map (some M)) (dW k) false).run Tryz.prog w1=.ok (.int .i64 (Vf.cnt k l)) w1 ∧
  (Instr.entryStore 203 (.map (some M)) (.int .i64 ((Vf.idx k l:Nat):Int)) (.int .i64 (Vf.cnt k l+1))).run Tryz.prog w1=.ok () w2∧eF w2 M (Vf.bump k l)∧w.grownBy w1 (some M)∧w.grownBy w2 (some M):=by
 obtain⟨w1,h1,h2,h3⟩:=ZF h k;obtain⟨e1,e2,e3⟩:=Vf.Ia k l;obtain⟨w2,h4,h5,h6⟩:=ZG h2 e2 (Vf.cnt k l+1);have hl:=Ie h2 k;have ec:Vf.cnt k (Vf.jr k l)=Vf.cnt k l:=by
  conv=>lhs;unfold Vf.cnt
  rw[e1,e3];rfl
 rw[ec] at hl;exact⟨w1,w2,h1,hl,h4,h5,h3,⟨h6.os.trans h3.os,h6.tape.trans h3.tape,h6.output.trans h3.output,Nat.le_trans h3.size h6.size,fun j hj hne=>(h6.block j (by have:=h3.size;omega) hne).trans (h3.block j hj hne)⟩⟩
end Go.Proofs.YtfcpglhpolpdcaaGreatDoor
namespace Go.Proofs.YtfcpglhpolpdcaaGreatDoor
namespace Vf
theorem OP (k:Lk):∀ (l l':LL),l.map (·.1)=l'.map (·.1)→idx k l=idx k l'
 | [],[],_=>rfl
 | [],_ :: _,h=>by cases h
 | _ :: _,[],h=>by cases h
 | p :: r,p' :: r',h=>by
  simp only[List.map_cons,List.cons.injEq] at h;unfold idx;rw[h.1,OP k r r' h.2]
theorem OQ (j:Nat)(v:Int):∀ l:LL,(jQ j v l).map (·.1)=l.map (·.1):=by
 induction j with
 | zero=>intro l;cases l<;>rfl
 | succ j ih =>
  intro l;cases l with
  | nil=>rfl
  | cons p r =>
   show p.1 :: (jQ j v r).map (·.1)=_
   rw[ih r];rfl
theorem Ig (j:Nat)(v:Int):∀ (l:LL) (i:Nat),(jQ j v l)[i]?=if i=j then (l[i]?).map (fun p=>(p.1,v)) else l[i]?:=by
 intro l i;unfold jQ;rw[List.getElem?_modify];by_cases h:j=i
 ·subst h;simp
 ·rw[if_neg (fun e=>h e.symm)]
  cases l[i]?<;>simp[h]
theorem OT {k k':Lk}(hk:k'≠k)(v:Int):∀ l:LL,(idx k' (l++[(k,v)])<l.length ↔ idx k' l<l.length)∧(idx k' l<l.length→idx k' (l++[(k,v)])=idx k' l)∧(¬ idx k' l<l.length→idx k' (l++[(k,v)])=l.length+1)
 | []=>by simp[idx,hk]
 | p :: r=>by
  have ih:=OT hk v r;show ((if k'=p.1 then 0 else idx k' (r++[(k,v)])+1)<_ ↔ (if k'=p.1 then 0 else idx k' r+1)<_)∧_
  by_cases hp:k'=p.1
  ·refine⟨by simp[hp],fun _=>?_,fun h=>?_⟩
   ·show (if k'=p.1 then 0 else idx k' (r++[(k,v)])+1)=(if k'=p.1 then 0 else idx k' r+1)
    rw[if_pos hp,if_pos hp]
   ·exfalso
    apply h;show (if k'=p.1 then 0 else idx k' r+1)<_
    rw[if_pos hp];simp
  ·refine⟨?_,fun h=>?_,fun h=>?_⟩
   ·rw[if_neg hp,if_neg hp]
    simp only[List.length_cons];have:=ih.1;omega
   ·show (if k'=p.1 then 0 else idx k' (r++[(k,v)])+1)=(if k'=p.1 then 0 else idx k' r+1)
    have h':(if k'=p.1 then 0 else idx k' r+1)<(p :: r).length:=h;rw[if_neg hp] at h' ⊢;rw[if_neg hp,ih.2.1 (by simp at h';omega)]
   ·show (if k'=p.1 then 0 else idx k' (r++[(k,v)])+1)=_
    have h':¬ (if k'=p.1 then 0 else idx k' r+1)<(p :: r).length:=h;rw[if_neg hp] at h' ⊢;rw[ih.2.2 (by simp at h';omega)];rfl
theorem DK {k:Lk}{l:LL}(h:¬ idx k l<l.length):cnt k l=0:=Ic h
theorem rW (k k':Lk)(l:LL):cnt k' (bump k l)=if k'=k then cnt k l+1 else cnt k' l:=by
 obtain⟨e1,e2,e3⟩:=Ia k l;have hi:∀ q,idx q (bump k l)=idx q (jr k l):=fun q=>OP q _ _ (OQ _ _ _);by_cases hk:k'=k
 ·subst hk
  rw[if_pos rfl];conv=>lhs;unfold cnt
  rw[hi,e1];unfold bump;rw[Ig,if_pos rfl,e3];rfl
 ·rw[if_neg hk]
  conv=>lhs;unfold cnt
  rw[hi];unfold bump;unfold jr at e2 e3 ⊢;by_cases h:idx k l<l.length
  ·rw[if_pos h] at e2 e3 ⊢
   by_cases h':idx k' l<l.length
   ·obtain⟨v,hv⟩:=rV h
    obtain⟨v',hv'⟩:=rV h';have hne:idx k' l≠idx k l:=fun e=>by rw[e,hv] at hv';cases hv';exact hk rfl
    rw[Ig,if_neg hne];rfl
   ·rw[List.getElem?_eq_none (by unfold jQ;simp;omega),DK h']
    rfl
  ·rw[if_neg h] at e2 e3 ⊢
   obtain⟨o1,o2,o3⟩:=OT hk 0 l;have hkl:idx k l=l.length:=by have:=DF k l;omega
   by_cases h':idx k' l<l.length
   ·rw[o2 h',Ig,if_neg (by omega),List.getElem?_append_left h']
    rfl
   ·rw[o3 h',List.getElem?_eq_none (by unfold jQ;simp),DK h']
    rfl
structure Wl (l:LL):Prop where
 nodup:(l.map (·.1)).Nodup
 pos:∀ p ∈ l,1≤p.2
theorem uJ {p:Lk × Int}:∀ {l:LL},(l.map (·.1)).Nodup→p ∈ l→cnt p.1 l=p.2∧idx p.1 l<l.length
 | [],_,h=>by cases h
 | q :: r,hn,h=>by
  simp only[List.map_cons,List.nodup_cons] at hn;by_cases hq:p.1=q.1
  ·have hpq:p=q:=by
    rcases List.mem_cons.1 h with h1 | h1
    ·exact h1
    ·exact absurd (List.mem_map.2 ⟨p,h1,hq⟩) hn.1
   subst hpq;have e:idx p.1 (p :: r)=0:=by unfold idx;rw[if_pos rfl]
   unfold cnt;rw[e];exact⟨rfl,by simp⟩
  ·have hr:p ∈ r:=by
    rcases List.mem_cons.1 h with h1 | h1
    ·exact absurd (by rw[h1]) hq
    ·exact h1
   obtain⟨h1,h2⟩:=uJ hn.2 hr;have e:idx p.1 (q :: r)=idx p.1 r+1:=by rw[idx,if_neg hq]
   unfold cnt at h1 ⊢;rw[e];exact⟨h1,by simp;omega⟩
theorem OU {k:Lk}{l:LL}(h:idx k l<l.length):(k,cnt k l) ∈ l:=by
 obtain⟨v,hv⟩:=rV h;have e:cnt k l=v:=by unfold cnt;rw[hv];rfl
 rw[e];exact List.mem_of_getElem? hv
theorem xL {l:LL}(h:Wl l)(k:Lk):0≤cnt k l:=by
 by_cases hi:idx k l<l.length
 ·have:=h.pos _ (OU hi);simp at this;omega
 ·rw[DK hi];omega
theorem OV {l:LL}(h:Wl l){k:Lk}:idx k l<l.length ↔ 1≤cnt k l:=by
 constructor
 ·intro hi;exact h.pos _ (OU hi)
 ·intro hc
  by_cases hi:idx k l<l.length
  ·exact hi
  ·rw[DK hi] at hc;omega
theorem OW (k:Lk)(l:LL):(bump k l).map (·.1)=(jr k l).map (·.1):=OQ _ _ _
theorem Wl.bump {l:LL}(h:Wl l)(k:Lk):Wl (Vf.bump k l):=by
 have hnd:((Vf.bump k l).map (·.1)).Nodup:=by
  rw[OW];unfold jr;split
  ·exact h.nodup
  ·rename_i hi
   rw[List.map_append,List.nodup_append];refine⟨h.nodup,by simp,fun a ha b hb e=>?_⟩;simp at hb;subst hb;subst e;obtain⟨p,hp,hpk⟩:=List.mem_map.1 ha;have:=(uJ h.nodup hp).2;rw[hpk] at this;exact hi this
 refine⟨hnd,fun p hp=>?_⟩;have h1:=(uJ hnd hp).1;rw[← h1,rW];split
 ·have:=xL h k;omega
 ·rename_i hne
  have h2:=(uJ hnd hp).2
  -- it was there ahead
  have h3:p.1 ∈ (Vf.bump k l).map (·.1):=List.mem_map.2 ⟨p,hp,rfl⟩;rw[OW] at h3;unfold jr at h3;split at h3
  ·obtain⟨q,hq,hqk⟩:=List.mem_map.1 h3
   have:=h.pos q hq;have h4:=(uJ h.nodup hq).1;rw[hqk] at h4;omega
  ·rw[List.map_append] at h3
   rcases List.mem_append.1 h3 with h5 | h5
   ·obtain⟨q,hq,hqk⟩:=List.mem_map.1 h5
    have:=h.pos q hq;have h4:=(uJ h.nodup hq).1;rw[hqk] at h4;omega
   ·simp at h5;exact absurd h5 hne
theorem Wl.nil:Wl []:=⟨by simp,fun p hp=>by cases hp⟩
def tot (l:LL):Int:=(l.map (·.2)).sum
theorem ZI (l:LL)(p:Lk × Int):tot (l++[p])=tot l+p.2:=by unfold tot;simp
theorem OX {v:Int}:∀ (l:LL) (j:Nat) (p:Lk × Int),l[j]?=some p→tot (jQ j v l)=tot l - p.2+v
 | [],j,p,h=>by simp at h
 | q :: r,0,p,h=>by
  simp at h;subst h;show ((v :: r.map (·.2)).sum:Int)=(q.2 :: r.map (·.2)).sum - q.2+v
  simp;omega
 | q :: r,j+1,p,h=>by
  have:=OX (v:=v) r j p (by simpa using h);have e1:tot (jQ (j+1) v (q :: r))=q.2+tot (jQ j v r):=by show (q.2 :: (jQ j v r).map (·.2)).sum=_;simp[tot]
  have e2:tot (q :: r)=q.2+tot r:=by simp[tot]
  omega
theorem OY (k:Lk)(l:LL):tot (bump k l)=tot l+1:=by
 obtain⟨e1,e2,e3⟩:=Ia k l;unfold bump;rw[OX _ _ _ e3];have:tot (jr k l)=tot l:=by
  unfold jr;split
  ·rfl
  ·rw[ZI];simp
 simp only;omega
def univ:List Lk:=(List.range 30).flatMap fun (a:Nat)=>[((23:Int),(a:Int)),((29:Int),(a:Int))]
theorem OZ {op:Int}{a:Nat}(ho:op=23∨op=29)(ha:a<30):(op,(a:Int)) ∈ univ:=by
 unfold univ;rw[List.mem_flatMap];exact⟨a,List.mem_range.2 ha,by rcases ho with rfl | rfl<;>simp⟩
theorem ZJ:univ.length=60:=by decide
def fA (l:LL):Nat:=univ.countP (fun k=>decide (cnt k l=0))
theorem Ih {α:Type}{p q:α→Bool}(h:∀ x,q x=true→p x=true):∀ {l:List α} {x:α},x ∈ l→p x=true→q x=false→l.countP q+1≤l.countP p
 | y :: l,x,hx,hp,hq=>by
  have hle:l.countP q≤l.countP p:=List.countP_mono_left (fun z _=>h z);rcases List.mem_cons.1 hx with rfl | hx
  ·rw[List.countP_cons_of_neg (by rw[hq];decide),List.countP_cons_of_pos hp]
   omega
  ·have:=Ih h hx hp hq
   rw[List.countP_cons,List.countP_cons];have h1:=h y;cases ZK:q y
   ·simp;omega
   ·rw[h1 ZK];simp;omega
theorem O0 {l:LL}(h:Wl l)(k:Lk):fA (bump k l)≤fA l:=List.countP_mono_left (fun q _ hq=>by
 simp only[decide_eq_true_eq] at hq ⊢;rw[rW] at hq;split at hq
 ·have:=xL h k;omega
 ·exact hq)
theorem O1 {l:LL}(h:Wl l){k:Lk}(hk:k ∈ univ)(h0:cnt k l=0):fA (bump k l)+1≤fA l:=Ih (fun q hq=>by
 simp only[decide_eq_true_eq] at hq ⊢;rw[rW] at hq;split at hq
 ·have:=xL h k;omega
 ·exact hq) hk (by simpa using h0) (by simp[rW,h0])
def nA (mE:Int→LL→LL)(c:Ins)(l:LL):LL :=
 if c.op=26∨c.op=27 then bump (c.op,c.a) l
 else if c.op=23∨c.op=29 then (if cnt (c.op,c.a) l=0 then mE c.a (bump (c.op,c.a) l) else bump (c.op,c.a) l)
 else l
def oD (mE:Int→LL→LL)(cs:List Ins)(l:LL):LL:=cs.foldl (fun l c=>nA mE c l) l
def ik (m:Md):Nat→Int→LL→LL
 | 0,_,l=>l
 | f+1,n,l=>oD (ik m f) (unit m n).code l
structure Gd (d:Int) (l l':LL):Prop where
 wl:Wl l'
 fA:Vf.fA l'≤Vf.fA l
 tot:Vf.tot l'+4000 * Vf.fA l'≤Vf.tot l+4000 * Vf.fA l+d
theorem O3 {m:Md}{u:Un}{c:Ins}{l:LL}{mE:Int→LL→LL}(hmu:m.units.length≤30)(hf:bE m u c=0)(hl:Wl l)(hrec:∀ n l,Wl l→Gd 4000 l (mE n l)):Gd 1 l (nA mE c l):=by
 have hb:Gd 1 l (bump (c.op,c.a) l):=⟨hl.bump _,O0 hl _,by have:=O0 hl (c.op,c.a);rw[OY];omega⟩;unfold nA;split
 ·exact hb
 ·split
  ·rename_i h1 h2
   split
   ·rename_i h0
    have hr:=hrec c.a _ hb.wl;obtain⟨_,_,hrg⟩:=qi hf;have hk:∃ k:Nat,c.a=k∧k<30:=by
     have:∃ kd,is m kd c.a=true:=by
      rcases h2 with h | h
      ·refine⟨2,?_⟩
       rw[← hrg];unfold ranged;rw[if_neg (by omega),if_neg (by omega),if_neg (by omega),if_pos h]
      ·refine⟨3,?_⟩
       rw[← hrg];unfold ranged;rw[if_neg (by omega),if_neg (by omega),if_neg (by omega),if_neg (by omega),if_pos h]
     obtain⟨kd,this⟩:=this;obtain⟨x,h3,_,h4⟩:=kN this;have:=(List.getElem?_eq_some_iff.1 h3).1;exact⟨c.a.toNat,by omega,by omega⟩
    obtain⟨k,hka,O4⟩:=hk;have hn:=O1 hl (k:=(c.op,c.a)) (by rw[hka];exact OZ h2 O4) h0;have ht:=hr.tot;rw[OY] at ht;exact⟨hr.wl,Nat.le_trans hr.fA hb.fA,by omega⟩
   ·exact hb
  ·exact⟨hl,Nat.le_refl _,by omega⟩
theorem O5 {m:Md}{u:Un}{mE:Int→LL→LL}(hmu:m.units.length≤30)(hrec:∀ n l,Wl l→Gd 4000 l (mE n l)):∀ (cs:List Ins) (l:LL),(∀ c ∈ cs,bE m u c=0)→Wl l→Gd cs.length l (oD mE cs l)
 | [],l,_,hl=>⟨hl,Nat.le_refl _,by show tot l+4000 * (fA l:Int)≤tot l+4000 * (fA l:Int)+((0:Nat):Int);omega⟩
 | c :: cs,l,hf,hl=>by
  have h1:=O3 hmu (hf c List.mem_cons_self) hl hrec;have h2:=O5 hmu hrec cs (nA mE c l) (fun c hc=>hf c (List.mem_cons_of_mem _ hc)) h1.wl;have e:oD mE (c :: cs) l=oD mE cs (nA mE c l):=rfl;rw[e];have t1:=h1.tot;have t2:=h2.tot;exact⟨h2.wl,Nat.le_trans h2.fA h1.fA,by simp only[List.length_cons];omega⟩
theorem O6 {m:Md}(hR:Rt m)(n:Int):(unit m n).code.length≤4000∧∀ c ∈ (unit m n).code,bE m (unit m n) c=0:=by
 unfold unit;cases h:m.units[n.toNat]? with
 | none=>exact⟨by simp,fun c hc=>by cases hc⟩
 | some u=>exact⟨(ko (iF (hR.heads _ u h).1).2.1).2.2.2.2.2,(hR.heads _ u h).2⟩
theorem O7 {m:Md}(hR:Rt m):∀ (f:Nat) (n:Int) (l:LL),Wl l→Gd 4000 l (ik m f n l)
 | 0,_,l,hl=>⟨hl,Nat.le_refl _,by show tot l+4000 * (fA l:Int)≤tot l+4000 * (fA l:Int)+4000;omega⟩
 | f+1,n,l,hl=>by
  have hu:=O6 hR n;have h:=O5 (u:=unit m n) hR.units (O7 hR f) (unit m n).code l hu.2 hl;exact⟨h.wl,h.fA,by have:=h.tot;show tot (oD _ _ _)+4000 * ((fA (oD _ _ _):Nat):Int)≤_;omega⟩
end Vf
end Go.Proofs.YtfcpglhpolpdcaaGreatDoor
