/- The walks of is,kindly,sized,typed,ranged,head,forms. -/
import Derived.Test.YtfcpglhpolpdcaaGreatDoorM20
import Derived.MapKept
import Derived.Maps.RangeRun
import Derived.Test.YtfcpglhpolpdcaaGreatDoorM3
set_option maxRecDepth 100000
set_option maxHeartbeats 4000000
namespace Go.Proofs.YtfcpglhpolpdcaaGreatDoor
open Go.RowKit
abbrev fC (m:Vf.Md) (ab au:Option Addr) (cb cu:Nat):Value:=.agg #[.slice ab m.boxes.length cb,.slice au m.units.length cu]
abbrev gX (m:Vf.Md) (ab au:Option Addr) (cb cu:Nat):Obj:=.cells #[.slice ab m.boxes.length cb,.slice au m.units.length cu] 149 (0,0)
abbrev iZ (c:FC):Value:=.agg #[.slice c.ab c.m.boxes.length c.cb,.slice c.au c.m.units.length c.cu,.int .i64 c.u.kind,.int .i64 c.u.params,.slice c.al c.u.locals.length c.cl,.int .i64 c.u.result,.int .i64 c.u.takes,.slice c.ac c.u.code.length c.cc]
abbrev dL (c:FC):Obj:=.cells #[.slice c.ab c.m.boxes.length c.cb,.slice c.au c.m.units.length c.cu,.int .i64 c.u.kind,.int .i64 c.u.params,.slice c.al c.u.locals.length c.cl,.int .i64 c.u.result,.int .i64 c.u.takes,.slice c.ac c.u.code.length c.cc] 190 (0,0)
theorem Od {m:Vf.Md}{k n:Int}(h:¬ 0≤n):Vf.is m k n=false:=by unfold Vf.is;simp[h]
theorem Og {m:Vf.Md}{k n:Int}(h:(m.units.length:Int)≤n):Vf.is m k n=false:=by
 unfold Vf.is;rw[List.getElem?_eq_none (by omega)];simp
theorem Oh {m:Vf.Md}{k:Int}{n:Nat}{u:Vf.Un}(h:m.units[n]?=some u):Vf.is m k (n:Int)=(u.kind==k):=by
 unfold Vf.is;simp[h]
theorem zX (m:Vf.Md)(ab au:Option Addr)(cb cu B:Nat)(k n:Int)(w:World)(hm:Hid (aZ B w m ab au))(hB:B≤w.heap.size)(b:Bool)(hb:Hid (b=Vf.is m k n)) :
  Calls Tryz.prog 170 #[fC m ab au cb cu,.int .i64 k,.int .i64 n] w fun e w'=>e=.returned (.bool b)∧w'=w.alloc (gX m ab au cb cu):=by
 by_cases h0:0≤n
 ·obtain⟨j,rfl⟩:=Y7 h0
  by_cases h1:j<m.units.length
  ·obtain⟨u,hu⟩:∃ u,m.units[j]?=some u:=⟨_,List.getElem?_eq_getElem h1⟩
   obtain⟨bu,off,al,cl,ac,cc,ha,hbu,_,u0,_⟩:=hm.out.units j u hu;have HR:Hid (b=(u.kind==k)):=by rw[hb.out,Oh hu];rfl
   have hd:(0:Int)≤(j:Int):=by omega
   have hd1:(j:Int)<(m.units.length:Int):=by omega
   have hbl:bu<w.heap.size:=by omega
   subst ha;clear hu hb;go_enter Tryz.func170,Tryz.ntmps170
   go_wp2
   go_ret
   rw[HR.out];exact⟨rfl,rfl⟩
  ·have HR:Hid (b=false):=by rw[hb.out,Og (by omega)];rfl
   have hd:(0:Int)≤(j:Int):=by omega
   have hd1:decide (j<m.units.length)=false:=by simpa using h1
   go_enter Tryz.func170,Tryz.ntmps170
   go_wp2
   go_ret
   rw[HR.out];exact⟨rfl,rfl⟩
 ·have HR:Hid (b=false):=by rw[hb.out,Od h0];rfl
  have hd:decide (0≤n)=false:=by simpa using h0
  go_enter Tryz.func170,Tryz.ntmps170
  go_wp2
  go_ret
  rw[HR.out];exact⟨rfl,rfl⟩
theorem uy {w:World}{N:Nat}{c:FC}(h:w.heap[N]?=some (dL c)):w.cell? ⟨N,0,none⟩=some (.slice c.ab c.m.boxes.length c.cb)∧w.cell? ⟨N,1,none⟩=some (.slice c.au c.m.units.length c.cu)∧w.cell? ⟨N,2,none⟩=some (.int .i64 c.u.kind)∧w.cell? ⟨N,3,none⟩=some (.int .i64 c.u.params)∧w.cell? ⟨N,4,none⟩=some (.slice c.al c.u.locals.length c.cl)∧w.cell? ⟨N,5,none⟩=some (.int .i64 c.u.result)∧w.cell? ⟨N,6,none⟩=some (.int .i64 c.u.takes)∧w.cell? ⟨N,7,none⟩=some (.slice c.ac c.u.code.length c.cc):=by
 simp[World.cell?,h]
theorem rH {b b':Bool}(h:b'=b):Ending.returned (Value.bool b')=Ending.returned (Value.bool b):=by rw[h]
theorem Y8 (c:FC)(w:World)(b:Bool)(hb:Hid (b=Vf.yO c.u)) :
  Calls Tryz.prog 133 #[iZ c] w fun e w'=>e=.returned (.bool b)∧w'=w.alloc (dL c):=by
 have HB:Hid (b=(c.u.kind==2 || c.u.kind==3 || c.u.kind==4)):=hb.out;clear hb;cases e2:(c.u.kind==2)
 ·cases e3:(c.u.kind==3)
  ·have HT:Hid (b=(c.u.kind==4)):=by rw[HB.out,e2,e3];rfl
   go_enter Tryz.func133,Tryz.ntmps133
   go_wp2
   go_ret
   rw[HT.out];exact⟨rfl,rfl⟩
  ·have HT:Hid (b=true):=by rw[HB.out,e2,e3];rfl
   go_enter Tryz.func133,Tryz.ntmps133
   go_wp2
   go_ret
   rw[HT.out];exact⟨rfl,rfl⟩
 ·have HT:Hid (b=true):=by rw[HB.out,e2];rfl
  go_enter Tryz.func133,Tryz.ntmps133
  go_wp2
  go_ret
  rw[HT.out];exact⟨rfl,rfl⟩
theorem Y9 (c:FC)(w:World)(b:Bool)(hb:Hid (b=Vf.sized c.u)) :
  Calls Tryz.prog 134 #[iZ c] w fun e w'=>e=.returned (.bool b)∧w'=w.alloc (dL c):=by
 go_enter Tryz.func134,Tryz.ntmps134
 go_wp2
 all_goals
  go_ret
  refine⟨rH ?_,rfl⟩;rw[hb.out];unfold Vf.sized;rw[Bool.eq_iff_iff];simp only[Bool.and_eq_true,decide_eq_true_eq];first | (simp[*]<;>omega) | (simp[*];done) | (split<;>simp<;>omega)
structure GZ (c:FC) (w:World) (b:Bool) (k:Nat) (W:World):Prop where
 le:k≤c.u.locals.length
 grown:w.grownBy W none
 rest:b=(c.u.locals.drop k).all (fun t=>Vf.plain t || Vf.is c.m 3 (t - 10))
theorem aR {w w':World}(h:w.grownBy w' none)(o:Obj):w.grownBy (w'.alloc o) none :=
 ⟨h.os,h.tape,h.output,by have:=h.size;simp;omega,fun k hk hne=>(Below.heap_alloc _ _ _ (by have:=h.size;omega)).trans (h.block k hk hne)⟩
theorem bW {w w':World}{b:Nat}(hg:w.grownBy w' none)(hb:b<w.heap.size):w'.heap[b]?=w.heap[b]?:=hg.block b hb (by simp)
theorem gm {B:Nat}{w w':World}(h:w.grownBy w' none)(hB:B≤w.heap.size):Low B w w':=fun k hk=>h.block k (by omega) (by simp)
theorem bX {a b c:World}(h:a.grownBy b none)(k:b.grownBy c none):a.grownBy c none:=⟨k.os.trans h.os,k.tape.trans h.tape,k.output.trans h.output,Nat.le_trans h.size k.size,fun x hx hne=>(k.block x (by have:=h.size;omega) hne).trans (h.block x hx hne)⟩
theorem G5 {m:Vf.Md}(hmu:m.units.length≤30){t:Int}(h:bP t):Vf.is m 3 (t - 10)=Vf.is m 3 (IntKind.i64.wrap (t - 10)):=by
 by_cases h0:-9223372036854775808≤t - 10
 ·have e:IntKind.i64.wrap (t - 10)=t - 10:=by
   have:=h.2;simp[IntKind.wrap,IntKind.bits,IntKind.signed];omega
  rw[e]
 ·have e:(m.units.length:Int)≤IntKind.i64.wrap (t - 10):=by
   have:=h.1;simp[IntKind.wrap,IntKind.bits,IntKind.signed];omega
  rw[Og e,Od (by omega)]
theorem Za (c:FC)(B:Nat)(w:World)(hmd:Hid (aZ B w c.m c.ab c.au))(hun:Hid (gB B w c.u c.al c.ac c.cl c.cc))(hB:B≤w.heap.size)(hmu:c.m.units.length≤30)(b:Bool)(hb:Hid (b=Vf.typed c.m c.u)) :
  Calls Tryz.prog 135 #[iZ c] w fun e w'=>e=.returned (.bool b)∧w.grownBy w' none:=by
 obtain⟨y0,y1,y2,y3,y4,y5,y6,y7⟩:=uy (heap_alloc_new w (dL c));have hlo:c.u.locals.length≤9223372036854775807:=hun.out.few.1;have HB:Hid (b=(((c.u.kind==4 || Vf.plain c.u.result) && (c.u.kind != 3 || Vf.plain c.u.takes)) && c.u.locals.all (fun t=>Vf.plain t || Vf.is c.m 3 (t - 10)))):=hb.out;obtain⟨p1,hp1⟩:∃ p,p=Vf.plain c.u.result:=⟨_,rfl⟩;obtain⟨p2,hp2⟩:∃ p,p=Vf.plain c.u.takes:=⟨_,rfl⟩;rw[← hp1,← hp2] at HB;have uz:=hide hp1;have wT:=hide hp2;clear hb hp1 hp2;cases e4:(c.u.kind==4) with
 | true =>
  have e4':(c.u.kind != 4)=false:=by simp at e4;simp[e4]
  have e3:(c.u.kind==3)=false:=by simp at e4;simp[e4]
  have e3':(c.u.kind != 3)=true:=by simp at e4;simp[e4]
  have HT:Hid (b=(c.u.locals.drop 0).all (fun t=>Vf.plain t || Vf.is c.m 3 (t - 10))):=by unfold Hid;rw[HB.out,e4,e3'];simp
  go_enter Tryz.func135,Tryz.ntmps135
  go_wp2_with fail
  go_loopw [33] (fun v wr=>∃ k:Nat,v=.int .i64 k∧GZ c (w.alloc (dL c)) b k wr) (fun v _=>c.u.locals.length - (intOf v).toNat)
  case atStart=>exact⟨0,rfl,Nat.zero_le _,World.grownBy.refl _ _,HT.out⟩
  case round =>
   obtain⟨k,rfl,hA⟩:=hrel;have HA:=hide hA;have hk:=hA.le;clear hA;by_cases hlt:k<c.u.locals.length
   ·obtain⟨t,ht⟩:∃ t,c.u.locals[k]?=some t:=⟨_,List.getElem?_eq_getElem hlt⟩
    have hlow:Low B w wr:=fun j hj=>(bW HA.out.grown (by simp;omega)).trans (Below.heap_alloc _ _ _ (by omega));obtain⟨h64,bl,ol,hal,hbl,ct⟩:=(hun.out.locals.low hlow) k t ht;have hub:wr.heap[w.heap.size]?=some (dL c):=(bW HA.out.grown (by simp)).trans (heap_alloc_new w _);obtain⟨y0,y1,_⟩:=uy hub;have oV:Hid (aZ B wr c.m c.ab c.au):=hmd.out.low hlow;have hwr:w.heap.size<wr.heap.size:=lt_of_block hub;have HN:Hid (b=((Vf.plain t || Vf.is c.m 3 (t - 10)) && (c.u.locals.drop (k+1)).all (fun t=>Vf.plain t || Vf.is c.m 3 (t - 10)))):=by
     unfold Hid;obtain⟨hk',hte⟩:=List.getElem?_eq_some_iff.1 ht;rw[HA.out.rest,List.drop_eq_getElem_cons hk',hte,List.all_cons]
    obtain⟨p,hp⟩:∃ p,p=Vf.plain t:=⟨_,rfl⟩;rw[← hp] at HN;have rJ:=hide hp;have lD:=hide h64;have uA:=hide hal;clear ht hub hlow h64 hp;rw[uA.out];cases p with
    | true =>
     have bI:Hid (b=(c.u.locals.drop (k+1)).all (fun t=>Vf.plain t || Vf.is c.m 3 (t - 10))):=by rw[HN.out];rfl
     go_wp2_with fail
     refine (lh t _ true rJ).mono ?_;rintro e w2 ⟨rfl,rfl⟩;go_wp2
     go_roundw
     case rel=>exact⟨k+1,by go_num,hlt,HA.out.grown,bI.out⟩
     case measure=>simp[intOf];omega
    | false =>
     obtain⟨q,hq⟩:∃ q,q=Vf.is c.m 3 (t - 10):=⟨_,rfl⟩;have bI:Hid (b=(q && (c.u.locals.drop (k+1)).all (fun t=>Vf.plain t || Vf.is c.m 3 (t - 10)))):=by rw[HN.out,hq];rfl
     obtain⟨d,hd⟩:∃ d:Int,d=IntKind.i64.wrap (t - 10):=⟨_,rfl⟩;have HQ:Hid (q=Vf.is c.m 3 d):=by
      unfold Hid;rw[hq,hd];exact G5 hmu lD.out
     have hd':=hd.symm;clear hd hq;go_wp2_with fail
     refine (lh t _ false rJ).mono ?_;rintro e w2 ⟨rfl,rfl⟩;go_wp2_with fail
     refine (zX c.m c.ab c.au c.cb c.cu B 3 d _ oV (by omega) q HQ).mono ?_;rintro e w3 ⟨rfl,rfl⟩;cases q with
     | true =>
      have nW:Hid (b=(c.u.locals.drop (k+1)).all (fun t=>Vf.plain t || Vf.is c.m 3 (t - 10))):=by rw[bI.out];rfl
      go_wp2
      go_roundw
      case rel=>exact⟨k+1,by go_num,hlt,aR HA.out.grown _,nW.out⟩
      case measure=>simp[intOf];omega
     | false =>
      have nW:Hid (b=false):=by rw[bI.out];rfl
      go_wp2
      go_ret
      rw[nW.out];exact⟨rfl,aR (bX (aR (World.grownBy.refl _ _) _) HA.out.grown) _⟩
   ·have HN:Hid (b=true):=by unfold Hid;rw[HA.out.rest,List.drop_eq_nil_of_le (by omega)];rfl
    go_wp2
    go_ret
    rw[HN.out];exact⟨rfl,bX (aR (World.grownBy.refl _ _) _) HA.out.grown⟩
 | false =>
  have e4':(c.u.kind != 4)=true:=by simp at e4;simp[e4]
  cases p1 with
  | false =>
   have HN:Hid (b=false):=by rw[HB.out,e4];rfl
   go_enter Tryz.func135,Tryz.ntmps135
   go_wp2_with fail
   refine (lh c.u.result _ false uz).mono ?_;rintro e w2 ⟨rfl,rfl⟩;go_wp2
   go_ret
   rw[HN.out];exact⟨rfl,aR (World.grownBy.refl _ _) _⟩
  | true =>
   cases e3:(c.u.kind==3) with
   | false =>
    have e3':(c.u.kind != 3)=true:=by simp at e3;simp[e3]
    have HT:Hid (b=(c.u.locals.drop 0).all (fun t=>Vf.plain t || Vf.is c.m 3 (t - 10))):=by unfold Hid;rw[HB.out,e4,e3'];simp
    go_enter Tryz.func135,Tryz.ntmps135
    go_wp2_with fail
    refine (lh c.u.result _ true uz).mono ?_;rintro e w2 ⟨rfl,rfl⟩;go_wp2_with fail
    go_loopw [33] (fun v wr=>∃ k:Nat,v=.int .i64 k∧GZ c (w.alloc (dL c)) b k wr) (fun v _=>c.u.locals.length - (intOf v).toNat)
    case atStart=>exact⟨0,rfl,Nat.zero_le _,World.grownBy.refl _ _,HT.out⟩
    case round =>
     obtain⟨k,rfl,hA⟩:=hrel;have HA:=hide hA;have hk:=hA.le;clear hA;by_cases hlt:k<c.u.locals.length
     ·obtain⟨t,ht⟩:∃ t,c.u.locals[k]?=some t:=⟨_,List.getElem?_eq_getElem hlt⟩
      have hlow:Low B w wr:=fun j hj=>(bW HA.out.grown (by simp;omega)).trans (Below.heap_alloc _ _ _ (by omega));obtain⟨h64,bl,ol,hal,hbl,ct⟩:=(hun.out.locals.low hlow) k t ht;have hub:wr.heap[w.heap.size]?=some (dL c):=(bW HA.out.grown (by simp)).trans (heap_alloc_new w _);obtain⟨y0,y1,_⟩:=uy hub;have oV:Hid (aZ B wr c.m c.ab c.au):=hmd.out.low hlow;have hwr:w.heap.size<wr.heap.size:=lt_of_block hub;have HN:Hid (b=((Vf.plain t || Vf.is c.m 3 (t - 10)) && (c.u.locals.drop (k+1)).all (fun t=>Vf.plain t || Vf.is c.m 3 (t - 10)))):=by
       unfold Hid;obtain⟨hk',hte⟩:=List.getElem?_eq_some_iff.1 ht;rw[HA.out.rest,List.drop_eq_getElem_cons hk',hte,List.all_cons]
      obtain⟨p,hp⟩:∃ p,p=Vf.plain t:=⟨_,rfl⟩;rw[← hp] at HN;have rJ:=hide hp;have lD:=hide h64;have uA:=hide hal;clear ht hub hlow h64 hp;rw[uA.out];cases p with
      | true =>
       have bI:Hid (b=(c.u.locals.drop (k+1)).all (fun t=>Vf.plain t || Vf.is c.m 3 (t - 10))):=by rw[HN.out];rfl
       go_wp2_with fail
       refine (lh t _ true rJ).mono ?_;rintro e w2 ⟨rfl,rfl⟩;go_wp2
       go_roundw
       case rel=>exact⟨k+1,by go_num,hlt,HA.out.grown,bI.out⟩
       case measure=>simp[intOf];omega
      | false =>
       obtain⟨q,hq⟩:∃ q,q=Vf.is c.m 3 (t - 10):=⟨_,rfl⟩;have bI:Hid (b=(q && (c.u.locals.drop (k+1)).all (fun t=>Vf.plain t || Vf.is c.m 3 (t - 10)))):=by rw[HN.out,hq];rfl
       obtain⟨d,hd⟩:∃ d:Int,d=IntKind.i64.wrap (t - 10):=⟨_,rfl⟩;have HQ:Hid (q=Vf.is c.m 3 d):=by
        unfold Hid;rw[hq,hd];exact G5 hmu lD.out
       have hd':=hd.symm;clear hd hq;go_wp2_with fail
       refine (lh t _ false rJ).mono ?_;rintro e w2 ⟨rfl,rfl⟩;go_wp2_with fail
       refine (zX c.m c.ab c.au c.cb c.cu B 3 d _ oV (by omega) q HQ).mono ?_;rintro e w3 ⟨rfl,rfl⟩;cases q with
       | true =>
        have nW:Hid (b=(c.u.locals.drop (k+1)).all (fun t=>Vf.plain t || Vf.is c.m 3 (t - 10))):=by rw[bI.out];rfl
        go_wp2
        go_roundw
        case rel=>exact⟨k+1,by go_num,hlt,aR HA.out.grown _,nW.out⟩
        case measure=>simp[intOf];omega
       | false =>
        have nW:Hid (b=false):=by rw[bI.out];rfl
        go_wp2
        go_ret
        rw[nW.out];exact⟨rfl,aR (bX (aR (World.grownBy.refl _ _) _) HA.out.grown) _⟩
     ·have HN:Hid (b=true):=by unfold Hid;rw[HA.out.rest,List.drop_eq_nil_of_le (by omega)];rfl
      go_wp2
      go_ret
      rw[HN.out];exact⟨rfl,bX (aR (World.grownBy.refl _ _) _) HA.out.grown⟩
   | true =>
    have e3':(c.u.kind != 3)=false:=by simp at e3;simp[e3]
    cases p2 with
    | false =>
     have HN:Hid (b=false):=by rw[HB.out,e4,e3'];rfl
     go_enter Tryz.func135,Tryz.ntmps135
     go_wp2_with fail
     refine (lh c.u.result _ true uz).mono ?_;rintro e w2 ⟨rfl,rfl⟩;go_wp2_with fail
     refine (lh c.u.takes _ false wT).mono ?_;rintro e w3 ⟨rfl,rfl⟩;go_wp2
     go_ret
     rw[HN.out];exact⟨rfl,aR (World.grownBy.refl _ _) _⟩
    | true =>
     have HT:Hid (b=(c.u.locals.drop 0).all (fun t=>Vf.plain t || Vf.is c.m 3 (t - 10))):=by unfold Hid;rw[HB.out,e4,e3'];simp
     go_enter Tryz.func135,Tryz.ntmps135
     go_wp2_with fail
     refine (lh c.u.result _ true uz).mono ?_;rintro e w2 ⟨rfl,rfl⟩;go_wp2_with fail
     refine (lh c.u.takes _ true wT).mono ?_;rintro e w3 ⟨rfl,rfl⟩;go_wp2_with fail
     go_loopw [33] (fun v wr=>∃ k:Nat,v=.int .i64 k∧GZ c (w.alloc (dL c)) b k wr) (fun v _=>c.u.locals.length - (intOf v).toNat)
     case atStart=>exact⟨0,rfl,Nat.zero_le _,World.grownBy.refl _ _,HT.out⟩
     case round =>
      obtain⟨k,rfl,hA⟩:=hrel;have HA:=hide hA;have hk:=hA.le;clear hA;by_cases hlt:k<c.u.locals.length
      ·obtain⟨t,ht⟩:∃ t,c.u.locals[k]?=some t:=⟨_,List.getElem?_eq_getElem hlt⟩
       have hlow:Low B w wr:=fun j hj=>(bW HA.out.grown (by simp;omega)).trans (Below.heap_alloc _ _ _ (by omega));obtain⟨h64,bl,ol,hal,hbl,ct⟩:=(hun.out.locals.low hlow) k t ht;have hub:wr.heap[w.heap.size]?=some (dL c):=(bW HA.out.grown (by simp)).trans (heap_alloc_new w _);obtain⟨y0,y1,_⟩:=uy hub;have oV:Hid (aZ B wr c.m c.ab c.au):=hmd.out.low hlow;have hwr:w.heap.size<wr.heap.size:=lt_of_block hub;have HN:Hid (b=((Vf.plain t || Vf.is c.m 3 (t - 10)) && (c.u.locals.drop (k+1)).all (fun t=>Vf.plain t || Vf.is c.m 3 (t - 10)))):=by
        unfold Hid;obtain⟨hk',hte⟩:=List.getElem?_eq_some_iff.1 ht;rw[HA.out.rest,List.drop_eq_getElem_cons hk',hte,List.all_cons]
       obtain⟨p,hp⟩:∃ p,p=Vf.plain t:=⟨_,rfl⟩;rw[← hp] at HN;have rJ:=hide hp;have lD:=hide h64;have uA:=hide hal;clear ht hub hlow h64 hp;rw[uA.out];cases p with
       | true =>
        have bI:Hid (b=(c.u.locals.drop (k+1)).all (fun t=>Vf.plain t || Vf.is c.m 3 (t - 10))):=by rw[HN.out];rfl
        go_wp2_with fail
        refine (lh t _ true rJ).mono ?_;rintro e w2 ⟨rfl,rfl⟩;go_wp2
        go_roundw
        case rel=>exact⟨k+1,by go_num,hlt,HA.out.grown,bI.out⟩
        case measure=>simp[intOf];omega
       | false =>
        obtain⟨q,hq⟩:∃ q,q=Vf.is c.m 3 (t - 10):=⟨_,rfl⟩;have bI:Hid (b=(q && (c.u.locals.drop (k+1)).all (fun t=>Vf.plain t || Vf.is c.m 3 (t - 10)))):=by rw[HN.out,hq];rfl
        obtain⟨d,hd⟩:∃ d:Int,d=IntKind.i64.wrap (t - 10):=⟨_,rfl⟩;have HQ:Hid (q=Vf.is c.m 3 d):=by
         unfold Hid;rw[hq,hd];exact G5 hmu lD.out
        have hd':=hd.symm;clear hd hq;go_wp2_with fail
        refine (lh t _ false rJ).mono ?_;rintro e w2 ⟨rfl,rfl⟩;go_wp2_with fail
        refine (zX c.m c.ab c.au c.cb c.cu B 3 d _ oV (by omega) q HQ).mono ?_;rintro e w3 ⟨rfl,rfl⟩;cases q with
        | true =>
         have nW:Hid (b=(c.u.locals.drop (k+1)).all (fun t=>Vf.plain t || Vf.is c.m 3 (t - 10))):=by rw[bI.out];rfl
         go_wp2
         go_roundw
         case rel=>exact⟨k+1,by go_num,hlt,aR HA.out.grown _,nW.out⟩
         case measure=>simp[intOf];omega
        | false =>
         have nW:Hid (b=false):=by rw[bI.out];rfl
         go_wp2
         go_ret
         rw[nW.out];exact⟨rfl,aR (bX (aR (World.grownBy.refl _ _) _) HA.out.grown) _⟩
      ·have HN:Hid (b=true):=by unfold Hid;rw[HA.out.rest,List.drop_eq_nil_of_le (by omega)];rfl
       go_wp2
       go_ret
       rw[HN.out];exact⟨rfl,bX (aR (World.grownBy.refl _ _) _) HA.out.grown⟩
abbrev Lk:Type:=Int × Int
abbrev LL:Type:=List (Lk × Int)
namespace Vf
def idx (k:Lk):LL→Nat
 | []=>0
 | p :: r=>if k=p.1 then 0 else idx k r+1
def cnt (k:Lk)(l:LL):Int:=((l[idx k l]?).map (·.2)).getD 0
def jb (k:Lk)(l:LL):LL:=if idx k l<l.length then l else l++[(k,0)]
def jF (j:Nat)(v:Int)(l:LL):LL:=l.modify j (fun p=>(p.1,v))
def bump (k:Lk)(l:LL):LL:=jF (idx k l) (cnt k l+1) (jb k l)
theorem Df (k:Lk):∀ l:LL,idx k l≤l.length
 | []=>Nat.le_refl _
 | p :: r=>by
  unfold idx;split
  ·exact Nat.zero_le _
  ·have:=Df k r;simp;omega
theorem rM {k:Lk}:∀ {l:LL},idx k l<l.length→∃ v,l[idx k l]?=some (k,v)
 | [],h=>by simp at h
 | p :: r,h=>by
  unfold idx at h ⊢;split
  ·rename_i hk
   exact⟨p.2,by rw[hk];rfl⟩
  ·rename_i hk
   rw[if_neg hk] at h;obtain⟨v,hv⟩:=rM (k:=k) (l:=r) (by simp at h;omega);exact⟨v,by simpa using hv⟩
theorem Oi {k:Lk}{v:Int}:∀ {l:LL},¬ idx k l<l.length→idx k (l++[(k,v)])=l.length
 | [],_=>by simp[idx]
 | p :: r,h=>by
  unfold idx at h;by_cases hk:k=p.1
  ·rw[if_pos hk] at h;simp at h
  ·rw[if_neg hk] at h
   have:=Oi (k:=k) (v:=v) (l:=r) (by simp at h;omega);show (if k=p.1 then 0 else idx k (r++[(k,v)])+1)=_
   rw[if_neg hk,this];rfl
theorem G6 (k:Lk)(l:LL):idx k (jb k l)=idx k l∧idx k l<(jb k l).length∧(jb k l)[idx k l]?=some (k,cnt k l):=by
 unfold jb;by_cases h:idx k l<l.length
 ·rw[if_pos h]
  obtain⟨v,hv⟩:=rM h;exact⟨rfl,h,by unfold cnt;rw[hv];rfl⟩
 ·rw[if_neg h]
  have e:idx k l=l.length:=by have:=Df k l;omega
  refine⟨(Oi h).trans e.symm,by simp;omega,?_⟩;unfold cnt;rw[e];simp
end Vf
abbrev dQ (k:Lk):Value:=.agg #[.int .i64 k.1,.int .i64 k.2]
def bL:LL→Nat→List MapEntry
 | [],_=>[]
 | p :: r,i=>{ key:=dQ p.1,val:=.int .i64 p.2,born:=i } :: bL r (i+1)
theorem Dh:∀ (l:LL) (i j:Nat),(bL l i)[j]?=(l[j]?).map (fun p=>{ key:=dQ p.1,val:=.int .i64 p.2,born:=i+j })
 | [],_,_=>by simp[bL]
 | p :: r,i,0=>by simp[bL]
 | p :: r,i,j+1=>by
  have:=Dh r (i+1) j;simp only[bL,List.getElem?_cons_succ];rw[this];congr 2
  funext p
  congr 1
  omega
theorem Oj (k:Lk)(v:Int):∀ (l:LL) (i:Nat),bL (l++[(k,v)]) i=bL l i++[{ key:=dQ k,val:=.int .i64 v,born:=i+l.length }]
 | [],i=>rfl
 | p :: r,i=>by
  simp only[bL,List.cons_append];rw[Oj k v r (i+1)];congr 4
  simp;omega
theorem Ol (v:Int):∀ (l:LL) (i j:Nat),(bL l i).modify j (fun e=>{ e with val:=.int .i64 v })=bL (Vf.jF j v l) i
 | [],i,j=>by cases j<;>rfl
 | p :: r,i,0=>rfl
 | p :: r,i,j+1=>by
  show _ :: (bL r (i+1)).modify j _=_
  rw[Ol v r (i+1) j];rfl
theorem Om {k:Lk}:∀ (l:LL) (i j:Nat) (v:Int),l[j]?=some (k,v)→(bL l i).modify j (fun e=>{ e with key:=dQ k })=bL l i
 | [],i,j,v,h=>by simp at h
 | p :: r,i,0,v,h=>by simp at h;subst h;rfl
 | p :: r,i,j+1,v,h=>by
  show _ :: (bL r (i+1)).modify j _=_
  rw[Om r (i+1) j v (by simpa using h)];rfl
def dZ (w:World)(M:Nat)(l:LL):Prop:=w.heap[M]?=some (.map (bL l 0).toArray l.length)
theorem Tryz.Oo:(Tryz.prog.info? 3).map (fun i=>i.size)=some 1:=by kernel_rfl
theorem eq_int (d:Nat)(x y:Int)(w:World):(Op.equalIn (d+1) 3 (.int .i64 x) (.int .i64 y)).run Tryz.prog w=.ok (x==y) w:=by
 simp[Op.equalIn,run_underlying Tryz.underlying3]
theorem Zb (k k':Lk)(w:World):(Op.equal 205 (dQ k) (dQ k')).run Tryz.prog w=.ok (decide (k=k')) w:=by
 have hu:=run_underlying (P:=Tryz.prog) (w:=w) Tryz.underlying205;obtain⟨j,hj,hj2⟩:=Option.map_eq_some_iff.1 Tryz.Oo;have p0:∀ (a b:Value) (w:World),(part 3 #[a,b] 0).run Tryz.prog w=.ok a w:=fun _ _ _=>by simp[part,sizeOf,typeInfo,hj,hj2]
 have p1:∀ (a b:Value) (w:World),(part 3 #[a,b] 1).run Tryz.prog w=.ok b w:=fun _ _ _=>by simp[part,sizeOf,typeInfo,hj,hj2]
 have hst:Tryz.prog.stoodInHeld 205=false:=by kernel_rfl
 have h:∀ d:Nat,(Op.equalIn (d+2) 205 (dQ k) (dQ k')).run Tryz.prog w=.ok (decide (k=k')) w:=fun d=>by
  rw[Op.equalIn];have hp:(Sem.program Sem.pure).run Tryz.prog w=.ok Tryz.prog w:=rfl;simp[hu,program,hp,hst,p0,p1,eq_int];obtain⟨a,b⟩:=k;obtain⟨a',b'⟩:=k';by_cases ha:a=a'
  ·by_cases hb:b=b'
   ·simp[ha,hb]
   ·simp[ha,hb]
  ·simp[ha]
 exact h 9998
def uB (k:Lk):LL→Nat→Option (Nat × Value)
 | [],_=>none
 | p :: r,i=>if k=p.1 then some (i,.int .i64 p.2) else uB k r (i+1)
theorem Oq (k:Lk)(w:World):∀ (l:LL) (i:Nat),(Instr.findAsking 205 (dQ k) (bL l i) i).run Tryz.prog w=.ok (uB k l i) w
 | [],i=>rfl
 | (k',v) :: r,i=>by
  have h:=Zb k k' w;have hr:=Oq k w r (i+1);unfold bL Instr.findAsking uB;by_cases hk:k=k'
  ·subst hk
   simp[h]
  ·simp[h,hk,hr]
theorem G7 (k:Lk):∀ (l:LL) (i:Nat),uB k l i=if Vf.idx k l<l.length then some (i+Vf.idx k l,.int .i64 (Vf.cnt k l)) else none
 | [],i=>rfl
 | p :: r,i=>by
  unfold uB;by_cases hk:k=p.1
  ·have e:Vf.idx k (p :: r)=0:=by unfold Vf.idx;rw[if_pos hk]
   rw[if_pos hk,e,if_pos (by simp)];unfold Vf.cnt;rw[e];rfl
  ·have e:Vf.idx k (p :: r)=Vf.idx k r+1:=by rw[Vf.idx,if_neg hk]
   have ec:Vf.cnt k (p :: r)=Vf.cnt k r:=by unfold Vf.cnt;rw[e];rfl
   rw[if_neg hk,G7 k r (i+1),e,ec];by_cases h:Vf.idx k r<r.length
   ·rw[if_pos h,if_pos (by simp;omega),show i+1+Vf.idx k r=i+(Vf.idx k r+1) by omega]
   ·rw[if_neg h,if_neg (by simp;omega)]
theorem Ot (k:Lk)(l:LL)(w:World):(Instr.findKey 205 (dQ k) (bL l 0)).run Tryz.prog w=.ok (uB k l 0) w:=by
 have hu:=run_underlying (P:=Tryz.prog) (w:=w) Tryz.underlying205;have hr:=Oq k w l 0;cases l with
 | nil=>simp[Instr.findKey,hu,bL,Instr.findNow,uB]
 | cons p r =>
  have hn:∀ fs,Instr.findNow (.struct fs) (dQ k) (bL (p :: r) 0) 0=none:=fun fs=>by
   unfold bL Instr.findNow;rfl
  simp[Instr.findKey,hu,hn,hr]
theorem Di (k:Lk)(b:Bool)(w:World):(Instr.checkKey b 10000 205 (dQ k)).run Tryz.prog w=.ok () w:=by
 have hu:=run_underlying (P:=Tryz.prog) (w:=w) Tryz.underlying205;obtain⟨j,hj,hj2⟩:=Option.map_eq_some_iff.1 Tryz.Oo;have p0:∀ (a b:Value) (w:World),(part 3 #[a,b] 0).run Tryz.prog w=.ok a w:=fun _ _ _=>by simp[part,sizeOf,typeInfo,hj,hj2]
 have p1:∀ (a b:Value) (w:World),(part 3 #[a,b] 1).run Tryz.prog w=.ok b w:=fun _ _ _=>by simp[part,sizeOf,typeInfo,hj,hj2]
 have hk:∀ (x:Int),(Instr.checkKey b 9999 3 (.int .i64 x)).run Tryz.prog w=.ok () w:=fun x=>MapKept.run_checkKey (n:=9998) Tryz.underlying3 (by simp[MapKept.IsKey]) b;rw[show (10000:Nat)=9999+1 from rfl,Instr.checkKey];simp[hu,p0,p1,hk]
theorem G8 {k:Lk}{l:LL}(h:¬ Vf.idx k l<l.length):Vf.cnt k l=0:=by
 unfold Vf.cnt;rw[List.getElem?_eq_none (by omega)];rfl
theorem G9 {w:World}{M:Nat}{l:LL}(h:dZ w M l)(k:Lk):(Instr.lookup 203 (.map (some M)) (dQ k) false).run Tryz.prog w=.ok (.int .i64 (Vf.cnt k l)) w:=by
 unfold dZ at h;have hg:(getObj M).run Tryz.prog w=.ok (.map (bL l 0).toArray l.length) w:=MapKept.run_getObj_map h;have hu:=run_underlying (P:=Tryz.prog) (w:=w) Tryz.underlying203;have hf:=Ot k l w;rw[G7] at hf;by_cases hi:Vf.idx k l<l.length
 ·rw[if_pos hi] at hf
  simp[Instr.lookup,hu,hg,Di,hf]
 ·rw[if_neg hi] at hf
  simp[Instr.lookup,hu,hg,Di,hf,G8 hi]
theorem zY {w:World}{M:Nat}{l:LL}(h:dZ w M l)(l':LL):dZ { w with heap:=w.heap.setIfInBounds M (.map (bL l' 0).toArray l'.length) } M l'∧w.grownBy { w with heap:=w.heap.setIfInBounds M (.map (bL l' 0).toArray l'.length) } (some M):=by
 obtain⟨m1,m2⟩:=MapKept.heap_set (o':=.map (bL l' 0).toArray l'.length) h;exact⟨m1,rfl,rfl,rfl,by simp,fun k _ hne=>m2 k (fun e=>hne (by rw[e]))⟩
theorem Zc {w:World}{M:Nat}{l:LL}(h:dZ w M l)(k:Lk):∃ w1,(Instr.mapEntry 203 (.map (some M)) (dQ k)).run Tryz.prog w=.ok (.tuple #[.int .i64 (Vf.cnt k l),goInt (Vf.idx k l)]) w1∧dZ w1 M (Vf.jb k l)∧w.grownBy w1 (some M):=by
 have h0:=h;unfold dZ at h;have hg:(getObj M).run Tryz.prog w=.ok (.map (bL l 0).toArray l.length) w:=MapKept.run_getObj_map h;have hu:=run_underlying (P:=Tryz.prog) (w:=w) Tryz.underlying203;have hf:=Ot k l w;rw[G7] at hf;by_cases hi:Vf.idx k l<l.length
 ·rw[if_pos hi] at hf
  obtain⟨v,hv⟩:=Vf.rM hi;have hes:(bL l 0)[Vf.idx k l]?=some { key:=dQ k,val:=.int .i64 v,born:=0+Vf.idx k l }:=by
   rw[Dh,hv];rfl
  have hst:(Instr.keyThatStays (dQ k) (dQ k)).run Tryz.prog w=.ok (dQ k) w:=by
   unfold Instr.keyThatStays;simp[Instr.sameBits]
  have hmod:=Om l 0 _ v hv;have hset:=MapKept.run_setObj_map (P:=Tryz.prog) (.map (bL l 0).toArray l.length) h;have he:Vf.jb k l=l:=by unfold Vf.jb;rw[if_pos hi]
  refine⟨_,?_,by rw[he];exact (zY h0 l).1,(zY h0 l).2⟩;simp only[Nat.zero_add] at hf hes;simp[Instr.mapEntry,hu,hg,Di,hf,hes,hst,hmod,hset]
 ·rw[if_neg hi] at hf
  have hset:=MapKept.run_setObj_map (P:=Tryz.prog) (.map (bL (l++[(k,0)]) 0).toArray (l++[(k,0)]).length) h;have he:Vf.jb k l=l++[(k,0)]:=by unfold Vf.jb;rw[if_neg hi]
  have hpush:=Oj k 0 l 0;rw[Nat.zero_add] at hpush;have hlen:(l++[(k,0)]).length=l.length+1:=by simp
  have hix:Vf.idx k l=l.length:=by have:=Vf.Df k l;omega
  rw[hlen] at hset;refine⟨_,?_,by rw[he];exact (zY h0 (l++[(k,0)])).1,(zY h0 (l++[(k,0)])).2⟩;rw[G8 hi,hix,hlen];simp[Instr.mapEntry,hu,hg,Di,hf,← hpush,hset]
theorem find_born:∀ (l:LL) (i j:Nat),j<l.length→(bL l i).findIdx? (fun e=>((e.born:Int)==((i+j:Nat):Int)))=some j
 | [],i,j,h=>by simp at h
 | p :: r,i,0,h=>by simp[bL,List.findIdx?_cons]
 | p :: r,i,j+1,h=>by
  have:=find_born r (i+1) j (by simp at h;omega);rw[show i+1+j=i+(j+1) by omega] at this;simp only[bL,List.findIdx?_cons];rw[if_neg (by simp;omega),this];rfl
theorem Zd {w:World}{M:Nat}{l:LL}(h:dZ w M l){j:Nat}(hj:j<l.length)(v:Int):∃ w1,(Instr.entryStore 203 (.map (some M)) (goInt j) (.int .i64 v)).run Tryz.prog w=.ok () w1∧dZ w1 M (Vf.jF j v l)∧w.grownBy w1 (some M):=by
 have h0:=h;unfold dZ at h;have hg:(getObj M).run Tryz.prog w=.ok (.map (bL l 0).toArray l.length) w:=MapKept.run_getObj_map h;have hlen:(Vf.jF j v l).length=l.length:=by unfold Vf.jF;simp
 have hset:=MapKept.run_setObj_map (P:=Tryz.prog) (.map (bL (Vf.jF j v l) 0).toArray l.length) h;have hfi:=find_born l 0 j hj;rw[Nat.zero_add] at hfi;have hmod:=Ol v l 0 j;have hs:=zY h0 (Vf.jF j v l);rw[hlen] at hs;refine⟨_,?_,hs.1,hs.2⟩;simp[Instr.entryStore,hg,goInt,asInt,asIntOf,hfi,hmod,hset]
theorem Ze {w:World}{M:Nat}{l:LL}(h:dZ w M l)(k:Lk):∃ w1 w2,(Instr.mapEntry 203 (.map (some M)) (dQ k)).run Tryz.prog w=.ok (.tuple #[.int .i64 (Vf.cnt k l),goInt (Vf.idx k l)]) w1∧(Instr.lookup 203 (.map (some M)) (dQ k) false).run Tryz.prog w1=.ok (.int .i64 (Vf.cnt k l)) w1 ∧
  (Instr.entryStore 203 (.map (some M)) (.int .i64 ((Vf.idx k l:Nat):Int)) (.int .i64 (Vf.cnt k l+1))).run Tryz.prog w1=.ok () w2∧dZ w2 M (Vf.bump k l)∧w.grownBy w1 (some M)∧w.grownBy w2 (some M):=by
 obtain⟨w1,h1,h2,h3⟩:=Zc h k;obtain⟨e1,e2,e3⟩:=Vf.G6 k l;obtain⟨w2,h4,h5,h6⟩:=Zd h2 e2 (Vf.cnt k l+1);have hl:=G9 h2 k;have ec:Vf.cnt k (Vf.jb k l)=Vf.cnt k l:=by
  conv=>lhs;unfold Vf.cnt
  rw[e1,e3];rfl
 rw[ec] at hl;exact⟨w1,w2,h1,hl,h4,h5,h3,⟨h6.os.trans h3.os,h6.tape.trans h3.tape,h6.output.trans h3.output,Nat.le_trans h3.size h6.size,fun j hj hne=>(h6.block j (by have:=h3.size;omega) hne).trans (h3.block j hj hne)⟩⟩
end Go.Proofs.YtfcpglhpolpdcaaGreatDoor
namespace Go.Proofs.YtfcpglhpolpdcaaGreatDoor
namespace Vf
theorem Ou (k:Lk):∀ (l l':LL),l.map (·.1)=l'.map (·.1)→idx k l=idx k l'
 | [],[],_=>rfl
 | [],_ :: _,h=>by cases h
 | _ :: _,[],h=>by cases h
 | p :: r,p' :: r',h=>by
  simp only[List.map_cons,List.cons.injEq] at h;unfold idx;rw[h.1,Ou k r r' h.2]
theorem Ov (j:Nat)(v:Int):∀ l:LL,(jF j v l).map (·.1)=l.map (·.1):=by
 induction j with
 | zero=>intro l;cases l<;>rfl
 | succ j ih =>
  intro l;cases l with
  | nil=>rfl
  | cons p r =>
   show p.1 :: (jF j v r).map (·.1)=_
   rw[ih r];rfl
theorem Ha (j:Nat)(v:Int):∀ (l:LL) (i:Nat),(jF j v l)[i]?=if i=j then (l[i]?).map (fun p=>(p.1,v)) else l[i]?:=by
 intro l i;unfold jF;rw[List.getElem?_modify];by_cases h:j=i
 ·subst h;simp
 ·rw[if_neg (fun e=>h e.symm)]
  cases l[i]?<;>simp[h]
theorem Ow {k k':Lk}(hk:k'≠k)(v:Int):∀ l:LL,(idx k' (l++[(k,v)])<l.length ↔ idx k' l<l.length)∧(idx k' l<l.length→idx k' (l++[(k,v)])=idx k' l)∧(¬ idx k' l<l.length→idx k' (l++[(k,v)])=l.length+1)
 | []=>by simp[idx,hk]
 | p :: r=>by
  have ih:=Ow hk v r;show ((if k'=p.1 then 0 else idx k' (r++[(k,v)])+1)<_ ↔ (if k'=p.1 then 0 else idx k' r+1)<_)∧_
  by_cases hp:k'=p.1
  ·refine⟨by simp[hp],fun _=>?_,fun h=>?_⟩
   ·show (if k'=p.1 then 0 else idx k' (r++[(k,v)])+1)=(if k'=p.1 then 0 else idx k' r+1)
    rw[if_pos hp,if_pos hp]
   ·exfalso
    apply h;show (if k'=p.1 then 0 else idx k' r+1)<_
    rw[if_pos hp];simp
  ·refine⟨?_,fun h=>?_,fun h=>?_⟩
   ·rw[if_neg hp,if_neg hp]
    simp only[List.length_cons];have:=ih.1;omega
   ·show (if k'=p.1 then 0 else idx k' (r++[(k,v)])+1)=(if k'=p.1 then 0 else idx k' r+1)
    have h':(if k'=p.1 then 0 else idx k' r+1)<(p :: r).length:=h;rw[if_neg hp] at h' ⊢;rw[if_neg hp,ih.2.1 (by simp at h';omega)]
   ·show (if k'=p.1 then 0 else idx k' (r++[(k,v)])+1)=_
    have h':¬ (if k'=p.1 then 0 else idx k' r+1)<(p :: r).length:=h;rw[if_neg hp] at h' ⊢;rw[ih.2.2 (by simp at h';omega)];rfl
theorem Dj {k:Lk}{l:LL}(h:¬ idx k l<l.length):cnt k l=0:=G8 h
theorem rO (k k':Lk)(l:LL):cnt k' (bump k l)=if k'=k then cnt k l+1 else cnt k' l:=by
 obtain⟨e1,e2,e3⟩:=G6 k l;have hi:∀ q,idx q (bump k l)=idx q (jb k l):=fun q=>Ou q _ _ (Ov _ _ _);by_cases hk:k'=k
 ·subst hk
  rw[if_pos rfl];conv=>lhs;unfold cnt
  rw[hi,e1];unfold bump;rw[Ha,if_pos rfl,e3];rfl
 ·rw[if_neg hk]
  conv=>lhs;unfold cnt
  rw[hi];unfold bump;unfold jb at e2 e3 ⊢;by_cases h:idx k l<l.length
  ·rw[if_pos h] at e2 e3 ⊢
   by_cases h':idx k' l<l.length
   ·obtain⟨v,hv⟩:=rM h
    obtain⟨v',hv'⟩:=rM h';have hne:idx k' l≠idx k l:=fun e=>by rw[e,hv] at hv';cases hv';exact hk rfl
    rw[Ha,if_neg hne];rfl
   ·rw[List.getElem?_eq_none (by unfold jF;simp;omega),Dj h']
    rfl
  ·rw[if_neg h] at e2 e3 ⊢
   obtain⟨o1,o2,o3⟩:=Ow hk 0 l;have hkl:idx k l=l.length:=by have:=Df k l;omega
   by_cases h':idx k' l<l.length
   ·rw[o2 h',Ha,if_neg (by omega),List.getElem?_append_left h']
    rfl
   ·rw[o3 h',List.getElem?_eq_none (by unfold jF;simp),Dj h']
    rfl
structure Wl (l:LL):Prop where
 nodup:(l.map (·.1)).Nodup
 pos:∀ p ∈ l,1≤p.2
theorem uC {p:Lk × Int}:∀ {l:LL},(l.map (·.1)).Nodup→p ∈ l→cnt p.1 l=p.2∧idx p.1 l<l.length
 | [],_,h=>by cases h
 | q :: r,hn,h=>by
  simp only[List.map_cons,List.nodup_cons] at hn;by_cases hq:p.1=q.1
  ·have hpq:p=q:=by
    rcases List.mem_cons.1 h with h1 | h1
    ·exact h1
    ·exact absurd (List.mem_map.2 ⟨p,h1,hq⟩) hn.1
   subst hpq;have e:idx p.1 (p :: r)=0:=by unfold idx;rw[if_pos rfl]
   unfold cnt;rw[e];exact⟨rfl,by simp⟩
  ·have hr:p ∈ r:=by
    rcases List.mem_cons.1 h with h1 | h1
    ·exact absurd (by rw[h1]) hq
    ·exact h1
   obtain⟨h1,h2⟩:=uC hn.2 hr;have e:idx p.1 (q :: r)=idx p.1 r+1:=by rw[idx,if_neg hq]
   unfold cnt at h1 ⊢;rw[e];exact⟨h1,by simp;omega⟩
theorem Ox {k:Lk}{l:LL}(h:idx k l<l.length):(k,cnt k l) ∈ l:=by
 obtain⟨v,hv⟩:=rM h;have e:cnt k l=v:=by unfold cnt;rw[hv];rfl
 rw[e];exact List.mem_of_getElem? hv
theorem xB {l:LL}(h:Wl l)(k:Lk):0≤cnt k l:=by
 by_cases hi:idx k l<l.length
 ·have:=h.pos _ (Ox hi);simp at this;omega
 ·rw[Dj hi];omega
theorem Oy {l:LL}(h:Wl l){k:Lk}:idx k l<l.length ↔ 1≤cnt k l:=by
 constructor
 ·intro hi;exact h.pos _ (Ox hi)
 ·intro hc
  by_cases hi:idx k l<l.length
  ·exact hi
  ·rw[Dj hi] at hc;omega
theorem Oz (k:Lk)(l:LL):(bump k l).map (·.1)=(jb k l).map (·.1):=Ov _ _ _
theorem Wl.bump {l:LL}(h:Wl l)(k:Lk):Wl (Vf.bump k l):=by
 have hnd:((Vf.bump k l).map (·.1)).Nodup:=by
  rw[Oz];unfold jb;split
  ·exact h.nodup
  ·rename_i hi
   rw[List.map_append,List.nodup_append];refine⟨h.nodup,by simp,fun a ha b hb e=>?_⟩;simp at hb;subst hb;subst e;obtain⟨p,hp,hpk⟩:=List.mem_map.1 ha;have:=(uC h.nodup hp).2;rw[hpk] at this;exact hi this
 refine⟨hnd,fun p hp=>?_⟩;have h1:=(uC hnd hp).1;rw[← h1,rO];split
 ·have:=xB h k;omega
 ·rename_i hne
  have h2:=(uC hnd hp).2
  -- it was there ahead
  have h3:p.1 ∈ (Vf.bump k l).map (·.1):=List.mem_map.2 ⟨p,hp,rfl⟩;rw[Oz] at h3;unfold jb at h3;split at h3
  ·obtain⟨q,hq,hqk⟩:=List.mem_map.1 h3
   have:=h.pos q hq;have h4:=(uC h.nodup hq).1;rw[hqk] at h4;omega
  ·rw[List.map_append] at h3
   rcases List.mem_append.1 h3 with h5 | h5
   ·obtain⟨q,hq,hqk⟩:=List.mem_map.1 h5
    have:=h.pos q hq;have h4:=(uC h.nodup hq).1;rw[hqk] at h4;omega
   ·simp at h5;exact absurd h5 hne
theorem Wl.nil:Wl []:=⟨by simp,fun p hp=>by cases hp⟩
def tot (l:LL):Int:=(l.map (·.2)).sum
theorem Zf (l:LL)(p:Lk × Int):tot (l++[p])=tot l+p.2:=by unfold tot;simp
theorem OA {v:Int}:∀ (l:LL) (j:Nat) (p:Lk × Int),l[j]?=some p→tot (jF j v l)=tot l - p.2+v
 | [],j,p,h=>by simp at h
 | q :: r,0,p,h=>by
  simp at h;subst h;show ((v :: r.map (·.2)).sum:Int)=(q.2 :: r.map (·.2)).sum - q.2+v
  simp;omega
 | q :: r,j+1,p,h=>by
  have:=OA (v:=v) r j p (by simpa using h);have e1:tot (jF (j+1) v (q :: r))=q.2+tot (jF j v r):=by show (q.2 :: (jF j v r).map (·.2)).sum=_;simp[tot]
  have e2:tot (q :: r)=q.2+tot r:=by simp[tot]
  omega
theorem OB (k:Lk)(l:LL):tot (bump k l)=tot l+1:=by
 obtain⟨e1,e2,e3⟩:=G6 k l;unfold bump;rw[OA _ _ _ e3];have:tot (jb k l)=tot l:=by
  unfold jb;split
  ·rfl
  ·rw[Zf];simp
 simp only;omega
def univ:List Lk:=(List.range 30).flatMap fun (a:Nat)=>[((23:Int),(a:Int)),((29:Int),(a:Int))]
theorem OC {op:Int}{a:Nat}(ho:op=23∨op=29)(ha:a<30):(op,(a:Int)) ∈ univ:=by
 unfold univ;rw[List.mem_flatMap];exact⟨a,List.mem_range.2 ha,by rcases ho with rfl | rfl<;>simp⟩
theorem Zg:univ.length=60:=by decide
def eY (l:LL):Nat:=univ.countP (fun k=>decide (cnt k l=0))
theorem He {α:Type}{p q:α→Bool}(h:∀ x,q x=true→p x=true):∀ {l:List α} {x:α},x ∈ l→p x=true→q x=false→l.countP q+1≤l.countP p
 | y :: l,x,hx,hp,hq=>by
  have hle:l.countP q≤l.countP p:=List.countP_mono_left (fun z _=>h z);rcases List.mem_cons.1 hx with rfl | hx
  ·rw[List.countP_cons_of_neg (by rw[hq];decide),List.countP_cons_of_pos hp]
   omega
  ·have:=He h hx hp hq
   rw[List.countP_cons,List.countP_cons];have h1:=h y;cases Zh:q y
   ·simp;omega
   ·rw[h1 Zh];simp;omega
theorem OD {l:LL}(h:Wl l)(k:Lk):eY (bump k l)≤eY l:=List.countP_mono_left (fun q _ hq=>by
 simp only[decide_eq_true_eq] at hq ⊢;rw[rO] at hq;split at hq
 ·have:=xB h k;omega
 ·exact hq)
theorem OE {l:LL}(h:Wl l){k:Lk}(hk:k ∈ univ)(h0:cnt k l=0):eY (bump k l)+1≤eY l:=He (fun q hq=>by
 simp only[decide_eq_true_eq] at hq ⊢;rw[rO] at hq;split at hq
 ·have:=xB h k;omega
 ·exact hq) hk (by simpa using h0) (by simp[rO,h0])
def mV (l8:Int→LL→LL)(c:Ins)(l:LL):LL :=
 if c.op=26∨c.op=27 then bump (c.op,c.a) l
 else if c.op=23∨c.op=29 then (if cnt (c.op,c.a) l=0 then l8 c.a (bump (c.op,c.a) l) else bump (c.op,c.a) l)
 else l
def nX (l8:Int→LL→LL)(cs:List Ins)(l:LL):LL:=cs.foldl (fun l c=>mV l8 c l) l
def gY (m:Md):Nat→Int→LL→LL
 | 0,_,l=>l
 | f+1,n,l=>nX (gY m f) (unit m n).code l
structure Gd (d:Int) (l l':LL):Prop where
 wl:Wl l'
 eY:Vf.eY l'≤Vf.eY l
 tot:Vf.tot l'+4000 * Vf.eY l'≤Vf.tot l+4000 * Vf.eY l+d
theorem OG {m:Md}{u:Un}{c:Ins}{l:LL}{l8:Int→LL→LL}(hmu:m.units.length≤30)(hf:bC m u c=0)(hl:Wl l)(hrec:∀ n l,Wl l→Gd 4000 l (l8 n l)):Gd 1 l (mV l8 c l):=by
 have hb:Gd 1 l (bump (c.op,c.a) l):=⟨hl.bump _,OD hl _,by have:=OD hl (c.op,c.a);rw[OB];omega⟩;unfold mV;split
 ·exact hb
 ·split
  ·rename_i h1 h2
   split
   ·rename_i h0
    have hr:=hrec c.a _ hb.wl;obtain⟨_,_,hrg⟩:=pV hf;have hk:∃ k:Nat,c.a=k∧k<30:=by
     have:∃ kd,is m kd c.a=true:=by
      rcases h2 with h | h
      ·refine⟨2,?_⟩
       rw[← hrg];unfold ranged;rw[if_neg (by omega),if_neg (by omega),if_neg (by omega),if_pos h]
      ·refine⟨3,?_⟩
       rw[← hrg];unfold ranged;rw[if_neg (by omega),if_neg (by omega),if_neg (by omega),if_neg (by omega),if_pos h]
     obtain⟨kd,this⟩:=this;obtain⟨x,h3,_,h4⟩:=kD this;have:=(List.getElem?_eq_some_iff.1 h3).1;exact⟨c.a.toNat,by omega,by omega⟩
    obtain⟨k,hka,OH⟩:=hk;have hn:=OE hl (k:=(c.op,c.a)) (by rw[hka];exact OC h2 OH) h0;have ht:=hr.tot;rw[OB] at ht;exact⟨hr.wl,Nat.le_trans hr.eY hb.eY,by omega⟩
   ·exact hb
  ·exact⟨hl,Nat.le_refl _,by omega⟩
theorem OI {m:Md}{u:Un}{l8:Int→LL→LL}(hmu:m.units.length≤30)(hrec:∀ n l,Wl l→Gd 4000 l (l8 n l)):∀ (cs:List Ins) (l:LL),(∀ c ∈ cs,bC m u c=0)→Wl l→Gd cs.length l (nX l8 cs l)
 | [],l,_,hl=>⟨hl,Nat.le_refl _,by show tot l+4000 * (eY l:Int)≤tot l+4000 * (eY l:Int)+((0:Nat):Int);omega⟩
 | c :: cs,l,hf,hl=>by
  have h1:=OG hmu (hf c List.mem_cons_self) hl hrec;have h2:=OI hmu hrec cs (mV l8 c l) (fun c hc=>hf c (List.mem_cons_of_mem _ hc)) h1.wl;have e:nX l8 (c :: cs) l=nX l8 cs (mV l8 c l):=rfl;rw[e];have t1:=h1.tot;have t2:=h2.tot;exact⟨h2.wl,Nat.le_trans h2.eY h1.eY,by simp only[List.length_cons];omega⟩
theorem OJ {m:Md}(hR:Rt m)(n:Int):(unit m n).code.length≤4000∧∀ c ∈ (unit m n).code,bC m (unit m n) c=0:=by
 unfold unit;cases h:m.units[n.toNat]? with
 | none=>exact⟨by simp,fun c hc=>by cases hc⟩
 | some u=>exact⟨(jS (iy (hR.heads _ u h).1).2.1).2.2.2.2.2,(hR.heads _ u h).2⟩
theorem OL {m:Md}(hR:Rt m):∀ (f:Nat) (n:Int) (l:LL),Wl l→Gd 4000 l (gY m f n l)
 | 0,_,l,hl=>⟨hl,Nat.le_refl _,by show tot l+4000 * (eY l:Int)≤tot l+4000 * (eY l:Int)+4000;omega⟩
 | f+1,n,l,hl=>by
  have hu:=OJ hR n;have h:=OI (u:=unit m n) hR.units (OL hR f) (unit m n).code l hu.2 hl;exact⟨h.wl,h.eY,by have:=h.tot;show tot (nX _ _ _)+4000 * ((eY (nX _ _ _):Nat):Int)≤_;omega⟩
end Vf
end Go.Proofs.YtfcpglhpolpdcaaGreatDoor
