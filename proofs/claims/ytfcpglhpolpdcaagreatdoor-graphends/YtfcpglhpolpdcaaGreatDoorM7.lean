/- The walks of next,Len,Word,take,and of what a stack refuses. -/
import Derived.Test.YtfcpglhpolpdcaaGreatDoorM6
import Derived.OwnWalk
set_option maxHeartbeats 1000000
namespace Go.Proofs.YtfcpglhpolpdcaaGreatDoor.Vw
open Go.RowKit Vf Vm
def dn (L:av)(o i:Nat)(b:Nat):Prop:=(L b).cls=1∧(L b).idx=o∧(L b).th=i+1
def Ex (o i:Nat)(L L':av)(w:World):Prop:=Ext L L' w∧∀ b,L' b=L b∨((L' b).cls=1∧(L' b).idx=o∧(L' b).th=i+1)
def iG (c:Cx)(L:av)(o i:Nat)(P:Nat→Nat)(w w':World)(h:Th)(S:Nat)(vU:Value):Prop:=∃ L' g r,aD c L' o i P w' h S g r vU∧Ex o i L L' w∧bF c.B L' w'∧aQ (dn L o i) w w'
def fq (c:Cx)(L:av)(o i:Nat)(P:Nat→Nat)(w w':World)(h:Th):Prop:=∃ L' S g r vU,aD c L' o i P w' h S g r vU∧Ex o i L L' w∧bF c.B L' w'∧aQ (dn L o i) w w'
theorem iG.qw {c:Cx}{L:av}{o i:Nat}{P:Nat→Nat}{w w':World}{h:Th}{S:Nat}{vU:Value}(H:iG c L o i P w w' h S vU):fq c L o i P w w' h:=by
 obtain⟨L',g,r,h1,h2⟩:=H;exact⟨L',S,g,r,vU,h1,h2⟩
theorem bF.on {B:Nat}{L:av}{w w':World}(h:bF B L w)(hz:w.heap.size≤w'.heap.size):bF B L w':=⟨h.low,fun b hb=>h.new b (by omega),by have:=h.size;omega⟩
theorem Ext.refl (L:av)(w:World):Ext L L w:=fun _ _=>rfl
theorem Ext.trans {L L1 L2:av}{w w1:World}(h:Ext L L1 w)(k:Ext L1 L2 w1)(hz:w.heap.size≤w1.heap.size):Ext L L2 w:=fun b hb=>(k b (by omega)).trans (h b hb)
theorem Ex.refl (o i:Nat)(L:av)(w:World):Ex o i L L w:=⟨.refl _ _,fun _=>.inl rfl⟩
theorem Ex.trans {o i:Nat}{L L1 L2:av}{w w1:World}(h:Ex o i L L1 w)(k:Ex o i L1 L2 w1)(hz:w.heap.size≤w1.heap.size):Ex o i L L2 w:=⟨h.1.trans k.1 hz,fun b=>by
 rcases k.2 b with e | e
 ·rcases h.2 b with e2 | e2
  ·exact .inl (e.trans e2)
  ·rw[← e] at e2;exact .inr e2
 ·exact .inr e⟩
theorem MU {o i:Nat}{L:av}{w:World}(x p:Nat)(h:Ext L (fun b=>if b=x then ⟨1,o,i+1,p⟩ else L b) w):Ex o i L (fun b=>if b=x then ⟨1,o,i+1,p⟩ else L b) w:=⟨h,fun b=>by
 by_cases e:b=x
 ·right;simp[e]
 ·left;simp[e]⟩
theorem aD.zy {c:Cx}{L:av}{o i:Nat}{P:Nat→Nat}{w w':World}{h:Th}{S g r g' r':Nat}{vU:Value}{ws':List Int}(H:aD c L o i P w h S g r vU)(hL:bF c.B L w)(hS:Sb.SK w' S g' ws' r' 8 400)(hM:Sb.Mv w w' S g)(hg:g'=g∨w.heap.size≤g'):iG c L o i P w w' { h with ws:=ws' } S vU:=by
 obtain⟨cs',hc',_⟩:=hS.2.1;obtain⟨cs,hc,_⟩:=H.stack.2.1;have z0:=lt_of_block H.blk;have z1:=lt_of_block H.stack.1;have z2:=lt_of_block hc;have WK:P i≠S:=fun e=>by have a:=H.l0;have b:=H.l1;rw[e,b] at a;cases a
 have WL:P i≠g:=fun e=>by have a:=H.l0;have b:=H.l2;rw[e,b] at a;cases a
 have n31:∀ U,vU.ownBlock=some U→U≠S:=fun U hU e=>by have a:=H.l3 U hU;have b:=H.l1;rw[e,b] at a;cases a
 have n32:∀ U,vU.ownBlock=some U→U≠g:=fun U hU e=>by have a:=H.l3 U hU;have b:=H.l2;rw[e,b] at a;cases a
 have n12:S≠g:=fun e=>by have a:=H.l1;have b:=H.l2;rw[e,b] at a;cases a
 have far:∀ b,b<w.heap.size→b≠g→b≠g':=fun b hb hn e=>by rcases hg with hg | hg<;>omega
 have ext:Ext L (fun b=>if b=g' then ⟨1,o,i+1,2⟩ else L b) w:=fun b hb=>by
  by_cases e:b=g'
  ·have:b=g:=by rcases hg with hg | hg<;>omega
   simp only[e,if_true];rw[← e,this,H.l2]
  ·simp only[e,if_false]
 refine⟨_,g',r',⟨(hM.block _ z0 WK WL).trans H.blk,hS,bA H.row (fun b hb=>hM.block b (H.lt b hb) (n31 b hb) (n32 b hb)),H.few,(ext _ z0).trans H.l0,(ext _ z1).trans H.l1,by simp,fun U hU=>(ext _ (H.lt U hU)).trans (H.l3 U hU)⟩,MU _ _ ext,⟨fun b hb=>?_,fun b hb=>?_,by have:=hL.size;have:=hM.size;omega⟩,aQ.WJ hM ?_ ?_⟩
 ·have hb2:=hL.low b hb
  have e:b≠g':=fun e=>by
   rcases hg with hg | hg
   ·have:=H.l2;rw[← hg,← e] at this;rw[this] at hb2;cases hb2
   ·have:=hL.size;omega
  simp only[e,if_false];exact hb2
 ·have e:b≠g':=fun e=>by have:=lt_of_block hc';omega
  simp only[e,if_false];exact hL.new b (by have:=hM.size;omega)
 ·show (L S).cls=1∧_;rw[H.l1];exact⟨rfl,rfl,rfl⟩
 ·show (L g).cls=1∧_;rw[H.l2];exact⟨rfl,rfl,rfl⟩
theorem iG.of_same {c:Cx}{L:av}{o i:Nat}{P:Nat→Nat}{w:World}{h:Th}{S g r:Nat}{vU:Value}(H:aD c L o i P w h S g r vU)(hL:bF c.B L w)(d:Nat):iG c L o i P w (w.drewN d) h S vU :=
 ⟨L,g,r,H.drewN d,.refl _ _ _ _,hL.on (Nat.le_refl _),(aQ.refl _ _).drewN d⟩
theorem fq.drewN {c:Cx}{L:av}{o i:Nat}{P:Nat→Nat}{w w':World}{h:Th}{d:Nat}(H:fq c L o i P (w.drewN d) w' h):fq c L o i P w w' h:=by
 obtain⟨L',S,g,r,vU,h1,h2,h3,h4⟩:=H;exact⟨L',S,g,r,vU,h1,h2,h3,h4.os,h4.tape,h4.output,h4.size,h4.block⟩
theorem iG.drewN {c:Cx}{L:av}{o i:Nat}{P:Nat→Nat}{w w':World}{h:Th}{S:Nat}{vU:Value}{d:Nat}(H:iG c L o i P (w.drewN d) w' h S vU):iG c L o i P w w' h S vU:=by
 obtain⟨L',g,r,h1,h2,h3,h4⟩:=H;exact⟨L',g,r,h1,h2,h3,h4.os,h4.tape,h4.output,h4.size,h4.block⟩
theorem Df (S g:Nat)(ws:List Int)(r mn most:Nat)(w:World)(h:Hid (Sb.SK w S g ws r mn most)) :
  Calls Tryz.prog 182 #[.pointer (some ⟨S,0,none⟩)] w fun e w'=>e=.returned (.int .i64 ws.length)∧w'=w:=by
 obtain⟨c0,c1,c2,c3⟩:=h.out.cells;go_enter Tryz.func182,Tryz.ntmps182
 go_wp2
 go_ret
 exact⟨rfl,rfl⟩
theorem o6 (b off j:Nat):(⟨b,off,none⟩:Addr).add j=⟨b,off+j,none⟩:=by unfold Addr.add;split<;>simp_all
def o7 (ws:List Int)(n:Int):Int:=if n<0 then 0 else (ws[n.toNat]?).getD 0
theorem Dh (S g:Nat)(ws:List Int)(r mn most:Nat)(n v:Int)(w:World)(h:Hid (Sb.SK w S g ws r mn most))(hv:Hid (v=o7 ws n)) :
  Calls Tryz.prog 146 #[.pointer (some ⟨S,0,none⟩),.int .i64 n] w fun e w'=>e=.returned (.int .i64 v)∧∃ d,w'=w.drewN d:=by
 obtain⟨c0,c1,c2,c3⟩:=h.out.cells;have hfit:=h.out.2.2;unfold Sk.Fits at hfit;obtain⟨h3,h4,h5,h6,h7⟩:=hfit;by_cases hz:n<0
 ·have HV:Hid (v=0):=by unfold Hid;rw[hv.out];unfold o7;rw[if_pos hz]
  go_enter Tryz.func146,Tryz.ntmps146
  go_wp2
  go_ret
  exact⟨by rw[HV.out];rfl,0,rfl⟩
 ·by_cases hl:(ws.length:Int)≤n
  ·have HV:Hid (v=0):=by unfold Hid;rw[hv.out];unfold o7;rw[if_neg hz,List.getElem?_eq_none (by omega)];rfl
   go_enter Tryz.func146,Tryz.ntmps146
   go_wp2
   go_ret
   exact⟨by rw[HV.out];rfl,0,rfl⟩
  ·obtain⟨k,rfl⟩:∃ k:Nat,n=k:=⟨n.toNat,by omega⟩
   have hk:k<ws.length:=by omega
   have cu:w.cell? ⟨g,k,none⟩=some (.int .i64 v):=by
    have:=h.out.2.1.cellAt k (.int .i64 v) (by
     rw[hv.out];unfold o7;rw[if_neg hz];simp[hk])
    rw[o6,Nat.zero_add] at this;exact this
   have n0:(0:Int)≤(k:Int):=by omega
   have n1:(k:Int)<(ws.length:Int):=by omega
   have n2:(k:Int)<(r:Int):=by omega
   go_enter Tryz.func146,Tryz.ntmps146
   go_wp2
   go_ret
   exact⟨rfl,0,rfl⟩
theorem WM (S g:Nat)(ws:List Int)(r mn most:Nat)(n:Int)(w:World)(h:Hid (Sb.SK w S g ws r mn most))(hn:n<0∨(ws.length:Int)<n) :
  Calls Tryz.prog 184 #[.pointer (some ⟨S,0,none⟩),.int .i64 n] w fun e w'=>e=.returned (.int .i64 3)∧w'=w:=by
 obtain⟨c0,c1,c2,c3⟩:=h.out.cells;by_cases hz:n<0
 ·go_enter Tryz.func184,Tryz.ntmps184
  go_wp2
  go_ret
  exact⟨rfl,rfl⟩
 ·have hz2:(ws.length:Int)<n:=by omega
  clear hn;go_enter Tryz.func184,Tryz.ntmps184
  go_wp2
  go_ret
  exact⟨rfl,rfl⟩
theorem WN (S g:Nat)(ws:List Int)(r mn most:Nat)(n v:Int)(w:World)(h:Hid (Sb.SK w S g ws r mn most))(hn:n<0∨(ws.length:Int)≤n) :
  Calls Tryz.prog 147 #[.pointer (some ⟨S,0,none⟩),.int .i64 n,.int .i64 v] w fun e w'=>e=.returned (.int .i64 3)∧w'=w:=by
 obtain⟨c0,c1,c2,c3⟩:=h.out.cells;by_cases hz:n<0
 ·go_enter Tryz.func147,Tryz.ntmps147
  go_wp2
  go_ret
  exact⟨rfl,rfl⟩
 ·have hz2:(ws.length:Int)≤n:=by omega
  clear hn;go_enter Tryz.func147,Tryz.ntmps147
  go_wp2
  go_ret
  exact⟨rfl,rfl⟩
theorem WO (S g:Nat)(ws:List Int)(r mn most:Nat)(v:Int)(w:World)(h:Hid (Sb.SK w S g ws r mn most))(hf:Hid (ws.length=most)) :
  Calls Tryz.prog 142 #[.pointer (some ⟨S,0,none⟩),.int .i64 v] w fun e w'=>e=.returned (.int .i64 4)∧∃ d,w'=w.drewN d:=by
 obtain⟨c0,c1,c2,c3⟩:=h.out.cells;have e1:((ws.length:Int)==(most:Int))=true:=by have:=hf.out;simp;omega
 go_enter Tryz.func142,Tryz.ntmps142
 go_wp2
 go_region_held3 (fun w'=>w'.cell? ⟨S,1,none⟩=some (.int .i64 ws.length)∧w'.cell? ⟨S,3,none⟩=some (.int .i64 most)) (go_keep) (fail)
 go_wp2
 go_ret
 exact⟨rfl,1,rfl⟩
theorem SK.drewN {w:World}{S g:Nat}{ws:List Int}{r mn most:Nat}(h:Sb.SK w S g ws r mn most)(d:Nat):Sb.SK (w.drewN d) S g ws r mn most:=h
theorem Gv (c:Cx)(L:av)(o i:Nat)(P:Nat→Nat)(w:World)(h:Th)(S g r:Nat)(vU:Value)(H:Hid (aD c L o i P w h S g r vU))(hL:Hid (bF c.B L w))(n:Int)(ws':List Int)(hw:Hid (ws'=if n<0∨(h.ws.length:Int)<n then h.ws else h.ws.take (h.ws.length - n.toNat))) :
  Calls Tryz.prog 184 #[.pointer (some ⟨S,0,none⟩),.int .i64 n] w fun e w'=>(∃ x,e=.returned (.int .i64 x))∧iG c L o i P w w' { h with ws:=ws' } S vU:=by
 by_cases hn:n<0∨(h.ws.length:Int)<n
 ·refine (WM S g h.ws r 8 400 n w H.out.stack hn).mono ?_
  rintro e w' ⟨rfl,rfl⟩;have hw:=hw.out;rw[if_pos hn] at hw;rw[hw];exact⟨⟨_,rfl⟩,iG.of_same H.out hL.out 0⟩
 ·obtain⟨k,rfl⟩:∃ k:Nat,n=k:=⟨n.toNat,by omega⟩
  have hw:=hw.out;rw[if_neg hn,Int.toNat_natCast] at hw;rw[hw];by_cases hc:h.ws.length - k≤r / 4∧8<r
  ·refine (Sb.MR S g h.ws r (max (r / 2) 8) 8 400 k w H.out.stack (by omega) hc.1 hc.2 rfl).mono ?_
   rintro e w' ⟨rfl,hS',hM⟩;exact⟨⟨_,rfl⟩,H.out.zy hL.out hS' hM (.inr (Nat.le_refl _))⟩
  ·refine (Sb.MQ S g h.ws r 8 400 k w H.out.stack (by omega) hc).mono ?_
   rintro e w' ⟨rfl,hS',hM⟩;exact⟨⟨_,rfl⟩,H.out.zy hL.out hS' hM (.inl rfl)⟩
theorem zA (c:Cx)(L:av)(o i:Nat)(P:Nat→Nat)(w:World)(h:Th)(S g r:Nat)(vU:Value)(H:Hid (aD c L o i P w h S g r vU))(hL:Hid (bF c.B L w))(v:Int)(E:Nat)(hE:Hid (E=if h.ws.length=400 then 4 else 0))(ws':List Int)(hw:Hid (ws'=if h.ws.length=400 then h.ws else h.ws++[v])) :
  Calls Tryz.prog 142 #[.pointer (some ⟨S,0,none⟩),.int .i64 v] w fun e w'=>e=.returned (.int .i64 E)∧iG c L o i P w w' { h with ws:=ws' } S vU:=by
 have hE:=hE.out;have hw:=hw.out;have hfit:=H.out.stack.2.2;by_cases hn:h.ws.length=400
 ·refine (WO S g h.ws r 8 400 v w H.out.stack hn).mono ?_
  rintro e w' ⟨rfl,d,rfl⟩;rw[if_pos hn] at hw hE;rw[hw,hE];exact⟨rfl,iG.of_same H.out hL.out d⟩
 ·rw[if_neg hn] at hw hE
  rw[hw,hE];unfold Sk.Fits at hfit;by_cases hr:h.ws.length=r
  ·refine (Sb.MP S g h.ws r (min (2 * r) 400) 8 400 v w H.out.stack hr (by omega) rfl).mono ?_
   rintro e w' ⟨rfl,hS',hC,hM⟩;exact⟨rfl,H.out.zy hL.out ⟨by simpa using hS',hC,by unfold Sk.Fits;simp;omega⟩ hM (.inr (Nat.le_refl _))⟩
  ·refine (Sb.MO S g h.ws r 8 400 v w H.out.stack (by omega)).mono ?_
   rintro e w' ⟨rfl,hS',hC,hM⟩;exact⟨rfl,H.out.zy hL.out ⟨by simpa using hS',hC,by unfold Sk.Fits;simp;omega⟩ hM (.inl rfl)⟩
theorem below_drewN {B:Nat}{w w':World}(h:Below B w w')(n:Nat):Below B w (w'.drewN n):=⟨h.os,h.tape,h.output,h.size,h.block⟩
abbrev Gw (x:Ins):Value:=.agg #[.int .i64 x.op,.int .i64 x.a,.int .i64 x.n]
theorem iT (c:Cx)(L:av)(o i:Nat)(P:Nat→Nat)(w:World)(h:Th)(S g r:Nat)(vU:Value)(H:Hid (aD c L o i P w h S g r vU))(hC:Hid (kR c w))(hL:Hid (bF c.B L w))(f:Wk)(rs:List Wk)(hf:Hid (h.fs=f :: rs))(u:Un)(hu:Hid (c.m.units[f.u]?=some u))(x:Ins)(hx:Hid (u.code[f.pc]?=some x)) :
  Calls Tryz.prog 102 #[.pointer (some ⟨P i,0,none⟩)] w fun e w'=>e=.returned (Gw x)∧Below w.heap.size w w':=by
 obtain⟨U,cap,cur,hU,hh,_⟩:=H.out.work hf.out;obtain⟨k0,k1,k2,k3⟩:=H.out.inner hf.out hU;have HU:=Sb.hide hU;clear hU;obtain⟨b0,ahe,al,cl,_,_,hun,_⟩:=hC.out.units _ _ hu.out;obtain⟨q1,q2,q3,b,off,ec,hb,x0,x1,x2⟩:=hun.code _ _ hx.out;have hpl:f.pc<u.code.length:=(List.getElem?_eq_some_iff.1 hx.out).1;have hcc:=hun.af.2;have hcl:=hun.few.2;have hz:b<w.heap.size:=by have:=hL.out.size;omega
 have hUz:U<w.heap.size:=lt_of_block hh;clear hh;have eu:(unit c.m f.u).code=u.code:=by rw[show unit c.m f.u=u by simp[unit,hu.out]]
 unfold De at k0;rw[eu,ec] at k0;obtain⟨Len,hLen⟩:∃ n,n=u.code.length:=⟨_,rfl⟩;rw[← hLen] at k0 hpl hcl;have n0:(0:Int)≤(f.pc:Int):=by omega
 have n1:(f.pc:Int)<(Len:Int):=by omega
 have hne:¬ U=w.heap.size:=by omega
 have hne2:¬ b=w.heap.size:=by omega
 have ahf:¬ w.heap.size=U:=by omega
 have ahg:¬ w.heap.size=b:=by omega
 clear eu hun ec hLen hcc;go_enter Tryz.func102,Tryz.ntmps102
 go_wp2_with fail
 refine (kT c L o i P _ h S g r vU (H.out.keep (.refl _ _) rfl rfl (fun b hb _=>Below.heap_alloc _ _ _ hb)) f rs hf U cap HU).mono ?_;rintro e w' ⟨rfl,d,rfl⟩;go_wp2
 go_region_held3 (fun w'=>w'.cell? ⟨U,rs.length * 3,none⟩=some (.slice (some ⟨b,off,none⟩) Len (c.cc f.u))∧w'.cell? ⟨U,rs.length * 3+1,none⟩=some (.int .i64 f.pc)∧w'.cell? ⟨b,off+f.pc * 3,none⟩=some (.int .i64 x.op)∧w'.cell? ⟨b,off+f.pc * 3+1,none⟩=some (.int .i64 x.a)∧w'.cell? ⟨b,off+f.pc * 3+2,none⟩=some (.int .i64 x.n)) (go_keep) (fail)
 go_wp2
 refine bodyPost_ret (v:=Gw x) (by simp[results,Tryz.results102,go_sem]) rfl ⟨rfl,?_⟩;exact (((below_drewN ((Below.refl _ w).alloc (Nat.le_refl _) _) _).setCell (p:=⟨w.heap.size,0,none⟩) (Nat.le_refl _) _).setCell (p:=⟨w.heap.size,1,none⟩) (Nat.le_refl _) _).setCell (p:=⟨w.heap.size,2,none⟩) (Nat.le_refl _) _
theorem WQ (ws:List Int):o7 ws ((ws.length:Int) - 1)=(ws.getLast?).getD 0:=by
 unfold o7;cases ws with
 | nil=>rfl
 | cons a l =>
  rw[if_neg (by simp),List.getLast?_eq_getElem?];have e:(((a :: l).length:Int) - 1).toNat=(a :: l).length - 1:=by simp
  rw[e]
theorem WR (ws:List Int):ws.dropLast=if (1:Int)<0∨(ws.length:Int)<1 then ws else ws.take (ws.length - (1:Int).toNat):=by
 split
 ·rename_i h
  have:ws=[]:=List.eq_nil_of_length_eq_zero (by omega);rw[this];rfl
 ·rw[List.dropLast_eq_take];rfl
theorem MV (c:Cx)(L:av)(o i:Nat)(P:Nat→Nat)(w:World)(h:Th)(S g r:Nat)(vU:Value)(H:Hid (aD c L o i P w h S g r vU))(hL:Hid (bF c.B L w))(v:Int)(hv:Hid (v=(h.ws.getLast?).getD 0)) :
  Calls Tryz.prog 148 #[.pointer (some ⟨P i,0,none⟩)] w fun e w'=>e=.returned (.int .i64 v)∧iG c L o i P w w' { h with ws:=h.ws.dropLast } S vU:=by
 obtain⟨c0,c1,c2,c3⟩:=H.out.cells;have hfit:=H.out.stack.2.2;unfold Sk.Fits at hfit;have dx:h.ws.length≤400:=by omega
 obtain⟨n,hn⟩:∃ n,n=h.ws.length:=⟨_,rfl⟩;have HN:Hid (n=h.ws.length):=hn;have MW:n≤400:=by omega
 have rJ:Hid (IntKind.i64.wrap ((n:Int) - 1)=(n:Int) - 1):=IntWalk.i64_in _ ⟨by omega,by omega⟩;clear hfit hn dx;go_enter Tryz.func148,Tryz.ntmps148
 go_wp2
 go_region_held3 (fun w'=>w'.cell? ⟨P i,0,none⟩=some (.pointer (some ⟨S,0,none⟩))) (go_keep) (first | (go_at_call 146;rw[rJ.out];refine (Dh S g h.ws r 8 400 _ v _ (by exact H.out.stack) (by unfold Hid;rw[hv.out,HN.out,WQ])).mono ?_;rintro e w' ⟨rfl,d,rfl⟩) | (go_at_call 182;refine (Df S g h.ws r 8 400 _ (by exact H.out.stack)).mono ?_;rintro e w' ⟨rfl,rfl⟩;rw[← HN.out]))
 go_wp2_with fail
 refine (Gv c L o i P _ h S g r vU (Sb.hide (H.out.drewN _)) (Sb.hide (hL.out.on (Nat.le_refl _))) 1 _ (WR _)).mono ?_;rintro e w1 ⟨⟨x,rfl⟩,hp⟩;have HP:=Sb.hide hp.drewN;clear hp;go_wp2
 go_ret
 exact⟨rfl,HP.out⟩
theorem MX {P:Program}(w:World)(base:Nat)(t ty e:TypeId)(i:TypeInfo)(z:Value)(size bytes:Nat)(ht:P.underlying t=some (.slice e))(hi:P.info? e=some i)(hz:i.zero=some z)
  (hsize:i.size=size) (hby:i.bytes=bytes) (hzs:z.cells.size=size) (hsz:0<size)
  (v:Value) (n:Nat) (xs:List Value) (hown:w.ownsRow base e size v n xs)
  (a:Addr) (m c:Nat) (news:List Value) (hl:news.length=m * size) (hnews:∀ j u,news[j]?=some u→w.cell? (a.add j)=some u) (h1:∀ u ∈ news,u.oneCell'=true)
  (h0:0<m) (h63:n+m≤maxLen) (hbytes:(n+m) * bytes≤140737488355328) (hbase:base≤w.heap.size) :
  ∃ v' w',(Builtin.append_ #[t,t] ty #[v,.slice (some a) m c]).run P w=.ok v' w'∧w'.ownsRow base e size v' (n+m) (xs++news)∧w.grownBy w' v.ownBlock ∧
   ∃ g cap,v'=.slice (some ⟨g,0,none⟩) (n+m) cap∧(v.ownBlock=some g∨g=w.heap.size):=by
 obtain⟨v',w',hr,h2,h3,_⟩:=run_append_own (P:=P) w base t ty e i z size bytes ht hi hz hsize hby hzs hsz v n xs hown a m c news hl hnews h1 h63 hbytes hbase;refine⟨v',w',hr,h2,h3,?_⟩;have hsmall:n+m≤9223372036854775807:=by simp only[maxLen] at h63;omega
 subst hsize;subst hby;rcases hown.2 with⟨rfl,rfl⟩ | ⟨g,cap,cur,rfl,hbg,hg,hnc,hcm,hcs,htake⟩
 ·have hq:=run_append_nil (P:=P) w t ty e i z ht hi hz a m c news hl hnews h0 (by omega) (by have hb:=hbytes;simp only[Nat.zero_add] at hb;omega)
  rw[hr] at hq;injection hq with e1 e2
  exact⟨w.heap.size,_,by rw[e1,Nat.zero_add],.inr rfl⟩
 ·by_cases hroom:n+m≤cap
  ·have hfit:n * i.size+news.length≤cur.size:=by rw[hl,hcs,← Nat.add_mul];exact Nat.mul_le_mul_right _ hroom
   have hq:=run_append_room (P:=P) w t ty e i ht hi g n cap cur hg a m c news hl hnews h1 hroom hfit;rw[hr] at hq;injection hq with e1 e2
   exact⟨g,cap,e1,.inl rfl⟩
  ·have hq:=run_append_grow (P:=P) w t ty e i z ht hi hz ⟨g,0,none⟩ n cap xs hown.1 (hown.cells (g:=g) rfl) a m c news hl hnews (by omega) (by omega) (growslice_fits (by omega) hbytes)
   rw[hr] at hq;injection hq with e1 e2
   exact⟨w.heap.size,_,e1,.inr rfl⟩
theorem wZ {P:Program}{w:World}{ops:Array Oper}{rest:List Oper}{o:Oper}{a:Act}{Q:Exit→Act→World→Prop}(hgd:o.guard=none)(s x:Operand)(t:TypeId)
  (ho:o.op=.call { callee:=.builtin .append,args:=#[s,x],argTypes:=#[t,t] })
  (base:Nat) (e:TypeId) (i:TypeInfo) (z:Value) (size bytes:Nat) (ht:P.underlying t=some (.slice e)) (hi:P.info? e=some i) (hz:i.zero=some z)
  (hsize:i.size=size) (hby:i.bytes=bytes) (hzs:z.cells.size=size) (hsz:0<size)
  (v:Value) (n:Nat) (xs:List Value) (hs:a.eval s=v) (hown:w.ownsRow base e size v n xs)
  (ad:Addr) (m c:Nat) (news:List Value) (hx:a.eval x=.slice (some ad) m c) (hl:news.length=m * size) (hnews:∀ j u,news[j]?=some u→w.cell? (ad.add j)=some u) (h1:∀ u ∈ news,u.oneCell'=true)
  (h0:0<m) (h63:n+m≤maxLen) (hbytes:(n+m) * bytes≤140737488355328) (hbase:base≤w.heap.size)
  (h:∀ g cap w',w'.ownsRow base e size (.slice (some ⟨g,0,none⟩) (n+m) cap) (n+m) (xs++news)→w.grownBy w' v.ownBlock→(v.ownBlock=some g∨g=w.heap.size)→wpList P ops Q rest (a.put o.dst (.slice (some ⟨g,0,none⟩) (n+m) cap)) w'):wpList P ops Q (o :: rest) a w:=by
 refine wpList_plain hgd fun K hK=>?_;obtain⟨v',w',hr,h2,h3,g,cap,rfl,h4⟩:=MX (P:=P) w base t o.type e i z size bytes ht hi hz hsize hby hzs hsz v n xs hown ad m c news hl hnews h1 h0 h63 hbytes hbase;unfold Oper.wp;simp[execOp,ho,resolve,invoke,builtin,hs,hx,hr,Result.andThen];exact hK _ _ (h g cap w' h2 h3 h4)
theorem oh {P:Program}{ops:Array Oper}{o:Oper}{a:Act}{w:World}{K:Act→World→Prop}{Q:Exit→Act→World→Prop}{F:Prop}(hgd:o.guard=none)(s x:Operand)(t:TypeId)
  (ho:o.op=.call { callee:=.builtin .append,args:=#[s,x],argTypes:=#[t,t] })
  (base:Nat) (e:TypeId) (i:TypeInfo) (z:Value) (size bytes:Nat) (ht:P.underlying t=some (.slice e)) (hi:P.info? e=some i) (hz:i.zero=some z)
  (hsize:i.size=size) (hby:i.bytes=bytes) (hzs:z.cells.size=size) (hsz:0<size)
  (v:Value) (n:Nat) (xs:List Value) (hs:a.eval s=v) (hown:w.ownsRow base e size v n xs)
  (ad:Addr) (m c:Nat) (news:List Value) (hx:a.eval x=.slice (some ad) m c) (hl:news.length=m * size) (hnews:∀ j u,news[j]?=some u→w.cell? (ad.add j)=some u) (h1:∀ u ∈ news,u.oneCell'=true)
  (h0:0<m) (h63:n+m≤maxLen) (hbytes:(n+m) * bytes≤140737488355328) (hbase:base≤w.heap.size)
  (h:∀ g cap w',w'.ownsRow base e size (.slice (some ⟨g,0,none⟩) (n+m) cap) (n+m) (xs++news)→w.grownBy w' v.ownBlock→(v.ownBlock=some g∨g=w.heap.size)→K (a.put o.dst (.slice (some ⟨g,0,none⟩) (n+m) cap)) w') :
  if Region.wanted o (yielded ops a.tmps)=true then Oper.wp P o a w K Q else F:=by
 have hw:Region.wanted o (yielded ops a.tmps)=true:=by simp[Region.wanted,hgd]
 rw[if_pos hw];obtain⟨v',w',hr,h2,h3,g,cap,rfl,h4⟩:=MX (P:=P) w base t o.type e i z size bytes ht hi hz hsize hby hzs hsz v n xs hown ad m c news hl hnews h1 h0 h63 hbytes hbase;unfold Oper.wp;simp[execOp,ho,resolve,invoke,builtin,hs,hx,hr,Result.andThen];exact h g cap w' h2 h3 h4
theorem fq.trans {c:Cx}{L L1:av}{o i:Nat}{P:Nat→Nat}{w w1 w2:World}{h:Th}(hE:Ex o i L L1 w)(hC:aQ (dn L o i) w w1)(H:fq c L1 o i P w1 w2 h):fq c L o i P w w2 h:=by
 obtain⟨L2,S,g,r,vU,h1,h2,h3,h4⟩:=H;refine⟨L2,S,g,r,vU,h1,hE.trans h2 hC.size,h3,hC.size |> fun hz=>⟨h4.os.trans hC.os,h4.tape.trans hC.tape,h4.output.trans hC.output,Nat.le_trans hz h4.size,fun b hb hn=>(h4.block b (by omega) (fun hx=>hn ?_)).trans (hC.block b hb hn)⟩⟩;unfold dn at hx ⊢;rw[hE.1 b hb] at hx;exact hx
theorem fq.alloc {c:Cx}{L:av}{o i:Nat}{P:Nat→Nat}{w w':World}{h:Th}{ob:Obj}(H:fq c L o i P (w.alloc ob) w' h):fq c L o i P w w' h:=by
 obtain⟨L2,S,g,r,vU,h1,h2,h3,h4⟩:=H;have hz:=h4.size;simp at hz;exact⟨L2,S,g,r,vU,h1,⟨fun b hb=>h2.1 b (by simp;omega),h2.2⟩,h3,h4.os,h4.tape,h4.output,by omega,fun b hb hn=>(h4.block b (by simp;omega) hn).trans (Below.heap_alloc _ _ _ hb)⟩
theorem MZ {w:World}{H S:Nat}{vU v':Value}{stands:Nat}{up:Value}(h:w.heap[H]?=some (kr S vU stands up)):(w.setCell ⟨H,1,none⟩ v').heap[H]?=some (kr S v' stands up):=by
 simp only[World.setCell,Array.getElem?_modify,if_true,h,Option.map_some];rfl
theorem M0 {w:World}{H S:Nat}{vU:Value}{stands st':Nat}{up:Value}(h:w.heap[H]?=some (kr S vU stands up)):(w.setCell ⟨H,2,none⟩ (.int .i64 st')).heap[H]?=some (kr S vU st' up):=by
 simp only[World.setCell,Array.getElem?_modify,if_true,h,Option.map_some];rfl
theorem WS {w:World}{H S:Nat}{vU:Value}{stands:Nat}{up up':Value}(h:w.heap[H]?=some (kr S vU stands up)):(w.setCell ⟨H,3,none⟩ up').heap[H]?=some (kr S vU stands up'):=by
 simp only[World.setCell,Array.getElem?_modify,if_true,h,Option.map_some];rfl
theorem SK.far {w w':World}{S g r mn most:Nat}{ws:List Int}(h:Sb.SK w S g ws r mn most)(h1:w'.heap[S]?=w.heap[S]?)(h2:w'.heap[g]?=w.heap[g]?):Sb.SK w' S g ws r mn most:=by
 obtain⟨cs,hc,hr⟩:=h.2.1;exact⟨h1.trans h.1,⟨cs,h2.trans hc,hr⟩,h.2.2⟩
section
variable {c:Cx} {L:av} {o i:Nat} {P:Nat→Nat} {w:World} {h:Th} {S g r:Nat} {vU:Value}
theorem aD.Gx (H:aD c L o i P w h S g r vU):S≠P i:=fun e=>by have a:=H.l0;have b:=H.l1;rw[e,a] at b;cases b
theorem aD.Gy (H:aD c L o i P w h S g r vU):g≠P i:=fun e=>by have a:=H.l0;have b:=H.l2;rw[e,a] at b;cases b
theorem aD.uh (H:aD c L o i P w h S g r vU){U:Nat}(hU:vU.ownBlock=some U):U≠P i:=fun e=>by have a:=H.l0;have b:=H.l3 U hU;rw[e,a] at b;cases b
theorem aD.M3 (H:aD c L o i P w h S g r vU){U:Nat}(hU:vU.ownBlock=some U):S≠U:=fun e=>by have a:=H.l1;have b:=H.l3 U hU;rw[e,b] at a;cases a
theorem aD.M4 (H:aD c L o i P w h S g r vU){U:Nat}(hU:vU.ownBlock=some U):g≠U:=fun e=>by have a:=H.l2;have b:=H.l3 U hU;rw[e,b] at a;cases a
theorem aD.goto (H:aD c L o i P w h S g r vU){f:Wk}{rs:List Wk}(hf:h.fs=f :: rs){U cap:Nat}(hU:vU=.slice (some ⟨U,0,none⟩) (rs.length+1) cap)(n:Nat):aD c L o i P (w.setCell ⟨U,rs.length * 3+1,none⟩ (.int .i64 n)) { h with fs:={ f with pc:=n } :: rs } S g r vU:=by
 have hb:vU.ownBlock=some U:=by rw[hU];rfl
 have far:∀ k,k≠U→(w.setCell ⟨U,rs.length * 3+1,none⟩ (.int .i64 n)).heap[k]?=w.heap[k]?:=fun k hk=>Below.heap_setCell _ _ _ _ hk;have hlen:h.fs.length=rs.length+1:=by rw[hf];rfl
 refine⟨(far _ (fun e=>H.uh hb e.symm)).trans H.blk,SK.far H.stack (far _ (H.M3 hb)) (far _ (H.M4 hb)),?_,by have:=H.few;simp;omega,H.l0,H.l1,H.l2,H.l3⟩;obtain⟨U',cap',cur,hv,hh,h1,h2,h3,h4,_⟩:=H.work hf;rw[hU] at hv;simp at hv;obtain⟨rfl,rfl⟩:=hv;have hmod:(w.setCell ⟨U,rs.length * 3+1,none⟩ (.int .i64 n)).heap[U]?=some (.cells (cur.setIfInBounds (rs.length * 3+1) (.int .i64 n)) 257 (0,0)):=by
  simp only[World.setCell,Array.getElem?_modify,if_true,hh,Option.map_some];rfl
 refine⟨by rw[rH];simp,.inr ⟨U,cap,_,hU,Nat.zero_le _,hmod,h1,h2,by simpa using h3,?_⟩⟩;rw[List.reverse_cons,zx] at h4;rw[Array.toList_setIfInBounds,List.take_set,List.length_cons,h4,List.reverse_cons,zx,List.set_append_right _ _ (by rw[rH];simp),rH];simp[iR,nY]
theorem aD.left (H:aD c L o i P w h S g r vU){f:Wk}{rs:List Wk}(hf:h.fs=f :: rs){U cap:Nat}(hU:vU=.slice (some ⟨U,0,none⟩) (rs.length+1) cap):aD c L o i P (w.setCell ⟨P i,1,none⟩ (.slice (some ⟨U,0,none⟩) rs.length cap)) { h with fs:=rs } S g r (.slice (some ⟨U,0,none⟩) rs.length cap):=by
 have hb:vU.ownBlock=some U:=by rw[hU];rfl
 have far:∀ k,k≠P i→(w.setCell ⟨P i,1,none⟩ (.slice (some ⟨U,0,none⟩) rs.length cap)).heap[k]?=w.heap[k]?:=fun k hk=>Below.heap_setCell _ _ _ _ hk;have hlen:h.fs.length=rs.length+1:=by rw[hf];rfl
 refine⟨MZ H.blk,SK.far H.stack (far _ H.Gx) (far _ H.Gy),?_,by have:=H.few;simp;omega,H.l0,H.l1,H.l2,fun U' Gz=>H.l3 U' (by rw[hb];exact Gz)⟩;obtain⟨U',cap',cur,hv,hh,h1,h2,h3,h4,_⟩:=H.work hf;rw[hU] at hv;simp at hv;obtain⟨rfl,rfl⟩:=hv;refine⟨by rw[rH];simp,.inr ⟨U,cap,cur,rfl,Nat.zero_le _,(far _ (H.uh hb)).trans hh,by show rs.length≤cap;omega,h2,h3,?_⟩⟩;rw[List.reverse_cons,zx] at h4;have e:cur.toList.take (rs.length * 3)=(cur.toList.take ((rs.length+1) * 3)).take (rs.length * 3):=by rw[List.take_take,Nat.min_eq_left (by omega)]
 rw[e,h4,List.take_left' (by rw[rH];simp)]
theorem aD.entered (H:aD c L o i P w h S g r vU)(hL:bF c.B L w)(f:Wk){w2:World}{ob:Obj}{U cap:Nat}(dx:h.fs.length<40)(hown:w2.ownsRow 0 257 3 (.slice (some ⟨U,0,none⟩) (h.fs.length+1) cap) (h.fs.length+1) (iR c h.fs.reverse++nY c f))(hg:(w.alloc ob).grownBy w2 vU.ownBlock)(hU:vU.ownBlock=some U∨U=(w.alloc ob).heap.size) :
  fq c L o i P w (w2.setCell ⟨P i,1,none⟩ (.slice (some ⟨U,0,none⟩) (h.fs.length+1) cap)) { h with fs:=f :: h.fs }:=by
 obtain⟨cs,hc,_⟩:=H.stack.2.1;have z0:=lt_of_block H.blk;have z1:=lt_of_block H.stack.1;have z2:=lt_of_block hc;have hz:=hg.size;simp at hz;have hUz:w.heap.size≤U∨vU.ownBlock=some U:=by
  rcases hU with hU | hU
  ·exact .inr hU
  ·left;simp at hU;omega
 have old:∀ b,b<w.heap.size→vU.ownBlock≠some b→w2.heap[b]?=w.heap[b]?:=fun b hb hn=>(hg.block b (by simp;omega) (fun e=>hn e.symm)).trans (Below.heap_alloc _ _ _ hb);have far:∀ k,k≠P i→(w2.setCell ⟨P i,1,none⟩ (.slice (some ⟨U,0,none⟩) (h.fs.length+1) cap)).heap[k]?=w2.heap[k]?:=fun k hk=>Below.heap_setCell _ _ _ _ hk;have ext:Ext L (fun b=>if b=U then ⟨1,o,i+1,3⟩ else L b) w:=fun b hb=>by
  by_cases e:b=U
  ·rcases hUz with hx | hx
   ·omega
   ·simp only[e,if_true];rw[H.l3 U hx]
  ·simp only[e,if_false]
 have WU:U≠P i:=by
  rcases hUz with hx | hx
  ·omega
  ·exact H.uh hx
 have hU2:U<w2.heap.size:=(hown.lt U rfl).2;refine⟨_,S,g,r,.slice (some ⟨U,0,none⟩) (h.fs.length+1) cap,⟨MZ ((old _ z0 (fun e=>H.uh e rfl)).trans H.blk),SK.far H.stack ((far _ H.Gx).trans (old _ z1 (fun e=>H.M3 e rfl))) ((far _ H.Gy).trans (old _ z2 (fun e=>H.M4 e rfl))),?_,by simp;omega,(ext _ z0).trans H.l0,(ext _ z1).trans H.l1,(ext _ z2).trans H.l2,fun U' Gz=>?_⟩,MU _ _ ext,⟨fun b hb=>?_,fun b hb=>?_,by have:=hL.size;simp[World.setCell];omega⟩,?_⟩
 ·have e:iR c (f :: h.fs).reverse=iR c h.fs.reverse++nY c f:=by rw[List.reverse_cons,zx];simp[iR]
  show World.ownsRow _ _ _ _ _ (h.fs.length+1) (iR c (f :: h.fs).reverse)
  rw[e];exact bA hown (fun k hk=>by cases hk;exact far _ WU)
 ·cases Gz;simp
 ·have hb2:=hL.low b hb
  have e:b≠U:=fun e=>by
   rcases hUz with hx | hx
   ·have:=hL.size;omega
   ·have:=H.l3 U hx;rw[← e] at this;rw[this] at hb2;cases hb2
  simp only[e,if_false];exact hb2
 ·have hb':w2.heap.size≤b:=by simpa[World.setCell] using hb
  have e:b≠U:=by omega
  simp only[e,if_false];exact hL.new b (by omega)
 ·refine⟨hg.os,hg.tape,hg.output,by simp[World.setCell];omega,fun b hb hn=>?_⟩
  have e1:b≠P i:=fun e=>hn (by unfold dn;rw[e,H.l0];exact⟨rfl,rfl,rfl⟩);exact (far _ e1).trans (old b hb (fun e=>hn (by unfold dn;rw[H.l3 b e];exact⟨rfl,rfl,rfl⟩)))
end
end Go.Proofs.YtfcpglhpolpdcaaGreatDoor.Vw
