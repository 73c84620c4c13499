/- The calls that our machine takes as a whole,and reader.kids$1. -/
import Derived.Test.YtfcpglhpolpdcaaGreatDoorM47
import Derived.Test.YtfcpglhpolpdcaaGreatDoorM48
import Derived.Test.YtfcpglhpolpdcaaGreatDoorM39
set_option maxRecDepth 100000
set_option maxHeartbeats 1000000
namespace Go.Proofs.YtfcpglhpolpdcaaGreatDoor
open Go.RowKit
namespace Xe
noncomputable def LA:Sp:=fun call f args s=>bB (Nat.beq f 232) (some (Ls Tryz.prog call f args s)) (iO 90 19 193 call f args s)
theorem U9:Tryz.prog.follows .mixedOrders=true:=by kernel_rfl
theorem agj:KX Tryz.prog LA:=by
 intro call hC f args s v s' h;unfold LA at h;rw[bV,dZ] at h;split at h
 ·exact agi FV U9 hC (Option.some.inj h)
 ·exact afT call hC f args s v s' h
noncomputable def FY:Cl:=func Tryz.prog LA 60 false
theorem Va:iP Tryz.prog FY:=(afA FV agj (fun call hC=>afP FV U9 call hC) 60).1
end Xe
namespace Xe
noncomputable section
def told (r:Option (Value × S))(k:Value→S→Bool):Bool:=match r with
 | some (.tuple ⟨[x,.agg ⟨[.int .i64 (.ofNat 0),.int .i64 (.ofNat 0)]⟩]⟩,s)=>k x s
 | _=>false
def isRow (s:S)(v:Value)(n z:Nat)(l:List Value):Bool:=match v with
 | .slice (some a) n' _=>Nat.beq n n' && (match oK s.h a (Nat.mul n z) with | some r=>all2 rq r l | none=>false)
 | _=>false
end
theorem Vb {r:Option (Value × S)}{k:Value→S→Bool}(h:told r k=true):∃ x s,r=some (.tuple #[x,.agg #[.int .i64 0,.int .i64 0]],s)∧k x s=true:=by
 unfold told at h;split at h
 ·exact⟨_,_,rfl,h⟩
 ·cases h
theorem wR {φ:Ph}{k:IntKind}{n:Int}{u:Value}(h:V1 φ (.int k n) u):u=.int k n:=by
 rcases h with h | ⟨_,_,_,_,_,h,_⟩
 ·exact h
 ·cases h
theorem Vd {φ:Ph}{x v':Value}(h:V φ (.tuple #[x,.agg #[.int .i64 0,.int .i64 0]]) v'):∃ x',v'=.tuple #[x',.agg #[.int .i64 0,.int .i64 0]]∧V φ x x':=by
 obtain⟨c',rfl,hL⟩:∃ c',v'=.tuple c'∧L (VA φ) [x,.agg #[.int .i64 0,.int .i64 0]] c'.toList:=by
  rcases h with ((h | ⟨_,_,_,_,_,h,_⟩) | ⟨_,_,h,_⟩) | ⟨c,c',h1,h2,h3⟩
  ·exact h.elim
  ·cases h
  ·cases h
  ·cases h1;exact⟨c',h2,h3⟩
 obtain⟨cl⟩:=c';match cl,hL with
 | [a,b],⟨h1,h2,_⟩ =>
  refine⟨a,?_,.inl h1⟩;rcases h2 with h2 | ⟨d,d',e1,e2,h3⟩
  ·rcases h2 with h2 | ⟨_,_,_,_,_,h2,_⟩
   ·exact h2.elim
   ·cases h2
  ·cases e1
   subst e2;obtain⟨dl⟩:=d';match dl,h3 with
   | [p,q],⟨h4,h5,_⟩ =>
    rw[wR h4,wR h5]
theorem agk {φ:Ph}{v u:Value}(hc:(∃ n,v=iv n)∨∃ b,v=sv b)(h:V1 φ v u):u=v:=by
 rcases hc with⟨n,rfl⟩ | ⟨b,rfl⟩
 ·exact wR h
 ·rcases h with h | ⟨_,_,_,_,_,h,_⟩
  ·exact h
  ·cases h
theorem agl {φ:Ph}{s:S}{w:World}{v v':Value}{n z:Nat}{l:List Value}(h:isRow s v n z l=true)(hl:∀ u ∈ l,(∃ n,u=iv n)∨∃ b,u=sv b)(hV:V φ v v')(hS:dK φ s w) :
  ∃ b off c,v'=.slice (some ⟨b,off,none⟩) n c∧∀ (j:Nat) u,l[j]?=some u→w.cell? ⟨b,off+j,none⟩=some u:=by
 unfold isRow at h;split at h
 ·rename_i a n' z'
  rw[Bool.and_eq_true] at h;obtain⟨h1,h2⟩:=h;obtain rfl:=Nat.eq_of_beq_eq_true h1;split at h2
  ·rename_i r hr
   have e:=yR (fun _ _=>CB) h2;subst e;obtain⟨a',c,rfl,hSR⟩:=pX hV;have hsp:=(Fj.1 hr).1;rcases hSR with⟨h0,_⟩ | ⟨_,_,g,hg,rfl,_⟩
   ·exact absurd hsp h0
   obtain⟨l',hL,_,hc⟩:=Cm hr hS.rel (a':=⟨g.b,a.off,none⟩) ⟨hsp,g,hg,rfl⟩;refine⟨g.b,a.off,c,rfl,fun j u hu=>?_⟩;obtain⟨y,hy,hV1⟩:=hL.at hu;have e:=agk (hl u (List.mem_of_getElem? hu)) hV1;subst e;have:=hc j y hy;rcases j with _ | j<;>simpa[Addr.add] using this
  ·cases h2
 ·cases h
theorem agm {cl:Cl}(hcl:iP Tryz.prog cl){f:FuncId}{args:List Value}{v:Value}{s:S}(hr:cl f args s0=some (v,s))(w:World)(hT:qd w)(args':Array Value)(ha:L (V tH) args args'.toList) :
  Calls Tryz.prog f args' w fun e w'=>∃ φ v',e=.returned v'∧V φ v v'∧dK φ s w'∧Below w.heap.size w w'∧∀ x g,3≤x→φ x=some g→w.heap.size≤g.b:=by
 obtain⟨_,_,hcall⟩:=hcl _ _ _ _ _ hr;refine (hcall tH w args' ha (afV hT)).mono ?_;rintro e w' ⟨φ',v',rfl,hV,hP⟩;have LC:∀ x g,3≤x→tH x=some g→False:=fun x g h3 h=>by
  unfold tH at h;rw[if_neg (by omega),if_neg (by omega),if_neg (by omega)] at h;cases h
 refine⟨φ',v',rfl,hV,hP.stt,⟨hP.ext.out.1,hP.ext.out.2.1,hP.ext.out.2.2,hP.ext.size,fun k hk=>hP.ext.kept k hk fun x g h3 _ h=>(LC x g h3 h).elim⟩,fun x g h3 hg=>?_⟩;cases h0:tH x with
 | some g0=>exact (LC x g0 h3 h0).elim
 | none =>
  rcases hP.ext.news x g h0 hg with h1 | ⟨y,g',hy3,_,hy,_⟩
  ·exact h1
  ·exact (LC y g' hy3 hy).elim
theorem dK.alloc {φ:Ph}{s:S}{w:World}(h:dK φ s w)(o:Obj):dK φ s (w.alloc o):=(Post.grown h ((Below.refl _ w).alloc (Nat.le_refl _) o)).stt
end Xe
namespace Xe
noncomputable section
def tL:Value→Bool
 | .int .i64 _=>true
 | _=>false
def oQ:Value→Bool
 | .string _=>true
 | _=>false
def ze:Value→Bool
 | .slice _ _ _=>true
 | _=>false
def FZ:List (Int × List UInt8)→List Value→Bool
 | [],[]=>true
 | d :: ks,k :: s :: v2 :: v3 :: v4 :: v5 :: v6 :: v7 :: v8 :: r=>rq k (iv d.1) && (rq s (sv d.2) && (tL v2 && (oQ v3 && (tL v4 && (oQ v5 && (tL v6 && (ze v7 && (ze v8 && FZ ks r))))))))
 | _,_=>false
def CR (s:S)(v:Value)(ks:List (Int × List UInt8)):Bool:=match v with
 | .slice (some a) n' _=>Nat.beq ks.length n' && (match oK s.h a (Nat.mul ks.length 9) with | some r=>FZ ks r | none=>false)
 | _=>false
def Ve:ByteArray:=⟨#[98,111,120,32,98,32,110,117,109,32,49,32,59,32,116,97,115,107,32,99,32,123,32,111,117,116,32,114,101,99,118,32,40,32,98,32,41,32,59,32,125,32,116,97,115,107,32,97,32,123,32,115,101,110,100,32,98,32,55,32,59,32,125]⟩
def LD:List Value:=[sv [98],sv [97],sv [99]]
def zg:List (Int × List UInt8):=[(1,[98]),(4,[99]),(4,[97])]
def agn:Bool:=told (FY 8 [.string Ve] s0) fun l s=>told (FY 23 [l] s) fun o s2=>isRow s2 o 1 3 LD && CR s2 l zg
end
set_option maxRecDepth 1000000 in
theorem agp:agn=true:=by kernel_rfl
theorem LF {v:Value}(h:tL v=true):∃ n,v=.int .i64 n:=by
 unfold tL at h;split at h
 ·exact⟨_,rfl⟩
 ·cases h
theorem Vg {v:Value}(h:oQ v=true):∃ s,v=.string s:=by
 unfold oQ at h;split at h
 ·exact⟨_,rfl⟩
 ·cases h
theorem Vh {v:Value}(h:ze v=true):∃ a n c,v=.slice a n c:=by
 unfold ze at h;split at h
 ·exact⟨_,_,_,rfl⟩
 ·cases h
theorem LG {φ:Ph}{s:ByteArray}{u:Value}(h:V1 φ (.string s) u):u=.string s:=by
 rcases h with h | ⟨_,_,_,_,_,h,_⟩
 ·exact h
 ·cases h
theorem Vi {φ:Ph}{a:Option Addr}{n c:Nat}{u:Value}(h:V1 φ (.slice a n c) u):∃ a' n' c',u=.slice a' n' c':=by
 rcases h with h | ⟨_,_,_,_,_,h,_⟩
 ·cases a with
  | none=>exact⟨_,_,_,h.2⟩
  | some a=>obtain⟨a',c',h,_⟩:=h;exact⟨_,_,_,h⟩
 ·cases h
def zh (ks:List (Int × List UInt8)):List (Int × ByteArray):=ks.map fun d=>(d.1,⟨⟨d.2⟩⟩)
theorem Vj:∀ {ks:List (Int × List UInt8)} {l:List Value},FZ ks l=true→∀ (j:Nat) d,ks[j]?=some d→∃ (k2 k4 k6:Int) (s3 s5:ByteArray) (a7 a8:Option Addr) (n7 c7 n8 c8:Nat),
  l[j * 9]?=some (iv d.1)∧l[j * 9+1]?=some (sv d.2)∧l[j * 9+2]?=some (.int .i64 k2)∧l[j * 9+3]?=some (.string s3)∧l[j * 9+4]?=some (.int .i64 k4)∧l[j * 9+5]?=some (.string s5)∧l[j * 9+6]?=some (.int .i64 k6)∧l[j * 9+7]?=some (.slice a7 n7 c7)∧l[j * 9+8]?=some (.slice a8 n8 c8)
 | [],_,_,j,d,hd=>by simp at hd
 | e :: ks,l,h,j,d,hd=>by
  rcases l with _ | ⟨k,_ | ⟨s,_ | ⟨v2,_ | ⟨v3,_ | ⟨v4,_ | ⟨v5,_ | ⟨v6,_ | ⟨v7,_ | ⟨v8,r⟩⟩⟩⟩⟩⟩⟩⟩⟩;all_goals try (cases h;done)
  have h':(rq k (iv e.1) && (rq s (sv e.2) && (tL v2 && (oQ v3 && (tL v4 && (oQ v5 && (tL v6 && (ze v7 && (ze v8 && FZ ks r)))))))))=true:=h;simp only[Bool.and_eq_true] at h';obtain⟨g0,g1,g2,g3,g4,g5,g6,g7,g8,h1⟩:=h';cases j with
  | zero =>
   simp at hd;subst hd;obtain⟨k2,rfl⟩:=LF g2;obtain⟨s3,rfl⟩:=Vg g3;obtain⟨k4,rfl⟩:=LF g4;obtain⟨s5,rfl⟩:=Vg g5;obtain⟨k6,rfl⟩:=LF g6;obtain⟨a7,n7,c7,rfl⟩:=Vh g7;obtain⟨a8,n8,c8,rfl⟩:=Vh g8;exact⟨k2,k4,k6,s3,s5,a7,a8,n7,c7,n8,c8,by rw[← CB g0];rfl,by rw[← CB g1];rfl,rfl,rfl,rfl,rfl,rfl,rfl,rfl⟩
  | succ j =>
   obtain⟨k2,k4,k6,s3,s5,a7,a8,n7,c7,n8,c8,z⟩:=Vj h1 j d (by simpa using hd);have sh:∀ q,(k :: s :: v2 :: v3 :: v4 :: v5 :: v6 :: v7 :: v8 :: r)[(j+1) * 9+q]?=r[j * 9+q]?:=fun q=>by
    rw[show (j+1) * 9+q=j * 9+q+9 by omega];rfl
   refine⟨k2,k4,k6,s3,s5,a7,a8,n7,c7,n8,c8,?_⟩;rw[show (j+1) * 9=(j+1) * 9+0 from rfl,sh,Nat.add_assoc,Nat.add_assoc,Nat.add_assoc,Nat.add_assoc,Nat.add_assoc,Nat.add_assoc,Nat.add_assoc,Nat.add_assoc,sh,sh,sh,sh,sh,sh,sh,sh];simpa using z
theorem agq {cl:Cl}(hcl:iP Tryz.prog cl){f:FuncId}{args:List Value}{v:Value}{s s':S}(hr:cl f args s=some (v,s')){φ:Ph}{w:World}(hS:dK φ s w){B:Nat}(hB:∀ x g,3≤x→φ x=some g→B≤g.b)(hw:B≤w.heap.size)(args':Array Value)(ha:L (V φ) args args'.toList) :
  Calls Tryz.prog f args' w fun e w'=>∃ φ' v',e=.returned v'∧V φ' v v'∧dK φ' s' w'∧Below B w w'∧Sub φ φ'∧∀ k,k<w.heap.size→(∀ x g,3≤x→φ x=some g→g.b≠k)→w'.heap[k]?=w.heap[k]?:=by
 obtain⟨_,_,hcall⟩:=hcl _ _ _ _ _ hr;refine (hcall φ w args' ha hS).mono ?_;rintro e w' ⟨φ',v',rfl,hV,hP⟩;have keep:∀ k,k<w.heap.size→(∀ x g,3≤x→φ x=some g→g.b≠k)→w'.heap[k]?=w.heap[k]?:=fun k hk hn=>hP.ext.kept k hk fun x g h3 _ h=>hn x g h3 h;exact⟨φ',v',rfl,hV,hP.stt,⟨hP.ext.out.1,hP.ext.out.2.1,hP.ext.out.2.2,hP.ext.size,fun k hk=>keep k (by omega) fun x g h3 h=>by have:=hB x g h3 h;omega⟩,hP.ext.sub,keep⟩
theorem agr {φ φ':Ph}{s:S}{w:World}{v v':Value}{ks:List (Int × List UInt8)}(h:CR s v ks=true)(hV:V φ v v')(hs:Sub φ φ')(hS:dK φ' s w)(hk:∀ d ∈ ks,d.2.length≤281474976710656) :
  ∃ a c,v'=.slice a ks.length c∧Gr.pK w (zh ks) a:=by
 unfold CR at h;split at h
 ·rename_i a n' z'
  rw[Bool.and_eq_true] at h;obtain⟨h1,h2⟩:=h;obtain rfl:=Nat.eq_of_beq_eq_true h1;split at h2
  ·rename_i r hr
   obtain⟨a',c,rfl,hSR⟩:=pX hV;have hsp:=(Fj.1 hr).1;rcases hSR with⟨h0,_⟩ | ⟨_,_,g,hg,rfl,_⟩
   ·exact absurd hsp h0
   obtain⟨l',hL,_,hc⟩:=Cm hr hS.rel (a':=⟨g.b,a.off,none⟩) ⟨hsp,g,hs _ _ hg,rfl⟩;have hc':∀ (j:Nat) u,l'[j]?=some u→w.cell? ⟨g.b,a.off+j,none⟩=some u:=fun j u hu=>by
    have:=hc j u hu;rcases j with _ | j<;>simpa[Addr.add] using this
   refine⟨_,c,rfl,fun j d hd=>?_⟩;obtain⟨e,he,rfl⟩:∃ e,ks[j]?=some e∧(e.1,(⟨⟨e.2⟩⟩:ByteArray))=d:=by
    unfold zh at hd;rw[List.getElem?_map] at hd;exact Option.map_eq_some_iff.1 hd
   obtain⟨k2,k4,k6,s3,s5,a7,a8,n7,c7,n8,c8,z0,z1,z2,z3,z4,z5,z6,z7,z8⟩:=Vj h2 j e he;have at':∀ {q:Nat} {x:Value},r[q]?=some x→∃ y,V1 φ' x y∧w.cell? ⟨g.b,a.off+q,none⟩=some y:=fun {q x} hq=>by
    obtain⟨y,hy,hv⟩:=hL.at hq;exact⟨y,hv,hc' _ _ hy⟩
   obtain⟨y0,v0,c0⟩:=at' z0;obtain⟨y1,v1,c1⟩:=at' z1;obtain⟨y2,v2,c2⟩:=at' z2;obtain⟨y3,v3,c3⟩:=at' z3;obtain⟨y4,v4,c4⟩:=at' z4;obtain⟨y5,v5,c5⟩:=at' z5;obtain⟨y6,v6,c6⟩:=at' z6;obtain⟨y7,v7,c7'⟩:=at' z7;obtain⟨y8,v8,c8'⟩:=at' z8;obtain rfl:=wR v0;obtain rfl:=LG v1;obtain rfl:=wR v2;obtain rfl:=LG v3;obtain rfl:=wR v4;obtain rfl:=LG v5;obtain rfl:=wR v6;obtain⟨a7',n7',m7',rfl⟩:=Vi v7;obtain⟨a8',n8',m8',rfl⟩:=Vi v8;exact⟨hk e (List.mem_of_getElem? he),g.b,a.off,k2,k4,k6,s3,s5,a7',a8',n7',m7',n8',m8',rfl,hS.rel.bnd _ _ (hs _ _ hg),c0,c1,c2,c3,c4,c5,c6,c7',c8'⟩
  ·cases h2
 ·cases h
open Gr in
theorem agx:order [(⟨#[98]⟩,⟨#[97]⟩,⟨#[99]⟩)] (tasks (zh zg))=([⟨#[97]⟩,⟨#[99]⟩],[]):=by decide +kernel
open Gr in
theorem agy (w:World)(hT:Hd (qd w)):Calls Tryz.prog 5 #[] w fun e w'=>e=.returned (.bool true)∧Below w.heap.size w w':=by
 obtain⟨lv,s1,hr1,h1⟩:=Vb agp;obtain⟨ov,s2,hr2,h2⟩:=Vb h1;rw[Bool.and_eq_true] at h2;have HR2:Hd (FY 23 [lv] s1=_):=hr2;have Vk:Hd (isRow s2 ov 1 3 LD=true):=h2.1;have LH:Hd (CR s2 lv zg=true):=h2.2;have hc1:=agm Va hr1 w hT.out #[.string Ve] ⟨.dX rfl,trivial⟩;clear h1 h2 hr2 hr1;go_enter Tryz.func5,Tryz.ntmps5
 go_wp2_with fail
 refine hc1.mono ?_;rintro e w1 ⟨φ1,v1,rfl,hV1,hS1,hB1,hn1⟩;obtain⟨l',rfl,F3⟩:=Vd hV1;obtain⟨la,lc,rfl⟩:∃ a c,l'=.slice a 3 c:=by
  have h:=LH.out;unfold CR at h;split at h
  ·rename_i a n' z'
   rw[Bool.and_eq_true] at h;obtain rfl:=Nat.eq_of_beq_eq_true h.1;obtain⟨a',c,rfl,_⟩:=pX F3;exact⟨_,_,rfl⟩
  ·cases h
 obtain⟨W,hW⟩:∃ W,W=w1.alloc nM:=⟨_,rfl⟩;have dM:Hd (dK φ1 s1 (entry W)):=by rw[hW];exact ((hS1.alloc _).alloc _).alloc _
 have HB1:Hd (Below w.heap.size w W):=by rw[hW];exact hB1.alloc hB1.size _
 have aF:Hd (W.heap[w1.heap.size]?=some nM):=by rw[hW];exact heap_alloc_new _ _
 have HN:Hd (∀ x g,3≤x→φ1 x=some g→g.b<w1.heap.size):=fun x g _ hg=>hS1.rel.bnd x g hg;have HWs:Hd (w1.heap.size<W.heap.size):=by rw[hW];simp[Hd]
 have Vl:w.heap.size≤(entry W).heap.size:=by have:=HB1.out.size;unfold entry;simp;omega
 have hE:Calls Tryz.prog 23 #[.slice la 3 lc] (entry W) fun e w'=>RY (fun k=>k<w.heap.size∨k=w1.heap.size) (zh zg) la (.ok [(⟨#[98]⟩,⟨#[97]⟩,⟨#[99]⟩)]) W (entry W) e w':=by
  refine (agq Va HR2.out dM.out hn1 Vl #[.slice la 3 lc] ⟨F3,trivial⟩).mono ?_;rintro e w2 ⟨φ2,v2,rfl,hV2,hS2,hB2,hsub,hk2⟩;obtain⟨o',rfl,hVo⟩:=Vd hV2;obtain⟨b,off,c,rfl,hcell⟩:=agl Vk.out (by intro u hu;simp[LD] at hu;rcases hu with rfl | rfl | rfl<;>exact .inr ⟨_,rfl⟩) hVo hS2;obtain⟨a',c',he,hd⟩:=agr LH.out F3 hsub hS2 (by decide);cases he;refine⟨⟨hB2.os,hB2.tape,hB2.output,hB2.size,fun k h1 hS=>?_⟩,hd,by decide,by simp,_,_,rfl,fun j e he=>?_⟩
  ·by_cases hk:k<w.heap.size
   ·exact hB2.block k hk
   ·have hS':W.heap.size≤k∨k<w.heap.size∨k=w1.heap.size:=hS
    exact hk2 k h1 fun x g h3 hg e=>by have:=HN.out x g h3 hg;have:=HWs.out;omega
  match j,he with
  | 0,he =>
   simp at he;subst he;have x0:w2.cell? ⟨b,off+0,none⟩=some (.string ⟨#[98]⟩):=hcell 0 _ rfl;exact⟨b,off,rfl,World.block_lt_of_cell? w2 _ x0,x0,hcell 1 _ rfl,hcell 2 _ rfl⟩
  | j+1,he=>simp at he
 have hlen:(zh zg).length=3:=rfl;rw[← hlen] at hE;have hO:=adF (fun k=>k<w.heap.size∨k=w1.heap.size) (zh zg) la lc (.ok [(⟨#[98]⟩,⟨#[97]⟩,⟨#[99]⟩)]) W hE;rw[hlen] at hO;unfold RZ at hO;dsimp only at hO;rw[agx] at hO;clear hV1 F3 hS1 hB1 hc1 hn1 hE Vl HR2 Vk LH dM HN hlen;have HW:Hd (W=_):=hW;clear hW;go_wp2_with fail
 rw[← HW.out];refine hO.mono ?_;rintro e w2 ⟨hb2,vo,vl,rfl,ho,hv⟩;obtain⟨oa,oc,rfl⟩:=dA ho;obtain⟨ea,ec,rfl⟩:=dA hv;obtain⟨g,rfl,c0⟩:=Eu ho (i:=0) (by decide);have c1:=R9 ho (i:=1) (by decide);have hf:w2.heap[w1.heap.size]?=some nM:=(hb2.block _ (bU aF.out) (.inr rfl)).trans aF.out;obtain⟨g',cap,cur,e1,-,hh,-⟩:=JC ho (by decide);cases e1;have hgl:=bU hh;have hfl:=bU hf;obtain⟨f0,-⟩:=two hf;have HB2:Hd (Below w.heap.size w w2):=HB1.out.trans ⟨hb2.os,hb2.tape,hb2.output,hb2.size,fun k hk=>hb2.block k (by have:=HB1.out.size;omega) (.inl hk)⟩;replace c0:w2.cell? ⟨g,0,none⟩=some (.string ⟨#[97]⟩):=c0;replace c1:w2.cell? ⟨g,1,none⟩=some (.string ⟨#[99]⟩):=c1;clear hb2 ho hv hh hf aF HB1;simp only[List.length_cons,List.length_nil,Nat.zero_add];go_wp2
 go_ret
 exact⟨rfl,HB2.out.alloc HB2.out.size _⟩
end Xe
end Go.Proofs.YtfcpglhpolpdcaaGreatDoor
