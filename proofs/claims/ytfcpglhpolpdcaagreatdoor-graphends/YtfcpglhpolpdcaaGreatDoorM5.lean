/- The walks of push,pop and set. -/
import Derived.Test.YtfcpglhpolpdcaaGreatDoorM4
set_option maxHeartbeats 400000
namespace Go.Proofs.YtfcpglhpolpdcaaGreatDoor.Sb
open Go.RowKit
theorem SK.drew {w:World}{S g:Nat}{ws:List Int}{r mn most:Nat}(h:SK w S g ws r mn most):SK w.drew S g ws r mn most:=h
theorem CK.drew {w:World}{g:Nat}{ws:List Int}{r:Nat}(h:CK w g ws r):CK w.drew g ws r:=h
theorem CK.at {w:World}{g:Nat}{ws:List Int}{r:Nat}(h:CK w g ws r)(j:Nat)(hj:j<r):∃ v,w.cell? ⟨g,j,none⟩=some v∧w.frozen? ⟨g,j,none⟩=false:=by
 obtain⟨cs,hc,hl,_⟩:=h;obtain⟨v,hv⟩:∃ v,cs[j]?=some v:=⟨_,List.getElem?_eq_getElem (by omega)⟩;exact⟨v,by simp[World.cell?,hc,hv],by simp[World.frozen?,hc]⟩
theorem wY {w:World}{g:Nat}{cs:List Value}{t:TypeId}(h:w.heap[g]?=some (.cells cs.toArray t (0,0)))(j:Nat)(v:Value):(w.setCell ⟨g,j,none⟩ v).heap[g]?=some (.cells (cs.set j v).toArray t (0,0)):=by
 simp only[World.setCell,Array.getElem?_modify,if_true,h,Option.map_some,List.setIfInBounds_toArray];rfl
theorem CK.push {w:World}{g:Nat}{ws:List Int}{r:Nat}(h:CK w g ws r)(hj:ws.length<r)(v:Int):CK (w.setCell ⟨g,ws.length,none⟩ (.int .i64 v)) g (ws++[v]) r:=by
 obtain⟨cs,hc,hl,ht⟩:=h;refine⟨_,wY hc _ _,by simpa using hl,?_⟩;rw[List.length_append,List.length_singleton,List.take_succ_eq_append_getElem (by simp;omega),List.take_set_of_le (Nat.le_refl _),ht];simp
theorem CK.put {w:World}{g:Nat}{ws:List Int}{r:Nat}(h:CK w g ws r)(j:Nat)(v:Int):CK (w.setCell ⟨g,j,none⟩ (.int .i64 v)) g (ws.set j v) r:=by
 obtain⟨cs,hc,hl,ht⟩:=h;refine⟨_,wY hc _ _,by simpa using hl,?_⟩;rw[List.length_set,List.take_set,ht];simp[ints,List.map_set]
theorem CK.pop {w:World}{g:Nat}{ws:List Int}{r:Nat}(h:CK w g ws r)(c:Nat)(hc:c≤ws.length):CK w g (ws.take c) r:=by
 obtain⟨cs,hh,hl,ht⟩:=h;refine⟨cs,hh,hl,?_⟩;have e:(ws.take c).length=c:=by simp;omega
 have e2:ints (ws.take c)=(ints ws).take c:=by simp[ints,List.map_take]
 rw[e,e2,← ht,List.take_take,Nat.min_eq_left hc]
theorem Wx {w:World}{S g c r mn most:Nat}(h:w.heap[S]?=some (mg g c r mn most)) :
  w.cell? ⟨S,0,none⟩=some (.slice (some ⟨g,0,none⟩) r r)∧w.cell? ⟨S,1,none⟩=some (.int .i64 c)∧w.cell? ⟨S,3,none⟩=some (.int .i64 most)∧w.frozen? ⟨S,0,none⟩=false∧w.frozen? ⟨S,1,none⟩=false:=by
 simp[World.cell?,World.frozen?,h]
theorem Wy (S g:Nat)(ws:List Int)(r mn most:Nat)(v:Int)(w:World)(h:Hid (SK w S g ws r mn most))(hf:Hid (ws.length=most)) :
  Calls Tryz.prog 142 #[.pointer (some ⟨S,0,none⟩),.int .i64 v] w fun e w'=>e=.returned (.int .i64 4)∧Mv w w' S g:=by
 obtain⟨c0,c1,c2,c3⟩:=h.out.cells;have e1:((ws.length:Int)==(most:Int))=true:=by have:=hf.out;simp;omega
 go_enter Tryz.func142,Tryz.ntmps142
 go_wp2
 go_region_held3 (fun w'=>w'.cell? ⟨S,1,none⟩=some (.int .i64 ws.length)∧w'.cell? ⟨S,3,none⟩=some (.int .i64 most)) (go_keep) (fail)
 go_wp2
 go_ret
 exact⟨rfl,(Mv.refl _ _ _).drew⟩
theorem MO (S g:Nat)(ws:List Int)(r mn most:Nat)(v:Int)(w:World)(h:Hid (SK w S g ws r mn most))(hf:ws.length<r) :
  Calls Tryz.prog 142 #[.pointer (some ⟨S,0,none⟩),.int .i64 v] w fun e w'=>e=.returned (.int .i64 0)∧w'.heap[S]?=some (mg g (ws.length+1) r mn most)∧CK w' g (ws++[v]) r∧Mv w w' S g:=by
 obtain⟨c0,c1,c2,c3⟩:=h.out.cells;obtain⟨f0,f1⟩:=h.out.free;have hne:¬ g=S:=fun e=>h.out.ne e.symm;have hfit:=h.out.2.2;unfold Sk.Fits at hfit;obtain⟨h3,h4,h5,h6,h7⟩:=hfit;obtain⟨u,cu,fu⟩:=h.out.2.1.at ws.length hf;have e1:((ws.length:Int)==(most:Int))=false:=by simp;omega
 have e2:((ws.length:Int)==(r:Int))=false:=by simp;omega
 have n0:(0:Int)≤(ws.length:Int):=by omega
 have n1:(ws.length:Int)<(r:Int):=by omega
 go_enter Tryz.func142,Tryz.ntmps142
 go_wp2
 go_region_held3 (fun w'=>w'.cell? ⟨S,1,none⟩=some (.int .i64 ws.length)∧w'.cell? ⟨S,3,none⟩=some (.int .i64 most)) (go_keep) (fail)
 go_wp2
 go_region_held3 (fun w'=>w'.cell? ⟨S,1,none⟩=some (.int .i64 ws.length)) (go_keep) ((go_at_call 180;refine (ug S g ws r mn most _ h.out.drew.drew).mono ?_;rintro e w' ⟨rfl,rfl⟩))
 go_wp2
 go_region_held3 (fun w'=>w'.cell? ⟨S,0,none⟩=some (.slice (some ⟨g,0,none⟩) r r)∧w'.cell? ⟨S,1,none⟩=some (.int .i64 ws.length)) (go_keep) (fail)
 go_wp2
 go_ret
 refine⟨rfl,?_,?_,(((Mv.refl w S g).set (.inr (.inl rfl)) _).set (.inl rfl) _).drew.drew.drew⟩
 ·exact Gs ((Below.heap_setCell _ _ _ _ (fun e=>hne e.symm)).trans h.out.1) (by go_num)
 ·exact CK.far (Below.heap_setCell _ _ _ _ hne) (h.out.2.1.push hf v)
theorem MP (S g:Nat)(ws:List Int)(r q mn most:Nat)(v:Int)(w:World)(h:Hid (SK w S g ws r mn most))(hr:Hid (ws.length=r))(hf:ws.length<most)(hq:Hid (q=min (2 * r) most)) :
  Calls Tryz.prog 142 #[.pointer (some ⟨S,0,none⟩),.int .i64 v] w fun e w'=>e=.returned (.int .i64 0)∧w'.heap[S]?=some (mg w.heap.size (ws.length+1) q mn most)∧CK w' w.heap.size (ws++[v]) q∧Mv w w' S g:=by
 obtain⟨c0,c1,c2,c3⟩:=h.out.cells;have hS:=lt_of_block h.out.1;have hfit:=h.out.2.2;unfold Sk.Fits at hfit;obtain⟨h3,h4,h5,h6,h7⟩:=hfit;have e1:((ws.length:Int)==(most:Int))=false:=by simp;omega
 have e2:((ws.length:Int)==(r:Int))=true:=by have:=hr.out;simp;omega
 have hq1:ws.length<q:=by have:=hr.out;have:=hq.out;omega
 have hq2:q≤400:=by have:=hq.out;omega
 have Gt:Hid ((if (most:Int)<IntKind.i64.wrap (2 * (r:Int)) then (most:Int) else IntKind.i64.wrap (2 * (r:Int)))=(q:Int)):=by
  unfold Hid;rw[IntWalk.i64_in _ ⟨by omega,by omega⟩,hq.out];split<;>omega
 go_enter Tryz.func142,Tryz.ntmps142
 go_wp2
 go_region_held3 (fun w'=>w'.cell? ⟨S,1,none⟩=some (.int .i64 ws.length)∧w'.cell? ⟨S,3,none⟩=some (.int .i64 most)) (go_keep) (fail)
 go_wp2
 go_region_held3 (fun w'=>w'.cell? ⟨S,1,none⟩=some (.int .i64 ws.length)) (go_keep) ((go_at_call 180;refine (ug S g ws r mn most _ h.out.drew.drew).mono ?_;rintro e w' ⟨rfl,rfl⟩))
 go_wp2
 go_region_held3 (fun w'=>w'.cell? ⟨S,3,none⟩=some (.int .i64 most)) (go_keep) (first | (go_at_call 180;refine (ug S g ws r mn most _ h.out.drew.drew.drew).mono ?_;rintro e w' ⟨rfl,rfl⟩) | (go_at_call 181;rw[Gt.out];refine (MN S g ws r q mn most _ h.out.drew.drew.drew (by omega) hq2).mono ?_;rintro e w1 ⟨rfl,hS1,gT,hM1⟩;have dM:Hid (w1.heap[S]?=some (mg w.heap.size ws.length q mn most)):=hS1;have nW:Hid (CK w1 w.heap.size ws q):=gT;have kP:Hid (Mv w w1 S g):=⟨hM1.os,hM1.tape,hM1.output,hM1.size,hM1.block⟩;obtain⟨d0,d1,d3,g0,g1⟩:=Wx hS1;clear hS1 gT hM1))
 have hne:¬ w.heap.size=S:=by omega
 obtain⟨u,cu,fu⟩:=nW.out.at ws.length hq1;have n0:(0:Int)≤(ws.length:Int):=by omega
 have n1:(ws.length:Int)<(q:Int):=by omega
 clear c0 c1 c2 c3;go_wp2
 go_region_held3 (fun w'=>w'.cell? ⟨S,0,none⟩=some (.slice (some ⟨w.heap.size,0,none⟩) q q)∧w'.cell? ⟨S,1,none⟩=some (.int .i64 ws.length)) (go_keep) (fail)
 go_wp2
 go_ret
 refine⟨rfl,?_,?_,((kP.out.set (.inr (.inr (Nat.le_refl _))) _).set (.inl rfl) _).drew⟩
 ·exact Gs ((Below.heap_setCell _ _ _ _ (fun e=>hne e.symm)).trans dM.out) (by go_num)
 ·exact CK.far (Below.heap_setCell _ _ _ _ hne) (nW.out.push hq1 v)
theorem hide {p:Prop}(h:p):Hid p:=h
theorem Wz {w a b c:World}{S g:Nat}(h:Mv w a S g)(k:Mv b c S g)(hos:b.os=a.os:=by rfl)(ht:b.tape=a.tape:=by rfl)(ho:b.output=a.output:=by rfl)(hh:b.heap=a.heap:=by rfl):Mv w c S g :=
 ⟨k.os.trans (hos.trans h.os),k.tape.trans (ht.trans h.tape),k.output.trans (ho.trans h.output),by have:=h.size;have:=k.size;rw[hh] at this;omega,fun i hi h1 h2=>by
  rw[k.block i (by rw[hh];have:=h.size;omega) h1 h2,hh];exact h.block i hi h1 h2⟩
theorem Mv.drewN {w w':World}{S g:Nat}(h:Mv w w' S g)(n:Nat):Mv w (w'.drewN n) S g:=⟨h.os,h.tape,h.output,h.size,h.block⟩
theorem WC (S g:Nat)(ws:List Int)(r mn most:Nat)(n:Int)(w:World)(h:Hid (SK w S g ws r mn most))(hn:n<0∨(ws.length:Int)<n) :
  Calls Tryz.prog 184 #[.pointer (some ⟨S,0,none⟩),.int .i64 n] w fun e w'=>e=.returned (.int .i64 3)∧Mv w w' S g:=by
 obtain⟨c0,c1,c2,c3⟩:=h.out.cells;by_cases hz:n<0
 ·go_enter Tryz.func184,Tryz.ntmps184
  go_wp2
  go_ret
  exact⟨rfl,Mv.refl _ _ _⟩
 ·have hz2:(ws.length:Int)<n:=by omega
  clear hn;go_enter Tryz.func184,Tryz.ntmps184
  go_wp2
  go_ret
  exact⟨rfl,Mv.refl _ _ _⟩
theorem SK.popped {w:World}{S g:Nat}{ws:List Int}{r mn most k:Nat}(h:SK w S g ws r mn most)(hk:k≤ws.length):SK (w.setCell ⟨S,1,none⟩ (.int .i64 ((ws.length:Int) - (k:Int)))) S g (ws.take (ws.length - k)) r mn most:=by
 have e:(ws.take (ws.length - k)).length=ws.length - k:=by simp
 refine⟨?_,?_,?_⟩
 ·rw[e];exact Gs h.1 (by omega)
 ·exact CK.far (Below.heap_setCell _ _ _ _ (fun e=>h.ne e.symm)) (h.2.1.pop _ (by omega))
 ·rw[e];have:=h.2.2;unfold Sk.Fits at *;omega
theorem MQ (S g:Nat)(ws:List Int)(r mn most k:Nat)(w:World)(h:Hid (SK w S g ws r mn most))(hk:k≤ws.length)(hs:¬ (ws.length - k≤r / 4∧mn<r)) :
  Calls Tryz.prog 184 #[.pointer (some ⟨S,0,none⟩),.int .i64 k] w fun e w'=>e=.returned (.int .i64 0)∧SK w' S g (ws.take (ws.length - k)) r mn most∧Mv w w' S g:=by
 obtain⟨c0,c1,c2,c3⟩:=h.out.cells;obtain⟨f0,f1⟩:=h.out.free;have nX:=hide (h.out.popped hk);have hfit:=h.out.2.2;unfold Sk.Fits at hfit;obtain⟨h3,h4,h5,h6,h7⟩:=hfit;have n0:¬ (k:Int)<0:=by omega
 have n1:¬ (ws.length:Int)<(k:Int):=by omega
 by_cases hc:ws.length - k≤r / 4
 ·have d1:decide ((ws.length:Int) - (k:Int)≤(r:Int) / 4)=true:=by simp;omega
  have d2:decide ((mn:Int)<(r:Int))=false:=by simp;omega
  have hmr:¬ mn<r:=by omega
  clear hs hc;go_enter Tryz.func184,Tryz.ntmps184
  go_wp2
  go_quiet ((go_at_call 180;exact Calls.quiet_of_same (ug S g (ws.take (ws.length - k)) r mn most _ nX.out)))
  go_wp2
  go_ret
  exact⟨rfl,nX.out,((Mv.refl w S g).set (.inl rfl) _).drewN _⟩
 ·have d1:decide ((ws.length:Int) - (k:Int)≤(r:Int) / 4)=false:=by simp;omega
  clear hs hc;go_enter Tryz.func184,Tryz.ntmps184
  go_wp2
  go_quiet ((go_at_call 180;exact Calls.quiet_of_same (ug S g (ws.take (ws.length - k)) r mn most _ nX.out)))
  go_wp2
  go_ret
  exact⟨rfl,nX.out,((Mv.refl w S g).set (.inl rfl) _).drewN _⟩
theorem MR (S g:Nat)(ws:List Int)(r q mn most k:Nat)(w:World)(h:Hid (SK w S g ws r mn most))(hk:k≤ws.length)(hc:ws.length - k≤r / 4)(hm:mn<r)(hq:Hid (q=max (r / 2) mn)) :
  Calls Tryz.prog 184 #[.pointer (some ⟨S,0,none⟩),.int .i64 k] w fun e w'=>e=.returned (.int .i64 0)∧SK w' S w.heap.size (ws.take (ws.length - k)) q mn most∧Mv w w' S g:=by
 obtain⟨c0,c1,c2,c3⟩:=h.out.cells;obtain⟨f0,f1⟩:=h.out.free;have nX:=hide (h.out.popped hk);have hfit:=h.out.2.2;unfold Sk.Fits at hfit;obtain⟨h3,h4,h5,h6,h7⟩:=hfit;have n0:¬ (k:Int)<0:=by omega
 have n1:¬ (ws.length:Int)<(k:Int):=by omega
 have d1:decide ((ws.length:Int) - (k:Int)≤(r:Int) / 4)=true:=by simp;omega
 have d2:decide ((mn:Int)<(r:Int))=true:=by simp;omega
 have hq1:(ws.take (ws.length - k)).length≤q:=by have:=hq.out;simp;omega
 have hq2:q≤400:=by have:=hq.out;omega
 have Gt:Hid ((if IntKind.i64.wrap ((r:Int) / 2)<(mn:Int) then (mn:Int) else IntKind.i64.wrap ((r:Int) / 2))=(q:Int)):=by
  unfold Hid;rw[IntWalk.i64_in _ ⟨by omega,by omega⟩,hq.out];split<;>omega
 have kQ:Hid (Mv w (w.setCell ⟨S,1,none⟩ (.int .i64 ((ws.length:Int) - (k:Int)))) S g):=(Mv.refl w S g).set (.inl rfl) _;have HF:Hid (Sk.Fits mn most (ws.take (ws.length - k)).length q):=by have:=hq.out;unfold Hid Sk.Fits;simp;omega
 go_enter Tryz.func184,Tryz.ntmps184
 go_wp2
 go_quiet ((go_at_call 180;exact Calls.quiet_of_same (ug S g (ws.take (ws.length - k)) r mn most _ nX.out)))
 go_wp2
 have k2:(w.setCell ⟨S,1,none⟩ (.int .i64 ((ws.length:Int) - (k:Int)))).cell? ⟨S,2,none⟩=some (.int .i64 mn):=nX.out.cells.2.2.1;go_region_held3 (fun w'=>w'.cell? ⟨S,2,none⟩=some (.int .i64 mn)) (go_keep) (first | (go_at_call 180;refine (ug S g (ws.take (ws.length - k)) r mn most _ (by exact nX.out)).mono ?_;rintro e w' ⟨rfl,rfl⟩) | (go_at_call 181;rw[Gt.out];refine (MN S g (ws.take (ws.length - k)) r q mn most _ (by exact nX.out) hq1 hq2).mono ?_;rintro e w1 ⟨rfl,hS1,gT,hM1⟩;have dM:Hid (SK w1 S w.heap.size (ws.take (ws.length - k)) q mn most∧Mv w w1 S g):=⟨⟨by simpa using hS1,by simpa using gT,HF.out⟩,Wz kQ.out hM1⟩;clear hS1 gT hM1;have k2:w1.cell? ⟨S,2,none⟩=some (.int .i64 mn):=dM.out.1.cells.2.2.1))
 go_wp2
 go_ret
 exact⟨rfl,dM.out⟩
theorem WE (S g:Nat)(ws:List Int)(r mn most k:Nat)(v:Int)(w:World)(h:Hid (SK w S g ws r mn most))(hk:k<ws.length) :
  Calls Tryz.prog 147 #[.pointer (some ⟨S,0,none⟩),.int .i64 k,.int .i64 v] w fun e w'=>e=.returned (.int .i64 0)∧SK w' S g (ws.set k v) r mn most∧Mv w w' S g:=by
 obtain⟨c0,c1,c2,c3⟩:=h.out.cells;have hfit:=h.out.2.2;unfold Sk.Fits at hfit;obtain⟨h3,h4,h5,h6,h7⟩:=hfit;obtain⟨u,cu,fu⟩:=h.out.2.1.at k (by omega);have hne:¬ g=S:=fun e=>h.out.ne e.symm;have n0:(0:Int)≤(k:Int):=by omega
 have n1:(k:Int)<(ws.length:Int):=by omega
 have n2:(k:Int)<(r:Int):=by omega
 go_enter Tryz.func147,Tryz.ntmps147
 go_wp2
 go_ret
 refine⟨rfl,⟨?_,h.out.2.1.put k v,?_⟩,(Mv.refl w S g).set (.inr (.inl rfl)) _⟩
 ·rw[List.length_set];exact (Below.heap_setCell _ _ _ _ (fun e=>hne e.symm)).trans h.out.1
 ·rw[List.length_set];exact h.out.2.2
def fM (w w':World)(S g mn most E:Nat)(ws:List Int)(r:Nat):Prop:=(E=0→∃ g',SK w' S g' ws r mn most∧(g'=g∨w.heap.size≤g'))∧Mv w w' S g
theorem Sk.MS (most c:Nat)(o:Sk.Op)(h:o.kind=1):Sk.err most c o=if c=most then 4 else 0:=by unfold Sk.err;rw[if_pos h]
theorem Sk.WG (most c:Nat)(o:Sk.Op)(h:o.kind=2):Sk.err most c o=if o.n<0∨(c:Int)<o.n then 3 else 0:=by unfold Sk.err;rw[if_neg (by omega),if_pos h]
theorem Mc (S g:Nat)(ws:List Int)(r mn most:Nat)(o:Sk.Op)(w:World)(h:Hid (SK w S g ws r mn most))(ho:o.kind=1) :
  Calls Tryz.prog 142 #[.pointer (some ⟨S,0,none⟩),.int .i64 o.v] w fun e w'=>e=.returned (.int .i64 (Sk.err most ws.length o:Nat))∧fM w w' S g mn most (Sk.err most ws.length o) (Sk.qo ws o) (Sk.rm mn most r ws.length o):=by
 rw[Sk.MS _ _ _ ho];have hfit:=h.out.2.2;have hS:=lt_of_block h.out.1;by_cases hm:ws.length=most
 ·rw[if_pos hm]
  refine (Wy S g ws r mn most o.v w h hm).mono ?_;rintro e w' ⟨rfl,hM⟩;exact⟨rfl,fun h=>by omega,hM⟩
 ·rw[if_neg hm]
  have he:Sk.err most ws.length o=0:=by rw[Sk.MS _ _ _ ho,if_neg hm]
  have hf2:=Sk.Ws hfit he;have ew:Sk.qo ws o=ws++[o.v]:=by unfold Sk.qo;rw[if_pos ho]
  have er:Sk.rm mn most r ws.length o=if ws.length=r then min (2 * r) most else r:=by unfold Sk.rm;rw[if_pos ho]
  rw[ew,er] at hf2;rw[ew,er];unfold Sk.Fits at hfit;by_cases hr:ws.length=r
  ·rw[if_pos hr] at hf2 ⊢
   refine (MP S g ws r (min (2 * r) most) mn most o.v w h hr (by omega) rfl).mono ?_;rintro e w' ⟨rfl,hS',hC,hM⟩;exact⟨rfl,fun _=>⟨w.heap.size,⟨by simpa using hS',hC,hf2⟩,.inr (Nat.le_refl _)⟩,hM⟩
  ·rw[if_neg hr] at hf2 ⊢
   refine (MO S g ws r mn most o.v w h (by omega)).mono ?_;rintro e w' ⟨rfl,hS',hC,hM⟩;exact⟨rfl,fun _=>⟨g,⟨by simpa using hS',hC,hf2⟩,.inl rfl⟩,hM⟩
theorem Me (S g:Nat)(ws:List Int)(r mn most:Nat)(o:Sk.Op)(w:World)(h:Hid (SK w S g ws r mn most))(ho:o.kind=2) :
  Calls Tryz.prog 184 #[.pointer (some ⟨S,0,none⟩),.int .i64 o.n] w fun e w'=>e=.returned (.int .i64 (Sk.err most ws.length o:Nat))∧fM w w' S g mn most (Sk.err most ws.length o) (Sk.qo ws o) (Sk.rm mn most r ws.length o):=by
 rw[Sk.WG _ _ _ ho];by_cases hm:o.n<0∨(ws.length:Int)<o.n
 ·rw[if_pos hm]
  refine (WC S g ws r mn most o.n w h hm).mono ?_;rintro e w' ⟨rfl,hM⟩;exact⟨rfl,fun h=>by omega,hM⟩
 ·rw[if_neg hm]
  obtain⟨k,hk⟩:∃ k:Nat,o.n=k:=⟨o.n.toNat,by omega⟩;have ew:Sk.qo ws o=ws.take (ws.length - k):=by unfold Sk.qo;rw[if_neg (by omega),if_pos ho,hk];rfl
  have er:Sk.rm mn most r ws.length o=if ws.length - k≤r / 4∧mn<r then max (r / 2) mn else r:=by unfold Sk.rm;rw[if_neg (by omega),if_pos ho,hk];rfl
  rw[ew,er,hk];by_cases hc:ws.length - k≤r / 4∧mn<r
  ·rw[if_pos hc]
   refine (MR S g ws r (max (r / 2) mn) mn most k w h (by omega) hc.1 hc.2 rfl).mono ?_;rintro e w' ⟨rfl,hS',hM⟩;exact⟨rfl,fun _=>⟨w.heap.size,hS',.inr (Nat.le_refl _)⟩,hM⟩
  ·rw[if_neg hc]
   refine (MQ S g ws r mn most k w h (by omega) hc).mono ?_;rintro e w' ⟨rfl,hS',hM⟩;exact⟨rfl,fun _=>⟨g,hS',.inl rfl⟩,hM⟩
theorem SK.alloc {w:World}{S g:Nat}{ws:List Int}{r mn most:Nat}(h:SK w S g ws r mn most)(o:Obj):SK (w.alloc o) S g ws r mn most:=by
 obtain⟨cs,hc,hr⟩:=h.2.1;exact⟨(Below.heap_alloc _ _ _ (lt_of_block h.1)).trans h.1,⟨cs,(Below.heap_alloc _ _ _ (lt_of_block hc)).trans hc,hr⟩,h.2.2⟩
end Go.Proofs.YtfcpglhpolpdcaaGreatDoor.Sb
