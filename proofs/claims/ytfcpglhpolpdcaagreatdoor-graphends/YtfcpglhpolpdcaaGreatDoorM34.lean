/- The walk of newWorld. -/
import Derived.Test.YtfcpglhpolpdcaaGreatDoorM33
set_option maxRecDepth 100000
set_option maxHeartbeats 2000000
namespace Go.Proofs.YtfcpglhpolpdcaaGreatDoor.Vw
open Go.RowKit Vf Vm
theorem acH {c:Cx}{ab:Option Addr}{cb:Nat}{w wr:World}{vx vb:Value}{Q G:Nat→Nat}(hB:c.B≤w.heap.size)(H:lh c ab cb w c.m.boxes.length vx vb Q G wr):bF c.B (ll (w.heap.size+1) c.m.boxes.length Q G) wr:=by
 have A9:=H.below.size;have fV:=lt_of_block H.wb;refine⟨fun b hb=>?_,fun b hb=>?_,by omega⟩
 ·rw[Ej (by omega) (fun i hi e=>by have:=H.low i hi;omega) (fun i hi e=>by have:=H.low i hi;omega)]
 ·rw[Ej (by omega) (fun i hi e=>by have:=H.low i hi;omega) (fun i hi e=>by have:=H.low i hi;omega)]
theorem acI (c:Cx)(K:KM)(hK:Hid (ib c.m K))(hv:Hid (verify c.m=(0,0,0)))(hnb:c.m.boxes.length≤30)(w:World)(hcx:Hid (kR c w))(hB:c.B≤w.heap.size)(ab:Option Addr)(cb:Nat)(hbx:Hid (zm c.B w c.m.boxes ab)) :
  Calls Tryz.prog 14 #[.agg #[.slice ab c.m.boxes.length cb,.slice c.au c.m.units.length c.cu]] w fun e w'=>∃ (s:Sx) (L:av) (vt vx:Value),e=.returned (.pointer (some ⟨s.WB,0,none⟩))∧s.c=c∧sH s deafW∧dS s deafW L w' (jB c.m) vt vx∧Below w.heap.size w w'∧∀ b,b<w.heap.size→(L b).cls=0:=by
 obtain⟨i0,hi,hz0,hz1,hz2⟩:=info_parts Tryz.acr;obtain⟨i1,hi1,hy0,hy1,hy2⟩:=info_parts Tryz.acs;have HST:Hid (lh c ab cb w 0 (.slice none 0 0) (.slice none 0 0) (fun _=>0) (fun _=>0) ((w.alloc (Ei c ab cb)).alloc (sI (.slice none 0 0) (.slice none 0 0) 0 (-1)))):=by
  have e:(w.alloc (Ei c ab cb)).heap.size=w.heap.size+1:=by simp
  refine⟨Nat.zero_le _,((Below.refl _ w).alloc (Nat.le_refl _) _).alloc (by simp) _,(Below.heap_alloc _ _ _ (by simp)).trans (heap_alloc_new w _),?_,⟨rfl,.inl ⟨rfl,rfl⟩⟩,⟨rfl,.inl ⟨rfl,rfl⟩⟩,fun i b hi=>by omega,fun i hi=>by omega,fun i j _ hj=>by omega⟩;rw[← e];exact heap_alloc_new _ _
 obtain⟨N,hN⟩:∃ N,N=c.m.boxes.length:=⟨_,rfl⟩;have HN:=Sb.hide hN;rw[← hN] at hnb ⊢;clear hN;go_enter Tryz.func14,Tryz.ntmps14
 go_wp2
 go_loopw [4,14] (fun vb v wr=>∃ k:Nat,v=.int .i64 k∧∃ vx Q G,lh c ab cb w k vx vb Q G wr) (fun _ v _=>N - (intOf v).toNat)
 case atStart=>exact⟨0,rfl,_,_,_,by have:=HST.out;unfold Ei at this;rw[← HN.out] at this;exact this⟩
 case round =>
  obtain⟨k,rfl,vx,Q,G,hA⟩:=hrel;have HA:=Sb.hide hA;have hk:=hA.le;have hbz:=hA.below.size;have fV:=lt_of_block hA.wb;obtain⟨⟨q1,q0⟩,qf,q2,q3⟩:=hA.acx;rw[← HN.out] at hk q2;clear hA HST;by_cases hlt:k<N
  ·obtain⟨b,hb⟩:∃ b,c.m.boxes[k]?=some b:=⟨_,List.getElem?_eq_getElem (by rw[← HN.out];exact hlt)⟩
   obtain⟨_,_,bb,Re,rfl,hbb,y0,y1⟩:=hbx.out k b hb;have z0:wr.cell? ⟨bb,Re+k * 2,none⟩=some (.int .i64 b.ty):=(aI (HA.out.below.block bb (by omega)) _).trans y0;have z1:wr.cell? ⟨bb,Re+k * 2+1,none⟩=some (.int .i64 b.cap):=(aI (HA.out.below.block bb (by omega)) _).trans y1;obtain⟨hc1,hc2⟩:=Q8 hv.out hb;obtain⟨n,hn⟩:∃ n:Nat,b.cap=n:=⟨b.cap.toNat,by omega⟩;rw[hn] at z1;have hn1:1≤n:=by omega
   have hn2:n≤20:=by omega
   have kU:=Sb.hide hb;have HNE:Hid (b.cap.toNat=n):=by unfold Hid;omega
   have n0:(0:Int)≤(k:Int):=by omega
   have n1:(k:Int)<(N:Int):=by omega
   clear hb y0 y1 hbx hn hc1 hc2 q0 q2 q3;go_wp2_with fail
   refine (Mb.YT n _ hn1 hn2).mono ?_;rintro e w2 ⟨S,rfl,hX,hS,hb2⟩;have HB2:Hid (Below wr.heap.size wr w2):=((Below.refl _ wr).alloc (Nat.le_refl _) _).trans (hb2.mono (by simp));have hz2':=HB2.out.size;have HX:Hid (Mb.BX w2 S (wr.heap.size+1) [] 0 b.cap.toNat):=by
    unfold Hid;rw[HNE.out];have:=hX;rw[show (wr.alloc (.cells #[.int .i64 b.ty,.int .i64 (n:Int)] 103)).heap.size=wr.heap.size+1 by simp] at this;exact this
   have hSg:wr.heap.size+1<S:=by simpa using hS
   have HP:Hid ((w2.alloc (.cells #[.pointer (some ⟨S,0,none⟩)] 104)).ownsRow w.heap.size 104 1 vx k (ptrs Q k)):=World.ownsRow.alloc (HA.out.on HB2.out).ptr _;have q1:w2.cell? ⟨w.heap.size+1,1,none⟩=some vx:=(aI (HB2.out.block _ fV) _).trans q1;clear hX hS hb2 z0 z1 qf;go_wp2_with (at_builtin;refine wZ rfl (.tmp 28) (.tmp 30) 98 rfl w.heap.size 104 i0 (.pointer none) 1 8 Tryz.underlying98 hi hz0 hz1 hz2 rfl (by decide) vx k (ptrs Q k) rfl HP.out ⟨w2.heap.size,0,none⟩ 1 1 [.pointer (some ⟨S,0,none⟩)] rfl rfl (oo w2 _ _) (oq rfl) (by decide) (by unfold maxLen;omega) (by omega) (by simp;omega) ?_)
   intro R3 Be w3 hown3 hg3 hR3;obtain⟨hW3,_,Bd⟩:=HA.out.yh HB2.out hg3;have c1:w3.cell? ⟨w.heap.size+1,1,none⟩=some vx:=by simp[World.cell?,hW3]
   have c2:w3.frozen? ⟨w.heap.size+1,1,none⟩=false:=by simp[World.frozen?,hW3]
   have hz3:=hg3.size;simp at hz3;have H3:=Sb.hide hown3;have G3:=Sb.hide hg3;obtain⟨v3,hv3⟩:∃ v,v=Value.slice (some ⟨R3,0,none⟩) (k+1) Be:=⟨_,rfl⟩;have HI:Hid (((w3.setCell ⟨w.heap.size+1,1,none⟩ (.slice (some ⟨R3,0,none⟩) (k+1) Be)).alloc (.cells #[.iface 104 (.pointer (some ⟨S,0,none⟩))] 215)).ownsRow w.heap.size 215 1 u4 k (mG Q k)):=by
    refine World.ownsRow.alloc (bA (HA.out.on HB2.out).nK (fun b hb=>?_)) _;obtain⟨cur,hc⟩:=ic (HA.out.on HB2.out).nK hb;refine (Below.heap_setCell _ ⟨w.heap.size+1,1,none⟩ _ _ (fun e=>?_)).trans (Bd b _ _ _ hc (by decide));have:=(HA.out.on HB2.out).wb;rw[e,this] at hc;simp at hc
   clear hown3 hg3 hR3 hW3 Bd hv3 q1;have hs3:(w3.setCell ⟨w.heap.size+1,1,none⟩ (.slice (some ⟨R3,0,none⟩) (k+1) Be)).heap.size=w3.heap.size:=by simp
   go_wp2_with (at_builtin;refine wZ rfl (.tmp 34) (.tmp 37) 101 rfl w.heap.size 215 i1 .nilIface 1 16 Tryz.underlying101 hi1 hy0 hy1 hy2 rfl (by decide) u4 k (mG Q k) rfl HI.out ⟨(w3.setCell ⟨w.heap.size+1,1,none⟩ (.slice (some ⟨R3,0,none⟩) (k+1) Be)).heap.size,0,none⟩ 1 1 [.iface 104 (.pointer (some ⟨S,0,none⟩))] (by rw[hs3];rfl) rfl (oo (w3.setCell ⟨w.heap.size+1,1,none⟩ (.slice (some ⟨R3,0,none⟩) (k+1) Be)) _ _) (oq rfl) (by decide) (by unfold maxLen;omega) (by omega) (by simp;omega) ?_)
   intro R5 cap5 w5 hown5 hg5 hR5;have jK:=Sb.hide (HA.out.more kU.out HB2.out HX.out ⟨by omega,hSg⟩ H3.out G3.out hown5 hg5);clear hown5 hg5 hR5;go_wp2
   go_roundw
   case rel=>exact⟨k+1,by go_num,_,_,_,jK.out⟩
   case measure=>simp[intOf];omega
  ·have ek:k=N:=by omega
   have n1:¬ (k:Int)<(N:Int):=by omega
   obtain⟨sa,sc,rfl⟩:=dA HA.out.nK;have HF:Hid (lh c ab cb w c.m.boxes.length vx (.slice sa c.m.boxes.length sc) Q G wr):=by
    have:=HA.out;rw[ek,HN.out] at this;exact this
   have r9:=Sb.hide (acH hB HF.out);clear q1;go_wp2_with fail
   rw[HN.out];refine (ack c K hK (ll (w.heap.size+1) c.m.boxes.length Q G) _ r9 (Sb.hide (hcx.out.low (fun b hb=>HA.out.below.block b (by omega)))) (Sb.hide (acA _ _ _ _)) ab cb sa _ sc).mono ?_;rintro e w2 ⟨vl,T,L2,rfl,hT⟩;obtain⟨la,lc,rfl⟩:=dA hT.row;have hW2:=(hT.below.block _ fV).trans HF.out.wb;have c1:w2.cell? ⟨w.heap.size+1,0,none⟩=some (.slice none 0 0):=by simp[World.cell?,hW2]
   have c2:w2.frozen? ⟨w.heap.size+1,0,none⟩=false:=by simp[World.frozen?,hW2]
   obtain⟨s,e1,e2,hS,hW,hBl,h0⟩:=acE hcx.out hB HF.out hT;have HS:=Sb.hide hS;have Ju:=Sb.hide hW;have xg:=Sb.hide hBl;have H0:=Sb.hide h0;have E1:=Sb.hide e1;have E2:=Sb.hide e2;clear hT hW2 hS hW hBl h0 e1 e2 q0 q2 q3 qf;go_wp2
   go_ret
   exact⟨s,L2,_,vx,by rw[E2.out];rfl,E1.out,HS.out,Ju.out,xg.out,fun b hb=>H0.out b (by omega)⟩
theorem acN {B:Nat}{w:World}{m:Md}{ab au:Option Addr}(cu:Nat)(h:aW B w m ab au)(hf:m.units.length≤30):∃ cv cc,kR ⟨m,B,au,cu,cv,cc⟩ w:=by
 have key:∀ i:Nat,∃ p:Option Addr × Nat,∀ u,m.units[i]?=some u→∃ b off al cl,au=some ⟨b,off,none⟩∧b<B∧gI B w u al p.1 cl p.2∧w.cell? ⟨b,off+i * 6,none⟩=some (.int .i64 u.kind)∧w.cell? ⟨b,off+i * 6+1,none⟩=some (.int .i64 u.params)∧w.cell? ⟨b,off+i * 6+2,none⟩=some (.slice al u.locals.length cl)∧w.cell? ⟨b,off+i * 6+3,none⟩=some (.int .i64 u.result)∧w.cell? ⟨b,off+i * 6+4,none⟩=some (.int .i64 u.takes)∧w.cell? ⟨b,off+i * 6+5,none⟩=some (.slice p.1 u.code.length p.2):=fun i=>by
  cases hu:m.units[i]? with
  | none=>exact⟨(none,0),fun u e=>by cases e⟩
  | some u =>
   obtain⟨b,off,al,cl,ac,cc,e,hb,hun,c0,c1,c2,c3,c4,c5⟩:=h.units i u hu;exact⟨(ac,cc),fun u' e'=>by cases e';exact⟨b,off,al,cl,e,hb,hun,c0,c1,c2,c3,c4,c5⟩⟩
 exact⟨fun i=>(key i).choose.1,fun i=>(key i).choose.2,hf,fun i u hu=>(key i).choose_spec u hu⟩
abbrev gG (m:Md) (ab au:Option Addr) (cb cu:Nat):Obj:=.cells #[.slice ab m.boxes.length cb,.slice au m.units.length cu] 25 (0,0)
theorem nG {w:World}{b:Nat}{m:Md}{ab au:Option Addr}{cb cu:Nat}(h:w.heap[b]?=some (gG m ab au cb cu)):w.cell? ⟨b,0,none⟩=some (.slice ab m.boxes.length cb)∧w.cell? ⟨b,1,none⟩=some (.slice au m.units.length cu):=by simp[World.cell?,h]
theorem acO {w w1:World}(h:w.grownBy w1 none):Below w.heap.size w w1:=⟨h.os,h.tape,h.output,h.size,fun b hb=>h.block b hb (by simp)⟩
abbrev vH:Obj:=iY (.slice none 0 0) (.slice none 0 0) 0
structure Sr (w:World) (m:Md) (ab au:Option Addr) (cb cu:Nat) (wr:World):Prop where
 below:Below w.heap.size w wr
 md:wr.heap[w.heap.size]?=some (gG m ab au cb cu)
 zero:wr.heap[w.heap.size+1]?=some vH
section
variable {w:World} {m:Md} {ab au:Option Addr} {cb cu:Nat} {wr wr':World}
theorem Sr.on (h:Sr w m ab au cb cu wr)(hb:Below wr.heap.size wr wr'):Sr w m ab au cb cu wr' :=
 ⟨h.below.trans (hb.mono h.below.size),(hb.block _ (lt_of_block h.md)).trans h.md,(hb.block _ (lt_of_block h.zero)).trans h.zero⟩
theorem Sr.first (w:World)(m:Md)(ab au:Option Addr)(cb cu:Nat):Sr w m ab au cb cu ((w.alloc (gG m ab au cb cu)).alloc vH):=by
 have e:(w.alloc (gG m ab au cb cu)).heap.size=w.heap.size+1:=by simp
 refine⟨((Below.refl _ w).alloc (Nat.le_refl _) _).alloc (by simp) _,(Below.heap_alloc _ _ _ (by simp)).trans (heap_alloc_new w _),?_⟩;rw[← e];exact heap_alloc_new _ _
theorem Sr.kp {L:av}(h:Sr w m ab au cb cu wr)(hC:Kp L wr wr')(hL:∀ b,b<w.heap.size+2→(L b).cls=0):Sr w m ab au cb cu wr':=by
 have k:∀ b,b<w.heap.size+2→b<wr.heap.size→wr'.heap[b]?=wr.heap[b]?:=fun b hb hz=>hC.block b hz (hL b hb);have hz:=h.below.size;exact⟨⟨hC.os.trans h.below.os,hC.tape.trans h.below.tape,hC.output.trans h.below.output,Nat.le_trans hz hC.size,fun b hb=>(k b (by omega) (by omega)).trans (h.below.block b hb)⟩,(k _ (by omega) (lt_of_block h.md)).trans h.md,(k _ (by omega) (lt_of_block h.zero)).trans h.zero⟩
end
abbrev mH (w:World) (b:Nat) (v0 v1 v2:Value):World:=((w.setCell ⟨b,0,none⟩ v0).setCell ⟨b,1,none⟩ v1).setCell ⟨b,2,none⟩ v2
theorem El {w:World}{b:Nat}{v0 v1 v2:Value}(h:w.heap[b]?=some vH):(mH w b v0 v1 v2).cell? ⟨b,0,none⟩=some v0∧(mH w b v0 v1 v2).cell? ⟨b,1,none⟩=some v1∧(mH w b v0 v1 v2).cell? ⟨b,2,none⟩=some v2:=by
 have:(mH w b v0 v1 v2).heap[b]?=some (.cells #[v0,v1,v2] 35 (0,0)):=by
  simp only[World.setCell,Array.getElem?_modify,if_true,h,Option.map_some];rfl
 generalize mH w b v0 v1 v2=W at this ⊢;simp[World.cell?,this]
theorem acP {w:World}{b:Nat}{v0 v1 v2:Value}{b':Nat}(hn:b'≠b):(mH w b v0 v1 v2).heap[b']?=w.heap[b']?:=by
 rw[Below.heap_setCell _ ⟨b,2,none⟩ _ _ hn,Below.heap_setCell _ ⟨b,1,none⟩ _ _ hn,Below.heap_setCell _ ⟨b,0,none⟩ _ _ hn]
theorem Em {w0 w:World}{B b:Nat}{v0 v1 v2:Value}(h:Below B w0 w)(hB:B≤b):Below B w0 (mH w b v0 v1 v2) :=
 ((h.setCell (p:=⟨b,0,none⟩) hB _).setCell (p:=⟨b,1,none⟩) hB _).setCell (p:=⟨b,2,none⟩) hB _
theorem Eo {w:World}{b:Nat}{v0 v1 v2:Value}(h:w.heap[b]?=some vH){B e size n:Nat}{v:Value}{xs:List Value}(ho:w.ownsRow B e size v n xs)(he:e≠35):(mH w b v0 v1 v2).ownsRow B e size v n xs :=
 bA ho (fun k hk=>acP (fun e2=>yj ho h (Ne.symm he) (by rw[hk,e2])))
theorem acQ {w:World}{b:Nat}{v0 v1 v2:Value}(h:w.heap[b]?=some vH){m:Md}{W:Wd}{C:Nat}{vE vB:Value}{k1 k2:Nat}{ov bv:Nat→Value}(k:lX m W C w vE vB k1 k2 ov bv):lX m W C (mH w b v0 v1 v2) vE vB k1 k2 ov bv :=
 ⟨Eo h k.ends (by decide),fun i hi=>Eo h (k.outs i hi) (by decide),Eo h k.jA (by decide),fun i q hi hq=>Eo h (k.words i q hi hq) (by decide)⟩
theorem lX.base {m:Md}{W:Wd}{C C':Nat}{w:World}{vE vB:Value}{k1 k2:Nat}{ov bv:Nat→Value}(h:lX m W C w vE vB k1 k2 ov bv)(hc:C'≤C):lX m W C' w vE vB k1 k2 ov bv :=
 ⟨lL h.ends hc,fun i hi=>lL (h.outs i hi) hc,lL h.jA hc,fun i q hi hq=>lL (h.words i q hi hq) hc⟩
def qY (m:Md)(n:Nat):Int:=if (verify m).1≠0 then (verify m).1 else if 400<n then 5 else 0
theorem acR {m:Md}(h0:(verify m).1=0):verify m=(0,0,0):=by
 have e:∀ n k,(from' m n k).1=0→from' m n k=(0,0,0):=by
  intro n;induction n with
  | zero=>intro k _;rfl
  | succ n ih =>
   intro k hk;unfold from' at hk ⊢
   split
   ·rename_i e;rw[if_pos e] at hk;exact ih _ hk
   ·rename_i e;rw[if_neg e] at hk;exact absurd hk e
 exact e 6 0 h0
theorem acS {m:Md}{n:Nat}(h:qY m n=0):verify m=(0,0,0)∧n≤400:=by
 unfold qY at h;split at h
 ·rename_i h0;exact absurd h h0
 ·rename_i h0
  split at h
  ·cases h
  ·exact⟨acR (by simpa using h0),by omega⟩
theorem acT (m:Md)(ab au:Option Addr)(cb cu B:Nat)(a:Option Addr)(n cap:Nat)(w:World)(hmd:Hid (aW B w m ab au))(hB:B≤w.heap.size)(E:Int)(hE:Hid (E=qY m n)) :
  Calls Tryz.prog 12 #[eU m ab au cb cu,.slice a n cap] w fun e w'=>e=.returned (.int .i64 E)∧Below w.heap.size w w':=by
 obtain⟨ve,Rf⟩:∃ v,v=verify m:=⟨_,rfl⟩;have Bf:=Sb.hide Rf;clear Rf;have HB0:Hid (Below w.heap.size w (w.alloc (gG m ab au cb cu))):=(Below.refl _ w).alloc (Nat.le_refl _) _;go_enter Tryz.func12,Tryz.ntmps12
 go_wp2_with fail
 generalize w.alloc (gG m ab au cb cu)=W0 at *;refine (abC m ab au cb cu B _ (Sb.hide (hmd.out.low (HB0.out.mono hB).block)) (by have:=HB0.out.size;omega) ve Bf).mono ?_;rintro e w1 ⟨rfl,hg1⟩;have HB1:=Sb.hide (HB0.out.trans ((acO hg1).mono HB0.out.size));have hz1:=HB1.out.size;clear hg1;have HB2:Hid (Below w.heap.size w (w1.alloc (.cells #[.int .i64 ve.1,.int .i64 ve.2.1,.int .i64 ve.2.2] 95))):=HB1.out.alloc HB1.out.size _;have v1:(w1.alloc (.cells #[.int .i64 ve.1,.int .i64 ve.2.1,.int .i64 ve.2.2] 95)).cell? ⟨w1.heap.size,0,none⟩=some (.int .i64 ve.1):=by simp[World.cell?_alloc_mark]
 by_cases h0:ve.1=0
 ·have e0:(ve.1 != 0)=false:=by simpa using h0
  by_cases h1:400<n
  ·have HR:Hid (E=5):=by unfold Hid;rw[hE.out,qY,if_neg (by rw[← Bf.out];simpa using h0),if_pos h1]
   have n1:(400:Int)<(n:Int):=by omega
   clear h0 h1;go_wp2
   go_ret
   exact⟨by rw[HR.out];rfl,HB2.out⟩
  ·have HR:Hid (E=0):=by unfold Hid;rw[hE.out,qY,if_neg (by rw[← Bf.out];simpa using h0),if_neg h1]
   have n1:¬ (400:Int)<(n:Int):=by omega
   clear h0 h1;go_wp2
   go_ret
   exact⟨by rw[HR.out];rfl,HB2.out⟩
 ·have e0:(ve.1 != 0)=true:=by simpa using h0
  have HR:Hid (E=ve.1):=by unfold Hid;rw[hE.out,qY,if_pos (by rw[← Bf.out];exact h0),← Bf.out]
  clear h0;go_wp2
  go_ret
  exact⟨by rw[HR.out];rfl,HB2.out⟩
theorem qV.low {B:Nat}{w w':World}{ps:List Pk}{a:Option Addr}(h:qV B w ps a)(hk:∀ b,b<B→w'.heap[b]?=w.heap[b]?):qV B w' ps a:=fun i p hp=>by
 obtain⟨b,off,e,hb,h1,h2⟩:=h i p hp;exact⟨b,off,e,hb,(aI (hk b hb) _).trans h1,(aI (hk b hb) _).trans h2⟩
end Go.Proofs.YtfcpglhpolpdcaaGreatDoor.Vw
