/- The walk of NewTasks. -/
import Derived.Test.YtfcpglhpolpdcaaGreatDoorM32
import Derived.Test.YtfcpglhpolpdcaaGreatDoorM28
set_option maxRecDepth 100000
set_option maxHeartbeats 2000000
namespace Go.Proofs.YtfcpglhpolpdcaaGreatDoor.Vw
open Go.RowKit Vf Vm
theorem Tryz.acj:(Tryz.prog.info? 115).map (fun i=>(i.zero,i.size,i.bytes))=some (some (.pointer none),1,8):=by kernel_rfl
theorem QZ (Q:Nat→Nat)(n:Nat):ptrs Q (n+1)=ptrs Q n++[.pointer (some ⟨Q n,0,none⟩)]:=by simp[ptrs,List.range_succ]
theorem Q0 {Q Q':Nat→Nat}{n:Nat}(h:∀ i,i<n→Q i=Q' i):ptrs Q n=ptrs Q' n:=List.map_congr_left (fun i hi=>by rw[h i (by simpa using hi)])
structure Bc (c:Cx) (vb ev:Value) (L0:av) (w:World) (us:List Nat) (k:Nat) (vl:Value) (T:Nat→Nat) (L:av) (wr:World):Prop where
 le:k≤us.length
 below:Below w.heap.size w wr
 ext:Ext L0 L w
 ok:bF c.B L wr
 idx:∀ b,(L b).cls=1→(L b).idx<k
 row:wr.ownsRow w.heap.size 115 1 vl k (ptrs T k)
 lab:∀ b,vl.ownBlock=some b→(L b).cls=0
 tasks:∀ (o n:Nat),o<k→us[o]?=some n→∃ P vR vO,dN c vb ev L o (T o) P wr (zw (unit c.m n) n) vR vO
theorem ack (c:Cx)(K:KM)(hK:Hid (ib c.m K))(L:av)(w:World)(hL:Hid (bF c.B L w))(hcx:Hid (kR c w))(hfr:Hid (∀ b,(L b).cls≠1))(ab:Option Addr)(cb:Nat)(sa:Option Addr)(sn sc:Nat) :
  Calls Tryz.prog 34 #[.agg #[.slice ab c.m.boxes.length cb,.slice c.au c.m.units.length c.cu],.slice sa sn sc] w fun e w'=>∃ vl T L',e=.returned vl∧Bc c (.slice sa sn sc) (.func (.func 100) #[] #[]) L w (di c.m.units c.m.units.length) (di c.m.units c.m.units.length).length vl T L' w':=by
 obtain⟨i0,hi,hz0,hz1,hz2⟩:=info_parts Tryz.acj;have Hy:=hL.out.size;have HB0:Hid (Below w.heap.size w (w.alloc (.cells #[.slice ab c.m.boxes.length cb,.slice c.au c.m.units.length c.cu] 25))):=(Below.refl _ w).alloc (Nat.le_refl _) _;have kQ:Hid ((w.alloc (.cells #[.slice ab c.m.boxes.length cb,.slice c.au c.m.units.length c.cu] 25)).heap[w.heap.size]?=some (.cells #[.slice ab c.m.boxes.length cb,.slice c.au c.m.units.length c.cu] 25)):=heap_alloc_new w _;have c0:(w.alloc (.cells #[.slice ab c.m.boxes.length cb,.slice c.au c.m.units.length c.cu] 25)).cell? ⟨w.heap.size,0,none⟩=some (.slice ab c.m.boxes.length cb)∧(w.alloc (.cells #[.slice ab c.m.boxes.length cb,.slice c.au c.m.units.length c.cu] 25)).cell? ⟨w.heap.size,1,none⟩=some (.slice c.au c.m.units.length c.cu):=by
  simp[World.cell?_alloc_mark]
 have Q3:=Eh c.m.units c.m.units.length;have hul:=hK.out.rt.units;go_enter Tryz.func34,Tryz.ntmps34
 go_wp2_with fail
 generalize w.alloc (.cells #[.slice ab c.m.boxes.length cb,.slice c.au c.m.units.length c.cu] 25)=W0 at *;refine (AX c ab cb _ (Sb.hide (hcx.out.low (fun b hb=>HB0.out.block b (by omega)))) (by have:=HB0.out.size;omega)).mono ?_;rintro e w1 ⟨vu,rfl,hT⟩;obtain⟨_,hb1,ho1⟩:=hT;obtain⟨ua,uc,rfl⟩:=dA ho1;have HB1:=Sb.hide (HB0.out.trans (hb1.mono HB0.out.size));have kP:=Sb.hide ((hb1.block _ (lt_of_block kQ.out)).trans kQ.out);have Az:=Sb.hide ho1;obtain⟨us,Js⟩:∃ us,us=di c.m.units c.m.units.length:=⟨_,rfl⟩;have Q4:=Sb.hide Js;rw[← Js] at Q3 Az ⊢;have hun:us.length≤30:=by omega
 have HST:Hid (Bc c (.slice sa sn sc) (.func (.func 100) #[] #[]) L w us 0 (.slice none 0 0) (fun _=>0) L w1):=⟨Nat.zero_le _,HB1.out,.refl _ _,hL.out.on HB1.out.size,fun b hb=>absurd hb (hfr.out b),⟨rfl,.inl ⟨rfl,rfl⟩⟩,(fun b hb=>by cases hb),fun o n ho=>by omega⟩;have HUT:Hid (∀ (o n:Nat),us[o]?=some n→∃ u,c.m.units[n]?=some u∧u.kind=4):=fun o n hon=>by
  have:=List.mem_of_getElem? hon;rw[Q4.out] at this;unfold di at this;rw[List.mem_filter] at this;simpa using this.2
 obtain⟨N,hN⟩:∃ N,N=us.length:=⟨_,rfl⟩;have HN:=Sb.hide hN;rw[← hN] at hun Az ⊢;clear hb1 ho1 Js hN c0 Q3;go_wp2
 go_loopw [5,11] (fun vl v wr=>∃ k:Nat,v=.int .i64 k∧∃ T L',Bc c (.slice sa sn sc) (.func (.func 100) #[] #[]) L w us k vl T L' wr∧Below w1.heap.size w1 wr∧∀ b,vl.ownBlock=some b→w1.heap.size≤b) (fun _ v _=>N - (intOf v).toNat)
 case atStart=>exact⟨0,rfl,_,_,HST.out,.refl _ _,fun b hb=>by cases hb⟩
 case round =>
  obtain⟨k,rfl,T,L1,hA,hb,ho⟩:=hrel;have HO:=Sb.hide ho;have HA:=Sb.hide hA;have HB:=Sb.hide hb;have hk:=hA.le;have hbz:=hA.below.size;clear hA hb ho HST;by_cases hlt:k<N
  ·obtain⟨n,hn⟩:∃ n,us[k]?=some n:=⟨_,List.getElem?_eq_getElem (by rw[← HN.out];exact hlt)⟩
   obtain⟨u,hu,h4⟩:=HUT.out k n hn;obtain⟨g,hua,huc⟩:=qQ Az.out (k:=k) (u:=.int .i64 (n:Int)) (by rw[List.getElem?_map,hn];rfl);have hgz:=World.block_lt_of_cell? w1 _ huc;have t5:wr.cell? ⟨g,k,none⟩=some (.int .i64 (n:Int)):=(aI (HB.out.block g hgz) _).trans huc;have hm1:=(HB.out.block _ (lt_of_block kP.out)).trans kP.out;have c0:wr.cell? ⟨w.heap.size,0,none⟩=some (.slice ab c.m.boxes.length cb)∧wr.cell? ⟨w.heap.size,1,none⟩=some (.slice c.au c.m.units.length c.cu):=by simp[World.cell?,hm1]
   subst hua;have hsz:=ko (iF (hK.out.rt.heads _ u hu).1).2.1;have hp0:u.params=0:=by
    have:=(iF (hK.out.rt.heads _ u hu).1).2.1;unfold sized at this;simp[h4] at this;omega
   have acp:u.locals.length≤200:=hsz.1;have HU:=Sb.hide hu;have bG:=Sb.hide hn;have Dr:Hid (∀ b,¬ ((L1 b).cls=1∧(L1 b).idx=k)):=fun b hx=>by have:=HA.out.idx b hx.1;omega
   have n0:(0:Int)≤(k:Int):=by omega
   have n1:(k:Int)<(N:Int):=by omega
   clear hn hu h4 huc hm1 hsz;go_wp2_with fail
   refine (YJ c L1 k wr (Sb.hide HA.out.ok) (Sb.hide (hcx.out.low (fun b hb=>HA.out.below.block b (by omega)))) Dr ab cb sa sn sc n u HU hp0 acp).mono ?_;rintro e w2 ⟨T2,L2,P2,mU,mV,rfl,jk,hL2,hE2,hb2⟩;have hz2':=hb2.size;have HB2:=Sb.hide hb2;have HT2:=Sb.hide jk;have HL2:=Sb.hide hL2;have HE2:=Sb.hide hE2;have HRW:Hid ((w2.alloc (.cells #[.pointer (some ⟨T2,0,none⟩)] 115)).ownsRow w.heap.size 115 1 u5 k (ptrs T k)):=World.ownsRow.alloc (bA HA.out.row (fun b hb=>hb2.block b (HA.out.row.lt b hb).2)) _;clear hb2 jk hL2 hE2 c0;go_wp2_with (at_builtin;refine wZ rfl (.tmp 15) (.tmp 20) 97 rfl w.heap.size 115 i0 (.pointer none) 1 8 Tryz.underlying97 hi hz0 hz1 hz2 rfl (by decide) u5 k (ptrs T k) rfl HRW.out ⟨w2.heap.size,0,none⟩ 1 1 [.pointer (some ⟨T2,0,none⟩)] rfl rfl (oo w2 _ _) (oq rfl) (by decide) (by unfold maxLen;omega) (by omega) (by simp;omega) ?_)
   intro R4 cap4 w4 bO hg4 bJ;have hzg:=hg4.size;simp at hzg;have vF:∀ b,b<w2.heap.size→¬ u5.ownBlock=some b→w4.heap[b]?=w2.heap[b]?:=fun b hb hn=>(hg4.block b (by simp;omega) (fun e=>hn e.symm)).trans (Below.heap_alloc _ _ _ hb);have lv:∀ b,u5.ownBlock=some b→(L2 b).cls=0:=fun b hb=>by rw[HE2.out.1 b (HA.out.row.lt b hb).2];exact HA.out.lab b hb
   have jK:Hid (Bc c (.slice sa sn sc) (.func (.func 100) #[] #[]) L w us (k+1) (.slice (some ⟨R4,0,none⟩) (k+1) cap4) (fun i=>if i=k then T2 else T i) L2 w4):=by
    refine⟨by have:=HN.out;omega,?_,HA.out.ext.trans HE2.out.1 HA.out.below.size,HL2.out.on (by omega),fun b hb=>?_,?_,fun b hb=>?_,fun o n' ho hn'=>?_⟩
    ·exact ((HA.out.below.trans (HB2.out.mono HA.out.below.size)).alloc (by omega) _).grown hg4 (by simp;omega) (fun b hb=>(HA.out.row.lt b hb).1)
    ·rcases HE2.out.2 b with e | e
     ·rw[e] at hb ⊢;have:=HA.out.idx b hb;omega
     ·unfold Vw.WB EB at e;omega
    ·rw[QZ,Q0 (Q':=T) (fun i hi=>if_neg (by omega)),if_pos rfl]
     exact bO
    ·simp[Value.ownBlock] at hb
     subst hb;rcases bJ with e | e
     ·exact lv _ e
     ·exact HL2.out.new _ (by have:R4=w2.heap.size+1:=(by simpa using e);omega)
    ·by_cases e:o=k
     ·subst e
      rw[bG.out] at hn';cases hn';refine⟨P2,mU,mV,?_⟩;simp only[if_true];rw[mf HU.out];exact uZ HT2.out (fun b hb h1 _=>vF b hb (fun e2=>by have:=lv b e2;omega)) (.refl _ _) HT2.out.kv
     ·obtain⟨P',xq,xC,hT⟩:=HA.out.tasks o n' (by omega) hn'
      refine⟨P',xq,xC,?_⟩;simp only[if_neg e];refine uZ hT (fun b hb h1 _=>?_) HE2.out.1 (fun b h1 h2=>?_)
      ·exact (vF b (by omega) (fun e2=>by have:=HA.out.lab b e2;omega)).trans (HB2.out.block b hb)
      ·rcases HE2.out.2 b with e2 | e2
       ·rw[e2] at h1 h2 ⊢;exact hT.kv b h1 h2
       ·unfold Vw.WB EB at e2;omega
   have vG:Hid (Below w1.heap.size w1 w4):=((HB.out.trans (HB2.out.mono HB.out.size)).alloc (by have:=HB.out.size;omega) _).grown hg4 (by have:=HB.out.size;simp;omega) (fun b hb=>HO.out b hb);have sG:Hid (∀ b,(Value.slice (some ⟨R4,0,none⟩) (k+1) cap4).ownBlock=some b→w1.heap.size≤b):=fun b hb=>by
    simp[Value.ownBlock] at hb;subst hb;rcases bJ with e | e
    ·exact HO.out _ e
    ·have:R4=w2.heap.size+1:=by simpa using e
     have:=HB.out.size;omega
   clear bO hg4 bJ vF lv;go_wp2
   go_roundw
   case rel=>exact⟨k+1,by go_num,_,L2,jK.out,vG.out,sG.out⟩
   case measure=>simp[intOf];omega
  ·have ek:k=N:=by have:=HN.out;omega
   go_wp2
   go_ret
   have h:=HA.out;rw[ek,HN.out,Q4.out] at h;exact⟨_,T,L1,rfl,h⟩
theorem Tryz.acr:(Tryz.prog.info? 104).map (fun i=>(i.zero,i.size,i.bytes))=some (some (.pointer none),1,8):=by kernel_rfl
theorem Tryz.acs:(Tryz.prog.info? 215).map (fun i=>(i.zero,i.size,i.bytes))=some (some .nilIface,1,16):=by kernel_rfl
def mG (Q:Nat→Nat)(n:Nat):List Value:=(List.range n).map fun i=>.iface 104 (.pointer (some ⟨Q i,0,none⟩))
theorem acu (Q:Nat→Nat){n i:Nat}(h:i<n):(mG Q n)[i]?=some (.iface 104 (.pointer (some ⟨Q i,0,none⟩))):=by simp[mG,h]
theorem acv (Q:Nat→Nat)(n:Nat):mG Q (n+1)=mG Q n++[.iface 104 (.pointer (some ⟨Q n,0,none⟩))]:=by simp[mG,List.range_succ]
theorem acw {Q Q':Nat→Nat}{n:Nat}(h:∀ i,i<n→Q i=Q' i):mG Q n=mG Q' n:=List.map_congr_left (fun i hi=>by rw[h i (by simpa using hi)])
theorem yj {w:World}{B e size n g e':Nat}{v:Value}{xs:List Value}{cur:Array Value}{fr:Nat × Nat}(h:w.ownsRow B e size v n xs)(hb:w.heap[g]?=some (.cells cur e' fr))(hne:e'≠e):v.ownBlock≠some g:=fun e2=>by
 obtain⟨Jn,hc⟩:=ic h e2;rw[hb] at hc;simp at hc;exact hne hc.2.1
abbrev Ei (c:Cx) (ab:Option Addr) (cb:Nat):Obj:=.cells #[.slice ab c.m.boxes.length cb,.slice c.au c.m.units.length c.cu] 25 (0,0)
structure lh (c:Cx) (ab:Option Addr) (cb:Nat) (w:World) (k:Nat) (vx vb:Value) (Q G:Nat→Nat) (wr:World):Prop where
 le:k≤c.m.boxes.length
 below:Below w.heap.size w wr
 md:wr.heap[w.heap.size]?=some (Ei c ab cb)
 wb:wr.heap[w.heap.size+1]?=some (sI (.slice none 0 0) vx 0 (-1))
 ptr:wr.ownsRow w.heap.size 104 1 vx k (ptrs Q k)
 nK:wr.ownsRow w.heap.size 215 1 vb k (mG Q k)
 box:∀ (i:Nat) b,i<k→c.m.boxes[i]?=some b→Mb.BX wr (Q i) (G i) [] 0 b.cap.toNat
 low:∀ i,i<k→w.heap.size+1<G i∧G i<Q i∧Q i<wr.heap.size
 inj:∀ i j,i<j→j<k→Q i<G j
section
variable {c:Cx} {ab:Option Addr} {cb:Nat} {w:World} {k:Nat} {vx vb:Value} {Q G:Nat→Nat} {wr:World}
theorem lh.on (h:lh c ab cb w k vx vb Q G wr){w2:World}(hb:Below wr.heap.size wr w2):lh c ab cb w k vx vb Q G w2 :=
 ⟨h.le,h.below.trans (hb.mono h.below.size),(hb.block _ (lt_of_block h.md)).trans h.md,(hb.block _ (lt_of_block h.wb)).trans h.wb,bA h.ptr (fun b hx=>hb.block b (h.ptr.lt b hx).2),bA h.nK (fun b hx=>hb.block b (h.nK.lt b hx).2),fun i b hi hx=>Ah (h.box i b hi hx) (hb.block _ (h.low i hi).2.2) (hb.block _ (by have:=h.low i hi;omega)),fun i hi=>by have:=h.low i hi;have:=hb.size;omega,h.inj⟩
theorem lh.acx (h:lh c ab cb w k vx vb Q G wr):(wr.cell? ⟨w.heap.size+1,1,none⟩=some vx∧wr.cell? ⟨w.heap.size+1,0,none⟩=some (.slice none 0 0))∧(∀ j,wr.frozen? ⟨w.heap.size+1,j,none⟩=false)∧wr.cell? ⟨w.heap.size,0,none⟩=some (.slice ab c.m.boxes.length cb)∧wr.cell? ⟨w.heap.size,1,none⟩=some (.slice c.au c.m.units.length c.cu):=by
 have h1:=h.md;have h2:=h.wb;simp[World.cell?,World.frozen?,h1,h2]
theorem lh.yh (h:lh c ab cb w k vx vb Q G wr){w2:World}(hb2:Below wr.heap.size wr w2){w3:World}{ob:Obj}(g3:(w2.alloc ob).grownBy w3 vx.ownBlock) :
  w3.heap[w.heap.size+1]?=some (sI (.slice none 0 0) vx 0 (-1))∧Below w.heap.size w w3∧(∀ (b:Nat) (cur:Array Value) (e:Nat) (fr:Nat × Nat),w2.heap[b]?=some (.cells cur e fr)→e≠104→w3.heap[b]?=w2.heap[b]?):=by
 have h2:=h.on hb2;have st:∀ (b:Nat) (cur:Array Value) (e:Nat) (fr:Nat × Nat),w2.heap[b]?=some (.cells cur e fr)→e≠104→w3.heap[b]?=w2.heap[b]?:=fun b cur e fr hx he=>by
  have hlt:=lt_of_block hx;exact (g3.block b (by simp;omega) (fun e2=>yj h2.ptr hx he e2.symm)).trans (Below.heap_alloc _ _ _ hlt)
 exact⟨(st _ _ _ _ h2.wb (by decide)).trans h2.wb,(h2.below.alloc h2.below.size _).grown g3 (by have:=h2.below.size;simp;omega) (fun b hb=>(h2.ptr.lt b hb).1),st⟩
theorem lh.more (h:lh c ab cb w k vx vb Q G wr){bx:Bx}(hx:c.m.boxes[k]?=some bx){w2:World}(hb2:Below wr.heap.size wr w2){S g:Nat}(hX:Mb.BX w2 S g [] 0 bx.cap.toNat)(hg:wr.heap.size≤g∧g<S)
  {w3 w5:World} {v' Q5:Value} {ob3 ob5:Obj} (h3:w3.ownsRow w.heap.size 104 1 v' (k+1) (ptrs Q k++[.pointer (some ⟨S,0,none⟩)])) (g3:(w2.alloc ob3).grownBy w3 vx.ownBlock)
  (h5:w5.ownsRow w.heap.size 215 1 Q5 (k+1) (mG Q k++[.iface 104 (.pointer (some ⟨S,0,none⟩))])) (g5:((w3.setCell ⟨w.heap.size+1,1,none⟩ v').alloc ob5).grownBy w5 vb.ownBlock) :
  lh c ab cb w (k+1) v' Q5 (fun i=>if i=k then S else Q i) (fun i=>if i=k then g else G i) w5:=by
 obtain⟨hW3,hB3,Bd⟩:=h.yh hb2 g3;have h2:=h.on hb2;have hz2:=hb2.size;have hz3:=g3.size;have IC:=g5.size;simp at hz3 IC;have hwz:=h.below.size;have hsz:(w3.setCell ⟨w.heap.size+1,1,none⟩ v').heap.size=w3.heap.size:=by simp
 have hset:∀ b,b≠w.heap.size+1→(w3.setCell ⟨w.heap.size+1,1,none⟩ v').heap[b]?=w3.heap[b]?:=fun b hb=>Below.heap_setCell _ ⟨w.heap.size+1,1,none⟩ _ _ hb;have hWs:(w3.setCell ⟨w.heap.size+1,1,none⟩ v').heap[w.heap.size+1]?=some (sI (.slice none 0 0) v' 0 (-1)):=by
  simp only[World.setCell,Array.getElem?_modify,if_true,hW3,Option.map_some];rfl
 have si:w3.ownsRow w.heap.size 215 1 vb k (mG Q k):=bA h2.nK (fun b hb=>by
  obtain⟨cur,hc⟩:=ic h2.nK hb;exact Bd b _ _ _ hc (by decide))
 have hIs:(w3.setCell ⟨w.heap.size+1,1,none⟩ v').ownsRow w.heap.size 215 1 vb k (mG Q k):=bA si (fun b hb=>hset b (fun e=>by
  obtain⟨cur,hc⟩:=ic si hb;rw[e,hW3] at hc;simp at hc))
 have nD:∀ (b:Nat) (cur:Array Value) (e:Nat) (fr:Nat × Nat),(w3.setCell ⟨w.heap.size+1,1,none⟩ v').heap[b]?=some (.cells cur e fr)→e≠215→w5.heap[b]?=(w3.setCell ⟨w.heap.size+1,1,none⟩ v').heap[b]?:=fun b cur e fr hx he=>by
  have hlt:=lt_of_block hx;exact (g5.block b (by simp at hlt ⊢;omega) (fun e2=>yj hIs hx he e2.symm)).trans (Below.heap_alloc _ _ _ hlt)
 have far:∀ (b:Nat) (cur:Array Value) (e:Nat) (fr:Nat × Nat),w2.heap[b]?=some (.cells cur e fr)→e≠104→e≠215→b≠w.heap.size+1→w5.heap[b]?=w2.heap[b]?:=fun b cur e fr hx h1 h2 h3=>by
  have e3:=Bd b cur e fr hx h1;have es:=(hset b h3).trans e3;exact (nD b cur e fr (es.trans hx) h2).trans es
 have Q6:∀ {S g:Nat} {ws:List Int} {f n:Nat},Mb.BX w2 S g ws f n→S≠w.heap.size+1→g≠w.heap.size+1→Mb.BX w5 S g ws f n:=fun hq h1 h2=>by
  obtain⟨cs,hc,_⟩:=hq.row;exact Ah hq (far _ _ _ _ hq.blk (by decide) (by decide) h1) (far _ _ _ _ hc (by decide) (by decide) h2)
 have hQ:∀ i,i<k→(if i=k then S else Q i)=Q i:=fun i hi=>if_neg (by omega);have hSz:=lt_of_block hX.blk;have fV:=lt_of_block h.wb;refine⟨(List.getElem?_eq_some_iff.1 hx).1,?_,?_,(nD _ _ _ _ hWs (by decide)).trans hWs,?_,?_,fun i b hi hb=>?_,fun i hi=>?_,fun i j hij hj=>?_⟩
 ·exact ((hB3.setCell (p:=⟨w.heap.size+1,1,none⟩) (by simp) _).alloc (by simp;omega) _).grown g5 (by simp;omega) (fun b hb=>(h.nK.lt b hb).1)
 ·exact (far _ _ _ _ h2.md (by decide) (by decide) (by omega)).trans h2.md
 ·rw[QZ,Q0 hQ,if_pos rfl]
  have hs:(w3.setCell ⟨w.heap.size+1,1,none⟩ v').ownsRow w.heap.size 104 1 v' (k+1) (ptrs Q k++[.pointer (some ⟨S,0,none⟩)]):=bA h3 (fun b hb=>hset b (fun e=>by
   obtain⟨cur,hc⟩:=ic h3 hb;rw[e,hW3] at hc;simp at hc))
  exact bA hs (fun b hb=>by
   obtain⟨cur,hc⟩:=ic hs hb;exact nD b _ _ _ hc (by decide))
 ·rw[acv,acw hQ,if_pos rfl]
  exact h5
 ·by_cases e:i=k
  ·subst e
   rw[hx] at hb;cases hb;simp only[if_true];exact Q6 hX (by omega) (by omega)
  ·simp only[if_neg e]
   have:=h.low i (by omega);exact Q6 (h2.box i b (by omega) hb) (by omega) (by omega)
 ·by_cases e:i=k
  ·simp only[if_pos e];omega
  ·simp only[if_neg e]
   have:=h.low i (by omega);omega
 ·have e:¬ i=k:=by omega
  simp only[if_neg e];by_cases e2:j=k
  ·simp only[if_pos e2]
   have:=h.low i (by omega);omega
  ·simp only[if_neg e2]
   exact h.inj i j hij (by omega)
end
theorem Q7 {n:Nat}{F:Nat→Nat}(hinj:∀ i j,i<j→j<n→F i<F j){i:Nat}(hi:i<n):(List.range n).find? (fun j=>F j==F i)=some i:=by
 rw[List.find?_eq_some_iff_getElem];refine⟨by simp,i,by simpa using hi,by simp,fun j hj=>?_⟩;have:=hinj j i hj hi;simp;omega
theorem Jt {n b:Nat}{F:Nat→Nat}(h:∀ i,i<n→F i≠b):(List.range n).find? (fun j=>F j==b)=none:=by
 rw[List.find?_eq_none];intro i hi;simpa using h i (by simpa using hi)
def ll (W n:Nat)(Q G:Nat→Nat):av:=fun b=>if b=W then ⟨4,0,0,0⟩ else match (List.range n).find? (fun i=>Q i==b) with
 | some i=>⟨2,i,0,0⟩
 | none=>match (List.range n).find? (fun i=>G i==b) with
  | some i=>⟨2,i,0,1⟩
  | none=>⟨0,0,0,0⟩
theorem Ej {W n b:Nat}{Q G:Nat→Nat}(h:b≠W)(h1:∀ i,i<n→Q i≠b)(h2:∀ i,i<n→G i≠b):ll W n Q G b=⟨0,0,0,0⟩:=by
 unfold ll;rw[if_neg h,Jt h1];simp only;rw[Jt h2]
theorem acA (W n:Nat)(Q G:Nat→Nat)(b:Nat):(ll W n Q G b).cls≠1:=by
 unfold ll;split
 ·simp
 ·split
  ·simp
  ·split<;>simp
theorem acB (Q:Nat→Nat)(nb rb off:Nat)(c:Cx)(o:Nat)(evs:List (Nat × Ev))(l0:Nat):jl (Ai Q nb rb off (qR deafW o evs l0)) c 100 #[]:=by
 refine⟨fun args w=>by kernel_rfl,fun e L w l x h hk _=>(nobody e w).mono ?_⟩;rintro r w' ⟨rfl,hb⟩;exact⟨rfl,L,⟨h.out.1.keep (.refl _ _) hb.size (fun b hs _=>hb.block b hs),by have:=h.out.2.1;simp;omega,trivial⟩,⟨.refl _ _,fun b=>.inl rfl⟩,hk.out.on hb.size,aQ.of_below hb⟩
def jB (m:Md):Wd:=⟨(di m.units m.units.length).map fun (n:Nat)=>zw (unit m n) n,m.boxes.map fun b=>⟨b.cap.toNat,[]⟩,0,-1,[]⟩
theorem Q8 {m:Md}(h:verify m=(0,0,0)){i:Nat}{b:Bx}(hb:m.boxes[i]?=some b):1≤b.cap∧b.cap≤20:=by
 have h1:=I7.1 h 1 (by omega);have:=D7 _ _ _ (show (cK jw m.boxes 0).1=0 from h1) b (List.mem_of_getElem? hb);unfold jw at this;split at this
 ·cases this
 ·split at this
  ·cases this
  ·omega
theorem acC {m:Md}{o n:Nat}(h:(di m.units m.units.length)[o]?=some n):∃ u,m.units[n]?=some u∧u.kind=4∧unit m n=u:=by
 have:=List.mem_of_getElem? h;unfold di at this;rw[List.mem_filter] at this;obtain⟨u,hu,h4⟩:∃ u,m.units[n]?=some u∧u.kind=4:=by simpa using this.2
 exact⟨u,hu,h4,mf hu⟩
theorem Q9 {m:Md}{o:Nat}{t:Tk}(h:(jB m).ts[o]?=some t):∃ n,(di m.units m.units.length)[o]?=some n∧t=zw (unit m n) n:=by
 unfold jB at h;simp only[List.getElem?_map] at h;cases hf:(di m.units m.units.length)[o]? with
 | none=>rw[hf] at h;cases h
 | some n=>rw[hf] at h;cases h;exact⟨n,rfl,rfl⟩
theorem Ra {m:Md}{i:Nat}{q:Bq}(h:(jB m).x[i]?=some q):∃ b,m.boxes[i]?=some b∧q=⟨b.cap.toNat,[]⟩:=by
 unfold jB at h;simp only[List.getElem?_map] at h;cases hf:m.boxes[i]? with
 | none=>rw[hf] at h;cases h
 | some n=>rw[hf] at h;cases h;exact⟨n,rfl,rfl⟩
theorem acD {m:Md}{K:KM}(hK:ib m K)(hv:verify m=(0,0,0)):WI m K (jB m):=by
 have hln:(jB m).ts.length=(di m.units m.units.length).length:=by simp[jB]
 have hpos:0<(di m.units m.units.length).length:=by
  have h3:=I7.1 hv 3 (by omega);have h3':AV m=0:=h3;unfold AV at h3';split at h3'
  ·rename_i ha
   rw[List.any_eq_true] at ha;obtain⟨u,hu,h4⟩:=ha;obtain⟨n,hn⟩:=List.getElem?_of_mem hu;have:n ∈ di m.units m.units.length:=by
    unfold di;rw[List.mem_filter];have:=(List.getElem?_eq_some_iff.1 hn).1;exact⟨by simpa using this,by simp[hn];simpa using h4⟩
   exact List.length_pos_of_mem this
  ·cases h3'
 have hle:=Eh m.units m.units.length;have hul:=hK.rt.units;refine⟨fun o t ht=>?_,by show 0≤20000;omega,⟨by show (-1:Int)≤-1;omega,by show (-1:Int)<_;omega⟩,by rw[hln];omega,Nat.le_refl _⟩;obtain⟨n,hn,rfl⟩:=Q9 ht;obtain⟨u,hu,h4,e⟩:=acC hn;rw[e];obtain⟨G,hG⟩:=XN hK hu h4;refine⟨.inr ⟨G,[],hG⟩,.inl rfl,Nat.le_refl _,Nat.le_refl _,by simp[jB],fun i q b hq hb=>?_⟩;obtain⟨b',hb',rfl⟩:=Ra hq;rw[hb] at hb';cases hb';have:=Q8 hv hb;exact⟨by simp;omega,Nat.zero_le _,fun _=>rfl⟩
theorem acE {c:Cx}{ab:Option Addr}{cb:Nat}{w wr w2:World}{vx:Value}{sa:Option Addr}{sc:Nat}{Q G T:Nat→Nat}{vl:Value}{L2:av}(hcx:kR c w)(hB:c.B≤w.heap.size)(H:lh c ab cb w c.m.boxes.length vx (.slice sa c.m.boxes.length sc) Q G wr)
  (H2:Bc c (.slice sa c.m.boxes.length sc) (.func (.func 100) #[] #[]) (ll (w.heap.size+1) c.m.boxes.length Q G) wr (di c.m.units c.m.units.length) (di c.m.units c.m.units.length).length vl T L2 w2) :
  ∃ s:Sx,s.c=c∧s.WB=w.heap.size+1∧sH s deafW∧dS s deafW L2 (w2.setCell ⟨w.heap.size+1,0,none⟩ vl) (jB c.m) vl vx∧Below w.heap.size w (w2.setCell ⟨w.heap.size+1,0,none⟩ vl)∧∀ b,b<w.heap.size+1→(L2 b).cls=0:=by
 have A9:=H.below.size;have hz2:=H2.below.size;have fV:=lt_of_block H.wb;have hQi:∀ i j,i<j→j<c.m.boxes.length→Q i<Q j:=fun i j h1 h2=>by have:=H.inj i j h1 h2;have:=H.low j h2;omega
 have hGi:∀ i j,i<j→j<c.m.boxes.length→G i<G j:=fun i j h1 h2=>by have:=H.inj i j h1 h2;have:=H.low i (by omega);omega
 have hQG:∀ i j,i<c.m.boxes.length→j<c.m.boxes.length→Q i≠G j:=fun i j h1 h2=>by
  rcases Nat.lt_trichotomy i j with e | e | e
  ·have:=H.inj i j e h2;omega
  ·subst e;have:=H.low i h1;omega
  ·have:=H.inj j i e h1;have:=H.low i h1;have:=H.low j h2;omega
 have lQ:∀ i,i<c.m.boxes.length→ll (w.heap.size+1) c.m.boxes.length Q G (Q i)=⟨2,i,0,0⟩:=fun i hi=>by
  unfold ll;rw[if_neg (by have:=H.low i hi;omega),Q7 hQi hi]
 have lG:∀ i,i<c.m.boxes.length→ll (w.heap.size+1) c.m.boxes.length Q G (G i)=⟨2,i,0,1⟩:=fun i hi=>by
  unfold ll;rw[if_neg (by have:=H.low i hi;omega),Jt (fun j hj=>hQG j i hj hi)];simp only;rw[Q7 hGi hi]
 have lW:ll (w.heap.size+1) c.m.boxes.length Q G (w.heap.size+1)=⟨4,0,0,0⟩:=by unfold ll;rw[if_pos rfl]
 have old:∀ b,b<w.heap.size+1→ll (w.heap.size+1) c.m.boxes.length Q G b=⟨0,0,0,0⟩:=fun b hb=>Ej (by omega) (fun i hi e=>by have:=H.low i hi;omega) (fun i hi e=>by have:=H.low i hi;omega);have Rb:∀ i,i<c.m.boxes.length→∃ b,c.m.boxes[i]?=some b∧Mb.BX wr (Q i) (G i) [] 0 b.cap.toNat:=fun i hi=>by
  obtain⟨b,hb⟩:∃ b,c.m.boxes[i]?=some b:=⟨_,List.getElem?_eq_getElem hi⟩;exact⟨b,hb,H.box i b hi hb⟩
 have Rc:∀ {e n g:Nat} {v:Value} {xs:List Value},wr.ownsRow w.heap.size e 1 v n xs→e≠153→e≠2→e≠100→v.ownBlock=some g→(ll (w.heap.size+1) c.m.boxes.length Q G g).cls=0:=fun ho h1 h2 h3 hg=>by
  rw[Ej (fun e=>yj ho H.wb (Ne.symm h3) (by rw[hg,e])) (fun i hi e=>?_) (fun i hi e=>?_)]
  ·obtain⟨b,_,hX⟩:=Rb i hi
   exact yj ho hX.blk (Ne.symm h1) (by rw[hg,e])
  ·obtain⟨b,_,hX⟩:=Rb i hi
   obtain⟨cs,hc,_⟩:=hX.row;exact yj ho hc (Ne.symm h2) (by rw[hg,e])
 have hW2:w2.heap[w.heap.size+1]?=some (sI (.slice none 0 0) vx 0 (-1)):=(H2.below.block _ fV).trans H.wb;have hset:∀ b,b≠w.heap.size+1→(w2.setCell ⟨w.heap.size+1,0,none⟩ vl).heap[b]?=w2.heap[b]?:=fun b hb=>Below.heap_setCell _ ⟨w.heap.size+1,0,none⟩ _ _ hb;have kS:∀ {e n size B:Nat} {v:Value} {xs:List Value},w2.ownsRow B e size v n xs→e≠100→(w2.setCell ⟨w.heap.size+1,0,none⟩ vl).ownsRow B e size v n xs:=fun h he=>bA h (fun b hb=>hset b (fun e2=>by
  obtain⟨cur,hc⟩:=ic h hb;rw[e2,hW2] at hc;simp at hc;exact he hc.2.symm))
 have k2:∀ {e n size B:Nat} {v:Value} {xs:List Value},wr.ownsRow B e size v n xs→w2.ownsRow B e size v n xs:=fun h=>bA h (fun b hb=>H2.below.block b (h.lt b hb).2);have hsz:(w2.setCell ⟨w.heap.size+1,0,none⟩ vl).heap.size=w2.heap.size:=by simp
 have hlen:(jB c.m).ts.length=(di c.m.units c.m.units.length).length:=by simp[jB]
 have hxl:(jB c.m).x.length=c.m.boxes.length:=by simp[jB]
 have hB2:Below w.heap.size w (w2.setCell ⟨w.heap.size+1,0,none⟩ vl):=(H.below.trans (H2.below.mono A9)).setCell (p:=⟨w.heap.size+1,0,none⟩) (by simp) _;have h0:∀ b,b<w.heap.size+1→(L2 b).cls=0:=fun b hb=>by rw[H2.ext b (by omega),old b hb]
 -- the boxes as tasks have them
 obtain⟨rb,hrow,hbx⟩:∃ rb,(∀ n,n<c.m.boxes.length→rb<(w2.setCell ⟨w.heap.size+1,0,none⟩ vl).heap.size∧(L2 rb).cls=0∧(w2.setCell ⟨w.heap.size+1,0,none⟩ vl).cell? ⟨rb,0+n,none⟩=some (.iface 104 (.pointer (some ⟨Q n,0,none⟩))))∧∀ A,mq (Ai Q c.m.boxes.length rb 0 A) aG c (.slice sa c.m.boxes.length sc):=by
  have hI:=kS (k2 H.nK) (by decide);cases sa with
  | none =>
   have h00:c.m.boxes.length=0:=by
    rcases H.nK.2 with⟨_,h0⟩ | ⟨g,cap,cur,e,_⟩
    ·exact h0
    ·simp at e
   exact⟨0,fun n hn=>by omega,fun A=>⟨fun n hn=>by omega⟩⟩
  | some ad =>
   rcases H.nK.2 with⟨e,_⟩ | ⟨g,cap,cur,e,hr⟩
   ·simp at e
   ·simp at e
    obtain⟨rfl,rfl⟩:=e;have hgz:=lt_of_block hr.2.1;refine⟨g,fun n hn=>?_,fun A=>YZ Q g 0 sc A c⟩;obtain⟨g',e',hc⟩:=qQ hI (acu Q hn);cases e';exact⟨by omega,by rw[H2.ext g hgz];exact Rc H.nK (by decide) (by decide) (by decide) rfl,by rw[Nat.zero_add];exact hc⟩
 refine⟨⟨c,Q,rb,.slice sa c.m.boxes.length sc,w.heap.size+1,T,fun _=>100,fun _=>#[]⟩,rfl,rfl,⟨fun A=>hbx A,fun o evs l0 _=>acB Q _ rb 0 c o evs l0⟩,?_,hB2,h0⟩;refine⟨?_,by show (L2 (w.heap.size+1)).cls=4;rw[H2.ext _ fV,lW],?_,?_,H2.lab,fun b hb=>?_,fun b hb=>?_,fun o t ht=>?_,⟨hxl,hrow,fun n q hq=>?_⟩,trivial,H2.ok.on (by rw[hsz];exact Nat.le_refl _),hcx.low (fun b hb=>hB2.block b (by have:b<c.B:=hb;omega))⟩
 ·show (w2.setCell ⟨w.heap.size+1,0,none⟩ vl).heap[w.heap.size+1]?=some (sI vl vx 0 (-1))
  simp only[World.setCell,Array.getElem?_modify,if_true,hW2,Option.map_some];rfl
 ·rw[hlen]
  exact lL (kS H2.row (by decide)) (Nat.zero_le _)
 ·exact lL (kS (k2 H.ptr) (by decide)) (Nat.zero_le _)
 ·rw[H2.ext b (H.ptr.lt b hb).2]
  exact Rc H.ptr (by decide) (by decide) (by decide) hb
 ·show c.B≤b
  rcases hb with hb | hb | hb
  ·have:=(H2.row.lt b hb).1;omega
  ·have:=(H.ptr.lt b hb).1;omega
  ·have e:b=w.heap.size+1:=hb
   omega
 ·obtain⟨n,hn,rfl⟩:=Q9 ht
  obtain⟨P,vR,vO,hT⟩:=H2.tasks o n (List.getElem?_eq_some_iff.1 hn).1 hn;refine⟨P,vR,vO,uZ hT (fun b hb h1 _=>hset b (fun e=>?_)) (.refl _ _) hT.kv⟩;rw[e,H2.ext _ fV,lW] at h1;simp at h1
 ·obtain⟨b,hb,rfl⟩:=Ra hq
  have hn:=(List.getElem?_eq_some_iff.1 hb).1;have hX:=H.box n b hn hb;have hl:=H.low n hn;refine⟨G n,0,Ah hX ((hset (Q n) (by omega)).trans (H2.below.block (Q n) (by omega))) ((hset (G n) (by omega)).trans (H2.below.block (G n) (by omega))),?_,?_⟩
  ·show L2 (Q n)=_
   rw[H2.ext _ (by omega),lQ n hn]
  ·show L2 (G n)=_
   rw[H2.ext _ (by omega),lG n hn]
end Go.Proofs.YtfcpglhpolpdcaaGreatDoor.Vw
