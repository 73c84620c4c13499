/- What end lays down,piece by piece. -/
import Derived.Test.YtfcpglhpolpdcaaGreatDoorM31
import Derived.Test.YtfcpglhpolpdcaaGreatDoorM17
set_option maxRecDepth 100000
set_option maxHeartbeats 4000000
namespace Go.Proofs.YtfcpglhpolpdcaaGreatDoor.Vw
open Go.RowKit Vf Vm
theorem Tryz.acd:(Tryz.prog.info? 40).map (fun i=>(i.zero,i.size,i.bytes))=some (some (.agg #[.int .i64 0,.int .i64 0,.int .i64 0,.slice none 0 0]),4,48):=by kernel_rfl
theorem Tryz.ace:(Tryz.prog.info? 38).map (fun i=>(i.zero,i.size,i.bytes))=some (some (.slice none 0 0),1,24):=by kernel_rfl
def lV (sv:Nat→Value)(n:Nat):List Value:=(List.range n).map sv
theorem acf (sv:Nat→Value)(n:Nat):lV sv (n+1)=lV sv n++[sv n]:=by simp[lV,List.range_succ]
theorem acg {a b:Nat→Value}{n:Nat}(h:∀ i,i<n→a i=b i):lV a n=lV b n:=List.map_congr_left (fun i hi=>h i (by simpa using hi))
def enc (m:Md)(W:Wd)(ov:Nat→Value)(i:Nat):List Value:=[.int .i64 (stat aG m (W.tk (i:Int)) W.x).1,.int .i64 (stat aG m (W.tk (i:Int)) W.x).2,.int .i64 (W.tk (i:Int)).trap,ov i]
def jy (m:Md)(W:Wd)(ov:Nat→Value)(n:Nat):List Value:=(List.range n).flatMap (enc m W ov)
theorem Ba (m:Md)(W:Wd)(ov:Nat→Value)(n:Nat):jy m W ov (n+1)=jy m W ov n++enc m W ov n:=by simp[jy,List.range_succ]
theorem QX {m:Md}{W:Wd}{a b:Nat→Value}:∀ {n:Nat},(∀ i,i<n→a i=b i)→jy m W a n=jy m W b n
 | 0,_=>rfl
 | n+1,h=>by rw[Ba,Ba,QX (fun i hi=>h i (by omega)),enc,enc,h n (by omega)]
abbrev iY (vE vB:Value) (steps:Int):Obj:=.cells #[vE,vB,.int .i64 steps] 35 (0,0)
theorem dD {w:World}{b:Nat}{vE vB:Value}{st:Int}(h:w.heap[b]?=some (iY vE vB st)):(w.cell? ⟨b,0,none⟩=some vE∧w.cell? ⟨b,1,none⟩=some vB∧w.cell? ⟨b,2,none⟩=some (.int .i64 st))∧∀ j,w.frozen? ⟨b,j,none⟩=false:=by simp[World.cell?,World.frozen?,h]
structure lX (m:Md) (W:Wd) (C:Nat) (w:World) (vE vB:Value) (k1 k2:Nat) (ov bv:Nat→Value):Prop where
 ends:w.ownsRow C 40 4 vE k1 (jy m W ov k1)
 outs:∀ (i:Nat),i<k1→w.ownsRow C 2 1 (ov i) (W.tk (i:Int)).out.length (ints (W.tk (i:Int)).out)
 jA:w.ownsRow C 38 1 vB k2 (lV bv k2)
 words:∀ (i:Nat) q,i<k2→W.x[i]?=some q→w.ownsRow C 2 1 (bv i) q.ws.length (ints q.ws)
theorem lX.keep {m:Md}{W:Wd}{C:Nat}{w w1:World}{vE vB:Value}{k1 k2:Nat}{ov bv:Nat→Value}(h:lX m W C w vE vB k1 k2 ov bv)(F:Nat→Prop)(hw:∀ k,k<w.heap.size→¬ F k→w1.heap[k]?=w.heap[k]?)(hF:∀ k,F k→∀ cur,w.heap[k]?≠some (.cells cur 40 (0,0))∧w.heap[k]?≠some (.cells cur 2 (0,0))∧w.heap[k]?≠some (.cells cur 38 (0,0))):lX m W C w1 vE vB k1 k2 ov bv :=
 ⟨bA h.ends (fun b hb=>hw b (h.ends.lt b hb).2 (fun e=>by obtain⟨cur,hc⟩:=ic h.ends hb;exact (hF b e cur).1 hc)),
  fun i hi=>bA (h.outs i hi) (fun b hb=>hw b ((h.outs i hi).lt b hb).2 (fun e=>by obtain⟨cur,hc⟩:=ic (h.outs i hi) hb;exact (hF b e cur).2.1 hc)),
  bA h.jA (fun b hb=>hw b (h.jA.lt b hb).2 (fun e=>by obtain⟨cur,hc⟩:=ic h.jA hb;exact (hF b e cur).2.2 hc)),
  fun i q hi hq=>bA (h.words i q hi hq) (fun b hb=>hw b ((h.words i q hi hq).lt b hb).2 (fun e=>by obtain⟨cur,hc⟩:=ic (h.words i q hi hq) hb;exact (hF b e cur).2.1 hc))⟩
structure nJ (m:Md) (W:Wd) (w:World) (R0 R:Nat) (vE vB:Value) (k1 k2:Nat) (ov bv:Nat→Value) (wr:World):Prop where
 below:Below w.heap.size w wr
 low:w.heap.size≤R0∧w.heap.size≤R
 zero:wr.heap[R0]?=some (iY (.slice none 0 0) (.slice none 0 0) 0)
 ne:R0≠R
 blk:wr.heap[R]?=some (iY vE vB W.steps)
 rows:lX m W w.heap.size wr vE vB k1 k2 ov bv
section
variable {m:Md} {W:Wd} {w wr w2 w4:World} {R0 R:Nat} {vE vB:Value} {k1 k2:Nat} {ov bv:Nat→Value}
theorem nJ.on (H:nJ m W w R0 R vE vB k1 k2 ov bv wr)(hb:Below wr.heap.size wr w2):nJ m W w R0 R vE vB k1 k2 ov bv w2 :=
 ⟨H.below.trans (hb.mono H.below.size),H.low,(hb.block _ (lt_of_block H.zero)).trans H.zero,H.ne,(hb.block _ (lt_of_block H.blk)).trans H.blk,H.rows.keep (fun _=>False) (fun k hk _=>hb.block k hk) (fun _ h=>h.elim)⟩
theorem nJ.Jm (H:nJ m W w R0 R vE vB k1 k2 ov bv w2){v v':Value}(hv:w2.ownsRow w.heap.size 2 1 v (W.tk (k1:Int)).out.length (ints (W.tk (k1:Int)).out)){ob:Obj}(h4:w4.ownsRow w.heap.size 40 4 v' (k1+1) (jy m W ov k1++enc m W (fun _=>v) k1))(g4:(w2.alloc ob).grownBy w4 vE.ownBlock) :
  w4.heap[R]?=some (iY vE vB W.steps)∧Below w.heap.size w w4∧nJ m W w R0 R v' vB (k1+1) k2 (fun i=>if i=k1 then v else ov i) bv (w4.setCell ⟨R,0,none⟩ v'):=by
 have o9:=g4.size;simp at o9;have A9:=H.below.size;have stay:∀ b,b<w2.heap.size→vE.ownBlock≠some b→w4.heap[b]?=w2.heap[b]?:=fun b hb hn=>(g4.block b (by simp;omega) (fun e=>hn e.symm)).trans (Below.heap_alloc _ _ _ hb);have nE:∀ b (o:Obj),w2.heap[b]?=some o→(∀ cur,o≠.cells cur 40 (0,0))→vE.ownBlock≠some b:=fun b o hb hn e=>by
  obtain⟨cur,hc⟩:=ic H.rows.ends e;rw[hb] at hc;exact hn cur (Option.some.inj hc)
 have hR:w4.heap[R]?=some (iY vE vB W.steps):=(stay R (lt_of_block H.blk) (nE _ _ H.blk (fun cur e=>by simp at e))).trans H.blk;have hset:∀ b,b≠R→(w4.setCell ⟨R,0,none⟩ v').heap[b]?=w4.heap[b]?:=fun b hb=>Below.heap_setCell _ ⟨R,0,none⟩ _ _ hb;have hbel:Below w.heap.size w w4:=(H.below.alloc H.below.size _).grown g4 (by simp;omega) (fun b hb=>(H.rows.ends.lt b hb).1);have k4:∀ {e n size:Nat} {v:Value} {xs:List Value},w4.ownsRow w.heap.size e size v n xs→e≠35→(w4.setCell ⟨R,0,none⟩ v').ownsRow w.heap.size e size v n xs:=fun h he=>bA h (fun b hb=>hset b (fun e2=>by
  obtain⟨cur,hc⟩:=ic h hb;rw[e2,hR] at hc;simp at hc;exact he hc.2.symm))
 have k2':∀ {e n size:Nat} {v:Value} {xs:List Value},w2.ownsRow w.heap.size e size v n xs→e≠40→w4.ownsRow w.heap.size e size v n xs:=fun h he=>bA h (fun b hb=>stay b (h.lt b hb).2 (fun e2=>by
  obtain⟨cur,hc⟩:=ic h hb;obtain⟨Jn,hc2⟩:=ic H.rows.ends e2;rw[hc] at hc2;simp at hc2;exact he hc2.2))
 refine⟨hR,hbel,hbel.setCell (p:=⟨R,0,none⟩) H.low.2 _,H.low,(hset _ H.ne).trans ((stay R0 (lt_of_block H.zero) (nE _ _ H.zero (fun cur e=>by simp at e))).trans H.zero),H.ne,?_,⟨?_,fun i hi=>?_,k4 (k2' H.rows.jA (by decide)) (by decide),fun i q hi hq=>k4 (k2' (H.rows.words i q hi hq) (by decide)) (by decide)⟩⟩
 ·simp only[World.setCell,Array.getElem?_modify,if_true,hR,Option.map_some]
  rfl
 ·rw[Ba,QX (b:=ov) (fun i hi=>if_neg (by omega))]
  have:enc m W (fun i=>if i=k1 then v else ov i) k1=enc m W (fun _=>v) k1:=by simp[enc]
  rw[this];exact k4 h4 (by decide)
 ·by_cases e:i=k1
  ·subst e
   simp only[if_true];exact k4 (k2' hv (by decide)) (by decide)
  ·simp only[if_neg e]
   exact k4 (k2' (H.rows.outs i (by omega)) (by decide)) (by decide)
theorem nJ.yh (H:nJ m W w R0 R vE vB k1 k2 ov bv w2){v v':Value}{q:Bq}(hq:W.x[k2]?=some q)(hv:w2.ownsRow w.heap.size 2 1 v q.ws.length (ints q.ws)){ob:Obj}(h4:w4.ownsRow w.heap.size 38 1 v' (k2+1) (lV bv k2++[v]))(g4:(w2.alloc ob).grownBy w4 vB.ownBlock) :
  w4.heap[R]?=some (iY vE vB W.steps)∧Below w.heap.size w w4∧nJ m W w R0 R vE v' k1 (k2+1) ov (fun i=>if i=k2 then v else bv i) (w4.setCell ⟨R,1,none⟩ v'):=by
 have o9:=g4.size;simp at o9;have A9:=H.below.size;have stay:∀ b,b<w2.heap.size→vB.ownBlock≠some b→w4.heap[b]?=w2.heap[b]?:=fun b hb hn=>(g4.block b (by simp;omega) (fun e=>hn e.symm)).trans (Below.heap_alloc _ _ _ hb);have nE:∀ b (o:Obj),w2.heap[b]?=some o→(∀ cur,o≠.cells cur 38 (0,0))→vB.ownBlock≠some b:=fun b o hb hn e=>by
  obtain⟨cur,hc⟩:=ic H.rows.jA e;rw[hb] at hc;exact hn cur (Option.some.inj hc)
 have hR:w4.heap[R]?=some (iY vE vB W.steps):=(stay R (lt_of_block H.blk) (nE _ _ H.blk (fun cur e=>by simp at e))).trans H.blk;have hset:∀ b,b≠R→(w4.setCell ⟨R,1,none⟩ v').heap[b]?=w4.heap[b]?:=fun b hb=>Below.heap_setCell _ ⟨R,1,none⟩ _ _ hb;have hbel:Below w.heap.size w w4:=(H.below.alloc H.below.size _).grown g4 (by simp;omega) (fun b hb=>(H.rows.jA.lt b hb).1);have k4:∀ {e n size:Nat} {v:Value} {xs:List Value},w4.ownsRow w.heap.size e size v n xs→e≠35→(w4.setCell ⟨R,1,none⟩ v').ownsRow w.heap.size e size v n xs:=fun h he=>bA h (fun b hb=>hset b (fun e2=>by
  obtain⟨cur,hc⟩:=ic h hb;rw[e2,hR] at hc;simp at hc;exact he hc.2.symm))
 have k2':∀ {e n size:Nat} {v:Value} {xs:List Value},w2.ownsRow w.heap.size e size v n xs→e≠38→w4.ownsRow w.heap.size e size v n xs:=fun h he=>bA h (fun b hb=>stay b (h.lt b hb).2 (fun e2=>by
  obtain⟨cur,hc⟩:=ic h hb;obtain⟨Jn,hc2⟩:=ic H.rows.jA e2;rw[hc] at hc2;simp at hc2;exact he hc2.2))
 refine⟨hR,hbel,hbel.setCell (p:=⟨R,1,none⟩) H.low.2 _,H.low,(hset _ H.ne).trans ((stay R0 (lt_of_block H.zero) (nE _ _ H.zero (fun cur e=>by simp at e))).trans H.zero),H.ne,?_,⟨k4 (k2' H.rows.ends (by decide)) (by decide),fun i hi=>k4 (k2' (H.rows.outs i hi) (by decide)) (by decide),?_,fun i p hi hp=>?_⟩⟩
 ·simp only[World.setCell,Array.getElem?_modify,if_true,hR,Option.map_some]
  rfl
 ·rw[acf,acg (b:=bv) (fun i hi=>if_neg (by omega)),if_pos rfl]
  exact k4 h4 (by decide)
 ·by_cases e:i=k2
  ·subst e
   rw[hq] at hp;cases hp;simp only[if_true];exact k4 (k2' hv (by decide)) (by decide)
  ·simp only[if_neg e]
   exact k4 (k2' (H.rows.words i p (by omega) hp) (by decide)) (by decide)
end
theorem Jo (W:World)(a b c:Int)(v:Value):∀ j u,[Value.int .i64 a,.int .i64 b,.int .i64 c,v][j]?=some u→(W.alloc (.cells #[.int .i64 a,.int .i64 b,.int .i64 c,v] 40)).cell? ((⟨W.heap.size,0,none⟩:Addr).add j)=some u:=by
 intro j u hu;rw[o6,World.cell?_alloc_mark];match j,hu with
 | 0,hu=>simpa using hu
 | 1,hu=>simpa using hu
 | 2,hu=>simpa using hu
 | 3,hu=>simpa using hu
 | j+4,hu=>simp at hu
theorem Jp (a b c:Int)(x:Option Addr)(n m:Nat):∀ u ∈ [Value.int .i64 a,.int .i64 b,.int .i64 c,.slice x n m],u.oneCell'=true:=by
 intro u hu;simp at hu;rcases hu with rfl | rfl | rfl | rfl<;>rfl
theorem ach (s:Sx)(B:kE)(hS:Hid (sH s B))(K:KM)(hK:Hid (ib s.c.m K))(L:av)(w:World)(W:Wd)(vt vx:Value)(H:Hid (dS s B L w W vt vx))(hI:Hid (WI s.c.m K W))(hbl:s.c.m.boxes.length≤30) :
  Calls Tryz.prog 16 #[.pointer (some ⟨s.WB,0,none⟩)] w fun e w'=>∃ vE vB ov bv,e=.returned (.agg #[vE,vB,.int .i64 W.steps])∧Below w.heap.size w w'∧lX s.c.m W w.heap.size w' vE vB W.ts.length s.c.m.boxes.length ov bv:=by
 obtain⟨i0,hi,hz0,hz1,hz2⟩:=info_parts Tryz.acd;obtain⟨i1,hi1,hy0,hy1,hy2⟩:=info_parts Tryz.ace;obtain⟨d0,d1,d2,d3,_⟩:=H.out.cells;obtain⟨ta,tc,u6⟩:∃ a c,vt=.slice a W.ts.length c:=dA H.out.kZ;obtain⟨xa,xc,hvx⟩:∃ a c,vx=.slice a s.c.m.boxes.length c:=dA H.out.qU;subst u6 hvx;have fV:=lt_of_block H.out.blk;have dx:=hI.out.few;have Jq:Hid (nJ s.c.m W w w.heap.size (w.heap.size+1) (.slice none 0 0) (.slice none 0 0) 0 0 (fun _=>.slice none 0 0) (fun _=>.slice none 0 0) ((w.alloc (iY (.slice none 0 0) (.slice none 0 0) 0)).alloc (iY (.slice none 0 0) (.slice none 0 0) W.steps))):=by
  have e1:(w.alloc (iY (.slice none 0 0) (.slice none 0 0) 0)).heap.size=w.heap.size+1:=by simp
  refine⟨((Below.refl _ w).alloc (Nat.le_refl _) _).alloc (by simp) _,⟨Nat.le_refl _,by omega⟩,(Below.heap_alloc _ _ _ (by simp)).trans (heap_alloc_new w _),by omega,?_,⟨⟨rfl,.inl ⟨rfl,rfl⟩⟩,fun i hi=>by omega,⟨rfl,.inl ⟨rfl,rfl⟩⟩,fun i q hi=>by omega⟩⟩;rw[← e1];exact heap_alloc_new _ _
 obtain⟨N,hN⟩:∃ N,N=W.ts.length:=⟨_,rfl⟩;have HN:=Sb.hide hN;rw[← hN] at dx d0 ⊢;obtain⟨nb,hnb⟩:∃ N,N=s.c.m.boxes.length:=⟨_,rfl⟩;have Bb:=Sb.hide hnb;rw[← hnb] at hbl d1 ⊢;have HC:Hid (∀ W2,Below w.heap.size w W2→W2.cell? ⟨s.WB,0,none⟩=some (.slice ta N tc)∧W2.cell? ⟨s.WB,1,none⟩=some (.slice xa nb xc)):=fun W2 hb=>⟨(aI (hb.block _ fV) _).trans d0,(aI (hb.block _ fV) _).trans d1⟩;have s2:((w.alloc (iY (.slice none 0 0) (.slice none 0 0) 0))).cell? ⟨s.WB,2,none⟩=some (.int .i64 W.steps):=(aI (Below.heap_alloc _ _ _ fV) _).trans d2;obtain⟨c0,c1⟩:=HC.out _ Jq.out.below;clear hN hnb d0 d1 d3;go_enter Tryz.func16,Tryz.ntmps16
 go_wp2
 clear c0 c1 s2 d2;go_loopw [18] (fun v wr=>∃ k:Nat,v=.int .i64 k∧k≤N∧∃ vE ov,nJ s.c.m W w w.heap.size (w.heap.size+1) vE (.slice none 0 0) k 0 ov (fun _=>.slice none 0 0) wr) (fun v _=>N - (intOf v).toNat)
 case atStart=>exact⟨0,rfl,Nat.zero_le _,_,_,Jq.out⟩
 case round =>
  obtain⟨k,rfl,hk,vE,ov,hA⟩:=hrel;have HA:=Sb.hide hA;have hbz:=hA.below.size;clear hA Jq;by_cases hlt:k<N
  ·obtain⟨t,ht⟩:∃ t,W.ts[k]?=some t:=⟨_,List.getElem?_eq_getElem (by rw[← HN.out];exact hlt)⟩
   obtain⟨o,ho⟩:∃ o,o=k:=⟨_,rfl⟩;have gM:Hid (W.tk (k:Int)=t):=by unfold Hid Wd.tk;simp[ht]
   have HAT:=Sb.hide (hI.out.at (c:=s.c) rfl hK.out ht);have hout:t.out.length≤1000000:=by have:=(hI.out.tasks k t ht).out;have:=hI.out.steps;omega
   obtain⟨P,vR,vO,hSt⟩:=H.out.st ht;have HST:=Sb.hide hSt;rw[← ho] at HST;obtain⟨g,u7,htc⟩:=qQ H.out.kZ (xh s.T (by rw[← HN.out];exact hlt:k<W.ts.length));have hgz:=World.block_lt_of_cell? w _ htc;have t5:wr.cell? ⟨g,k,none⟩=some (.pointer (some ⟨s.T o,0,none⟩)):=by rw[ho];exact (aI (HA.out.below.block g hgz) _).trans htc
   subst u7;have n0:(0:Int)≤(k:Int):=by omega
   have n1:(k:Int)<(N:Int):=by omega
   have r1:=(dD HA.out.blk).1.1;have cZ:Hid (Below w.heap.size w wr.drew):=HA.out.below.drew;clear ht hSt htc ho;go_wp2
   refine wp_region_held_drew (S:=fun _=>True) (by kernel_rfl) trivial (fun hHeld=>?_);refine wpAnyH_take (i:=0) (oi:=_) (v:=?_) rfl (by kernel_rfl) (by kernel_rfl) (by kernel_rfl) (fun _ _ _ h=>h) (Or.inl ⟨by rfl,?_⟩) (by assumption) ?_;rotate_left
   ·intro w hSw
    (try dsimp only at hSw)
    go_simp
    (try with_reducible rfl)
   (try simp only[Act.put])
   refine wpAnyH_take (i:=2) (oi:=_) (v:=?_) rfl (by kernel_rfl) (by kernel_rfl) (by kernel_rfl) (fun _ _ _ h=>h) (Or.inl ⟨by rfl,?_⟩) (by assumption) ?_;rotate_left
   ·intro w hSw
    (try dsimp only at hSw)
    go_simp
    (try with_reducible rfl)
   (try simp only[Act.put])
   refine wpAnyH_ready (rs:=[1,3]) (by kernel_rfl) (by simp) ?_;refine AllReadyH.cons (o:=_) rfl (fun K' hK'=>?_) ?_
   ·skip
    go_simp
    refine hK'.out _ _ trivial (fun hHeld=>?_);clear hK' K';refine wpAnyH_ready (rs:=[3]) (by kernel_rfl) (by simp) ?_;refine AllReadyH.cons (o:=_) rfl (fun K' hK'=>?_) AllReadyH.nil;go_simp
    refine (QE (s.E (qR B o W.evs t.log.length)) aG s.c s.vb (s.ev o) o (s.T o) L P wr.drew t W.x vR vO (Sb.hide (HST.out.below cZ.out)) (Sb.hide (hS.out.boxes _)) HAT hout).mono ?_;rintro e w2 ⟨v,rfl,hown,hb2⟩;obtain⟨va,vc,rfl⟩:=dA hown;have HB2:Hid (Below wr.heap.size wr w2):=((Below.refl _ wr).drew).trans (hb2.mono (Nat.le_refl _));have HA2:=Sb.hide (HA.out.on HB2.out);have qX:Hid (w2.ownsRow w.heap.size 2 1 (.slice va t.out.length vc) (W.tk (k:Int)).out.length (ints (W.tk (k:Int)).out)):=by
     unfold Hid;rw[gM.out];exact lL hown (by exact HA.out.below.size)
    have r2:=(dD HA2.out.blk).1.1;clear hown hb2;refine hK'.out _ _ trivial (fun hHeld=>?_);clear hK' K';refine wpAnyH_ready (rs:=[4]) (by kernel_rfl) (by simp) ?_;refine AllReadyH.cons (o:=_) rfl (fun K' hK'=>?_) AllReadyH.nil;go_simp
    refine hK'.out _ _ trivial (fun hHeld=>?_);clear hK' K';have HRW:Hid ((w2.alloc (.cells #[.int .i64 (stat aG s.c.m t W.x).1,.int .i64 (stat aG s.c.m t W.x).2,.int .i64 t.trap,.slice va t.out.length vc] 40)).ownsRow w.heap.size 40 4 vE k (jy s.c.m W ov k)):=HA2.out.rows.ends.alloc _;have r3:=(aI (Below.heap_alloc w2 (.cells #[.int .i64 (stat aG s.c.m t W.x).1,.int .i64 (stat aG s.c.m t W.x).2,.int .i64 t.trap,.slice va t.out.length vc] 40) _ (lt_of_block HA2.out.blk)) 0).trans r2;refine wpAnyH_ready (rs:=[5]) (by kernel_rfl) (by simp) ?_;refine AllReadyH.cons (o:=_) rfl (fun K' hK'=>?_) AllReadyH.nil;refine oh rfl (.tmp 23) (.tmp 26) 32 rfl w.heap.size 40 i0 (.agg #[.int .i64 0,.int .i64 0,.int .i64 0,.slice none 0 0]) 4 48 Tryz.underlying32 hi hz0 hz1 hz2 rfl (by decide) vE k (jy s.c.m W ov k) rfl HRW.out ⟨w2.heap.size,0,none⟩ 1 1 [.int .i64 (stat aG s.c.m t W.x).1,.int .i64 (stat aG s.c.m t W.x).2,.int .i64 t.trap,.slice va t.out.length vc] rfl rfl (Jo w2 _ _ _ _) (Jp _ _ _ _ _ _) (by decide) (by unfold maxLen;omega) (by omega) (by have:=HA2.out.below.size;simp;omega) ?_;intro g4 cap4 w4 bO hg4 _;have sJ:w4.ownsRow w.heap.size 40 4 (.slice (some ⟨g4,0,none⟩) (k+1) cap4) (k+1) (jy s.c.m W ov k++enc s.c.m W (fun _=>.slice va t.out.length vc) k):=by
     unfold enc;rw[gM.out];exact bO
    obtain⟨bJ,hb4,jV⟩:=HA2.out.Jm qX.out sJ hg4;have oI:=Sb.hide jV;have q4:=(dD bJ).1;have f4:=(dD bJ).2;clear bO sJ hg4 bJ hb4 jV;refine hK'.out _ _ trivial (fun hHeld=>?_);clear hK' K';simp only[Act.put];refine wpAnyH_take (i:=6) (oi:=_) (v:=?_) rfl (by kernel_rfl) (by kernel_rfl) (by kernel_rfl) (fun _ _ _ h=>h) (Or.inl ⟨by rfl,?_⟩) (by assumption) ?_;rotate_left
    ·intro w hSw
     (try dsimp only at hSw)
     go_simp
     (try with_reducible rfl)
    (try simp only[Act.put])
    refine wpAnyH_ready (rs:=[7]) (by kernel_rfl) (by simp) ?_;refine AllReadyH.cons (o:=_) rfl (fun K' hK'=>?_) AllReadyH.nil;go_simp
    refine hK'.out _ _ trivial (fun hHeld=>?_);clear hK' K' hHeld q4 f4;refine wpAnyH_done (by kernel_rfl) ?_ _;go_wp2
    go_roundw
    case rel=>exact⟨k+1,by go_num,by have:=HN.out;omega,_,_,oI.out⟩
    case measure=>simp[intOf];omega
   ·refine AllReadyH.cons (o:=_) rfl (fun K' hK'=>?_) AllReadyH.nil
    go_simp
    refine (QE (s.E (qR B o W.evs t.log.length)) aG s.c s.vb (s.ev o) o (s.T o) L P wr.drew t W.x vR vO (Sb.hide (HST.out.below cZ.out)) (Sb.hide (hS.out.boxes _)) HAT hout).mono ?_;rintro e w2 ⟨v,rfl,hown,hb2⟩;obtain⟨va,vc,rfl⟩:=dA hown;have HB2:Hid (Below wr.heap.size wr w2):=((Below.refl _ wr).drew).trans (hb2.mono (Nat.le_refl _));have HA2:=Sb.hide (HA.out.on HB2.out);have qX:Hid (w2.ownsRow w.heap.size 2 1 (.slice va t.out.length vc) (W.tk (k:Int)).out.length (ints (W.tk (k:Int)).out)):=by
     unfold Hid;rw[gM.out];exact lL hown (by exact HA.out.below.size)
    have r2:=(dD HA2.out.blk).1.1;clear hown hb2;refine hK'.out _ _ trivial (fun hHeld=>?_);clear hK' K';refine wpAnyH_ready (rs:=[1,4]) (by kernel_rfl) (by simp) ?_;refine AllReadyH.cons (o:=_) rfl (fun K' hK'=>?_) ?_
    ·skip
     go_simp
     refine hK'.out _ _ trivial (fun hHeld=>?_);clear hK' K';refine wpAnyH_ready (rs:=[4]) (by kernel_rfl) (by simp) ?_;refine AllReadyH.cons (o:=_) rfl (fun K' hK'=>?_) AllReadyH.nil;go_simp
     refine hK'.out _ _ trivial (fun hHeld=>?_);clear hK' K';have HRW:Hid ((w2.alloc (.cells #[.int .i64 (stat aG s.c.m t W.x).1,.int .i64 (stat aG s.c.m t W.x).2,.int .i64 t.trap,.slice va t.out.length vc] 40)).ownsRow w.heap.size 40 4 vE k (jy s.c.m W ov k)):=HA2.out.rows.ends.alloc _;have r3:=(aI (Below.heap_alloc w2 (.cells #[.int .i64 (stat aG s.c.m t W.x).1,.int .i64 (stat aG s.c.m t W.x).2,.int .i64 t.trap,.slice va t.out.length vc] 40) _ (lt_of_block HA2.out.blk)) 0).trans r2;refine wpAnyH_ready (rs:=[5]) (by kernel_rfl) (by simp) ?_;refine AllReadyH.cons (o:=_) rfl (fun K' hK'=>?_) AllReadyH.nil;refine oh rfl (.tmp 23) (.tmp 26) 32 rfl w.heap.size 40 i0 (.agg #[.int .i64 0,.int .i64 0,.int .i64 0,.slice none 0 0]) 4 48 Tryz.underlying32 hi hz0 hz1 hz2 rfl (by decide) vE k (jy s.c.m W ov k) rfl HRW.out ⟨w2.heap.size,0,none⟩ 1 1 [.int .i64 (stat aG s.c.m t W.x).1,.int .i64 (stat aG s.c.m t W.x).2,.int .i64 t.trap,.slice va t.out.length vc] rfl rfl (Jo w2 _ _ _ _) (Jp _ _ _ _ _ _) (by decide) (by unfold maxLen;omega) (by omega) (by have:=HA2.out.below.size;simp;omega) ?_;intro g4 cap4 w4 bO hg4 _;have sJ:w4.ownsRow w.heap.size 40 4 (.slice (some ⟨g4,0,none⟩) (k+1) cap4) (k+1) (jy s.c.m W ov k++enc s.c.m W (fun _=>.slice va t.out.length vc) k):=by
      unfold enc;rw[gM.out];exact bO
     obtain⟨bJ,hb4,jV⟩:=HA2.out.Jm qX.out sJ hg4;have oI:=Sb.hide jV;have q4:=(dD bJ).1;have f4:=(dD bJ).2;clear bO sJ hg4 bJ hb4 jV;refine hK'.out _ _ trivial (fun hHeld=>?_);clear hK' K';simp only[Act.put];refine wpAnyH_take (i:=6) (oi:=_) (v:=?_) rfl (by kernel_rfl) (by kernel_rfl) (by kernel_rfl) (fun _ _ _ h=>h) (Or.inl ⟨by rfl,?_⟩) (by assumption) ?_;rotate_left
     ·intro w hSw
      (try dsimp only at hSw)
      go_simp
      (try with_reducible rfl)
     (try simp only[Act.put])
     refine wpAnyH_ready (rs:=[7]) (by kernel_rfl) (by simp) ?_;refine AllReadyH.cons (o:=_) rfl (fun K' hK'=>?_) AllReadyH.nil;go_simp
     refine hK'.out _ _ trivial (fun hHeld=>?_);clear hK' K' hHeld q4 f4;refine wpAnyH_done (by kernel_rfl) ?_ _;go_wp2
     go_roundw
     case rel=>exact⟨k+1,by go_num,by have:=HN.out;omega,_,_,oI.out⟩
     case measure=>simp[intOf];omega
    ·refine AllReadyH.cons (o:=_) rfl (fun K' hK'=>?_) AllReadyH.nil
     go_simp
     refine hK'.out _ _ trivial (fun hHeld=>?_);clear hK' K';have HRW:Hid ((w2.alloc (.cells #[.int .i64 (stat aG s.c.m t W.x).1,.int .i64 (stat aG s.c.m t W.x).2,.int .i64 t.trap,.slice va t.out.length vc] 40)).ownsRow w.heap.size 40 4 vE k (jy s.c.m W ov k)):=HA2.out.rows.ends.alloc _;have r3:=(aI (Below.heap_alloc w2 (.cells #[.int .i64 (stat aG s.c.m t W.x).1,.int .i64 (stat aG s.c.m t W.x).2,.int .i64 t.trap,.slice va t.out.length vc] 40) _ (lt_of_block HA2.out.blk)) 0).trans r2;refine wpAnyH_ready (rs:=[1]) (by kernel_rfl) (by simp) ?_;refine AllReadyH.cons (o:=_) rfl (fun K' hK'=>?_) AllReadyH.nil;go_simp
     refine hK'.out _ _ trivial (fun hHeld=>?_);clear hK' K';refine wpAnyH_ready (rs:=[5]) (by kernel_rfl) (by simp) ?_;refine AllReadyH.cons (o:=_) rfl (fun K' hK'=>?_) AllReadyH.nil;refine oh rfl (.tmp 23) (.tmp 26) 32 rfl w.heap.size 40 i0 (.agg #[.int .i64 0,.int .i64 0,.int .i64 0,.slice none 0 0]) 4 48 Tryz.underlying32 hi hz0 hz1 hz2 rfl (by decide) vE k (jy s.c.m W ov k) rfl HRW.out ⟨w2.heap.size,0,none⟩ 1 1 [.int .i64 (stat aG s.c.m t W.x).1,.int .i64 (stat aG s.c.m t W.x).2,.int .i64 t.trap,.slice va t.out.length vc] rfl rfl (Jo w2 _ _ _ _) (Jp _ _ _ _ _ _) (by decide) (by unfold maxLen;omega) (by omega) (by have:=HA2.out.below.size;simp;omega) ?_;intro g4 cap4 w4 bO hg4 _;have sJ:w4.ownsRow w.heap.size 40 4 (.slice (some ⟨g4,0,none⟩) (k+1) cap4) (k+1) (jy s.c.m W ov k++enc s.c.m W (fun _=>.slice va t.out.length vc) k):=by
      unfold enc;rw[gM.out];exact bO
     obtain⟨bJ,hb4,jV⟩:=HA2.out.Jm qX.out sJ hg4;have oI:=Sb.hide jV;have q4:=(dD bJ).1;have f4:=(dD bJ).2;clear bO sJ hg4 bJ hb4 jV;refine hK'.out _ _ trivial (fun hHeld=>?_);clear hK' K';simp only[Act.put];refine wpAnyH_take (i:=6) (oi:=_) (v:=?_) rfl (by kernel_rfl) (by kernel_rfl) (by kernel_rfl) (fun _ _ _ h=>h) (Or.inl ⟨by rfl,?_⟩) (by assumption) ?_;rotate_left
     ·intro w hSw
      (try dsimp only at hSw)
      go_simp
      (try with_reducible rfl)
     (try simp only[Act.put])
     refine wpAnyH_ready (rs:=[7]) (by kernel_rfl) (by simp) ?_;refine AllReadyH.cons (o:=_) rfl (fun K' hK'=>?_) AllReadyH.nil;go_simp
     refine hK'.out _ _ trivial (fun hHeld=>?_);clear hK' K' hHeld q4 f4;refine wpAnyH_done (by kernel_rfl) ?_ _;go_wp2
     go_roundw
     case rel=>exact⟨k+1,by go_num,by have:=HN.out;omega,_,_,oI.out⟩
     case measure=>simp[intOf];omega
  ·have ek:k=N:=by omega
   obtain⟨_,c1⟩:=HC.out _ HA.out.below;subst ek;obtain⟨we,IZ⟩:∃ we,we=wr:=⟨_,rfl⟩;go_wp2
   clear c1;go_loopw [35] (fun v wr=>∃ j:Nat,v=.int .i64 j∧j≤nb∧∃ vB bv,nJ s.c.m W w w.heap.size (w.heap.size+1) vE vB k j ov bv wr) (fun v _=>nb - (intOf v).toNat)
   case atStart=>exact⟨0,rfl,Nat.zero_le _,_,_,HA.out⟩
   case round =>
    clear HA IZ;obtain⟨j,rfl,hj,vB,bv,hA⟩:=hrel;have HA:=Sb.hide hA;have hbz:=hA.below.size;clear hA;by_cases hlt:j<nb
    ·obtain⟨q,hq⟩:∃ q,W.x[j]?=some q:=⟨_,List.getElem?_eq_getElem (by rw[H.out.boxes.len,← Bb.out];exact hlt)⟩
     obtain⟨bg,bf,hbx⟩:=H.out.boxes.boxes j q hq;have kU:Hid (Mb.BX wr.drew (s.Q j) bg q.ws bf q.cap):=Ah hbx.box (HA.out.below.block _ hbx.box.lt.1) (HA.out.below.block _ hbx.box.lt.2);obtain⟨g,hxa,Jr⟩:=qQ H.out.qU (xh s.Q (by rw[← Bb.out];exact hlt:j<s.c.m.boxes.length));have hgz:=World.block_lt_of_cell? w _ Jr;have t5:wr.cell? ⟨g,j,none⟩=some (.pointer (some ⟨s.Q j,0,none⟩)):=(aI (HA.out.below.block g hgz) _).trans Jr;subst hxa;have n0:(0:Int)≤(j:Int):=by omega
     have n1:(j:Int)<(nb:Int):=by omega
     have r1:=(dD HA.out.blk).1.2.1;have HQ:=Sb.hide hq;clear hq hbx Jr;go_wp2
     refine wp_region_held_drew (S:=fun _=>True) (by kernel_rfl) trivial (fun hHeld=>?_);refine wpAnyH_take (i:=0) (oi:=_) (v:=?_) rfl (by kernel_rfl) (by kernel_rfl) (by kernel_rfl) (fun _ _ _ h=>h) (Or.inl ⟨by rfl,?_⟩) (by assumption) ?_;rotate_left
     ·intro w hSw
      (try dsimp only at hSw)
      go_simp
      (try with_reducible rfl)
     (try simp only[Act.put])
     refine wpAnyH_take (i:=2) (oi:=_) (v:=?_) rfl (by kernel_rfl) (by kernel_rfl) (by kernel_rfl) (fun _ _ _ h=>h) (Or.inl ⟨by rfl,?_⟩) (by assumption) ?_;rotate_left
     ·intro w hSw
      (try dsimp only at hSw)
      go_simp
      (try with_reducible rfl)
     (try simp only[Act.put])
     refine wpAnyH_ready (rs:=[1,3]) (by kernel_rfl) (by simp) ?_;refine AllReadyH.cons (o:=_) rfl (fun K' hK'=>?_) ?_
     ·skip
      go_simp
      refine hK'.out _ _ trivial (fun hHeld=>?_);clear hK' K';refine wpAnyH_ready (rs:=[3]) (by kernel_rfl) (by simp) ?_;refine AllReadyH.cons (o:=_) rfl (fun K' hK'=>?_) AllReadyH.nil;go_simp
      refine (Mb.Ou (s.Q j) bg q.ws bf q.cap wr.drew (Sb.hide (kU.out))).mono ?_;rintro e w2 ⟨v,rfl,hown,hb2⟩;obtain⟨va,vc,rfl⟩:=dA hown;have HB2:Hid (Below wr.heap.size wr w2):=((Below.refl _ wr).drew).trans (hb2.mono (Nat.le_refl _));have HA2:=Sb.hide (HA.out.on HB2.out);have qX:Hid (w2.ownsRow w.heap.size 2 1 (.slice va q.ws.length vc) q.ws.length (ints q.ws)):=lL hown (by exact HA.out.below.size);have r2:=(dD HA2.out.blk).1.2.1;clear hown hb2;refine hK'.out _ _ trivial (fun hHeld=>?_);clear hK' K';refine wpAnyH_ready (rs:=[4]) (by kernel_rfl) (by simp) ?_;refine AllReadyH.cons (o:=_) rfl (fun K' hK'=>?_) AllReadyH.nil;go_simp
      refine hK'.out _ _ trivial (fun hHeld=>?_);clear hK' K';have HRW:Hid ((w2.alloc (.cells #[.slice va q.ws.length vc] 38)).ownsRow w.heap.size 38 1 vB j (lV bv j)):=HA2.out.rows.jA.alloc _;have r3:=(aI (Below.heap_alloc w2 (.cells #[.slice va q.ws.length vc] 38) _ (lt_of_block HA2.out.blk)) 1).trans r2;refine wpAnyH_ready (rs:=[5]) (by kernel_rfl) (by simp) ?_;refine AllReadyH.cons (o:=_) rfl (fun K' hK'=>?_) AllReadyH.nil;refine oh rfl (.tmp 40) (.tmp 43) 33 rfl w.heap.size 38 i1 (.slice none 0 0) 1 24 Tryz.underlying33 hi1 hy0 hy1 hy2 rfl (by decide) vB j (lV bv j) rfl HRW.out ⟨w2.heap.size,0,none⟩ 1 1 [.slice va q.ws.length vc] rfl rfl (oo w2 _ _) (oq rfl) (by decide) (by unfold maxLen;omega) (by omega) (by have:=HA2.out.below.size;simp;omega) ?_;intro g4 cap4 w4 bO hg4 _;obtain⟨bJ,hb4,jV⟩:=HA2.out.yh HQ.out qX.out bO hg4;have oI:=Sb.hide jV;have q4:=(dD bJ).1;have f4:=(dD bJ).2;clear bO hg4 bJ hb4 jV;refine hK'.out _ _ trivial (fun hHeld=>?_);clear hK' K';simp only[Act.put];refine wpAnyH_take (i:=6) (oi:=_) (v:=?_) rfl (by kernel_rfl) (by kernel_rfl) (by kernel_rfl) (fun _ _ _ h=>h) (Or.inl ⟨by rfl,?_⟩) (by assumption) ?_;rotate_left
      ·intro w hSw
       (try dsimp only at hSw)
       go_simp
       (try with_reducible rfl)
      (try simp only[Act.put])
      refine wpAnyH_ready (rs:=[7]) (by kernel_rfl) (by simp) ?_;refine AllReadyH.cons (o:=_) rfl (fun K' hK'=>?_) AllReadyH.nil;go_simp
      refine hK'.out _ _ trivial (fun hHeld=>?_);clear hK' K' hHeld q4 f4;refine wpAnyH_done (by kernel_rfl) ?_ _;go_wp2
      go_roundw
      case rel=>exact⟨j+1,by go_num,by have:=Bb.out;omega,_,_,oI.out⟩
      case measure=>simp[intOf];omega
     ·refine AllReadyH.cons (o:=_) rfl (fun K' hK'=>?_) AllReadyH.nil
      go_simp
      refine (Mb.Ou (s.Q j) bg q.ws bf q.cap wr.drew (Sb.hide (kU.out))).mono ?_;rintro e w2 ⟨v,rfl,hown,hb2⟩;obtain⟨va,vc,rfl⟩:=dA hown;have HB2:Hid (Below wr.heap.size wr w2):=((Below.refl _ wr).drew).trans (hb2.mono (Nat.le_refl _));have HA2:=Sb.hide (HA.out.on HB2.out);have qX:Hid (w2.ownsRow w.heap.size 2 1 (.slice va q.ws.length vc) q.ws.length (ints q.ws)):=lL hown (by exact HA.out.below.size);have r2:=(dD HA2.out.blk).1.2.1;clear hown hb2;refine hK'.out _ _ trivial (fun hHeld=>?_);clear hK' K';refine wpAnyH_ready (rs:=[1,4]) (by kernel_rfl) (by simp) ?_;refine AllReadyH.cons (o:=_) rfl (fun K' hK'=>?_) ?_
      ·skip
       go_simp
       refine hK'.out _ _ trivial (fun hHeld=>?_);clear hK' K';refine wpAnyH_ready (rs:=[4]) (by kernel_rfl) (by simp) ?_;refine AllReadyH.cons (o:=_) rfl (fun K' hK'=>?_) AllReadyH.nil;go_simp
       refine hK'.out _ _ trivial (fun hHeld=>?_);clear hK' K';have HRW:Hid ((w2.alloc (.cells #[.slice va q.ws.length vc] 38)).ownsRow w.heap.size 38 1 vB j (lV bv j)):=HA2.out.rows.jA.alloc _;have r3:=(aI (Below.heap_alloc w2 (.cells #[.slice va q.ws.length vc] 38) _ (lt_of_block HA2.out.blk)) 1).trans r2;refine wpAnyH_ready (rs:=[5]) (by kernel_rfl) (by simp) ?_;refine AllReadyH.cons (o:=_) rfl (fun K' hK'=>?_) AllReadyH.nil;refine oh rfl (.tmp 40) (.tmp 43) 33 rfl w.heap.size 38 i1 (.slice none 0 0) 1 24 Tryz.underlying33 hi1 hy0 hy1 hy2 rfl (by decide) vB j (lV bv j) rfl HRW.out ⟨w2.heap.size,0,none⟩ 1 1 [.slice va q.ws.length vc] rfl rfl (oo w2 _ _) (oq rfl) (by decide) (by unfold maxLen;omega) (by omega) (by have:=HA2.out.below.size;simp;omega) ?_;intro g4 cap4 w4 bO hg4 _;obtain⟨bJ,hb4,jV⟩:=HA2.out.yh HQ.out qX.out bO hg4;have oI:=Sb.hide jV;have q4:=(dD bJ).1;have f4:=(dD bJ).2;clear bO hg4 bJ hb4 jV;refine hK'.out _ _ trivial (fun hHeld=>?_);clear hK' K';simp only[Act.put];refine wpAnyH_take (i:=6) (oi:=_) (v:=?_) rfl (by kernel_rfl) (by kernel_rfl) (by kernel_rfl) (fun _ _ _ h=>h) (Or.inl ⟨by rfl,?_⟩) (by assumption) ?_;rotate_left
       ·intro w hSw
        (try dsimp only at hSw)
        go_simp
        (try with_reducible rfl)
       (try simp only[Act.put])
       refine wpAnyH_ready (rs:=[7]) (by kernel_rfl) (by simp) ?_;refine AllReadyH.cons (o:=_) rfl (fun K' hK'=>?_) AllReadyH.nil;go_simp
       refine hK'.out _ _ trivial (fun hHeld=>?_);clear hK' K' hHeld q4 f4;refine wpAnyH_done (by kernel_rfl) ?_ _;go_wp2
       go_roundw
       case rel=>exact⟨j+1,by go_num,by have:=Bb.out;omega,_,_,oI.out⟩
       case measure=>simp[intOf];omega
      ·refine AllReadyH.cons (o:=_) rfl (fun K' hK'=>?_) AllReadyH.nil
       go_simp
       refine hK'.out _ _ trivial (fun hHeld=>?_);clear hK' K';have HRW:Hid ((w2.alloc (.cells #[.slice va q.ws.length vc] 38)).ownsRow w.heap.size 38 1 vB j (lV bv j)):=HA2.out.rows.jA.alloc _;have r3:=(aI (Below.heap_alloc w2 (.cells #[.slice va q.ws.length vc] 38) _ (lt_of_block HA2.out.blk)) 1).trans r2;refine wpAnyH_ready (rs:=[1]) (by kernel_rfl) (by simp) ?_;refine AllReadyH.cons (o:=_) rfl (fun K' hK'=>?_) AllReadyH.nil;go_simp
       refine hK'.out _ _ trivial (fun hHeld=>?_);clear hK' K';refine wpAnyH_ready (rs:=[5]) (by kernel_rfl) (by simp) ?_;refine AllReadyH.cons (o:=_) rfl (fun K' hK'=>?_) AllReadyH.nil;refine oh rfl (.tmp 40) (.tmp 43) 33 rfl w.heap.size 38 i1 (.slice none 0 0) 1 24 Tryz.underlying33 hi1 hy0 hy1 hy2 rfl (by decide) vB j (lV bv j) rfl HRW.out ⟨w2.heap.size,0,none⟩ 1 1 [.slice va q.ws.length vc] rfl rfl (oo w2 _ _) (oq rfl) (by decide) (by unfold maxLen;omega) (by omega) (by have:=HA2.out.below.size;simp;omega) ?_;intro g4 cap4 w4 bO hg4 _;obtain⟨bJ,hb4,jV⟩:=HA2.out.yh HQ.out qX.out bO hg4;have oI:=Sb.hide jV;have q4:=(dD bJ).1;have f4:=(dD bJ).2;clear bO hg4 bJ hb4 jV;refine hK'.out _ _ trivial (fun hHeld=>?_);clear hK' K';simp only[Act.put];refine wpAnyH_take (i:=6) (oi:=_) (v:=?_) rfl (by kernel_rfl) (by kernel_rfl) (by kernel_rfl) (fun _ _ _ h=>h) (Or.inl ⟨by rfl,?_⟩) (by assumption) ?_;rotate_left
       ·intro w hSw
        (try dsimp only at hSw)
        go_simp
        (try with_reducible rfl)
       (try simp only[Act.put])
       refine wpAnyH_ready (rs:=[7]) (by kernel_rfl) (by simp) ?_;refine AllReadyH.cons (o:=_) rfl (fun K' hK'=>?_) AllReadyH.nil;go_simp
       refine hK'.out _ _ trivial (fun hHeld=>?_);clear hK' K' hHeld q4 f4;refine wpAnyH_done (by kernel_rfl) ?_ _;go_wp2
       go_roundw
       case rel=>exact⟨j+1,by go_num,by have:=Bb.out;omega,_,_,oI.out⟩
       case measure=>simp[intOf];omega
    ·have ej:j=nb:=by omega
     subst ej;obtain⟨ea,ec,rfl⟩:=dA HA.out.rows.ends;obtain⟨ba,bc,rfl⟩:=dA HA.out.rows.jA;have z:=(dD HA.out.zero).1;have zf:=(dD HA.out.zero).2;have r:=(dD HA.out.blk).1;have hne:¬ w.heap.size=w.heap.size+1:=by omega
     clear hlt;go_wp2
     have hX:(((wr.setCell ⟨w.heap.size,0,none⟩ (.slice ea k ec)).setCell ⟨w.heap.size,1,none⟩ (.slice ba j bc)).setCell ⟨w.heap.size,2,none⟩ (.int .i64 W.steps)).heap[w.heap.size]?=some (iY (.slice ea k ec) (.slice ba j bc) W.steps):=by
      have hz:=HA.out.zero;simp only[World.setCell,Array.getElem?_modify,if_true,hz,Option.map_some];rfl
     have kG:Below w.heap.size w (((wr.setCell ⟨w.heap.size,0,none⟩ (.slice ea k ec)).setCell ⟨w.heap.size,1,none⟩ (.slice ba j bc)).setCell ⟨w.heap.size,2,none⟩ (.int .i64 W.steps)):=((HA.out.below.setCell (p:=⟨w.heap.size,0,none⟩) (Nat.le_refl _) _).setCell (p:=⟨w.heap.size,1,none⟩) (Nat.le_refl _) _).setCell (p:=⟨w.heap.size,2,none⟩) (Nat.le_refl _) _;have jW:lX s.c.m W w.heap.size (((wr.setCell ⟨w.heap.size,0,none⟩ (.slice ea k ec)).setCell ⟨w.heap.size,1,none⟩ (.slice ba j bc)).setCell ⟨w.heap.size,2,none⟩ (.int .i64 W.steps)) (.slice ea k ec) (.slice ba j bc) k j ov bv:=HA.out.rows.keep (fun b=>b=w.heap.size) (fun b _ hb=>(Below.heap_setCell _ ⟨w.heap.size,2,none⟩ _ _ hb).trans ((Below.heap_setCell _ ⟨w.heap.size,1,none⟩ _ _ hb).trans (Below.heap_setCell _ ⟨w.heap.size,0,none⟩ _ _ hb))) (fun b hb cur=>by
      have hz:=HA.out.zero;rw[hb,hz];simp)
     generalize ((wr.setCell ⟨w.heap.size,0,none⟩ (.slice ea k ec)).setCell ⟨w.heap.size,1,none⟩ (.slice ba j bc)).setCell ⟨w.heap.size,2,none⟩ (.int .i64 W.steps)=W5 at *;obtain⟨⟨g0,g1,g2⟩,_⟩:=dD hX;exact bodyPost_ret (v:=.agg #[.slice ea k ec,.slice ba j bc,.int .i64 W.steps]) (by simp[results,Tryz.results16,go_sem,g0,g1,g2]) rfl ⟨_,_,ov,bv,rfl,kG,jW⟩
theorem Tryz.info3:(Tryz.prog.info? 3).map (fun i=>(i.zero,i.size,i.bytes))=some (some (.int .i64 0),1,8):=by kernel_rfl
def di (us:List Un)(k:Nat):List Nat:=(List.range k).filter fun i=>decide (∃ u,us[i]?=some u∧u.kind=4)
theorem QY {us:List Un}{k:Nat}{u:Un}(h:us[k]?=some u):di us (k+1)=if u.kind=4 then di us k++[k] else di us k:=by
 unfold di;rw[List.range_succ,List.filter_append];by_cases e:u.kind=4
 ·simp[h,e]
 ·simp[h,e]
theorem Eh (us:List Un)(k:Nat):(di us k).length≤k:=by
 have:=List.length_filter_le (fun i=>decide (∃ u,us[i]?=some u∧u.kind=4)) (List.range k);simpa[di] using this
abbrev qM (l:List Nat):List Value:=l.map fun n:Nat=>.int .i64 (n:Int)
def xZ (us:List Un)(w:World)(k:Nat)(vl:Value)(wr:World):Prop:=k≤us.length∧Below w.heap.size w wr∧wr.ownsRow w.heap.size 3 1 vl (di us k).length (qM (di us k))
theorem AX (c:Cx)(ab:Option Addr)(cb:Nat)(w:World)(hcx:Hid (kR c w))(hB:c.B≤w.heap.size) :
  Calls Tryz.prog 58 #[.agg #[.slice ab c.m.boxes.length cb,.slice c.au c.m.units.length c.cu]] w fun e w'=>∃ vl,e=.returned vl∧xZ c.m.units w c.m.units.length vl w':=by
 obtain⟨i0,hi,hz0,hz1,hz2⟩:=info_parts Tryz.info3;have dx:=hcx.out.few;have HST:Hid (xZ c.m.units w 0 (.slice none 0 0) (w.alloc (.cells #[.slice ab c.m.boxes.length cb,.slice c.au c.m.units.length c.cu] 25))):=⟨Nat.zero_le _,(Below.refl _ w).alloc (Nat.le_refl _) _,⟨rfl,.inl ⟨rfl,rfl⟩⟩⟩;go_enter Tryz.func58,Tryz.ntmps58
 go_wp2
 go_loopw [3,9] (fun vl v wr=>∃ k:Nat,v=.int .i64 k∧xZ c.m.units w k vl wr) (fun _ v _=>c.m.units.length - (intOf v).toNat)
 case atStart=>exact⟨0,rfl,HST.out⟩
 case round =>
  obtain⟨k,rfl,hk,hb,hown⟩:=hrel;have HB:=Sb.hide hb;have HO:=Sb.hide hown;have hbz:=hb.size;clear hb hown HST;by_cases hlt:k<c.m.units.length
  ·obtain⟨u,hu⟩:∃ u,c.m.units[k]?=some u:=⟨_,List.getElem?_eq_getElem hlt⟩
   obtain⟨ub,kW,al,cl,ng,hub,_,x0,x1,x2,x3,x4,x5⟩:=hcx.out.units k u hu;have cb':∀ j,wr.cell? ⟨ub,j,none⟩=w.cell? ⟨ub,j,none⟩:=fun j=>aI (HB.out.block ub (by omega)) _;rw[← cb'] at x0 x1 x2 x3 x4 x5;have HS:=Sb.hide (QY hu);have htl:=Eh c.m.units k;obtain⟨ml,kz⟩:∃ m,m=c.m.units.length:=⟨_,rfl⟩;rw[ng,← kz];rw[← kz] at hlt dx;have xE:=Sb.hide kz;have n0:(0:Int)≤(k:Int):=by omega
   have n1:(k:Int)<(ml:Int):=by omega
   have Ho:ub<wr.heap.size:=by omega
   have hne:¬ wr.heap.size=ub:=by omega
   have hne2:¬ ub=wr.heap.size:=by omega
   clear kz ng cb' hu;by_cases h4:u.kind=4
   ·have e4:(u.kind==4)=true:=by simpa using h4
    have HS2:Hid (di c.m.units (k+1)=di c.m.units k++[k]):=by unfold Hid;rw[HS.out,if_pos h4]
    have HRW:Hid (((wr.alloc (aX c k u al cl)).alloc (.cells #[.int .i64 (k:Int)] 3)).ownsRow w.heap.size 3 1 u3 (di c.m.units k).length (qM (di c.m.units k))):=(HO.out.alloc _).alloc _;clear h4;go_wp2_with (at_builtin;refine wZ rfl (.tmp 17) (.tmp 19) 28 rfl w.heap.size 3 i0 (.int .i64 0) 1 8 Tryz.underlying28 hi hz0 hz1 hz2 rfl (by decide) u3 (di c.m.units k).length (qM (di c.m.units k)) rfl HRW.out ⟨(wr.alloc (aX c k u al cl)).heap.size,0,none⟩ 1 1 [.int .i64 (k:Int)] (by rw[show (wr.alloc (aX c k u al cl)).heap.size=wr.heap.size+1 by simp];rfl) rfl (oo (wr.alloc (aX c k u al cl)) _ _) (oq rfl) (by decide) (by unfold maxLen;omega) (by omega) (by simp;omega) ?_)
    intro R4 cap4 w4 bO hg4 bJ;have jK:Hid (xZ c.m.units w (k+1) (.slice (some ⟨R4,0,none⟩) ((di c.m.units k).length+1) cap4) w4):=by
     refine⟨by have:=xE.out;omega,((HB.out.alloc hbz _).alloc (by simp;omega) _).grown hg4 (by simp;omega) (fun b hb=>(HO.out.lt b hb).1),?_⟩;rw[HS2.out,List.length_append,show qM (di c.m.units k++[k])=qM (di c.m.units k)++[.int .i64 (k:Int)] by simp];exact bO
    clear bO hg4 bJ;go_wp2
    go_roundw
    case rel=>exact⟨k+1,by go_num,jK.out⟩
    case measure=>simp[intOf];omega
   ·have e4:(u.kind==4)=false:=by simpa using h4
    have HS2:Hid (di c.m.units (k+1)=di c.m.units k):=by unfold Hid;rw[HS.out,if_neg h4]
    clear h4;go_wp2
    go_roundw
    case rel=>exact⟨k+1,by go_num,by have:=xE.out;omega,HB.out.alloc hbz _,by rw[HS2.out];exact HO.out.alloc _⟩
    case measure=>simp[intOf];omega
  ·have n1:¬ (k:Int)<(c.m.units.length:Int):=by omega
   have ek:k=c.m.units.length:=by omega
   subst ek;go_wp2
   go_ret
   exact⟨_,rfl,hk,HB.out,HO.out⟩
end Go.Proofs.YtfcpglhpolpdcaaGreatDoor.Vw
