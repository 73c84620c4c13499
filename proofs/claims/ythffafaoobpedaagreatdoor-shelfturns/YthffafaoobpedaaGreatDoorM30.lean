/- The walk of feed: lists out of feeds. -/
import Derived.Test.YthffafaoobpedaaGreatDoorM29
set_option maxRecDepth 100000
set_option maxHeartbeats 2000000
namespace Go.Proofs.YthffafaoobpedaaGreatDoor.Vw
open Go.RowKit Vf Vm
theorem Tryz.YF:(Tryz.prog.info? 74).map (fun i=>(i.zero,i.size,i.bytes))=some (some (.pointer none),1,8):=by kernel_rfl
theorem Tryz.YG:(Tryz.prog.info? 195).map (fun i=>(i.zero,i.size,i.bytes))=some (some .nilIface,1,16):=by kernel_rfl
def nD (Q:Nat→Nat)(n:Nat):List Value:=(List.range n).map fun i=>.iface 74 (.pointer (some ⟨Q i,0,none⟩))
theorem YH (Q:Nat→Nat){n i:Nat}(h:i < n):(nD Q n)[i]?=some (.iface 74 (.pointer (some ⟨Q i,0,none⟩))):=by simp [nD,h]
theorem YI (Q:Nat→Nat)(n:Nat):nD Q (n+1)=nD Q n ++ [.iface 74 (.pointer (some ⟨Q n,0,none⟩))]:=by simp [nD,List.range_succ]
theorem YJ (Q:Nat→Nat)(n:Nat):ptrs Q (n+1)=ptrs Q n ++ [.pointer (some ⟨Q n,0,none⟩)]:=by simp [ptrs,List.range_succ]
theorem YK {Q Q':Nat→Nat}{n:Nat}(h:∀ i,i < n→Q i=Q' i):nD Q n=nD Q' n:=List.map_congr_left (fun i hi=>by rw [h i (by simpa using hi)])
theorem YL {Q Q':Nat→Nat}{n:Nat}(h:∀ i,i < n→Q i=Q' i):ptrs Q n=ptrs Q' n:=List.map_congr_left (fun i hi=>by rw [h i (by simpa using hi)])
structure tT (w:World) (fs:List (List Int)) (fa:Nat→Option Addr) (fc:Nat→Nat) (k:Nat) (vl vb:Value) (Q:Nat→Nat) (wr:World):Prop where
 le:k≤fs.length
 below:Below w.heap.size w wr
 ptr:wr.ownsRow w.heap.size 74 1 vl k (ptrs Q k)
 mE:wr.ownsRow w.heap.size 195 1 vb k (nD Q k)
 blk:∀ (i:Nat) f,i < k→fs[i]?=some f→wr.heap[Q i]?=some (jq (fa i) f.length (fc i) 0 (.slice none 0 0))
 low:∀ i,i < k→w.heap.size≤Q i
 inj:∀ i j,i < j→j < k→Q i < Q j
theorem tT.more {w wr:World}{fs:List (List Int)}{fa:Nat→Option Addr}{fc:Nat→Nat}{k:Nat}{vl vb:Value}{Q:Nat→Nat}(h:tT w fs fa fc k vl vb Q wr){f:List Int}(hf:fs[k]?=some f){w3 w5:World}{Nw Ny:Value}
  (h3:w3.ownsRow w.heap.size 74 1 Nw (k+1) (ptrs Q k ++ [.pointer (some ⟨wr.heap.size,0,none⟩)])) (g3:((wr.alloc (jq (fa k) f.length (fc k) 0 (.slice none 0 0))).alloc (.cells #[.pointer (some ⟨wr.heap.size,0,none⟩)] 74)).grownBy w3 vl.ownBlock)
  (h5:w5.ownsRow w.heap.size 195 1 Ny (k+1) (nD Q k ++ [.iface 74 (.pointer (some ⟨wr.heap.size,0,none⟩))])) (g5:(w3.alloc (.cells #[.iface 74 (.pointer (some ⟨wr.heap.size,0,none⟩))] 195)).grownBy w5 vb.ownBlock) :
  tT w fs fa fc (k+1) Nw Ny (fun i=>if i=k then wr.heap.size else Q i) w5:=by
 have hz3:=g3.size
 have yA:=g5.size
 simp at hz3 yA
 have hbz:=h.below.size
 have hQ:∀ i,i < k→(if i=k then wr.heap.size else Q i)=Q i:=fun i hi=>if_neg (by omega)
 -- blocks of other types stay
 have Nz:∀ b,b < wr.heap.size+1→vl.ownBlock≠some b→w3.heap[b]?=(wr.alloc (jq (fa k) f.length (fc k) 0 (.slice none 0 0))).heap[b]?:=fun b hb hne=>(g3.block b (by simp;omega) (fun e=>hne e.symm)).trans (Below.heap_alloc _ _ _ (by simp;omega))
 have F4:∀ b,b < w3.heap.size→vb.ownBlock≠some b→w5.heap[b]?=w3.heap[b]?:=fun b hb hne=>(g5.block b (by simp;omega) (fun e=>hne e.symm)).trans (Below.heap_alloc _ _ _ hb)
 have YM:∀ (b:Nat) (o:Obj),wr.heap[b]?=some o→(∀ cur,o≠.cells cur 74 (0,0))→vl.ownBlock≠some b:=fun b o hb hn e=>by
  obtain ⟨cur,hc⟩:=jC h.ptr e
  rw [hb] at hc
  exact hn cur (Option.some.inj hc)
 have Bo:w3.heap[wr.heap.size]?=some (jq (fa k) f.length (fc k) 0 (.slice none 0 0)):=(Nz _ (by omega) (fun e=>by have:=(h.ptr.lt _ e).2;omega)).trans (heap_alloc_new wr _)
 have F5:∀ b,b < wr.heap.size→vl.ownBlock≠some b→w3.heap[b]?=wr.heap[b]?:=fun b hb hne=>(Nz b (by omega) hne).trans (Below.heap_alloc _ _ _ hb)
 have NA:∀ b,vb.ownBlock=some b→b < wr.heap.size:=fun b e=>(h.mE.lt b e).2
 have NB:∀ (b:Nat) af m cf vS,w3.heap[b]?=some (jq af m cf 0 vS)→b < wr.heap.size+1→vb.ownBlock≠some b:=fun b af m cf vS hb _ e=>by
  obtain ⟨cur,hc⟩:=jC h.mE e
  have hne:vl.ownBlock≠some b:=fun e2=>by
   obtain ⟨F6,hc2⟩:=jC h.ptr e2
   rw [hc] at hc2
   simp at hc2
  rw [F5 b (NA b e) hne,hc] at hb
  simp at hb
 refine ⟨(List.getElem?_eq_some_iff.1 hf).1,?_,?_,?_,fun i f' hi hf'=>?_,fun i hi=>?_,fun i j hij hj=>?_⟩
 ·have b1:Below w.heap.size w ((wr.alloc (jq (fa k) f.length (fc k) 0 (.slice none 0 0))).alloc (.cells #[.pointer (some ⟨wr.heap.size,0,none⟩)] 74)):=(h.below.alloc hbz _).alloc (by simp;omega) _
  have b3:Below w.heap.size w w3:=b1.grown g3 (by simp;omega) (fun b hb=>(h.ptr.lt b hb).1)
  exact (b3.alloc (by omega) _).grown g5 (by simp;omega) (fun b hb=>(h.mE.lt b hb).1)
 ·rw [YJ,YL hQ,if_pos rfl]
  refine bU h3 (fun b hb=>F4 b (h3.lt b hb).2 (fun e=>?_))
  obtain ⟨cur,hc⟩:=jC h3 hb
  obtain ⟨F6,hc2⟩:=jC h.mE e
  have hne:vl.ownBlock≠some b:=fun e2=>by
   obtain ⟨adR,hc3⟩:=jC h.ptr e2
   rw [hc2] at hc3
   simp at hc3
  rw [F5 b (NA b e) hne,hc2] at hc
  simp at hc
 ·rw [YI,YK hQ,if_pos rfl]
  exact h5
 ·by_cases e:i=k
  ·subst e
   rw [hf] at hf'
   cases hf'
   simp only [if_true]
   exact (F4 _ (by omega) (NB _ _ _ _ _ Bo (by omega))).trans Bo
  ·simp only [if_neg e]
   have hb:=h.blk i f' (by omega) hf'
   have hlt:=lt_of_block hb
   have hb3:=(F5 _ hlt (YM _ _ hb (fun cur e2=>by simp at e2))).trans hb
   exact (F4 _ (by omega) (NB _ _ _ _ _ hb3 (by omega))).trans hb3
 ·show _≤if i=k then _ else _
  split
  ·exact hbz
  ·exact h.low i (by omega)
 ·show (if i=k then _ else _) < (if j=k then _ else _)
  rw [if_neg (by omega)]
  split
  ·obtain ⟨f',hf'⟩:∃ f',fs[i]?=some f':=⟨_,List.getElem?_eq_getElem (by have:=h.le;omega)⟩
   exact lt_of_block (h.blk i f' (by omega) hf')
  ·exact h.inj i j hij (by omega)
theorem YN (B:Nat)(fs:List (List Int))(a:Option Addr)(cap:Nat)(fa:Nat→Option Addr)(fc:Nat→Nat)(w:World)(fq:Hid (jB B w fs a fa fc))(hB:B≤w.heap.size)(dz:fs.length≤30) :
  Calls Tryz.prog 20 #[.slice a fs.length cap] w fun e w'=>∃ vl vb Q,e=.returned (.tuple #[vl,vb])∧tT w fs fa fc fs.length vl vb Q w':=by
 obtain ⟨i0,hi,hz0,hz1,hz2⟩:=info_parts Tryz.YF
 obtain ⟨i1,hi1,hy0,hy1,hy2⟩:=info_parts Tryz.YG
 have HST:Hid (tT w fs fa fc 0 (.slice none 0 0) (.slice none 0 0) (fun _=>0) w):=⟨Nat.zero_le _,.refl _ _,⟨rfl,.inl ⟨rfl,rfl⟩⟩,⟨rfl,.inl ⟨rfl,rfl⟩⟩,fun i f hi=>by omega,fun i hi=>by omega,fun i j _ hj=>by omega⟩
 go_enter Tryz.func20,Tryz.ntmps20
 go_wp2
 go_loopw [4,5,11] (fun vl vb v wr=>∃ k:Nat,v=.int .i64 k∧∃ Q,tT w fs fa fc k vl vb Q wr) (fun _ _ v _=>fs.length - (intOf v).toNat)
 case atStart=>exact ⟨0,rfl,_,HST.out⟩
 case round =>
  obtain ⟨k,rfl,Q,hA⟩:=hrel
  have HA:=Sb.hide hA
  have hbz:=hA.below.size
  have hk:=hA.le
  clear hA HST
  by_cases hlt:k < fs.length
  ·obtain ⟨f,hf⟩:∃ f,fs[k]?=some f:=⟨_,List.getElem?_eq_getElem hlt⟩
   obtain ⟨fb,FY,rfl,Yy,y0⟩:=fq.out.rows k f hf
   have y1:wr.cell? ⟨fb,FY+k,none⟩=some (.slice (fa k) f.length (fc k)):=(aR (HA.out.below.block fb (by omega)) _).trans y0
   have HF:=Sb.hide hf
   obtain ⟨ml,dm⟩:∃ m,m=fs.length:=⟨_,rfl⟩
   rw [← dm] at hlt dz ⊢
   have lg:=Sb.hide dm
   have n0:(0:Int)≤(k:Int):=by omega
   have n1:(k:Int) < (ml:Int):=by omega
   have HP:Hid (((wr.alloc (jq (fa k) f.length (fc k) 0 (.slice none 0 0))).alloc (.cells #[.pointer (some ⟨wr.heap.size,0,none⟩)] 74)).ownsRow w.heap.size 74 1 u4 k (ptrs Q k)):=(HA.out.ptr.alloc _).alloc _
   clear dm hf y0 fq
   go_wp2_with (at_builtin;refine rW rfl (.tmp 18) (.tmp 20) 48 rfl w.heap.size 74 i0 (.pointer none) 1 8 Tryz.underlying48 hi hz0 hz1 hz2 rfl (by decide) u4 k (ptrs Q k) rfl HP.out ⟨(wr.alloc (jq (fa k) f.length (fc k) 0 (.slice none 0 0))).heap.size,0,none⟩ 1 1 [.pointer (some ⟨wr.heap.size,0,none⟩)] (by rw [show (wr.alloc (jq (fa k) f.length (fc k) 0 (.slice none 0 0))).heap.size=wr.heap.size+1 by simp];rfl) rfl (jK (wr.alloc (jq (fa k) f.length (fc k) 0 (.slice none 0 0))) _ _) (jL rfl) (by decide) (by unfold maxLen;omega) (by omega) (by simp;omega) ?_)
   intro R3 adS w3 hown3 hg3 YO
   have H3:=Sb.hide hown3
   have G3:=Sb.hide hg3
   have hz3:=hg3.size
   simp at hz3
   have HI:Hid ((w3.alloc (.cells #[.iface 74 (.pointer (some ⟨wr.heap.size,0,none⟩))] 195)).ownsRow w.heap.size 195 1 u5 k (nD Q k)):=by
    refine World.ownsRow.alloc (bU HA.out.mE (fun b hb=>?_)) _
    have hbl:=(HA.out.mE.lt b hb).2
    refine (hg3.block b (by simp;omega) (fun e=>?_)).trans ((Below.heap_alloc _ _ _ (by simp;omega)).trans (Below.heap_alloc _ _ _ hbl))
    obtain ⟨cur,hc⟩:=jC HA.out.mE hb
    obtain ⟨F6,hc2⟩:=jC HA.out.ptr e.symm
    rw [hc] at hc2
    simp at hc2
   clear hown3 hg3 YO
   go_wp2_with (at_builtin;refine rW rfl (.tmp 22) (.tmp 25) 49 rfl w.heap.size 195 i1 .nilIface 1 16 Tryz.underlying49 hi1 hy0 hy1 hy2 rfl (by decide) u5 k (nD Q k) rfl HI.out ⟨w3.heap.size,0,none⟩ 1 1 [.iface 74 (.pointer (some ⟨wr.heap.size,0,none⟩))] rfl rfl (jK w3 _ _) (jL rfl) (by decide) (by unfold maxLen;omega) (by omega) (by simp;omega) ?_)
   intro R5 cap5 w5 hown5 hg5 YP
   have dU:=Sb.hide (HA.out.more HF.out H3.out G3.out hown5 hg5)
   clear hown5 hg5 YP
   go_wp2
   go_roundw
   case rel=>exact ⟨k+1,by go_num,_,dU.out⟩
   case measure=>simp [intOf];omega
  ·have n1:¬ (k:Int) < (fs.length:Int):=by omega
   have ek:k=fs.length:=by omega
   subst ek
   go_wp2
   exact bodyPost_ret (v:=.tuple #[_,_]) (by simp [results,Tryz.results20,go_sem] <;> first | exact ⟨rfl,rfl⟩ | rfl) rfl ⟨_,_,rfl,Q,HA.out⟩
theorem Tryz.YQ:(Tryz.prog.info? 22).map (fun i=>(i.zero,i.size,i.bytes))=some (some (.slice none 0 0),1,24):=by kernel_rfl
abbrev kN (s q tr:Nat) (vO vS vT:Value) (st:Nat):Obj:=.cells #[.int .i64 s,.int .i64 q,.int .i64 tr,vO,vS,vT,.int .i64 st] 29 (0,0)
abbrev jT:Obj:=.cells #[.int .i64 0,.int .i64 0,.int .i64 0,.slice none 0 0,.slice none 0 0,.slice none 0 0,.int .i64 0] 29 (0,0)
def nE (sv:Nat→Value)(n:Nat):List Value:=(List.range n).map sv
theorem YR (sv:Nat→Value)(n:Nat):nE sv (n+1)=nE sv n ++ [sv n]:=by simp [nE,List.range_succ]
def kz (x:List aU)(n:Nat):List Value:=(x.take n).map fun q:aU=>.int .i64 (q.took:Int)
theorem YS {x:List aU}{n:Nat}{q:aU}(h:x[n]?=some q):kz x (n+1)=kz x n ++ [.int .i64 (q.took:Int)]:=by
 unfold kz
 rw [List.take_add_one,h]
 simp
structure kP (w:World) (x:List aU) (sv:Nat→Value) (R0 R s q tr st:Nat) (out:List Int) (vO vS vT:Value) (ks kt:Nat) (wr:World):Prop where
 below:Below w.heap.size w wr
 low:w.heap.size≤R0∧w.heap.size≤R
 zero:wr.heap[R0]?=some jT
 ne:R0≠R
 rep:wr.heap[R]?=some (kN s q tr vO vS vT st)
 out:wr.ownsRow w.heap.size 2 1 vO out.length (ints out)
 sent:wr.ownsRow w.heap.size 22 1 vS ks (nE sv ks)
 took:wr.ownsRow w.heap.size 3 1 vT kt (kz x kt)
theorem eP {w:World}{R s q tr st:Nat}{vO vS vT:Value}(h:w.heap[R]?=some (kN s q tr vO vS vT st)):(w.cell? ⟨R,0,none⟩=some (.int .i64 s)∧w.cell? ⟨R,1,none⟩=some (.int .i64 q)∧w.cell? ⟨R,2,none⟩=some (.int .i64 tr)∧w.cell? ⟨R,3,none⟩=some vO∧w.cell? ⟨R,4,none⟩=some vS∧w.cell? ⟨R,5,none⟩=some vT∧w.cell? ⟨R,6,none⟩=some (.int .i64 st))∧∀ j,w.frozen? ⟨R,j,none⟩=false:=by simp [World.cell?,World.frozen?,h]
theorem BB {w wr w4:World}{e e' size n n' g:Nat}{v v':Value}{xs xs':List Value}{ob:Obj}(h:wr.ownsRow g e size v n xs)(hx:wr.ownsRow g e' size v' n' xs')(hne:e≠e')(hg:(wr.drew.alloc ob).grownBy w4 v'.ownBlock)(he:w.heap=w4.heap):w.ownsRow g e size v n xs:=by
 refine bU h (fun b hb=>?_)
 rw [he]
 have hl:=(h.lt b hb).2
 refine (hg.block b (by simp;omega) (fun e2=>?_)).trans (Below.heap_alloc wr.drew _ _ hl)
 obtain ⟨c1,h1⟩:=jC h hb
 obtain ⟨c2,h2⟩:=jC hx e2.symm
 rw [h1] at h2
 simp at h2
 exact hne h2.2
section
variable {w wr w4:World} {x:List aU} {sv:Nat→Value} {R0 R s q tr st:Nat} {out:List Int} {vO vS vT:Value} {ks kt:Nat}
theorem kP.NC (H:kP w x sv R0 R s q tr st out vO vS vT ks kt wr){u v':Value}(hu:u=sv ks)(h4:w4.ownsRow w.heap.size 22 1 v' (ks+1) (nE sv ks ++ [u]))(g4:(wr.drew.alloc (.cells #[u] 22)).grownBy w4 vS.ownBlock):w4.heap[R]?=some (kN s q tr vO vS vT st)∧Below w.heap.size w w4∧kP w x sv R0 R s q tr st out vO v' vT (ks+1) kt (w4.setCell ⟨R,4,none⟩ v'):=by
 have yP:=H.below.size
 have kY:=g4.size
 simp at kY
 have nS:∀ b s q tr vO yQ vT st,wr.heap[b]?=some (kN s q tr vO yQ vT st)→vS.ownBlock≠some b:=fun b s q tr vO yQ vT st hb e=>by
  obtain ⟨cur,hc⟩:=jC H.sent e
  rw [hb] at hc
  simp at hc
 have blk:∀ b,b < wr.heap.size→vS.ownBlock≠some b→w4.heap[b]?=wr.heap[b]?:=fun b hb hn=>(g4.block b (by simp;omega) (fun e=>hn e.symm)).trans (Below.heap_alloc wr.drew _ _ hb)
 have hR:w4.heap[R]?=some (kN s q tr vO vS vT st):=(blk R (lt_of_block H.rep) (nS _ _ _ _ _ _ _ _ H.rep)).trans H.rep
 have hset:∀ b,b≠R→(w4.setCell ⟨R,4,none⟩ v').heap[b]?=w4.heap[b]?:=fun b hb=>Below.heap_setCell _ ⟨R,4,none⟩ _ _ hb
 have keep:∀ {e n:Nat} {v:Value} {xs:List Value},w4.ownsRow w.heap.size e 1 v n xs→e≠29→(w4.setCell ⟨R,4,none⟩ v').ownsRow w.heap.size e 1 v n xs:=fun h hne=>bU h (fun b hb=>hset b (fun e2=>by
  obtain ⟨cur,hc⟩:=jC h hb
  rw [e2,hR] at hc
  simp at hc
  exact hne hc.2.symm))
 refine ⟨hR,?_,?_,H.low,?_,H.ne,?_,keep (BB H.out H.sent (by decide) g4 rfl) (by decide),?_,keep (BB H.took H.sent (by decide) g4 rfl) (by decide)⟩
 ·exact (H.below.drew.alloc (by exact yP) _).grown g4 (by simp;omega) (fun b hb=>(H.sent.lt b hb).1)
 ·exact (((H.below.drew.alloc (by exact yP) _).grown g4 (by simp;omega) (fun b hb=>(H.sent.lt b hb).1))).setCell (p:=⟨R,4,none⟩) H.low.2 _
 ·exact (hset _ H.ne).trans ((blk R0 (lt_of_block H.zero) (nS _ _ _ _ _ _ _ _ H.zero)).trans H.zero)
 ·simp only [World.setCell,Array.getElem?_modify,if_true,hR,Option.map_some]
  rfl
 ·rw [YR,← hu]
  exact keep h4 (by decide)
theorem kP.BC (H:kP w x sv R0 R s q tr st out vO vS vT ks kt wr){y:aU}(hy:x[kt]?=some y){v':Value}(h4:w4.ownsRow w.heap.size 3 1 v' (kt+1) (kz x kt ++ [.int .i64 (y.took:Int)]))(g4:(wr.drew.alloc (.cells #[.int .i64 (y.took:Int)] 3)).grownBy w4 vT.ownBlock):w4.heap[R]?=some (kN s q tr vO vS vT st)∧Below w.heap.size w w4∧kP w x sv R0 R s q tr st out vO vS v' ks (kt+1) (w4.setCell ⟨R,5,none⟩ v'):=by
 have yP:=H.below.size
 have kY:=g4.size
 simp at kY
 have nS:∀ b s q tr vO yQ ND st,wr.heap[b]?=some (kN s q tr vO yQ ND st)→vT.ownBlock≠some b:=fun b s q tr vO yQ ND st hb e=>by
  obtain ⟨cur,hc⟩:=jC H.took e
  rw [hb] at hc
  simp at hc
 have blk:∀ b,b < wr.heap.size→vT.ownBlock≠some b→w4.heap[b]?=wr.heap[b]?:=fun b hb hn=>(g4.block b (by simp;omega) (fun e=>hn e.symm)).trans (Below.heap_alloc wr.drew _ _ hb)
 have hR:w4.heap[R]?=some (kN s q tr vO vS vT st):=(blk R (lt_of_block H.rep) (nS _ _ _ _ _ _ _ _ H.rep)).trans H.rep
 have hset:∀ b,b≠R→(w4.setCell ⟨R,5,none⟩ v').heap[b]?=w4.heap[b]?:=fun b hb=>Below.heap_setCell _ ⟨R,5,none⟩ _ _ hb
 have keep:∀ {e n:Nat} {v:Value} {xs:List Value},w4.ownsRow w.heap.size e 1 v n xs→e≠29→(w4.setCell ⟨R,5,none⟩ v').ownsRow w.heap.size e 1 v n xs:=fun h hne=>bU h (fun b hb=>hset b (fun e2=>by
  obtain ⟨cur,hc⟩:=jC h hb
  rw [e2,hR] at hc
  simp at hc
  exact hne hc.2.symm))
 refine ⟨hR,?_,?_,H.low,?_,H.ne,?_,keep (BB H.out H.took (by decide) g4 rfl) (by decide),keep (BB H.sent H.took (by decide) g4 rfl) (by decide),?_⟩
 ·exact (H.below.drew.alloc (by exact yP) _).grown g4 (by simp;omega) (fun b hb=>(H.took.lt b hb).1)
 ·exact (((H.below.drew.alloc (by exact yP) _).grown g4 (by simp;omega) (fun b hb=>(H.took.lt b hb).1))).setCell (p:=⟨R,5,none⟩) H.low.2 _
 ·exact (hset _ H.ne).trans ((blk R0 (lt_of_block H.zero) (nS _ _ _ _ _ _ _ _ H.zero)).trans H.zero)
 ·simp only [World.setCell,Array.getElem?_modify,if_true,hR,Option.map_some]
  rfl
 ·rw [YS hy]
  exact keep h4 (by decide)
end
abbrev yR (w:World) (b s q tr:Nat) (vO vS vT:Value) (st:Nat):World:=((((((w.setCell ⟨b,0,none⟩ (.int .i64 s)).setCell ⟨b,1,none⟩ (.int .i64 q)).setCell ⟨b,2,none⟩ (.int .i64 tr)).setCell ⟨b,3,none⟩ vO).setCell ⟨b,4,none⟩ vS).setCell ⟨b,5,none⟩ vT).setCell ⟨b,6,none⟩ (.int .i64 st)
theorem YT {w:World}{b s q tr:Nat}{vO vS vT:Value}{st:Nat}(h:w.heap[b]?=some jT):(yR w b s q tr vO vS vT st).heap[b]?=some (kN s q tr vO vS vT st):=by
 simp only [World.setCell,Array.getElem?_modify,if_true,h,Option.map_some]
 rfl
theorem YU {w:World}{b s q tr:Nat}{vO vS vT:Value}{st:Nat}{b':Nat}(hn:b'≠b):(yR w b s q tr vO vS vT st).heap[b']?=w.heap[b']?:=by
 rw [Below.heap_setCell _ ⟨b,6,none⟩ _ _ hn,Below.heap_setCell _ ⟨b,5,none⟩ _ _ hn,Below.heap_setCell _ ⟨b,4,none⟩ _ _ hn,Below.heap_setCell _ ⟨b,3,none⟩ _ _ hn,Below.heap_setCell _ ⟨b,2,none⟩ _ _ hn,Below.heap_setCell _ ⟨b,1,none⟩ _ _ hn,Below.heap_setCell _ ⟨b,0,none⟩ _ _ hn]
theorem YV {w0 w:World}{B b s q tr:Nat}{vO vS vT:Value}{st:Nat}(h:Below B w0 w)(hB:B≤b):Below B w0 (yR w b s q tr vO vS vT st) :=
 ((((((h.setCell (p:=⟨b,0,none⟩) hB _).setCell (p:=⟨b,1,none⟩) hB _).setCell (p:=⟨b,2,none⟩) hB _).setCell (p:=⟨b,3,none⟩) hB _).setCell (p:=⟨b,4,none⟩) hB _).setCell (p:=⟨b,5,none⟩) hB _).setCell (p:=⟨b,6,none⟩) hB _
theorem F7 {w:World}{b s q tr:Nat}{vO vS vT:Value}{st:Nat}(h:w.heap[b]?=some jT){B e n:Nat}{v:Value}{xs:List Value}(ho:w.ownsRow B e 1 v n xs)(he:e≠29):(yR w b s q tr vO vS vT st).ownsRow B e 1 v n xs :=
 bU ho (fun k hk=>YU (fun e2=>by
  obtain ⟨cur,hc⟩:=jC ho hk
  rw [e2,h] at hc
  simp at hc
  exact he hc.2.symm))
abbrev iV (s q tr:Nat) (vO vS vT:Value) (st:Nat):Value:=.agg #[.int .i64 s,.int .i64 q,.int .i64 tr,vO,vS,vT,.int .i64 st]
theorem YW (Q:Nat→Nat)(nb rb off:Nat)(c:Cx)(vB ev:Value)(o T:Nat)(L:ay)(P:Nat→Nat)(w:World)(t:Tk)(x:List aU)(vR vO:Value)(H:Hid (St (ng Q nb rb off) c vB ev o T L P w t x vR vO))(hX:Hid (kZ (ng Q nb rb off) aC c vB))(hs:Hid (t.over=0→∃ f rs u i,lC c t f rs u i))(ho:t.out.length≤1000000)(va:Option Addr)(vc:Nat)(hvl:Hid (w.ownsRow 0 74 1 (.slice va nb vc) nb (ptrs Q nb)))(hnb:nb≤30)(hxl:x.length=nb)(steps:Nat)(sv:Nat→Value)(hsv:Hid (∀ (i:Nat) q,x[i]?=some q→∃ af cf,jN L w (Q i) i q af cf (sv i))) :
  Calls Tryz.prog 23 #[.pointer (some ⟨T,0,none⟩),.slice va nb vc,.int .i64 steps] w fun e w'=>∃ vO vS vT,e=.returned (iV (stat aC c.m t x).1 (stat aC c.m t x).2 t.trap vO vS vT steps)∧w'.ownsRow w.heap.size 2 1 vO t.out.length (ints t.out)∧w'.ownsRow w.heap.size 22 1 vS nb (nE sv nb)∧w'.ownsRow w.heap.size 3 1 vT nb (kz x nb)∧Below w.heap.size w w':=by
 obtain ⟨i0,hi,hz0,hz1,hz2⟩:=info_parts Tryz.YQ
 obtain ⟨i1,hi1,hy0,hy1,hy2⟩:=info_parts Tryz.info3
 obtain ⟨s,hs1⟩:∃ s,s=(stat aC c.m t x).1:=⟨_,rfl⟩
 obtain ⟨q,hq1⟩:∃ s,s=(stat aC c.m t x).2:=⟨_,rfl⟩
 rw [← hs1,← hq1]
 have iI:=Sb.hide hs1
 have qM:=Sb.hide hq1
 have YX:=Sb.hide hxl
 clear hs1 hq1 hxl
 go_enter Tryz.func23,Tryz.ntmps23
 go_wp2_with fail
 have HB0:Hid (Below w.heap.size w (w.alloc jT)):=(Below.refl _ w).alloc (Nat.le_refl _) _
 have F3:Hid ((w.alloc jT).heap[w.heap.size]?=some jT):=heap_alloc_new w _
 have hzA:(w.alloc jT).heap.size=w.heap.size+1:=by simp
 generalize w.alloc jT=W0 at *
 refine (YC (ng Q nb rb off) aC c vB ev o T L P _ t x vR vO (Sb.hide (H.out.below HB0.out)) hX hs ho).mono ?_
 rw [← iI.out,← qM.out]
 rintro e w1 ⟨v,rfl,hown1,hb1⟩
 obtain ⟨oa,oc,rfl⟩:=mD hown1
 have hzB:=hb1.size
 have HB1:Hid (Below w.heap.size w w1):=HB0.out.trans (hb1.mono (by omega))
 have HZ1:Hid (w1.heap[w.heap.size]?=some jT):=(hb1.block _ (by omega)).trans F3.out
 have qd:Hid (w1.ownsRow w.heap.size 2 1 (.slice oa t.out.length oc) t.out.length (ints t.out)):=qR hown1 (by omega)
 clear hown1 hb1
 have HST:Hid (kP w x sv w.heap.size (w1.heap.size+1) s q t.trap steps t.out (.slice oa t.out.length oc) (.slice none 0 0) (.slice none 0 0) 0 0 ((w1.alloc (.cells #[.int .i64 s,.int .i64 q,.int .i64 t.trap,.slice oa t.out.length oc] 91)).alloc (kN s q t.trap (.slice oa t.out.length oc) (.slice none 0 0) (.slice none 0 0) steps))):=by
  have e1:(w1.alloc (.cells #[.int .i64 s,.int .i64 q,.int .i64 t.trap,.slice oa t.out.length oc] 91)).heap.size=w1.heap.size+1:=by simp
  have hbz:=HB1.out.size
  refine ⟨(HB1.out.alloc hbz _).alloc (by simp;omega) _,⟨Nat.le_refl _,by omega⟩,?_,by omega,?_,(qd.out.alloc _).alloc _,⟨rfl,.inl ⟨rfl,rfl⟩⟩,⟨rfl,.inl ⟨rfl,rfl⟩⟩⟩
  ·exact (Below.heap_alloc _ _ _ (by simp;omega)).trans ((Below.heap_alloc _ _ _ (by omega)).trans HZ1.out)
  ·rw [← e1];exact heap_alloc_new _ _
 go_wp2
 go_loopw [25] (fun v wr=>∃ k:Nat,v=.int .i64 k∧k≤nb∧∃ vS vT,kP w x sv w.heap.size (w1.heap.size+1) s q t.trap steps t.out (.slice oa t.out.length oc) vS vT k k wr) (fun v _=>nb - (intOf v).toNat)
 case atStart=>exact ⟨0,rfl,Nat.zero_le _,_,_,HST.out⟩
 case round =>
  obtain ⟨k,rfl,hk,vS,vT,hA⟩:=hrel
  have HA:=Sb.hide hA
  have hbz:=hA.below.size
  have rc:=(eP hA.rep).1
  have rf:=(eP hA.rep).2
  obtain ⟨r0,r1,r2,r3,r4,r5,r6⟩:=rc
  clear hA HST
  obtain ⟨R,hR⟩:∃ R,R=w1.heap.size+1:=⟨_,rfl⟩
  have HR:=Sb.hide hR
  rw [← hR] at r0 r1 r2 r3 r4 r5 r6 rf HA ⊢
  clear hR
  by_cases hlt:k < nb
  ·obtain ⟨y,hy⟩:∃ y,x[k]?=some y:=⟨_,List.getElem?_eq_getElem (by have:=YX.out;omega)⟩
   obtain ⟨af,cf,hL⟩:=hsv.out k y hy
   obtain ⟨sa,sc,BD⟩:=mD hL.sent
   have NF:=Sb.hide BD
   have tq:=(HA.out.below.block _ (lt_of_block hL.blk)).trans hL.blk
   have hQz:Q k < wr.heap.size:=lt_of_block tq
   obtain ⟨l0,l1,l2,_⟩:=ym tq
   rw [BD] at l2
   have HQR:Hid (Q k≠R):=fun e=>by
    have:=HA.out.rep
    rw [← e,tq] at this
    simp at this
   have HY:=Sb.hide hy
   obtain ⟨vg,hva,yS⟩:=yO hvl.out (Ki Q hlt)
   have YY:vg < w.heap.size:=World.block_lt_of_cell? w _ yS
   have v0:wr.cell? ⟨vg,k,none⟩=some (.pointer (some ⟨Q k,0,none⟩)):=(aR (HA.out.below.block vg YY) _).trans yS
   have HL:Hid (∀ W,Below w.heap.size w W→W.cell? ⟨Q k,1,none⟩=some (.int .i64 y.took)∧W.cell? ⟨Q k,2,none⟩=some (.slice sa y.sent.length sc)):=fun W hW=>by
    have hb:=(hW.block _ (lt_of_block hL.blk)).trans hL.blk
    obtain ⟨_,a1,a2,_⟩:=ym hb
    rw [BD] at a2
    exact ⟨a1,a2⟩
   have n0:(0:Int)≤(k:Int):=by omega
   have n1:(k:Int) < (nb:Int):=by omega
   rw [hva]
   clear hva yS hy hL BD tq l0 l1
   have HOWN:Hid ((wr.drew.alloc (.cells #[.slice sa y.sent.length sc] 22)).ownsRow w.heap.size 22 1 vS k (nE sv k)):=HA.out.sent.drew.alloc _
   go_wp2_with fail
   refine wp_region_held_drew (S:=fun w'=>w'.cell? ⟨Q k,2,none⟩=some (.slice sa y.sent.length sc)) (by kernel_rfl) (by exact l2) (fun hHeld=>?_)
   refine wpAnyH_take (i:=0) (oi:=_) (v:=?_) rfl (by kernel_rfl) (by kernel_rfl) (by kernel_rfl) (fun _ _ _ h=>h) (Or.inl ⟨by rfl,?_⟩) (by assumption) ?_
   rotate_left
   ·intro w hSw
    (try dsimp only at hSw)
    go_simp
    (try with_reducible rfl)
   (try simp only [Act.put])
   refine wpAnyH_take (i:=2) (oi:=_) (v:=?_) rfl (by kernel_rfl) (by kernel_rfl) (by kernel_rfl) (fun _ _ _ h=>h) (Or.inl ⟨by rfl,?_⟩) (by assumption) ?_
   rotate_left
   ·intro w hSw
    (try dsimp only at hSw)
    go_simp
    (try with_reducible rfl)
   (try simp only [Act.put])
   refine wpAnyH_take (i:=3) (oi:=_) (v:=?_) rfl (by kernel_rfl) (by kernel_rfl) (by kernel_rfl) (fun _ _ _ h=>h) (Or.inl ⟨by rfl,?_⟩) (by assumption) ?_
   rotate_left
   ·intro w hSw
    (try dsimp only at hSw)
    go_simp
    (try with_reducible rfl)
   (try simp only [Act.put])
   refine wpAnyH_take (i:=4) (oi:=_) (v:=?_) rfl (by kernel_rfl) (by kernel_rfl) (by kernel_rfl) (fun _ _ _ h=>h) (Or.inl ⟨by rfl,?_⟩) (by assumption) ?_
   rotate_left
   ·intro w hSw
    (try dsimp only at hSw)
    go_simp
    (try with_reducible rfl)
   (try simp only [Act.put])
   refine wpAnyH_take (i:=5) (oi:=_) (v:=?_) rfl (by kernel_rfl) (by kernel_rfl) (by kernel_rfl) (fun _ _ _ h=>h) (Or.inl ⟨by rfl,?_⟩) (by assumption) ?_
   rotate_left
   ·intro w hSw
    (try dsimp only at hSw)
    go_simp
    (try with_reducible rfl)
   (try simp only [Act.put])
   refine wpAnyH_ready (rs:=[1,6]) (by kernel_rfl) (by simp) ?_
   refine AllReadyH.cons (o:=_) rfl (fun K hK=>?_) ?_
   ·go_simp
    refine hK.out _ _ hHeld (fun hHeld=>?_)
    clear hK K
    refine wpAnyH_ready (rs:=[6]) (by kernel_rfl) (by simp) ?_
    refine AllReadyH.cons (o:=_) rfl (fun K hK=>?_) AllReadyH.nil
    go_simp
    refine hK.out _ _ (HL.out _ ((HA.out.below.drew).alloc (by exact HA.out.below.size) _)).2 (fun hHeld=>?_)
    clear hK K
    refine wpAnyH_ready (rs:=[7]) (by kernel_rfl) (by simp) ?_
    refine AllReadyH.cons (o:=_) rfl (fun K hK=>?_) AllReadyH.nil
    refine mV rfl (.tmp 30) (.tmp 35) 26 rfl w.heap.size 22 i0 (.slice none 0 0) 1 24 Tryz.underlying26 hi hz0 hz1 hz2 rfl (by decide) vS k (nE sv k) rfl HOWN.out ⟨wr.heap.size,0,none⟩ 1 1 [(.slice sa y.sent.length sc)] rfl rfl (jK wr.drew _ _) (jL rfl) (by decide) (by unfold maxLen;omega) (by omega) (by simp;omega) ?_
    intro g4 cap4 w4 bF hg4 _
    obtain ⟨bG,hb4,gq⟩:=HA.out.NC NF.out.symm bF hg4
    have jD:=Sb.hide gq
    have s4:=HL.out _ hb4
    have s5:=HL.out _ gq.below
    have q4:=(eP bG).1
    have f4:=(eP bG).2
    clear bF hg4 bG hb4 gq
    refine hK.out _ _ s4.2 (fun hHeld=>?_)
    clear hK K
    simp only [Act.put]
    refine wpAnyH_take (i:=8) (oi:=_) (v:=?_) rfl (by kernel_rfl) (by kernel_rfl) (by kernel_rfl) (fun _ _ _ h=>h) (Or.inl ⟨by rfl,?_⟩) (by assumption) ?_
    rotate_left
    ·intro w hSw
     (try dsimp only at hSw)
     go_simp
     (try with_reducible rfl)
    (try simp only [Act.put])
    refine wpAnyH_ready (rs:=[9]) (by kernel_rfl) (by simp) ?_
    refine AllReadyH.cons (o:=_) rfl (fun K hK=>?_) AllReadyH.nil
    go_simp
    refine hK.out _ _ s5.2 (fun hHeld=>?_)
    clear hK K hHeld q4 f4 s4
    refine wpAnyH_done (by kernel_rfl) ?_ _
    have dP:Hid (kP w x sv w.heap.size R s q t.trap steps t.out (.slice oa t.out.length oc) (.slice (some ⟨g4,0,none⟩) (k+1) cap4) vT (k+1) k (w4.setCell ⟨R,4,none⟩ (.slice (some ⟨g4,0,none⟩) (k+1) cap4))):=jD.out
    have l5:=(HL.out _ dP.out.below).1
    have c5:=(eP dP.out.rep).1.2.2.2.2.2.1
    have yA:=dP.out.below.size
    clear jD s5
    generalize w4.setCell ⟨R,4,none⟩ (.slice (some ⟨g4,0,none⟩) (k+1) cap4)=w5 at *
    obtain ⟨g5,hg5⟩:∃ g,g=g4:=⟨_,rfl⟩
    obtain ⟨cap5,qf⟩:∃ g,g=cap4:=⟨_,rfl⟩
    rw [← hg5,← qf] at dP
    rw [← hg5,← qf]
    clear hg5 qf
    have yT:Hid ((w5.drew.alloc (.cells #[.int .i64 (y.took:Int)] 3)).ownsRow w.heap.size 3 1 vT k (kz x k)):=dP.out.took.drew.alloc _
    go_wp2_with fail
    refine wp_region_held_drew (S:=fun w'=>w'.cell? ⟨Q k,1,none⟩=some (.int .i64 y.took)) (by kernel_rfl) (by exact l5) (fun hHeld=>?_)
    refine wpAnyH_take (i:=0) (oi:=_) (v:=?_) rfl (by kernel_rfl) (by kernel_rfl) (by kernel_rfl) (fun _ _ _ h=>h) (Or.inl ⟨by rfl,?_⟩) (by assumption) ?_
    rotate_left
    ·intro w hSw
     (try dsimp only at hSw)
     go_simp
     (try with_reducible rfl)
    (try simp only [Act.put])
    refine wpAnyH_take (i:=2) (oi:=_) (v:=?_) rfl (by kernel_rfl) (by kernel_rfl) (by kernel_rfl) (fun _ _ _ h=>h) (Or.inl ⟨by rfl,?_⟩) (by assumption) ?_
    rotate_left
    ·intro w hSw
     (try dsimp only at hSw)
     go_simp
     (try with_reducible rfl)
    (try simp only [Act.put])
    refine wpAnyH_take (i:=3) (oi:=_) (v:=?_) rfl (by kernel_rfl) (by kernel_rfl) (by kernel_rfl) (fun _ _ _ h=>h) (Or.inl ⟨by rfl,?_⟩) (by assumption) ?_
    rotate_left
    ·intro w hSw
     (try dsimp only at hSw)
     go_simp
     (try with_reducible rfl)
    (try simp only [Act.put])
    refine wpAnyH_take (i:=4) (oi:=_) (v:=?_) rfl (by kernel_rfl) (by kernel_rfl) (by kernel_rfl) (fun _ _ _ h=>h) (Or.inl ⟨by rfl,?_⟩) (by assumption) ?_
    rotate_left
    ·intro w hSw
     (try dsimp only at hSw)
     go_simp
     (try with_reducible rfl)
    (try simp only [Act.put])
    refine wpAnyH_take (i:=5) (oi:=_) (v:=?_) rfl (by kernel_rfl) (by kernel_rfl) (by kernel_rfl) (fun _ _ _ h=>h) (Or.inl ⟨by rfl,?_⟩) (by assumption) ?_
    rotate_left
    ·intro w hSw
     (try dsimp only at hSw)
     go_simp
     (try with_reducible rfl)
    (try simp only [Act.put])
    refine wpAnyH_ready (rs:=[1,6]) (by kernel_rfl) (by simp) ?_
    refine AllReadyH.cons (o:=_) rfl (fun K hK=>?_) ?_
    ·go_simp
     refine hK.out _ _ hHeld (fun hHeld=>?_)
     clear hK K
     refine wpAnyH_ready (rs:=[6]) (by kernel_rfl) (by simp) ?_
     refine AllReadyH.cons (o:=_) rfl (fun K hK=>?_) AllReadyH.nil
     go_simp
     refine hK.out _ _ (HL.out _ ((dP.out.below.drew).alloc (by exact dP.out.below.size) _)).1 (fun hHeld=>?_)
     clear hK K
     refine wpAnyH_ready (rs:=[7]) (by kernel_rfl) (by simp) ?_
     refine AllReadyH.cons (o:=_) rfl (fun K hK=>?_) AllReadyH.nil
     refine mV rfl (.tmp 39) (.tmp 44) 27 rfl w.heap.size 3 i1 (.int .i64 0) 1 8 Tryz.underlying27 hi1 hy0 hy1 hy2 rfl (by decide) vT k (kz x k) rfl yT.out ⟨w5.heap.size,0,none⟩ 1 1 [(.int .i64 (y.took:Int))] rfl rfl (jK w5.drew _ _) (jL rfl) (by decide) (by unfold maxLen;omega) (by omega) (by simp;omega) ?_
     intro g4 cap4 w4 bF hg4 _
     obtain ⟨bG,hb4,gq⟩:=dP.out.BC HY.out bF hg4
     have jD:=Sb.hide gq
     have s4:=HL.out _ hb4
     have s5:=HL.out _ gq.below
     have q4:=(eP bG).1
     have f4:=(eP bG).2
     clear bF hg4 bG hb4 gq
     refine hK.out _ _ s4.1 (fun hHeld=>?_)
     clear hK K
     simp only [Act.put]
     refine wpAnyH_take (i:=8) (oi:=_) (v:=?_) rfl (by kernel_rfl) (by kernel_rfl) (by kernel_rfl) (fun _ _ _ h=>h) (Or.inl ⟨by rfl,?_⟩) (by assumption) ?_
     rotate_left
     ·intro w hSw
      (try dsimp only at hSw)
      go_simp
      (try with_reducible rfl)
     (try simp only [Act.put])
     refine wpAnyH_ready (rs:=[9]) (by kernel_rfl) (by simp) ?_
     refine AllReadyH.cons (o:=_) rfl (fun K hK=>?_) AllReadyH.nil
     go_simp
     refine hK.out _ _ s5.1 (fun hHeld=>?_)
     clear hK K hHeld q4 f4 s4
     refine wpAnyH_done (by kernel_rfl) ?_ _
     have dU:Hid (kP w x sv w.heap.size R s q t.trap steps t.out (.slice oa t.out.length oc) (.slice (some ⟨g5,0,none⟩) (k+1) cap5) (.slice (some ⟨g4,0,none⟩) (k+1) cap4) (k+1) (k+1) (w4.setCell ⟨R,5,none⟩ (.slice (some ⟨g4,0,none⟩) (k+1) cap4))):=jD.out
     clear jD dP s5
     go_wp2
     go_roundw
     case rel=>exact ⟨k+1,by go_num,by omega,_,_,dU.out⟩
     case measure=>simp [intOf];omega
    ·skip
     refine AllReadyH.cons (o:=_) rfl (fun K hK=>?_) AllReadyH.nil
     go_simp
     refine hK.out _ _ (HL.out _ ((dP.out.below.drew).alloc (by exact dP.out.below.size) _)).1 (fun hHeld=>?_)
     clear hK K
     have YZ:(w5.alloc (.cells #[.int .i64 (y.took:Int)] 3)).drew.cell? ⟨R,5,none⟩=some vT:=(aR (Below.heap_alloc w5 (.cells #[.int .i64 (y.took:Int)] 3) _ (lt_of_block dP.out.rep)) _).trans c5
     refine wpAnyH_ready (rs:=[1]) (by kernel_rfl) (by simp) ?_
     refine AllReadyH.cons (o:=_) rfl (fun K hK=>?_) AllReadyH.nil
     go_simp
     refine hK.out _ _ hHeld (fun hHeld=>?_)
     clear hK K
     refine wpAnyH_ready (rs:=[7]) (by kernel_rfl) (by simp) ?_
     refine AllReadyH.cons (o:=_) rfl (fun K hK=>?_) AllReadyH.nil
     refine mV rfl (.tmp 39) (.tmp 44) 27 rfl w.heap.size 3 i1 (.int .i64 0) 1 8 Tryz.underlying27 hi1 hy0 hy1 hy2 rfl (by decide) vT k (kz x k) rfl yT.out ⟨w5.heap.size,0,none⟩ 1 1 [(.int .i64 (y.took:Int))] rfl rfl (jK w5.drew _ _) (jL rfl) (by decide) (by unfold maxLen;omega) (by omega) (by simp;omega) ?_
     intro g4 cap4 w4 bF hg4 _
     obtain ⟨bG,hb4,gq⟩:=dP.out.BC HY.out bF hg4
     have jD:=Sb.hide gq
     have s4:=HL.out _ hb4
     have s5:=HL.out _ gq.below
     have q4:=(eP bG).1
     have f4:=(eP bG).2
     clear bF hg4 bG hb4 gq
     refine hK.out _ _ s4.1 (fun hHeld=>?_)
     clear hK K
     simp only [Act.put]
     refine wpAnyH_take (i:=8) (oi:=_) (v:=?_) rfl (by kernel_rfl) (by kernel_rfl) (by kernel_rfl) (fun _ _ _ h=>h) (Or.inl ⟨by rfl,?_⟩) (by assumption) ?_
     rotate_left
     ·intro w hSw
      (try dsimp only at hSw)
      go_simp
      (try with_reducible rfl)
     (try simp only [Act.put])
     refine wpAnyH_ready (rs:=[9]) (by kernel_rfl) (by simp) ?_
     refine AllReadyH.cons (o:=_) rfl (fun K hK=>?_) AllReadyH.nil
     go_simp
     refine hK.out _ _ s5.1 (fun hHeld=>?_)
     clear hK K hHeld q4 f4 s4
     refine wpAnyH_done (by kernel_rfl) ?_ _
     have dU:Hid (kP w x sv w.heap.size R s q t.trap steps t.out (.slice oa t.out.length oc) (.slice (some ⟨g5,0,none⟩) (k+1) cap5) (.slice (some ⟨g4,0,none⟩) (k+1) cap4) (k+1) (k+1) (w4.setCell ⟨R,5,none⟩ (.slice (some ⟨g4,0,none⟩) (k+1) cap4))):=jD.out
     clear jD dP s5
     go_wp2
     go_roundw
     case rel=>exact ⟨k+1,by go_num,by omega,_,_,dU.out⟩
     case measure=>simp [intOf];omega
   ·skip
    refine AllReadyH.cons (o:=_) rfl (fun K hK=>?_) AllReadyH.nil
    go_simp
    refine hK.out _ _ (HL.out _ ((HA.out.below.drew).alloc (by exact HA.out.below.size) _)).2 (fun hHeld=>?_)
    clear hK K
    have r4b:(wr.alloc (.cells #[.slice sa y.sent.length sc] 22)).drew.cell? ⟨R,4,none⟩=some vS:=(aR (Below.heap_alloc wr (.cells #[.slice sa y.sent.length sc] 22) _ (lt_of_block HA.out.rep)) _).trans r4
    refine wpAnyH_ready (rs:=[1]) (by kernel_rfl) (by simp) ?_
    refine AllReadyH.cons (o:=_) rfl (fun K hK=>?_) AllReadyH.nil
    go_simp
    refine hK.out _ _ hHeld (fun hHeld=>?_)
    clear hK K
    refine wpAnyH_ready (rs:=[7]) (by kernel_rfl) (by simp) ?_
    refine AllReadyH.cons (o:=_) rfl (fun K hK=>?_) AllReadyH.nil
    refine mV rfl (.tmp 30) (.tmp 35) 26 rfl w.heap.size 22 i0 (.slice none 0 0) 1 24 Tryz.underlying26 hi hz0 hz1 hz2 rfl (by decide) vS k (nE sv k) rfl HOWN.out ⟨wr.heap.size,0,none⟩ 1 1 [(.slice sa y.sent.length sc)] rfl rfl (jK wr.drew _ _) (jL rfl) (by decide) (by unfold maxLen;omega) (by omega) (by simp;omega) ?_
    intro g4 cap4 w4 bF hg4 _
    obtain ⟨bG,hb4,gq⟩:=HA.out.NC NF.out.symm bF hg4
    have jD:=Sb.hide gq
    have s4:=HL.out _ hb4
    have s5:=HL.out _ gq.below
    have q4:=(eP bG).1
    have f4:=(eP bG).2
    clear bF hg4 bG hb4 gq
    refine hK.out _ _ s4.2 (fun hHeld=>?_)
    clear hK K
    simp only [Act.put]
    refine wpAnyH_take (i:=8) (oi:=_) (v:=?_) rfl (by kernel_rfl) (by kernel_rfl) (by kernel_rfl) (fun _ _ _ h=>h) (Or.inl ⟨by rfl,?_⟩) (by assumption) ?_
    rotate_left
    ·intro w hSw
     (try dsimp only at hSw)
     go_simp
     (try with_reducible rfl)
    (try simp only [Act.put])
    refine wpAnyH_ready (rs:=[9]) (by kernel_rfl) (by simp) ?_
    refine AllReadyH.cons (o:=_) rfl (fun K hK=>?_) AllReadyH.nil
    go_simp
    refine hK.out _ _ s5.2 (fun hHeld=>?_)
    clear hK K hHeld q4 f4 s4
    refine wpAnyH_done (by kernel_rfl) ?_ _
    have dP:Hid (kP w x sv w.heap.size R s q t.trap steps t.out (.slice oa t.out.length oc) (.slice (some ⟨g4,0,none⟩) (k+1) cap4) vT (k+1) k (w4.setCell ⟨R,4,none⟩ (.slice (some ⟨g4,0,none⟩) (k+1) cap4))):=jD.out
    have l5:=(HL.out _ dP.out.below).1
    have c5:=(eP dP.out.rep).1.2.2.2.2.2.1
    have yA:=dP.out.below.size
    clear jD s5
    generalize w4.setCell ⟨R,4,none⟩ (.slice (some ⟨g4,0,none⟩) (k+1) cap4)=w5 at *
    obtain ⟨g5,hg5⟩:∃ g,g=g4:=⟨_,rfl⟩
    obtain ⟨cap5,qf⟩:∃ g,g=cap4:=⟨_,rfl⟩
    rw [← hg5,← qf] at dP
    rw [← hg5,← qf]
    clear hg5 qf
    have yT:Hid ((w5.drew.alloc (.cells #[.int .i64 (y.took:Int)] 3)).ownsRow w.heap.size 3 1 vT k (kz x k)):=dP.out.took.drew.alloc _
    go_wp2_with fail
    refine wp_region_held_drew (S:=fun w'=>w'.cell? ⟨Q k,1,none⟩=some (.int .i64 y.took)) (by kernel_rfl) (by exact l5) (fun hHeld=>?_)
    refine wpAnyH_take (i:=0) (oi:=_) (v:=?_) rfl (by kernel_rfl) (by kernel_rfl) (by kernel_rfl) (fun _ _ _ h=>h) (Or.inl ⟨by rfl,?_⟩) (by assumption) ?_
    rotate_left
    ·intro w hSw
     (try dsimp only at hSw)
     go_simp
     (try with_reducible rfl)
    (try simp only [Act.put])
    refine wpAnyH_take (i:=2) (oi:=_) (v:=?_) rfl (by kernel_rfl) (by kernel_rfl) (by kernel_rfl) (fun _ _ _ h=>h) (Or.inl ⟨by rfl,?_⟩) (by assumption) ?_
    rotate_left
    ·intro w hSw
     (try dsimp only at hSw)
     go_simp
     (try with_reducible rfl)
    (try simp only [Act.put])
    refine wpAnyH_take (i:=3) (oi:=_) (v:=?_) rfl (by kernel_rfl) (by kernel_rfl) (by kernel_rfl) (fun _ _ _ h=>h) (Or.inl ⟨by rfl,?_⟩) (by assumption) ?_
    rotate_left
    ·intro w hSw
     (try dsimp only at hSw)
     go_simp
     (try with_reducible rfl)
    (try simp only [Act.put])
    refine wpAnyH_take (i:=4) (oi:=_) (v:=?_) rfl (by kernel_rfl) (by kernel_rfl) (by kernel_rfl) (fun _ _ _ h=>h) (Or.inl ⟨by rfl,?_⟩) (by assumption) ?_
    rotate_left
    ·intro w hSw
     (try dsimp only at hSw)
     go_simp
     (try with_reducible rfl)
    (try simp only [Act.put])
    refine wpAnyH_take (i:=5) (oi:=_) (v:=?_) rfl (by kernel_rfl) (by kernel_rfl) (by kernel_rfl) (fun _ _ _ h=>h) (Or.inl ⟨by rfl,?_⟩) (by assumption) ?_
    rotate_left
    ·intro w hSw
     (try dsimp only at hSw)
     go_simp
     (try with_reducible rfl)
    (try simp only [Act.put])
    refine wpAnyH_ready (rs:=[1,6]) (by kernel_rfl) (by simp) ?_
    refine AllReadyH.cons (o:=_) rfl (fun K hK=>?_) ?_
    ·go_simp
     refine hK.out _ _ hHeld (fun hHeld=>?_)
     clear hK K
     refine wpAnyH_ready (rs:=[6]) (by kernel_rfl) (by simp) ?_
     refine AllReadyH.cons (o:=_) rfl (fun K hK=>?_) AllReadyH.nil
     go_simp
     refine hK.out _ _ (HL.out _ ((dP.out.below.drew).alloc (by exact dP.out.below.size) _)).1 (fun hHeld=>?_)
     clear hK K
     refine wpAnyH_ready (rs:=[7]) (by kernel_rfl) (by simp) ?_
     refine AllReadyH.cons (o:=_) rfl (fun K hK=>?_) AllReadyH.nil
     refine mV rfl (.tmp 39) (.tmp 44) 27 rfl w.heap.size 3 i1 (.int .i64 0) 1 8 Tryz.underlying27 hi1 hy0 hy1 hy2 rfl (by decide) vT k (kz x k) rfl yT.out ⟨w5.heap.size,0,none⟩ 1 1 [(.int .i64 (y.took:Int))] rfl rfl (jK w5.drew _ _) (jL rfl) (by decide) (by unfold maxLen;omega) (by omega) (by simp;omega) ?_
     intro g4 cap4 w4 bF hg4 _
     obtain ⟨bG,hb4,gq⟩:=dP.out.BC HY.out bF hg4
     have jD:=Sb.hide gq
     have s4:=HL.out _ hb4
     have s5:=HL.out _ gq.below
     have q4:=(eP bG).1
     have f4:=(eP bG).2
     clear bF hg4 bG hb4 gq
     refine hK.out _ _ s4.1 (fun hHeld=>?_)
     clear hK K
     simp only [Act.put]
     refine wpAnyH_take (i:=8) (oi:=_) (v:=?_) rfl (by kernel_rfl) (by kernel_rfl) (by kernel_rfl) (fun _ _ _ h=>h) (Or.inl ⟨by rfl,?_⟩) (by assumption) ?_
     rotate_left
     ·intro w hSw
      (try dsimp only at hSw)
      go_simp
      (try with_reducible rfl)
     (try simp only [Act.put])
     refine wpAnyH_ready (rs:=[9]) (by kernel_rfl) (by simp) ?_
     refine AllReadyH.cons (o:=_) rfl (fun K hK=>?_) AllReadyH.nil
     go_simp
     refine hK.out _ _ s5.1 (fun hHeld=>?_)
     clear hK K hHeld q4 f4 s4
     refine wpAnyH_done (by kernel_rfl) ?_ _
     have dU:Hid (kP w x sv w.heap.size R s q t.trap steps t.out (.slice oa t.out.length oc) (.slice (some ⟨g5,0,none⟩) (k+1) cap5) (.slice (some ⟨g4,0,none⟩) (k+1) cap4) (k+1) (k+1) (w4.setCell ⟨R,5,none⟩ (.slice (some ⟨g4,0,none⟩) (k+1) cap4))):=jD.out
     clear jD dP s5
     go_wp2
     go_roundw
     case rel=>exact ⟨k+1,by go_num,by omega,_,_,dU.out⟩
     case measure=>simp [intOf];omega
    ·skip
     refine AllReadyH.cons (o:=_) rfl (fun K hK=>?_) AllReadyH.nil
     go_simp
     refine hK.out _ _ (HL.out _ ((dP.out.below.drew).alloc (by exact dP.out.below.size) _)).1 (fun hHeld=>?_)
     clear hK K
     have YZ:(w5.alloc (.cells #[.int .i64 (y.took:Int)] 3)).drew.cell? ⟨R,5,none⟩=some vT:=(aR (Below.heap_alloc w5 (.cells #[.int .i64 (y.took:Int)] 3) _ (lt_of_block dP.out.rep)) _).trans c5
     refine wpAnyH_ready (rs:=[1]) (by kernel_rfl) (by simp) ?_
     refine AllReadyH.cons (o:=_) rfl (fun K hK=>?_) AllReadyH.nil
     go_simp
     refine hK.out _ _ hHeld (fun hHeld=>?_)
     clear hK K
     refine wpAnyH_ready (rs:=[7]) (by kernel_rfl) (by simp) ?_
     refine AllReadyH.cons (o:=_) rfl (fun K hK=>?_) AllReadyH.nil
     refine mV rfl (.tmp 39) (.tmp 44) 27 rfl w.heap.size 3 i1 (.int .i64 0) 1 8 Tryz.underlying27 hi1 hy0 hy1 hy2 rfl (by decide) vT k (kz x k) rfl yT.out ⟨w5.heap.size,0,none⟩ 1 1 [(.int .i64 (y.took:Int))] rfl rfl (jK w5.drew _ _) (jL rfl) (by decide) (by unfold maxLen;omega) (by omega) (by simp;omega) ?_
     intro g4 cap4 w4 bF hg4 _
     obtain ⟨bG,hb4,gq⟩:=dP.out.BC HY.out bF hg4
     have jD:=Sb.hide gq
     have s4:=HL.out _ hb4
     have s5:=HL.out _ gq.below
     have q4:=(eP bG).1
     have f4:=(eP bG).2
     clear bF hg4 bG hb4 gq
     refine hK.out _ _ s4.1 (fun hHeld=>?_)
     clear hK K
     simp only [Act.put]
     refine wpAnyH_take (i:=8) (oi:=_) (v:=?_) rfl (by kernel_rfl) (by kernel_rfl) (by kernel_rfl) (fun _ _ _ h=>h) (Or.inl ⟨by rfl,?_⟩) (by assumption) ?_
     rotate_left
     ·intro w hSw
      (try dsimp only at hSw)
      go_simp
      (try with_reducible rfl)
     (try simp only [Act.put])
     refine wpAnyH_ready (rs:=[9]) (by kernel_rfl) (by simp) ?_
     refine AllReadyH.cons (o:=_) rfl (fun K hK=>?_) AllReadyH.nil
     go_simp
     refine hK.out _ _ s5.1 (fun hHeld=>?_)
     clear hK K hHeld q4 f4 s4
     refine wpAnyH_done (by kernel_rfl) ?_ _
     have dU:Hid (kP w x sv w.heap.size R s q t.trap steps t.out (.slice oa t.out.length oc) (.slice (some ⟨g5,0,none⟩) (k+1) cap5) (.slice (some ⟨g4,0,none⟩) (k+1) cap4) (k+1) (k+1) (w4.setCell ⟨R,5,none⟩ (.slice (some ⟨g4,0,none⟩) (k+1) cap4))):=jD.out
     clear jD dP s5
     go_wp2
     go_roundw
     case rel=>exact ⟨k+1,by go_num,by omega,_,_,dU.out⟩
     case measure=>simp [intOf];omega
  ·have n1:¬ (k:Int) < (nb:Int):=by omega
   have ek:k=nb:=by omega
   subst ek
   have z:=(eP HA.out.zero).1
   have zf:=(eP HA.out.zero).2
   obtain ⟨z0,z1,z2,z3,z4,z5,z6⟩:=z
   have HNE:Hid (w.heap.size≠R):=HA.out.ne
   obtain ⟨sa,sc,Y0⟩:=mD HA.out.sent
   obtain ⟨ta,tc,Y1⟩:=mD HA.out.took
   subst Y0 Y1
   go_wp2
   have hX:=YT (s:=s) (q:=q) (tr:=t.trap) (vO:=.slice oa t.out.length oc) (vS:=.slice sa k sc) (vT:=.slice ta k tc) (st:=steps) HA.out.zero
   refine bodyPost_ret (v:=iV s q t.trap (.slice oa t.out.length oc) (.slice sa k sc) (.slice ta k tc) steps) ?_ rfl ⟨_,_,_,rfl,F7 HA.out.zero HA.out.out (by decide),F7 HA.out.zero HA.out.sent (by decide),F7 HA.out.zero HA.out.took (by decide),YV HA.out.below (Nat.le_refl _)⟩
   unfold yR at hX
   generalize ((((((wr.setCell ⟨w.heap.size,0,none⟩ (.int .i64 s)).setCell ⟨w.heap.size,1,none⟩ (.int .i64 q)).setCell ⟨w.heap.size,2,none⟩ (.int .i64 t.trap)).setCell ⟨w.heap.size,3,none⟩ (.slice oa t.out.length oc)).setCell ⟨w.heap.size,4,none⟩ (.slice sa k sc)).setCell ⟨w.heap.size,5,none⟩ (.slice ta k tc)).setCell ⟨w.heap.size,6,none⟩ (.int .i64 steps)=W4 at *
   obtain ⟨g0,g1,g2,g3,g4,g5,g6⟩:=(eP hX).1
   simp [results,Tryz.results23,go_sem,g0,g1,g2,g3,g4,g5,g6]
end Go.Proofs.YthffafaoobpedaaGreatDoor.Vw
