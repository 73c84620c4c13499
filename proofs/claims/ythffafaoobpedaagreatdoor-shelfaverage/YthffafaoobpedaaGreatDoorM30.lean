/- The walk of feed: lists out of feeds. -/
import Derived.Test.YthffafaoobpedaaGreatDoorM29
set_option maxRecDepth 100000
set_option maxHeartbeats 2000000
namespace Go.Proofs.YthffafaoobpedaaGreatDoor.Vw
open Go.RowKit Vf Vm
theorem Tryz.YC:(Tryz.prog.info? 74).map (fun i=>(i.zero,i.size,i.bytes))=some (some (.pointer none),1,8):=by kernel_rfl
theorem Tryz.YD:(Tryz.prog.info? 195).map (fun i=>(i.zero,i.size,i.bytes))=some (some .nilIface,1,16):=by kernel_rfl
def nE (Q:Nat→Nat)(n:Nat):List Value:=(List.range n).map fun i=>.iface 74 (.pointer (some ⟨Q i,0,none⟩))
theorem YE (Q:Nat→Nat){n i:Nat}(h:i < n):(nE Q n)[i]?=some (.iface 74 (.pointer (some ⟨Q i,0,none⟩))):=by simp [nE,h]
theorem YF (Q:Nat→Nat)(n:Nat):nE Q (n+1)=nE Q n ++ [.iface 74 (.pointer (some ⟨Q n,0,none⟩))]:=by simp [nE,List.range_succ]
theorem YG (Q:Nat→Nat)(n:Nat):ptrs Q (n+1)=ptrs Q n ++ [.pointer (some ⟨Q n,0,none⟩)]:=by simp [ptrs,List.range_succ]
theorem YH {Q Q':Nat→Nat}{n:Nat}(h:∀ i,i < n→Q i=Q' i):nE Q n=nE Q' n:=List.map_congr_left (fun i hi=>by rw [h i (by simpa using hi)])
theorem YI {Q Q':Nat→Nat}{n:Nat}(h:∀ i,i < n→Q i=Q' i):ptrs Q n=ptrs Q' n:=List.map_congr_left (fun i hi=>by rw [h i (by simpa using hi)])
structure tV (w:World) (fs:List (List Int)) (fa:Nat→Option Addr) (fc:Nat→Nat) (k:Nat) (vl vb:Value) (Q:Nat→Nat) (wr:World):Prop where
 le:k≤fs.length
 below:Below w.heap.size w wr
 ptr:wr.ownsRow w.heap.size 74 1 vl k (ptrs Q k)
 mF:wr.ownsRow w.heap.size 195 1 vb k (nE Q k)
 blk:∀ (i:Nat) f,i < k→fs[i]?=some f→wr.heap[Q i]?=some (jq (fa i) f.length (fc i) 0 (.slice none 0 0))
 low:∀ i,i < k→w.heap.size≤Q i
 inj:∀ i j,i < j→j < k→Q i < Q j
theorem tV.more {w wr:World}{fs:List (List Int)}{fa:Nat→Option Addr}{fc:Nat→Nat}{k:Nat}{vl vb:Value}{Q:Nat→Nat}(h:tV w fs fa fc k vl vb Q wr){f:List Int}(hf:fs[k]?=some f){w3 w5:World}{Nu Nv:Value}
  (h3:w3.ownsRow w.heap.size 74 1 Nu (k+1) (ptrs Q k ++ [.pointer (some ⟨wr.heap.size,0,none⟩)])) (g3:((wr.alloc (jq (fa k) f.length (fc k) 0 (.slice none 0 0))).alloc (.cells #[.pointer (some ⟨wr.heap.size,0,none⟩)] 74)).grownBy w3 vl.ownBlock)
  (h5:w5.ownsRow w.heap.size 195 1 Nv (k+1) (nE Q k ++ [.iface 74 (.pointer (some ⟨wr.heap.size,0,none⟩))])) (g5:(w3.alloc (.cells #[.iface 74 (.pointer (some ⟨wr.heap.size,0,none⟩))] 195)).grownBy w5 vb.ownBlock) :
  tV w fs fa fc (k+1) Nu Nv (fun i=>if i=k then wr.heap.size else Q i) w5:=by
 have hz3:=g3.size
 have yw:=g5.size
 simp at hz3 yw
 have hbz:=h.below.size
 have hQ:∀ i,i < k→(if i=k then wr.heap.size else Q i)=Q i:=fun i hi=>if_neg (by omega)
 -- blocks of other types stay
 have Nw:∀ b,b < wr.heap.size+1→vl.ownBlock≠some b→w3.heap[b]?=(wr.alloc (jq (fa k) f.length (fc k) 0 (.slice none 0 0))).heap[b]?:=fun b hb hne=>(g3.block b (by simp;omega) (fun e=>hne e.symm)).trans (Below.heap_alloc _ _ _ (by simp;omega))
 have FW:∀ b,b < w3.heap.size→vb.ownBlock≠some b→w5.heap[b]?=w3.heap[b]?:=fun b hb hne=>(g5.block b (by simp;omega) (fun e=>hne e.symm)).trans (Below.heap_alloc _ _ _ hb)
 have YJ:∀ (b:Nat) (o:Obj),wr.heap[b]?=some o→(∀ cur,o≠.cells cur 74 (0,0))→vl.ownBlock≠some b:=fun b o hb hn e=>by
  obtain ⟨cur,hc⟩:=jC h.ptr e
  rw [hb] at hc
  exact hn cur (Option.some.inj hc)
 have Bd:w3.heap[wr.heap.size]?=some (jq (fa k) f.length (fc k) 0 (.slice none 0 0)):=(Nw _ (by omega) (fun e=>by have:=(h.ptr.lt _ e).2;omega)).trans (heap_alloc_new wr _)
 have FX:∀ b,b < wr.heap.size→vl.ownBlock≠some b→w3.heap[b]?=wr.heap[b]?:=fun b hb hne=>(Nw b (by omega) hne).trans (Below.heap_alloc _ _ _ hb)
 have Ny:∀ b,vb.ownBlock=some b→b < wr.heap.size:=fun b e=>(h.mF.lt b e).2
 have Nz:∀ (b:Nat) af m cf vS,w3.heap[b]?=some (jq af m cf 0 vS)→b < wr.heap.size+1→vb.ownBlock≠some b:=fun b af m cf vS hb _ e=>by
  obtain ⟨cur,hc⟩:=jC h.mF e
  have hne:vl.ownBlock≠some b:=fun e2=>by
   obtain ⟨FY,hc2⟩:=jC h.ptr e2
   rw [hc] at hc2
   simp at hc2
  rw [FX b (Ny b e) hne,hc] at hb
  simp at hb
 refine ⟨(List.getElem?_eq_some_iff.1 hf).1,?_,?_,?_,fun i f' hi hf'=>?_,fun i hi=>?_,fun i j hij hj=>?_⟩
 ·have b1:Below w.heap.size w ((wr.alloc (jq (fa k) f.length (fc k) 0 (.slice none 0 0))).alloc (.cells #[.pointer (some ⟨wr.heap.size,0,none⟩)] 74)):=(h.below.alloc hbz _).alloc (by simp;omega) _
  have b3:Below w.heap.size w w3:=b1.grown g3 (by simp;omega) (fun b hb=>(h.ptr.lt b hb).1)
  exact (b3.alloc (by omega) _).grown g5 (by simp;omega) (fun b hb=>(h.mF.lt b hb).1)
 ·rw [YG,YI hQ,if_pos rfl]
  refine bW h3 (fun b hb=>FW b (h3.lt b hb).2 (fun e=>?_))
  obtain ⟨cur,hc⟩:=jC h3 hb
  obtain ⟨FY,hc2⟩:=jC h.mF e
  have hne:vl.ownBlock≠some b:=fun e2=>by
   obtain ⟨adN,hc3⟩:=jC h.ptr e2
   rw [hc2] at hc3
   simp at hc3
  rw [FX b (Ny b e) hne,hc2] at hc
  simp at hc
 ·rw [YF,YH hQ,if_pos rfl]
  exact h5
 ·by_cases e:i=k
  ·subst e
   rw [hf] at hf'
   cases hf'
   simp only [if_true]
   exact (FW _ (by omega) (Nz _ _ _ _ _ Bd (by omega))).trans Bd
  ·simp only [if_neg e]
   have hb:=h.blk i f' (by omega) hf'
   have hlt:=lt_of_block hb
   have hb3:=(FX _ hlt (YJ _ _ hb (fun cur e2=>by simp at e2))).trans hb
   exact (FW _ (by omega) (Nz _ _ _ _ _ hb3 (by omega))).trans hb3
 ·show _≤if i=k then _ else _
  split
  ·exact hbz
  ·exact h.low i (by omega)
 ·show (if i=k then _ else _) < (if j=k then _ else _)
  rw [if_neg (by omega)]
  split
  ·obtain ⟨f',hf'⟩:∃ f',fs[i]?=some f':=⟨_,List.getElem?_eq_getElem (by have:=h.le;omega)⟩
   exact lt_of_block (h.blk i f' (by omega) hf')
  ·exact h.inj i j hij (by omega)
theorem YK (B:Nat)(fs:List (List Int))(a:Option Addr)(cap:Nat)(fa:Nat→Option Addr)(fc:Nat→Nat)(w:World)(fB:Hid (jB B w fs a fa fc))(hB:B≤w.heap.size)(dx:fs.length≤30) :
  Calls Tryz.prog 20 #[.slice a fs.length cap] w fun e w'=>∃ vl vb Q,e=.returned (.tuple #[vl,vb])∧tV w fs fa fc fs.length vl vb Q w':=by
 obtain ⟨i0,hi,hz0,hz1,hz2⟩:=info_parts Tryz.YC
 obtain ⟨i1,hi1,hy0,hy1,hy2⟩:=info_parts Tryz.YD
 have HST:Hid (tV w fs fa fc 0 (.slice none 0 0) (.slice none 0 0) (fun _=>0) w):=⟨Nat.zero_le _,.refl _ _,⟨rfl,.inl ⟨rfl,rfl⟩⟩,⟨rfl,.inl ⟨rfl,rfl⟩⟩,fun i f hi=>by omega,fun i hi=>by omega,fun i j _ hj=>by omega⟩
 go_enter Tryz.func20,Tryz.ntmps20
 go_wp2
 go_loopw [4,5,11] (fun vl vb v wr=>∃ k:Nat,v=.int .i64 k∧∃ Q,tV w fs fa fc k vl vb Q wr) (fun _ _ v _=>fs.length - (intOf v).toNat)
 case atStart=>exact ⟨0,rfl,_,HST.out⟩
 case round =>
  obtain ⟨k,rfl,Q,hA⟩:=hrel
  have HA:=Sb.hide hA
  have hbz:=hA.below.size
  have hk:=hA.le
  clear hA HST
  by_cases hlt:k < fs.length
  ·obtain ⟨f,hf⟩:∃ f,fs[k]?=some f:=⟨_,List.getElem?_eq_getElem hlt⟩
   obtain ⟨fb,FT,rfl,Yv,y0⟩:=fB.out.rows k f hf
   have y1:wr.cell? ⟨fb,FT+k,none⟩=some (.slice (fa k) f.length (fc k)):=(aS (HA.out.below.block fb (by omega)) _).trans y0
   have HF:=Sb.hide hf
   obtain ⟨ml,bU⟩:∃ m,m=fs.length:=⟨_,rfl⟩
   rw [← bU] at hlt dx ⊢
   have jN:=Sb.hide bU
   have n0:(0:Int)≤(k:Int):=by omega
   have n1:(k:Int) < (ml:Int):=by omega
   have HP:Hid (((wr.alloc (jq (fa k) f.length (fc k) 0 (.slice none 0 0))).alloc (.cells #[.pointer (some ⟨wr.heap.size,0,none⟩)] 74)).ownsRow w.heap.size 74 1 u4 k (ptrs Q k)):=(HA.out.ptr.alloc _).alloc _
   clear bU hf y0 fB
   go_wp2_with (at_builtin;refine rW rfl (.tmp 18) (.tmp 20) 48 rfl w.heap.size 74 i0 (.pointer none) 1 8 Tryz.underlying48 hi hz0 hz1 hz2 rfl (by decide) u4 k (ptrs Q k) rfl HP.out ⟨(wr.alloc (jq (fa k) f.length (fc k) 0 (.slice none 0 0))).heap.size,0,none⟩ 1 1 [.pointer (some ⟨wr.heap.size,0,none⟩)] (by rw [show (wr.alloc (jq (fa k) f.length (fc k) 0 (.slice none 0 0))).heap.size=wr.heap.size+1 by simp];rfl) rfl (jL (wr.alloc (jq (fa k) f.length (fc k) 0 (.slice none 0 0))) _ _) (jM rfl) (by decide) (by unfold maxLen;omega) (by omega) (by simp;omega) ?_)
   intro R3 adO w3 hown3 hg3 YL
   have H3:=Sb.hide hown3
   have G3:=Sb.hide hg3
   have hz3:=hg3.size
   simp at hz3
   have HI:Hid ((w3.alloc (.cells #[.iface 74 (.pointer (some ⟨wr.heap.size,0,none⟩))] 195)).ownsRow w.heap.size 195 1 u5 k (nE Q k)):=by
    refine World.ownsRow.alloc (bW HA.out.mF (fun b hb=>?_)) _
    have hbl:=(HA.out.mF.lt b hb).2
    refine (hg3.block b (by simp;omega) (fun e=>?_)).trans ((Below.heap_alloc _ _ _ (by simp;omega)).trans (Below.heap_alloc _ _ _ hbl))
    obtain ⟨cur,hc⟩:=jC HA.out.mF hb
    obtain ⟨FY,hc2⟩:=jC HA.out.ptr e.symm
    rw [hc] at hc2
    simp at hc2
   clear hown3 hg3 YL
   go_wp2_with (at_builtin;refine rW rfl (.tmp 22) (.tmp 25) 49 rfl w.heap.size 195 i1 .nilIface 1 16 Tryz.underlying49 hi1 hy0 hy1 hy2 rfl (by decide) u5 k (nE Q k) rfl HI.out ⟨w3.heap.size,0,none⟩ 1 1 [.iface 74 (.pointer (some ⟨wr.heap.size,0,none⟩))] rfl rfl (jL w3 _ _) (jM rfl) (by decide) (by unfold maxLen;omega) (by omega) (by simp;omega) ?_)
   intro R5 cap5 w5 hown5 hg5 YM
   have dI:=Sb.hide (HA.out.more HF.out H3.out G3.out hown5 hg5)
   clear hown5 hg5 YM
   go_wp2
   go_roundw
   case rel=>exact ⟨k+1,by go_num,_,dI.out⟩
   case measure=>simp [intOf];omega
  ·have n1:¬ (k:Int) < (fs.length:Int):=by omega
   have ek:k=fs.length:=by omega
   subst ek
   go_wp2
   exact bodyPost_ret (v:=.tuple #[_,_]) (by simp [results,Tryz.results20,go_sem] <;> first | exact ⟨rfl,rfl⟩ | rfl) rfl ⟨_,_,rfl,Q,HA.out⟩
theorem Tryz.YN:(Tryz.prog.info? 22).map (fun i=>(i.zero,i.size,i.bytes))=some (some (.slice none 0 0),1,24):=by kernel_rfl
abbrev kP (s q tr:Nat) (vO vS vT:Value) (st:Nat):Obj:=.cells #[.int .i64 s,.int .i64 q,.int .i64 tr,vO,vS,vT,.int .i64 st] 29 (0,0)
abbrev jV:Obj:=.cells #[.int .i64 0,.int .i64 0,.int .i64 0,.slice none 0 0,.slice none 0 0,.slice none 0 0,.int .i64 0] 29 (0,0)
def nG (sv:Nat→Value)(n:Nat):List Value:=(List.range n).map sv
theorem YO (sv:Nat→Value)(n:Nat):nG sv (n+1)=nG sv n ++ [sv n]:=by simp [nG,List.range_succ]
def kD (x:List aV)(n:Nat):List Value:=(x.take n).map fun q:aV=>.int .i64 (q.took:Int)
theorem YP {x:List aV}{n:Nat}{q:aV}(h:x[n]?=some q):kD x (n+1)=kD x n ++ [.int .i64 (q.took:Int)]:=by
 unfold kD
 rw [List.take_add_one,h]
 simp
structure kQ (w:World) (x:List aV) (sv:Nat→Value) (R0 R s q tr st:Nat) (out:List Int) (vO vS vT:Value) (ks kt:Nat) (wr:World):Prop where
 below:Below w.heap.size w wr
 low:w.heap.size≤R0∧w.heap.size≤R
 zero:wr.heap[R0]?=some jV
 ne:R0≠R
 rep:wr.heap[R]?=some (kP s q tr vO vS vT st)
 out:wr.ownsRow w.heap.size 2 1 vO out.length (ints out)
 sent:wr.ownsRow w.heap.size 22 1 vS ks (nG sv ks)
 took:wr.ownsRow w.heap.size 3 1 vT kt (kD x kt)
theorem eU {w:World}{R s q tr st:Nat}{vO vS vT:Value}(h:w.heap[R]?=some (kP s q tr vO vS vT st)):(w.cell? ⟨R,0,none⟩=some (.int .i64 s)∧w.cell? ⟨R,1,none⟩=some (.int .i64 q)∧w.cell? ⟨R,2,none⟩=some (.int .i64 tr)∧w.cell? ⟨R,3,none⟩=some vO∧w.cell? ⟨R,4,none⟩=some vS∧w.cell? ⟨R,5,none⟩=some vT∧w.cell? ⟨R,6,none⟩=some (.int .i64 st))∧∀ j,w.frozen? ⟨R,j,none⟩=false:=by simp [World.cell?,World.frozen?,h]
theorem Bp {w wr w4:World}{e e' size n n' g:Nat}{v v':Value}{xs xs':List Value}{ob:Obj}(h:wr.ownsRow g e size v n xs)(hx:wr.ownsRow g e' size v' n' xs')(hne:e≠e')(hg:(wr.drew.alloc ob).grownBy w4 v'.ownBlock)(he:w.heap=w4.heap):w.ownsRow g e size v n xs:=by
 refine bW h (fun b hb=>?_)
 rw [he]
 have hl:=(h.lt b hb).2
 refine (hg.block b (by simp;omega) (fun e2=>?_)).trans (Below.heap_alloc wr.drew _ _ hl)
 obtain ⟨c1,h1⟩:=jC h hb
 obtain ⟨c2,h2⟩:=jC hx e2.symm
 rw [h1] at h2
 simp at h2
 exact hne h2.2
section
variable {w wr w4:World} {x:List aV} {sv:Nat→Value} {R0 R s q tr st:Nat} {out:List Int} {vO vS vT:Value} {ks kt:Nat}
theorem kQ.NA (H:kQ w x sv R0 R s q tr st out vO vS vT ks kt wr){u v':Value}(hu:u=sv ks)(h4:w4.ownsRow w.heap.size 22 1 v' (ks+1) (nG sv ks ++ [u]))(g4:(wr.drew.alloc (.cells #[u] 22)).grownBy w4 vS.ownBlock):w4.heap[R]?=some (kP s q tr vO vS vT st)∧Below w.heap.size w w4∧kQ w x sv R0 R s q tr st out vO v' vT (ks+1) kt (w4.setCell ⟨R,4,none⟩ v'):=by
 have yL:=H.below.size
 have lh:=g4.size
 simp at lh
 have nS:∀ b s q tr vO yM vT st,wr.heap[b]?=some (kP s q tr vO yM vT st)→vS.ownBlock≠some b:=fun b s q tr vO yM vT st hb e=>by
  obtain ⟨cur,hc⟩:=jC H.sent e
  rw [hb] at hc
  simp at hc
 have blk:∀ b,b < wr.heap.size→vS.ownBlock≠some b→w4.heap[b]?=wr.heap[b]?:=fun b hb hn=>(g4.block b (by simp;omega) (fun e=>hn e.symm)).trans (Below.heap_alloc wr.drew _ _ hb)
 have hR:w4.heap[R]?=some (kP s q tr vO vS vT st):=(blk R (lt_of_block H.rep) (nS _ _ _ _ _ _ _ _ H.rep)).trans H.rep
 have hset:∀ b,b≠R→(w4.setCell ⟨R,4,none⟩ v').heap[b]?=w4.heap[b]?:=fun b hb=>Below.heap_setCell _ ⟨R,4,none⟩ _ _ hb
 have keep:∀ {e n:Nat} {v:Value} {xs:List Value},w4.ownsRow w.heap.size e 1 v n xs→e≠29→(w4.setCell ⟨R,4,none⟩ v').ownsRow w.heap.size e 1 v n xs:=fun h hne=>bW h (fun b hb=>hset b (fun e2=>by
  obtain ⟨cur,hc⟩:=jC h hb
  rw [e2,hR] at hc
  simp at hc
  exact hne hc.2.symm))
 refine ⟨hR,?_,?_,H.low,?_,H.ne,?_,keep (Bp H.out H.sent (by decide) g4 rfl) (by decide),?_,keep (Bp H.took H.sent (by decide) g4 rfl) (by decide)⟩
 ·exact (H.below.drew.alloc (by exact yL) _).grown g4 (by simp;omega) (fun b hb=>(H.sent.lt b hb).1)
 ·exact (((H.below.drew.alloc (by exact yL) _).grown g4 (by simp;omega) (fun b hb=>(H.sent.lt b hb).1))).setCell (p:=⟨R,4,none⟩) H.low.2 _
 ·exact (hset _ H.ne).trans ((blk R0 (lt_of_block H.zero) (nS _ _ _ _ _ _ _ _ H.zero)).trans H.zero)
 ·simp only [World.setCell,Array.getElem?_modify,if_true,hR,Option.map_some]
  rfl
 ·rw [YO,← hu]
  exact keep h4 (by decide)
theorem kQ.Bq (H:kQ w x sv R0 R s q tr st out vO vS vT ks kt wr){y:aV}(hy:x[kt]?=some y){v':Value}(h4:w4.ownsRow w.heap.size 3 1 v' (kt+1) (kD x kt ++ [.int .i64 (y.took:Int)]))(g4:(wr.drew.alloc (.cells #[.int .i64 (y.took:Int)] 3)).grownBy w4 vT.ownBlock):w4.heap[R]?=some (kP s q tr vO vS vT st)∧Below w.heap.size w w4∧kQ w x sv R0 R s q tr st out vO vS v' ks (kt+1) (w4.setCell ⟨R,5,none⟩ v'):=by
 have yL:=H.below.size
 have lh:=g4.size
 simp at lh
 have nS:∀ b s q tr vO yM NB st,wr.heap[b]?=some (kP s q tr vO yM NB st)→vT.ownBlock≠some b:=fun b s q tr vO yM NB st hb e=>by
  obtain ⟨cur,hc⟩:=jC H.took e
  rw [hb] at hc
  simp at hc
 have blk:∀ b,b < wr.heap.size→vT.ownBlock≠some b→w4.heap[b]?=wr.heap[b]?:=fun b hb hn=>(g4.block b (by simp;omega) (fun e=>hn e.symm)).trans (Below.heap_alloc wr.drew _ _ hb)
 have hR:w4.heap[R]?=some (kP s q tr vO vS vT st):=(blk R (lt_of_block H.rep) (nS _ _ _ _ _ _ _ _ H.rep)).trans H.rep
 have hset:∀ b,b≠R→(w4.setCell ⟨R,5,none⟩ v').heap[b]?=w4.heap[b]?:=fun b hb=>Below.heap_setCell _ ⟨R,5,none⟩ _ _ hb
 have keep:∀ {e n:Nat} {v:Value} {xs:List Value},w4.ownsRow w.heap.size e 1 v n xs→e≠29→(w4.setCell ⟨R,5,none⟩ v').ownsRow w.heap.size e 1 v n xs:=fun h hne=>bW h (fun b hb=>hset b (fun e2=>by
  obtain ⟨cur,hc⟩:=jC h hb
  rw [e2,hR] at hc
  simp at hc
  exact hne hc.2.symm))
 refine ⟨hR,?_,?_,H.low,?_,H.ne,?_,keep (Bp H.out H.took (by decide) g4 rfl) (by decide),keep (Bp H.sent H.took (by decide) g4 rfl) (by decide),?_⟩
 ·exact (H.below.drew.alloc (by exact yL) _).grown g4 (by simp;omega) (fun b hb=>(H.took.lt b hb).1)
 ·exact (((H.below.drew.alloc (by exact yL) _).grown g4 (by simp;omega) (fun b hb=>(H.took.lt b hb).1))).setCell (p:=⟨R,5,none⟩) H.low.2 _
 ·exact (hset _ H.ne).trans ((blk R0 (lt_of_block H.zero) (nS _ _ _ _ _ _ _ _ H.zero)).trans H.zero)
 ·simp only [World.setCell,Array.getElem?_modify,if_true,hR,Option.map_some]
  rfl
 ·rw [YP hy]
  exact keep h4 (by decide)
end
abbrev yN (w:World) (b s q tr:Nat) (vO vS vT:Value) (st:Nat):World:=((((((w.setCell ⟨b,0,none⟩ (.int .i64 s)).setCell ⟨b,1,none⟩ (.int .i64 q)).setCell ⟨b,2,none⟩ (.int .i64 tr)).setCell ⟨b,3,none⟩ vO).setCell ⟨b,4,none⟩ vS).setCell ⟨b,5,none⟩ vT).setCell ⟨b,6,none⟩ (.int .i64 st)
theorem YQ {w:World}{b s q tr:Nat}{vO vS vT:Value}{st:Nat}(h:w.heap[b]?=some jV):(yN w b s q tr vO vS vT st).heap[b]?=some (kP s q tr vO vS vT st):=by
 simp only [World.setCell,Array.getElem?_modify,if_true,h,Option.map_some]
 rfl
theorem YR {w:World}{b s q tr:Nat}{vO vS vT:Value}{st:Nat}{b':Nat}(hn:b'≠b):(yN w b s q tr vO vS vT st).heap[b']?=w.heap[b']?:=by
 rw [Below.heap_setCell _ ⟨b,6,none⟩ _ _ hn,Below.heap_setCell _ ⟨b,5,none⟩ _ _ hn,Below.heap_setCell _ ⟨b,4,none⟩ _ _ hn,Below.heap_setCell _ ⟨b,3,none⟩ _ _ hn,Below.heap_setCell _ ⟨b,2,none⟩ _ _ hn,Below.heap_setCell _ ⟨b,1,none⟩ _ _ hn,Below.heap_setCell _ ⟨b,0,none⟩ _ _ hn]
theorem YS {w0 w:World}{B b s q tr:Nat}{vO vS vT:Value}{st:Nat}(h:Below B w0 w)(hB:B≤b):Below B w0 (yN w b s q tr vO vS vT st) :=
 ((((((h.setCell (p:=⟨b,0,none⟩) hB _).setCell (p:=⟨b,1,none⟩) hB _).setCell (p:=⟨b,2,none⟩) hB _).setCell (p:=⟨b,3,none⟩) hB _).setCell (p:=⟨b,4,none⟩) hB _).setCell (p:=⟨b,5,none⟩) hB _).setCell (p:=⟨b,6,none⟩) hB _
theorem FZ {w:World}{b s q tr:Nat}{vO vS vT:Value}{st:Nat}(h:w.heap[b]?=some jV){B e n:Nat}{v:Value}{xs:List Value}(ho:w.ownsRow B e 1 v n xs)(he:e≠29):(yN w b s q tr vO vS vT st).ownsRow B e 1 v n xs :=
 bW ho (fun k hk=>YR (fun e2=>by
  obtain ⟨cur,hc⟩:=jC ho hk
  rw [e2,h] at hc
  simp at hc
  exact he hc.2.symm))
abbrev iW (s q tr:Nat) (vO vS vT:Value) (st:Nat):Value:=.agg #[.int .i64 s,.int .i64 q,.int .i64 tr,vO,vS,vT,.int .i64 st]
theorem YT (Q:Nat→Nat)(nb rb off:Nat)(c:Cx)(vB ev:Value)(o T:Nat)(L:az)(P:Nat→Nat)(w:World)(t:Tk)(x:List aV)(vR vO:Value)(H:Hid (St (ni Q nb rb off) c vB ev o T L P w t x vR vO))(hX:Hid (lv (ni Q nb rb off) aD c vB))(hs:Hid (t.over=0→∃ f rs u i,lF c t f rs u i))(ho:t.out.length≤1000000)(va:Option Addr)(vc:Nat)(hvl:Hid (w.ownsRow 0 74 1 (.slice va nb vc) nb (ptrs Q nb)))(hnb:nb≤30)(hxl:x.length=nb)(steps:Nat)(sv:Nat→Value)(hsv:Hid (∀ (i:Nat) q,x[i]?=some q→∃ af cf,jP L w (Q i) i q af cf (sv i))) :
  Calls Tryz.prog 23 #[.pointer (some ⟨T,0,none⟩),.slice va nb vc,.int .i64 steps] w fun e w'=>∃ vO vS vT,e=.returned (iW (stat aD c.m t x).1 (stat aD c.m t x).2 t.trap vO vS vT steps)∧w'.ownsRow w.heap.size 2 1 vO t.out.length (ints t.out)∧w'.ownsRow w.heap.size 22 1 vS nb (nG sv nb)∧w'.ownsRow w.heap.size 3 1 vT nb (kD x nb)∧Below w.heap.size w w':=by
 obtain ⟨i0,hi,hz0,hz1,hz2⟩:=info_parts Tryz.YN
 obtain ⟨i1,hi1,hy0,hy1,hy2⟩:=info_parts Tryz.info3
 obtain ⟨s,hs1⟩:∃ s,s=(stat aD c.m t x).1:=⟨_,rfl⟩
 obtain ⟨q,hq1⟩:∃ s,s=(stat aD c.m t x).2:=⟨_,rfl⟩
 rw [← hs1,← hq1]
 have iI:=Sb.hide hs1
 have qM:=Sb.hide hq1
 have YU:=Sb.hide hxl
 clear hs1 hq1 hxl
 go_enter Tryz.func23,Tryz.ntmps23
 go_wp2_with fail
 have HB0:Hid (Below w.heap.size w (w.alloc jV)):=(Below.refl _ w).alloc (Nat.le_refl _) _
 have FV:Hid ((w.alloc jV).heap[w.heap.size]?=some jV):=heap_alloc_new w _
 have hzA:(w.alloc jV).heap.size=w.heap.size+1:=by simp
 generalize w.alloc jV=W0 at *
 refine (Yz (ni Q nb rb off) aD c vB ev o T L P _ t x vR vO (Sb.hide (H.out.below HB0.out)) hX hs ho).mono ?_
 rw [← iI.out,← qM.out]
 rintro e w1 ⟨v,rfl,hown1,hb1⟩
 obtain ⟨oa,oc,rfl⟩:=mE hown1
 have hzB:=hb1.size
 have HB1:Hid (Below w.heap.size w w1):=HB0.out.trans (hb1.mono (by omega))
 have HZ1:Hid (w1.heap[w.heap.size]?=some jV):=(hb1.block _ (by omega)).trans FV.out
 have Br:Hid (w1.ownsRow w.heap.size 2 1 (.slice oa t.out.length oc) t.out.length (ints t.out)):=qR hown1 (by omega)
 clear hown1 hb1
 have HST:Hid (kQ w x sv w.heap.size (w1.heap.size+1) s q t.trap steps t.out (.slice oa t.out.length oc) (.slice none 0 0) (.slice none 0 0) 0 0 ((w1.alloc (.cells #[.int .i64 s,.int .i64 q,.int .i64 t.trap,.slice oa t.out.length oc] 91)).alloc (kP s q t.trap (.slice oa t.out.length oc) (.slice none 0 0) (.slice none 0 0) steps))):=by
  have e1:(w1.alloc (.cells #[.int .i64 s,.int .i64 q,.int .i64 t.trap,.slice oa t.out.length oc] 91)).heap.size=w1.heap.size+1:=by simp
  have hbz:=HB1.out.size
  refine ⟨(HB1.out.alloc hbz _).alloc (by simp;omega) _,⟨Nat.le_refl _,by omega⟩,?_,by omega,?_,(Br.out.alloc _).alloc _,⟨rfl,.inl ⟨rfl,rfl⟩⟩,⟨rfl,.inl ⟨rfl,rfl⟩⟩⟩
  ·exact (Below.heap_alloc _ _ _ (by simp;omega)).trans ((Below.heap_alloc _ _ _ (by omega)).trans HZ1.out)
  ·rw [← e1];exact heap_alloc_new _ _
 go_wp2
 go_loopw [25] (fun v wr=>∃ k:Nat,v=.int .i64 k∧k≤nb∧∃ vS vT,kQ w x sv w.heap.size (w1.heap.size+1) s q t.trap steps t.out (.slice oa t.out.length oc) vS vT k k wr) (fun v _=>nb - (intOf v).toNat)
 case atStart=>exact ⟨0,rfl,Nat.zero_le _,_,_,HST.out⟩
 case round =>
  obtain ⟨k,rfl,hk,vS,vT,hA⟩:=hrel
  have HA:=Sb.hide hA
  have hbz:=hA.below.size
  have rc:=(eU hA.rep).1
  have rf:=(eU hA.rep).2
  obtain ⟨r0,r1,r2,r3,r4,r5,r6⟩:=rc
  clear hA HST
  obtain ⟨R,hR⟩:∃ R,R=w1.heap.size+1:=⟨_,rfl⟩
  have HR:=Sb.hide hR
  rw [← hR] at r0 r1 r2 r3 r4 r5 r6 rf HA ⊢
  clear hR
  by_cases hlt:k < nb
  ·obtain ⟨y,hy⟩:∃ y,x[k]?=some y:=⟨_,List.getElem?_eq_getElem (by have:=YU.out;omega)⟩
   obtain ⟨af,cf,hL⟩:=hsv.out k y hy
   obtain ⟨sa,sc,Bt⟩:=mE hL.sent
   have NC:=Sb.hide Bt
   have tq:=(HA.out.below.block _ (lt_of_block hL.blk)).trans hL.blk
   have hQz:Q k < wr.heap.size:=lt_of_block tq
   obtain ⟨l0,l1,l2,_⟩:=yg tq
   rw [Bt] at l2
   have HQR:Hid (Q k≠R):=fun e=>by
    have:=HA.out.rep
    rw [← e,tq] at this
    simp at this
   have HY:=Sb.hide hy
   obtain ⟨vg,hva,yO⟩:=yK hvl.out (Kg Q hlt)
   have YV:vg < w.heap.size:=World.block_lt_of_cell? w _ yO
   have v0:wr.cell? ⟨vg,k,none⟩=some (.pointer (some ⟨Q k,0,none⟩)):=(aS (HA.out.below.block vg YV) _).trans yO
   have HL:Hid (∀ W,Below w.heap.size w W→W.cell? ⟨Q k,1,none⟩=some (.int .i64 y.took)∧W.cell? ⟨Q k,2,none⟩=some (.slice sa y.sent.length sc)):=fun W hW=>by
    have hb:=(hW.block _ (lt_of_block hL.blk)).trans hL.blk
    obtain ⟨_,a1,a2,_⟩:=yg hb
    rw [Bt] at a2
    exact ⟨a1,a2⟩
   have n0:(0:Int)≤(k:Int):=by omega
   have n1:(k:Int) < (nb:Int):=by omega
   rw [hva]
   clear hva yO hy hL Bt tq l0 l1
   have HOWN:Hid ((wr.drew.alloc (.cells #[.slice sa y.sent.length sc] 22)).ownsRow w.heap.size 22 1 vS k (nG sv k)):=HA.out.sent.drew.alloc _
   go_wp2_with fail
   refine wp_region_held_drew (S:=fun w'=>w'.cell? ⟨Q k,2,none⟩=some (.slice sa y.sent.length sc)) (by kernel_rfl) (by exact l2) (fun hHeld=>?_)
   refine wpAnyH_take (i:=0) (oi:=_) (v:=?_) rfl (by kernel_rfl) (by kernel_rfl) (by kernel_rfl) (fun _ _ _ h=>h) (Or.inl ⟨by rfl,?_⟩) (by assumption) ?_
   rotate_left
   ·intro w hSw
    (try dsimp only at hSw)
    go_simp
    (try with_reducible rfl)
   (try simp only [Act.put])
   refine wpAnyH_take (i:=2) (oi:=_) (v:=?_) rfl (by kernel_rfl) (by kernel_rfl) (by kernel_rfl) (fun _ _ _ h=>h) (Or.inl ⟨by rfl,?_⟩) (by assumption) ?_
   rotate_left
   ·intro w hSw
    (try dsimp only at hSw)
    go_simp
    (try with_reducible rfl)
   (try simp only [Act.put])
   refine wpAnyH_take (i:=3) (oi:=_) (v:=?_) rfl (by kernel_rfl) (by kernel_rfl) (by kernel_rfl) (fun _ _ _ h=>h) (Or.inl ⟨by rfl,?_⟩) (by assumption) ?_
   rotate_left
   ·intro w hSw
    (try dsimp only at hSw)
    go_simp
    (try with_reducible rfl)
   (try simp only [Act.put])
   refine wpAnyH_take (i:=4) (oi:=_) (v:=?_) rfl (by kernel_rfl) (by kernel_rfl) (by kernel_rfl) (fun _ _ _ h=>h) (Or.inl ⟨by rfl,?_⟩) (by assumption) ?_
   rotate_left
   ·intro w hSw
    (try dsimp only at hSw)
    go_simp
    (try with_reducible rfl)
   (try simp only [Act.put])
   refine wpAnyH_take (i:=5) (oi:=_) (v:=?_) rfl (by kernel_rfl) (by kernel_rfl) (by kernel_rfl) (fun _ _ _ h=>h) (Or.inl ⟨by rfl,?_⟩) (by assumption) ?_
   rotate_left
   ·intro w hSw
    (try dsimp only at hSw)
    go_simp
    (try with_reducible rfl)
   (try simp only [Act.put])
   refine wpAnyH_ready (rs:=[1,6]) (by kernel_rfl) (by simp) ?_
   refine AllReadyH.cons (o:=_) rfl (fun K hK=>?_) ?_
   ·go_simp
    refine hK.out _ _ hHeld (fun hHeld=>?_)
    clear hK K
    refine wpAnyH_ready (rs:=[6]) (by kernel_rfl) (by simp) ?_
    refine AllReadyH.cons (o:=_) rfl (fun K hK=>?_) AllReadyH.nil
    go_simp
    refine hK.out _ _ (HL.out _ ((HA.out.below.drew).alloc (by exact HA.out.below.size) _)).2 (fun hHeld=>?_)
    clear hK K
    refine wpAnyH_ready (rs:=[7]) (by kernel_rfl) (by simp) ?_
    refine AllReadyH.cons (o:=_) rfl (fun K hK=>?_) AllReadyH.nil
    refine mW rfl (.tmp 30) (.tmp 35) 26 rfl w.heap.size 22 i0 (.slice none 0 0) 1 24 Tryz.underlying26 hi hz0 hz1 hz2 rfl (by decide) vS k (nG sv k) rfl HOWN.out ⟨wr.heap.size,0,none⟩ 1 1 [(.slice sa y.sent.length sc)] rfl rfl (jL wr.drew _ _) (jM rfl) (by decide) (by unfold maxLen;omega) (by omega) (by simp;omega) ?_
    intro g4 cap4 w4 bG hg4 _
    obtain ⟨bH,hb4,gq⟩:=HA.out.NA NC.out.symm bG hg4
    have jD:=Sb.hide gq
    have s4:=HL.out _ hb4
    have s5:=HL.out _ gq.below
    have q4:=(eU bH).1
    have f4:=(eU bH).2
    clear bG hg4 bH hb4 gq
    refine hK.out _ _ s4.2 (fun hHeld=>?_)
    clear hK K
    simp only [Act.put]
    refine wpAnyH_take (i:=8) (oi:=_) (v:=?_) rfl (by kernel_rfl) (by kernel_rfl) (by kernel_rfl) (fun _ _ _ h=>h) (Or.inl ⟨by rfl,?_⟩) (by assumption) ?_
    rotate_left
    ·intro w hSw
     (try dsimp only at hSw)
     go_simp
     (try with_reducible rfl)
    (try simp only [Act.put])
    refine wpAnyH_ready (rs:=[9]) (by kernel_rfl) (by simp) ?_
    refine AllReadyH.cons (o:=_) rfl (fun K hK=>?_) AllReadyH.nil
    go_simp
    refine hK.out _ _ s5.2 (fun hHeld=>?_)
    clear hK K hHeld q4 f4 s4
    refine wpAnyH_done (by kernel_rfl) ?_ _
    have dR:Hid (kQ w x sv w.heap.size R s q t.trap steps t.out (.slice oa t.out.length oc) (.slice (some ⟨g4,0,none⟩) (k+1) cap4) vT (k+1) k (w4.setCell ⟨R,4,none⟩ (.slice (some ⟨g4,0,none⟩) (k+1) cap4))):=jD.out
    have l5:=(HL.out _ dR.out.below).1
    have c5:=(eU dR.out.rep).1.2.2.2.2.2.1
    have yw:=dR.out.below.size
    clear jD s5
    generalize w4.setCell ⟨R,4,none⟩ (.slice (some ⟨g4,0,none⟩) (k+1) cap4)=w5 at *
    obtain ⟨g5,hg5⟩:∃ g,g=g4:=⟨_,rfl⟩
    obtain ⟨cap5,qh⟩:∃ g,g=cap4:=⟨_,rfl⟩
    rw [← hg5,← qh] at dR
    rw [← hg5,← qh]
    clear hg5 qh
    have yP:Hid ((w5.drew.alloc (.cells #[.int .i64 (y.took:Int)] 3)).ownsRow w.heap.size 3 1 vT k (kD x k)):=dR.out.took.drew.alloc _
    go_wp2_with fail
    refine wp_region_held_drew (S:=fun w'=>w'.cell? ⟨Q k,1,none⟩=some (.int .i64 y.took)) (by kernel_rfl) (by exact l5) (fun hHeld=>?_)
    refine wpAnyH_take (i:=0) (oi:=_) (v:=?_) rfl (by kernel_rfl) (by kernel_rfl) (by kernel_rfl) (fun _ _ _ h=>h) (Or.inl ⟨by rfl,?_⟩) (by assumption) ?_
    rotate_left
    ·intro w hSw
     (try dsimp only at hSw)
     go_simp
     (try with_reducible rfl)
    (try simp only [Act.put])
    refine wpAnyH_take (i:=2) (oi:=_) (v:=?_) rfl (by kernel_rfl) (by kernel_rfl) (by kernel_rfl) (fun _ _ _ h=>h) (Or.inl ⟨by rfl,?_⟩) (by assumption) ?_
    rotate_left
    ·intro w hSw
     (try dsimp only at hSw)
     go_simp
     (try with_reducible rfl)
    (try simp only [Act.put])
    refine wpAnyH_take (i:=3) (oi:=_) (v:=?_) rfl (by kernel_rfl) (by kernel_rfl) (by kernel_rfl) (fun _ _ _ h=>h) (Or.inl ⟨by rfl,?_⟩) (by assumption) ?_
    rotate_left
    ·intro w hSw
     (try dsimp only at hSw)
     go_simp
     (try with_reducible rfl)
    (try simp only [Act.put])
    refine wpAnyH_take (i:=4) (oi:=_) (v:=?_) rfl (by kernel_rfl) (by kernel_rfl) (by kernel_rfl) (fun _ _ _ h=>h) (Or.inl ⟨by rfl,?_⟩) (by assumption) ?_
    rotate_left
    ·intro w hSw
     (try dsimp only at hSw)
     go_simp
     (try with_reducible rfl)
    (try simp only [Act.put])
    refine wpAnyH_take (i:=5) (oi:=_) (v:=?_) rfl (by kernel_rfl) (by kernel_rfl) (by kernel_rfl) (fun _ _ _ h=>h) (Or.inl ⟨by rfl,?_⟩) (by assumption) ?_
    rotate_left
    ·intro w hSw
     (try dsimp only at hSw)
     go_simp
     (try with_reducible rfl)
    (try simp only [Act.put])
    refine wpAnyH_ready (rs:=[1,6]) (by kernel_rfl) (by simp) ?_
    refine AllReadyH.cons (o:=_) rfl (fun K hK=>?_) ?_
    ·go_simp
     refine hK.out _ _ hHeld (fun hHeld=>?_)
     clear hK K
     refine wpAnyH_ready (rs:=[6]) (by kernel_rfl) (by simp) ?_
     refine AllReadyH.cons (o:=_) rfl (fun K hK=>?_) AllReadyH.nil
     go_simp
     refine hK.out _ _ (HL.out _ ((dR.out.below.drew).alloc (by exact dR.out.below.size) _)).1 (fun hHeld=>?_)
     clear hK K
     refine wpAnyH_ready (rs:=[7]) (by kernel_rfl) (by simp) ?_
     refine AllReadyH.cons (o:=_) rfl (fun K hK=>?_) AllReadyH.nil
     refine mW rfl (.tmp 39) (.tmp 44) 27 rfl w.heap.size 3 i1 (.int .i64 0) 1 8 Tryz.underlying27 hi1 hy0 hy1 hy2 rfl (by decide) vT k (kD x k) rfl yP.out ⟨w5.heap.size,0,none⟩ 1 1 [(.int .i64 (y.took:Int))] rfl rfl (jL w5.drew _ _) (jM rfl) (by decide) (by unfold maxLen;omega) (by omega) (by simp;omega) ?_
     intro g4 cap4 w4 bG hg4 _
     obtain ⟨bH,hb4,gq⟩:=dR.out.Bq HY.out bG hg4
     have jD:=Sb.hide gq
     have s4:=HL.out _ hb4
     have s5:=HL.out _ gq.below
     have q4:=(eU bH).1
     have f4:=(eU bH).2
     clear bG hg4 bH hb4 gq
     refine hK.out _ _ s4.1 (fun hHeld=>?_)
     clear hK K
     simp only [Act.put]
     refine wpAnyH_take (i:=8) (oi:=_) (v:=?_) rfl (by kernel_rfl) (by kernel_rfl) (by kernel_rfl) (fun _ _ _ h=>h) (Or.inl ⟨by rfl,?_⟩) (by assumption) ?_
     rotate_left
     ·intro w hSw
      (try dsimp only at hSw)
      go_simp
      (try with_reducible rfl)
     (try simp only [Act.put])
     refine wpAnyH_ready (rs:=[9]) (by kernel_rfl) (by simp) ?_
     refine AllReadyH.cons (o:=_) rfl (fun K hK=>?_) AllReadyH.nil
     go_simp
     refine hK.out _ _ s5.1 (fun hHeld=>?_)
     clear hK K hHeld q4 f4 s4
     refine wpAnyH_done (by kernel_rfl) ?_ _
     have dI:Hid (kQ w x sv w.heap.size R s q t.trap steps t.out (.slice oa t.out.length oc) (.slice (some ⟨g5,0,none⟩) (k+1) cap5) (.slice (some ⟨g4,0,none⟩) (k+1) cap4) (k+1) (k+1) (w4.setCell ⟨R,5,none⟩ (.slice (some ⟨g4,0,none⟩) (k+1) cap4))):=jD.out
     clear jD dR s5
     go_wp2
     go_roundw
     case rel=>exact ⟨k+1,by go_num,by omega,_,_,dI.out⟩
     case measure=>simp [intOf];omega
    ·skip
     refine AllReadyH.cons (o:=_) rfl (fun K hK=>?_) AllReadyH.nil
     go_simp
     refine hK.out _ _ (HL.out _ ((dR.out.below.drew).alloc (by exact dR.out.below.size) _)).1 (fun hHeld=>?_)
     clear hK K
     have YW:(w5.alloc (.cells #[.int .i64 (y.took:Int)] 3)).drew.cell? ⟨R,5,none⟩=some vT:=(aS (Below.heap_alloc w5 (.cells #[.int .i64 (y.took:Int)] 3) _ (lt_of_block dR.out.rep)) _).trans c5
     refine wpAnyH_ready (rs:=[1]) (by kernel_rfl) (by simp) ?_
     refine AllReadyH.cons (o:=_) rfl (fun K hK=>?_) AllReadyH.nil
     go_simp
     refine hK.out _ _ hHeld (fun hHeld=>?_)
     clear hK K
     refine wpAnyH_ready (rs:=[7]) (by kernel_rfl) (by simp) ?_
     refine AllReadyH.cons (o:=_) rfl (fun K hK=>?_) AllReadyH.nil
     refine mW rfl (.tmp 39) (.tmp 44) 27 rfl w.heap.size 3 i1 (.int .i64 0) 1 8 Tryz.underlying27 hi1 hy0 hy1 hy2 rfl (by decide) vT k (kD x k) rfl yP.out ⟨w5.heap.size,0,none⟩ 1 1 [(.int .i64 (y.took:Int))] rfl rfl (jL w5.drew _ _) (jM rfl) (by decide) (by unfold maxLen;omega) (by omega) (by simp;omega) ?_
     intro g4 cap4 w4 bG hg4 _
     obtain ⟨bH,hb4,gq⟩:=dR.out.Bq HY.out bG hg4
     have jD:=Sb.hide gq
     have s4:=HL.out _ hb4
     have s5:=HL.out _ gq.below
     have q4:=(eU bH).1
     have f4:=(eU bH).2
     clear bG hg4 bH hb4 gq
     refine hK.out _ _ s4.1 (fun hHeld=>?_)
     clear hK K
     simp only [Act.put]
     refine wpAnyH_take (i:=8) (oi:=_) (v:=?_) rfl (by kernel_rfl) (by kernel_rfl) (by kernel_rfl) (fun _ _ _ h=>h) (Or.inl ⟨by rfl,?_⟩) (by assumption) ?_
     rotate_left
     ·intro w hSw
      (try dsimp only at hSw)
      go_simp
      (try with_reducible rfl)
     (try simp only [Act.put])
     refine wpAnyH_ready (rs:=[9]) (by kernel_rfl) (by simp) ?_
     refine AllReadyH.cons (o:=_) rfl (fun K hK=>?_) AllReadyH.nil
     go_simp
     refine hK.out _ _ s5.1 (fun hHeld=>?_)
     clear hK K hHeld q4 f4 s4
     refine wpAnyH_done (by kernel_rfl) ?_ _
     have dI:Hid (kQ w x sv w.heap.size R s q t.trap steps t.out (.slice oa t.out.length oc) (.slice (some ⟨g5,0,none⟩) (k+1) cap5) (.slice (some ⟨g4,0,none⟩) (k+1) cap4) (k+1) (k+1) (w4.setCell ⟨R,5,none⟩ (.slice (some ⟨g4,0,none⟩) (k+1) cap4))):=jD.out
     clear jD dR s5
     go_wp2
     go_roundw
     case rel=>exact ⟨k+1,by go_num,by omega,_,_,dI.out⟩
     case measure=>simp [intOf];omega
   ·skip
    refine AllReadyH.cons (o:=_) rfl (fun K hK=>?_) AllReadyH.nil
    go_simp
    refine hK.out _ _ (HL.out _ ((HA.out.below.drew).alloc (by exact HA.out.below.size) _)).2 (fun hHeld=>?_)
    clear hK K
    have r4b:(wr.alloc (.cells #[.slice sa y.sent.length sc] 22)).drew.cell? ⟨R,4,none⟩=some vS:=(aS (Below.heap_alloc wr (.cells #[.slice sa y.sent.length sc] 22) _ (lt_of_block HA.out.rep)) _).trans r4
    refine wpAnyH_ready (rs:=[1]) (by kernel_rfl) (by simp) ?_
    refine AllReadyH.cons (o:=_) rfl (fun K hK=>?_) AllReadyH.nil
    go_simp
    refine hK.out _ _ hHeld (fun hHeld=>?_)
    clear hK K
    refine wpAnyH_ready (rs:=[7]) (by kernel_rfl) (by simp) ?_
    refine AllReadyH.cons (o:=_) rfl (fun K hK=>?_) AllReadyH.nil
    refine mW rfl (.tmp 30) (.tmp 35) 26 rfl w.heap.size 22 i0 (.slice none 0 0) 1 24 Tryz.underlying26 hi hz0 hz1 hz2 rfl (by decide) vS k (nG sv k) rfl HOWN.out ⟨wr.heap.size,0,none⟩ 1 1 [(.slice sa y.sent.length sc)] rfl rfl (jL wr.drew _ _) (jM rfl) (by decide) (by unfold maxLen;omega) (by omega) (by simp;omega) ?_
    intro g4 cap4 w4 bG hg4 _
    obtain ⟨bH,hb4,gq⟩:=HA.out.NA NC.out.symm bG hg4
    have jD:=Sb.hide gq
    have s4:=HL.out _ hb4
    have s5:=HL.out _ gq.below
    have q4:=(eU bH).1
    have f4:=(eU bH).2
    clear bG hg4 bH hb4 gq
    refine hK.out _ _ s4.2 (fun hHeld=>?_)
    clear hK K
    simp only [Act.put]
    refine wpAnyH_take (i:=8) (oi:=_) (v:=?_) rfl (by kernel_rfl) (by kernel_rfl) (by kernel_rfl) (fun _ _ _ h=>h) (Or.inl ⟨by rfl,?_⟩) (by assumption) ?_
    rotate_left
    ·intro w hSw
     (try dsimp only at hSw)
     go_simp
     (try with_reducible rfl)
    (try simp only [Act.put])
    refine wpAnyH_ready (rs:=[9]) (by kernel_rfl) (by simp) ?_
    refine AllReadyH.cons (o:=_) rfl (fun K hK=>?_) AllReadyH.nil
    go_simp
    refine hK.out _ _ s5.2 (fun hHeld=>?_)
    clear hK K hHeld q4 f4 s4
    refine wpAnyH_done (by kernel_rfl) ?_ _
    have dR:Hid (kQ w x sv w.heap.size R s q t.trap steps t.out (.slice oa t.out.length oc) (.slice (some ⟨g4,0,none⟩) (k+1) cap4) vT (k+1) k (w4.setCell ⟨R,4,none⟩ (.slice (some ⟨g4,0,none⟩) (k+1) cap4))):=jD.out
    have l5:=(HL.out _ dR.out.below).1
    have c5:=(eU dR.out.rep).1.2.2.2.2.2.1
    have yw:=dR.out.below.size
    clear jD s5
    generalize w4.setCell ⟨R,4,none⟩ (.slice (some ⟨g4,0,none⟩) (k+1) cap4)=w5 at *
    obtain ⟨g5,hg5⟩:∃ g,g=g4:=⟨_,rfl⟩
    obtain ⟨cap5,qh⟩:∃ g,g=cap4:=⟨_,rfl⟩
    rw [← hg5,← qh] at dR
    rw [← hg5,← qh]
    clear hg5 qh
    have yP:Hid ((w5.drew.alloc (.cells #[.int .i64 (y.took:Int)] 3)).ownsRow w.heap.size 3 1 vT k (kD x k)):=dR.out.took.drew.alloc _
    go_wp2_with fail
    refine wp_region_held_drew (S:=fun w'=>w'.cell? ⟨Q k,1,none⟩=some (.int .i64 y.took)) (by kernel_rfl) (by exact l5) (fun hHeld=>?_)
    refine wpAnyH_take (i:=0) (oi:=_) (v:=?_) rfl (by kernel_rfl) (by kernel_rfl) (by kernel_rfl) (fun _ _ _ h=>h) (Or.inl ⟨by rfl,?_⟩) (by assumption) ?_
    rotate_left
    ·intro w hSw
     (try dsimp only at hSw)
     go_simp
     (try with_reducible rfl)
    (try simp only [Act.put])
    refine wpAnyH_take (i:=2) (oi:=_) (v:=?_) rfl (by kernel_rfl) (by kernel_rfl) (by kernel_rfl) (fun _ _ _ h=>h) (Or.inl ⟨by rfl,?_⟩) (by assumption) ?_
    rotate_left
    ·intro w hSw
     (try dsimp only at hSw)
     go_simp
     (try with_reducible rfl)
    (try simp only [Act.put])
    refine wpAnyH_take (i:=3) (oi:=_) (v:=?_) rfl (by kernel_rfl) (by kernel_rfl) (by kernel_rfl) (fun _ _ _ h=>h) (Or.inl ⟨by rfl,?_⟩) (by assumption) ?_
    rotate_left
    ·intro w hSw
     (try dsimp only at hSw)
     go_simp
     (try with_reducible rfl)
    (try simp only [Act.put])
    refine wpAnyH_take (i:=4) (oi:=_) (v:=?_) rfl (by kernel_rfl) (by kernel_rfl) (by kernel_rfl) (fun _ _ _ h=>h) (Or.inl ⟨by rfl,?_⟩) (by assumption) ?_
    rotate_left
    ·intro w hSw
     (try dsimp only at hSw)
     go_simp
     (try with_reducible rfl)
    (try simp only [Act.put])
    refine wpAnyH_take (i:=5) (oi:=_) (v:=?_) rfl (by kernel_rfl) (by kernel_rfl) (by kernel_rfl) (fun _ _ _ h=>h) (Or.inl ⟨by rfl,?_⟩) (by assumption) ?_
    rotate_left
    ·intro w hSw
     (try dsimp only at hSw)
     go_simp
     (try with_reducible rfl)
    (try simp only [Act.put])
    refine wpAnyH_ready (rs:=[1,6]) (by kernel_rfl) (by simp) ?_
    refine AllReadyH.cons (o:=_) rfl (fun K hK=>?_) ?_
    ·go_simp
     refine hK.out _ _ hHeld (fun hHeld=>?_)
     clear hK K
     refine wpAnyH_ready (rs:=[6]) (by kernel_rfl) (by simp) ?_
     refine AllReadyH.cons (o:=_) rfl (fun K hK=>?_) AllReadyH.nil
     go_simp
     refine hK.out _ _ (HL.out _ ((dR.out.below.drew).alloc (by exact dR.out.below.size) _)).1 (fun hHeld=>?_)
     clear hK K
     refine wpAnyH_ready (rs:=[7]) (by kernel_rfl) (by simp) ?_
     refine AllReadyH.cons (o:=_) rfl (fun K hK=>?_) AllReadyH.nil
     refine mW rfl (.tmp 39) (.tmp 44) 27 rfl w.heap.size 3 i1 (.int .i64 0) 1 8 Tryz.underlying27 hi1 hy0 hy1 hy2 rfl (by decide) vT k (kD x k) rfl yP.out ⟨w5.heap.size,0,none⟩ 1 1 [(.int .i64 (y.took:Int))] rfl rfl (jL w5.drew _ _) (jM rfl) (by decide) (by unfold maxLen;omega) (by omega) (by simp;omega) ?_
     intro g4 cap4 w4 bG hg4 _
     obtain ⟨bH,hb4,gq⟩:=dR.out.Bq HY.out bG hg4
     have jD:=Sb.hide gq
     have s4:=HL.out _ hb4
     have s5:=HL.out _ gq.below
     have q4:=(eU bH).1
     have f4:=(eU bH).2
     clear bG hg4 bH hb4 gq
     refine hK.out _ _ s4.1 (fun hHeld=>?_)
     clear hK K
     simp only [Act.put]
     refine wpAnyH_take (i:=8) (oi:=_) (v:=?_) rfl (by kernel_rfl) (by kernel_rfl) (by kernel_rfl) (fun _ _ _ h=>h) (Or.inl ⟨by rfl,?_⟩) (by assumption) ?_
     rotate_left
     ·intro w hSw
      (try dsimp only at hSw)
      go_simp
      (try with_reducible rfl)
     (try simp only [Act.put])
     refine wpAnyH_ready (rs:=[9]) (by kernel_rfl) (by simp) ?_
     refine AllReadyH.cons (o:=_) rfl (fun K hK=>?_) AllReadyH.nil
     go_simp
     refine hK.out _ _ s5.1 (fun hHeld=>?_)
     clear hK K hHeld q4 f4 s4
     refine wpAnyH_done (by kernel_rfl) ?_ _
     have dI:Hid (kQ w x sv w.heap.size R s q t.trap steps t.out (.slice oa t.out.length oc) (.slice (some ⟨g5,0,none⟩) (k+1) cap5) (.slice (some ⟨g4,0,none⟩) (k+1) cap4) (k+1) (k+1) (w4.setCell ⟨R,5,none⟩ (.slice (some ⟨g4,0,none⟩) (k+1) cap4))):=jD.out
     clear jD dR s5
     go_wp2
     go_roundw
     case rel=>exact ⟨k+1,by go_num,by omega,_,_,dI.out⟩
     case measure=>simp [intOf];omega
    ·skip
     refine AllReadyH.cons (o:=_) rfl (fun K hK=>?_) AllReadyH.nil
     go_simp
     refine hK.out _ _ (HL.out _ ((dR.out.below.drew).alloc (by exact dR.out.below.size) _)).1 (fun hHeld=>?_)
     clear hK K
     have YW:(w5.alloc (.cells #[.int .i64 (y.took:Int)] 3)).drew.cell? ⟨R,5,none⟩=some vT:=(aS (Below.heap_alloc w5 (.cells #[.int .i64 (y.took:Int)] 3) _ (lt_of_block dR.out.rep)) _).trans c5
     refine wpAnyH_ready (rs:=[1]) (by kernel_rfl) (by simp) ?_
     refine AllReadyH.cons (o:=_) rfl (fun K hK=>?_) AllReadyH.nil
     go_simp
     refine hK.out _ _ hHeld (fun hHeld=>?_)
     clear hK K
     refine wpAnyH_ready (rs:=[7]) (by kernel_rfl) (by simp) ?_
     refine AllReadyH.cons (o:=_) rfl (fun K hK=>?_) AllReadyH.nil
     refine mW rfl (.tmp 39) (.tmp 44) 27 rfl w.heap.size 3 i1 (.int .i64 0) 1 8 Tryz.underlying27 hi1 hy0 hy1 hy2 rfl (by decide) vT k (kD x k) rfl yP.out ⟨w5.heap.size,0,none⟩ 1 1 [(.int .i64 (y.took:Int))] rfl rfl (jL w5.drew _ _) (jM rfl) (by decide) (by unfold maxLen;omega) (by omega) (by simp;omega) ?_
     intro g4 cap4 w4 bG hg4 _
     obtain ⟨bH,hb4,gq⟩:=dR.out.Bq HY.out bG hg4
     have jD:=Sb.hide gq
     have s4:=HL.out _ hb4
     have s5:=HL.out _ gq.below
     have q4:=(eU bH).1
     have f4:=(eU bH).2
     clear bG hg4 bH hb4 gq
     refine hK.out _ _ s4.1 (fun hHeld=>?_)
     clear hK K
     simp only [Act.put]
     refine wpAnyH_take (i:=8) (oi:=_) (v:=?_) rfl (by kernel_rfl) (by kernel_rfl) (by kernel_rfl) (fun _ _ _ h=>h) (Or.inl ⟨by rfl,?_⟩) (by assumption) ?_
     rotate_left
     ·intro w hSw
      (try dsimp only at hSw)
      go_simp
      (try with_reducible rfl)
     (try simp only [Act.put])
     refine wpAnyH_ready (rs:=[9]) (by kernel_rfl) (by simp) ?_
     refine AllReadyH.cons (o:=_) rfl (fun K hK=>?_) AllReadyH.nil
     go_simp
     refine hK.out _ _ s5.1 (fun hHeld=>?_)
     clear hK K hHeld q4 f4 s4
     refine wpAnyH_done (by kernel_rfl) ?_ _
     have dI:Hid (kQ w x sv w.heap.size R s q t.trap steps t.out (.slice oa t.out.length oc) (.slice (some ⟨g5,0,none⟩) (k+1) cap5) (.slice (some ⟨g4,0,none⟩) (k+1) cap4) (k+1) (k+1) (w4.setCell ⟨R,5,none⟩ (.slice (some ⟨g4,0,none⟩) (k+1) cap4))):=jD.out
     clear jD dR s5
     go_wp2
     go_roundw
     case rel=>exact ⟨k+1,by go_num,by omega,_,_,dI.out⟩
     case measure=>simp [intOf];omega
  ·have n1:¬ (k:Int) < (nb:Int):=by omega
   have ek:k=nb:=by omega
   subst ek
   have z:=(eU HA.out.zero).1
   have zf:=(eU HA.out.zero).2
   obtain ⟨z0,z1,z2,z3,z4,z5,z6⟩:=z
   have HNE:Hid (w.heap.size≠R):=HA.out.ne
   obtain ⟨sa,sc,YX⟩:=mE HA.out.sent
   obtain ⟨ta,tc,YY⟩:=mE HA.out.took
   subst YX YY
   go_wp2
   have hX:=YQ (s:=s) (q:=q) (tr:=t.trap) (vO:=.slice oa t.out.length oc) (vS:=.slice sa k sc) (vT:=.slice ta k tc) (st:=steps) HA.out.zero
   refine bodyPost_ret (v:=iW s q t.trap (.slice oa t.out.length oc) (.slice sa k sc) (.slice ta k tc) steps) ?_ rfl ⟨_,_,_,rfl,FZ HA.out.zero HA.out.out (by decide),FZ HA.out.zero HA.out.sent (by decide),FZ HA.out.zero HA.out.took (by decide),YS HA.out.below (Nat.le_refl _)⟩
   unfold yN at hX
   generalize ((((((wr.setCell ⟨w.heap.size,0,none⟩ (.int .i64 s)).setCell ⟨w.heap.size,1,none⟩ (.int .i64 q)).setCell ⟨w.heap.size,2,none⟩ (.int .i64 t.trap)).setCell ⟨w.heap.size,3,none⟩ (.slice oa t.out.length oc)).setCell ⟨w.heap.size,4,none⟩ (.slice sa k sc)).setCell ⟨w.heap.size,5,none⟩ (.slice ta k tc)).setCell ⟨w.heap.size,6,none⟩ (.int .i64 steps)=W4 at *
   obtain ⟨g0,g1,g2,g3,g4,g5,g6⟩:=(eU hX).1
   simp [results,Tryz.results23,go_sem,g0,g1,g2,g3,g4,g5,g6]
end Go.Proofs.YthffafaoobpedaaGreatDoor.Vw
