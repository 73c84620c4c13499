/- The walk of feed: lists out of feeds. -/
import Derived.Test.YthffafaoobpedabGreatDoorM29
set_option maxRecDepth 100000
set_option maxHeartbeats 2000000
namespace Go.Proofs.YthffafaoobpedabGreatDoor.Vw
open Go.RowKit Vf Vm
theorem Tryz.info74:(Tryz.prog.info? 74).map (fun i=>(i.zero,i.size,i.bytes))=some (some (.pointer none),1,8):=by kernel_rfl
theorem Tryz.info195:(Tryz.prog.info? 195).map (fun i=>(i.zero,i.size,i.bytes))=some (some .nilIface,1,16):=by kernel_rfl
def ifcs (Q:Nat→Nat)(n:Nat):List Value:=(List.range n).map fun i=>.iface 74 (.pointer (some ⟨Q i,0,none⟩))
theorem ifcs_at (Q:Nat→Nat){n i:Nat}(h:i < n):(ifcs Q n)[i]?=some (.iface 74 (.pointer (some ⟨Q i,0,none⟩))):=by simp [ifcs,h]
theorem ifcs_succ (Q:Nat→Nat)(n:Nat):ifcs Q (n+1)=ifcs Q n ++ [.iface 74 (.pointer (some ⟨Q n,0,none⟩))]:=by simp [ifcs,List.range_succ]
theorem ptrs_succ (Q:Nat→Nat)(n:Nat):ptrs Q (n+1)=ptrs Q n ++ [.pointer (some ⟨Q n,0,none⟩)]:=by simp [ptrs,List.range_succ]
theorem ifcs_eq {Q Q':Nat→Nat}{n:Nat}(h:∀ i,i < n→Q i=Q' i):ifcs Q n=ifcs Q' n:=List.map_congr_left (fun i hi=>by rw [h i (by simpa using hi)])
theorem ptrs_eq {Q Q':Nat→Nat}{n:Nat}(h:∀ i,i < n→Q i=Q' i):ptrs Q n=ptrs Q' n:=List.map_congr_left (fun i hi=>by rw [h i (by simpa using hi)])
structure FeAt (w:World) (fs:List (List Int)) (fa:Nat→Option Addr) (fc:Nat→Nat) (k:Nat) (vl vb:Value) (Q:Nat→Nat) (wr:World):Prop where
 le:k≤fs.length
 below:Below w.heap.size w wr
 ptr:wr.ownsRow w.heap.size 74 1 vl k (ptrs Q k)
 ifc:wr.ownsRow w.heap.size 195 1 vb k (ifcs Q k)
 blk:∀ (i:Nat) f,i < k→fs[i]?=some f→wr.heap[Q i]?=some (lsO (fa i) f.length (fc i) 0 (.slice none 0 0))
 low:∀ i,i < k→w.heap.size≤Q i
 inj:∀ i j,i < j→j < k→Q i < Q j
theorem FeAt.more {w wr:World}{fs:List (List Int)}{fa:Nat→Option Addr}{fc:Nat→Nat}{k:Nat}{vl vb:Value}{Q:Nat→Nat}(h:FeAt w fs fa fc k vl vb Q wr){f:List Int}(hf:fs[k]?=some f){w3 w5:World}{vl' vb':Value}
  (h3:w3.ownsRow w.heap.size 74 1 vl' (k+1) (ptrs Q k ++ [.pointer (some ⟨wr.heap.size,0,none⟩)])) (g3:((wr.alloc (lsO (fa k) f.length (fc k) 0 (.slice none 0 0))).alloc (.cells #[.pointer (some ⟨wr.heap.size,0,none⟩)] 74)).grownBy w3 vl.ownBlock)
  (h5:w5.ownsRow w.heap.size 195 1 vb' (k+1) (ifcs Q k ++ [.iface 74 (.pointer (some ⟨wr.heap.size,0,none⟩))])) (g5:(w3.alloc (.cells #[.iface 74 (.pointer (some ⟨wr.heap.size,0,none⟩))] 195)).grownBy w5 vb.ownBlock) :
  FeAt w fs fa fc (k+1) vl' vb' (fun i=>if i=k then wr.heap.size else Q i) w5:=by
 have hz3:=g3.size
 have hz5:=g5.size
 simp at hz3 hz5
 have hbz:=h.below.size
 have hQ:∀ i,i < k→(if i=k then wr.heap.size else Q i)=Q i:=fun i hi=>if_neg (by omega)
 -- blocks of other types stay
 have stay3:∀ b,b < wr.heap.size+1→vl.ownBlock≠some b→w3.heap[b]?=(wr.alloc (lsO (fa k) f.length (fc k) 0 (.slice none 0 0))).heap[b]?:=fun b hb hne=>(g3.block b (by simp;omega) (fun e=>hne e.symm)).trans (Below.heap_alloc _ _ _ (by simp;omega))
 have stay5:∀ b,b < w3.heap.size→vb.ownBlock≠some b→w5.heap[b]?=w3.heap[b]?:=fun b hb hne=>(g5.block b (by simp;omega) (fun e=>hne e.symm)).trans (Below.heap_alloc _ _ _ hb)
 have lsy:∀ (b:Nat) (o:Obj),wr.heap[b]?=some o→(∀ cur,o≠.cells cur 74 (0,0))→vl.ownBlock≠some b:=fun b o hb hn e=>by
  obtain ⟨cur,hc⟩:=own_ty h.ptr e
  rw [hb] at hc
  exact hn cur (Option.some.inj hc)
 have new3:w3.heap[wr.heap.size]?=some (lsO (fa k) f.length (fc k) 0 (.slice none 0 0)):=(stay3 _ (by omega) (fun e=>by have:=(h.ptr.lt _ e).2;omega)).trans (heap_alloc_new wr _)
 have old3:∀ b,b < wr.heap.size→vl.ownBlock≠some b→w3.heap[b]?=wr.heap[b]?:=fun b hb hne=>(stay3 b (by omega) hne).trans (Below.heap_alloc _ _ _ hb)
 have vbn:∀ b,vb.ownBlock=some b→b < wr.heap.size:=fun b e=>(h.ifc.lt b e).2
 have keepL:∀ (b:Nat) af m cf vS,w3.heap[b]?=some (lsO af m cf 0 vS)→b < wr.heap.size+1→vb.ownBlock≠some b:=fun b af m cf vS hb _ e=>by
  obtain ⟨cur,hc⟩:=own_ty h.ifc e
  have hne:vl.ownBlock≠some b:=fun e2=>by
   obtain ⟨cur2,hc2⟩:=own_ty h.ptr e2
   rw [hc] at hc2
   simp at hc2
  rw [old3 b (vbn b e) hne,hc] at hb
  simp at hb
 refine ⟨(List.getElem?_eq_some_iff.1 hf).1,?_,?_,?_,fun i f' hi hf'=>?_,fun i hi=>?_,fun i j hij hj=>?_⟩
 ·have b1:Below w.heap.size w ((wr.alloc (lsO (fa k) f.length (fc k) 0 (.slice none 0 0))).alloc (.cells #[.pointer (some ⟨wr.heap.size,0,none⟩)] 74)):=(h.below.alloc hbz _).alloc (by simp;omega) _
  have b3:Below w.heap.size w w3:=b1.grown g3 (by simp;omega) (fun b hb=>(h.ptr.lt b hb).1)
  exact (b3.alloc (by omega) _).grown g5 (by simp;omega) (fun b hb=>(h.ifc.lt b hb).1)
 ·rw [ptrs_succ,ptrs_eq hQ,if_pos rfl]
  refine own_keep h3 (fun b hb=>stay5 b (h3.lt b hb).2 (fun e=>?_))
  obtain ⟨cur,hc⟩:=own_ty h3 hb
  obtain ⟨cur2,hc2⟩:=own_ty h.ifc e
  have hne:vl.ownBlock≠some b:=fun e2=>by
   obtain ⟨cur3,hc3⟩:=own_ty h.ptr e2
   rw [hc2] at hc3
   simp at hc3
  rw [old3 b (vbn b e) hne,hc2] at hc
  simp at hc
 ·rw [ifcs_succ,ifcs_eq hQ,if_pos rfl]
  exact h5
 ·by_cases e:i=k
  ·subst e
   rw [hf] at hf'
   cases hf'
   simp only [if_true]
   exact (stay5 _ (by omega) (keepL _ _ _ _ _ new3 (by omega))).trans new3
  ·simp only [if_neg e]
   have hb:=h.blk i f' (by omega) hf'
   have hlt:=lt_of_block hb
   have hb3:=(old3 _ hlt (lsy _ _ hb (fun cur e2=>by simp at e2))).trans hb
   exact (stay5 _ (by omega) (keepL _ _ _ _ _ hb3 (by omega))).trans hb3
 ·show _≤if i=k then _ else _
  split
  ·exact hbz
  ·exact h.low i (by omega)
 ·show (if i=k then _ else _) < (if j=k then _ else _)
  rw [if_neg (by omega)]
  split
  ·obtain ⟨f',hf'⟩:∃ f',fs[i]?=some f':=⟨_,List.getElem?_eq_getElem (by have:=h.le;omega)⟩
   exact lt_of_block (h.blk i f' (by omega) hf')
  ·exact h.inj i j hij (by omega)
theorem feed_any (B:Nat)(fs:List (List Int))(a:Option Addr)(cap:Nat)(fa:Nat→Option Addr)(fc:Nat→Nat)(w:World)(hfd:Hid (FdIn B w fs a fa fc))(hB:B≤w.heap.size)(hfew:fs.length≤30) :
  Calls Tryz.prog 16 #[.slice a fs.length cap] w fun e w'=>∃ vl vb Q,e=.returned (.tuple #[vl,vb])∧FeAt w fs fa fc fs.length vl vb Q w':=by
 obtain ⟨i0,hi,hz0,hz1,hz2⟩:=info_parts Tryz.info74
 obtain ⟨i1,hi1,hy0,hy1,hy2⟩:=info_parts Tryz.info195
 have HST:Hid (FeAt w fs fa fc 0 (.slice none 0 0) (.slice none 0 0) (fun _=>0) w):=⟨Nat.zero_le _,.refl _ _,⟨rfl,.inl ⟨rfl,rfl⟩⟩,⟨rfl,.inl ⟨rfl,rfl⟩⟩,fun i f hi=>by omega,fun i hi=>by omega,fun i j _ hj=>by omega⟩
 go_enter Tryz.func16,Tryz.ntmps16
 go_wp2
 go_loopw [4,5,11] (fun vl vb v wr=>∃ k:Nat,v=.int .i64 k∧∃ Q,FeAt w fs fa fc k vl vb Q wr) (fun _ _ v _=>fs.length - (intOf v).toNat)
 case atStart=>exact ⟨0,rfl,_,HST.out⟩
 case round =>
  obtain ⟨k,rfl,Q,hA⟩:=hrel
  have HA:=Sb.hide hA
  have hbz:=hA.below.size
  have hk:=hA.le
  clear hA HST
  by_cases hlt:k < fs.length
  ·obtain ⟨f,hf⟩:∃ f,fs[k]?=some f:=⟨_,List.getElem?_eq_getElem hlt⟩
   obtain ⟨fb,foff,rfl,hfb,y0⟩:=hfd.out.rows k f hf
   have y1:wr.cell? ⟨fb,foff+k,none⟩=some (.slice (fa k) f.length (fc k)):=(cell_eq (HA.out.below.block fb (by omega)) _).trans y0
   have HF:=Sb.hide hf
   obtain ⟨ml,hml⟩:∃ m,m=fs.length:=⟨_,rfl⟩
   rw [← hml] at hlt hfew ⊢
   have HML:=Sb.hide hml
   have n0:(0:Int)≤(k:Int):=by omega
   have n1:(k:Int) < (ml:Int):=by omega
   have HP:Hid (((wr.alloc (lsO (fa k) f.length (fc k) 0 (.slice none 0 0))).alloc (.cells #[.pointer (some ⟨wr.heap.size,0,none⟩)] 74)).ownsRow w.heap.size 74 1 u4 k (ptrs Q k)):=(HA.out.ptr.alloc _).alloc _
   clear hml hf y0 hfd
   go_wp2_with (at_builtin;refine wpList_append_where rfl (.tmp 18) (.tmp 20) 48 rfl w.heap.size 74 i0 (.pointer none) 1 8 Tryz.underlying48 hi hz0 hz1 hz2 rfl (by decide) u4 k (ptrs Q k) rfl HP.out ⟨(wr.alloc (lsO (fa k) f.length (fc k) 0 (.slice none 0 0))).heap.size,0,none⟩ 1 1 [.pointer (some ⟨wr.heap.size,0,none⟩)] (by rw [show (wr.alloc (lsO (fa k) f.length (fc k) 0 (.slice none 0 0))).heap.size=wr.heap.size+1 by simp];rfl) rfl (news1 (wr.alloc (lsO (fa k) f.length (fc k) 0 (.slice none 0 0))) _ _) (ones1 rfl) (by decide) (by unfold maxLen;omega) (by omega) (by simp;omega) ?_)
   intro R3 cap3 w3 hown3 hg3 hR3
   have H3:=Sb.hide hown3
   have G3:=Sb.hide hg3
   have hz3:=hg3.size
   simp at hz3
   have HI:Hid ((w3.alloc (.cells #[.iface 74 (.pointer (some ⟨wr.heap.size,0,none⟩))] 195)).ownsRow w.heap.size 195 1 u5 k (ifcs Q k)):=by
    refine World.ownsRow.alloc (own_keep HA.out.ifc (fun b hb=>?_)) _
    have hbl:=(HA.out.ifc.lt b hb).2
    refine (hg3.block b (by simp;omega) (fun e=>?_)).trans ((Below.heap_alloc _ _ _ (by simp;omega)).trans (Below.heap_alloc _ _ _ hbl))
    obtain ⟨cur,hc⟩:=own_ty HA.out.ifc hb
    obtain ⟨cur2,hc2⟩:=own_ty HA.out.ptr e.symm
    rw [hc] at hc2
    simp at hc2
   clear hown3 hg3 hR3
   go_wp2_with (at_builtin;refine wpList_append_where rfl (.tmp 22) (.tmp 25) 49 rfl w.heap.size 195 i1 .nilIface 1 16 Tryz.underlying49 hi1 hy0 hy1 hy2 rfl (by decide) u5 k (ifcs Q k) rfl HI.out ⟨w3.heap.size,0,none⟩ 1 1 [.iface 74 (.pointer (some ⟨wr.heap.size,0,none⟩))] rfl rfl (news1 w3 _ _) (ones1 rfl) (by decide) (by unfold maxLen;omega) (by omega) (by simp;omega) ?_)
   intro R5 cap5 w5 hown5 hg5 hR5
   have HREL:=Sb.hide (HA.out.more HF.out H3.out G3.out hown5 hg5)
   clear hown5 hg5 hR5
   go_wp2
   go_roundw
   case rel=>exact ⟨k+1,by go_num,_,HREL.out⟩
   case measure=>simp [intOf];omega
  ·have n1:¬ (k:Int) < (fs.length:Int):=by omega
   have ek:k=fs.length:=by omega
   subst ek
   go_wp2
   exact bodyPost_ret (v:=.tuple #[_,_]) (by simp [results,Tryz.results16,go_sem] <;> first | exact ⟨rfl,rfl⟩ | rfl) rfl ⟨_,_,rfl,Q,HA.out⟩
theorem Tryz.info22:(Tryz.prog.info? 22).map (fun i=>(i.zero,i.size,i.bytes))=some (some (.slice none 0 0),1,24):=by kernel_rfl
abbrev repO (s q tr:Nat) (vO vS vT:Value) (st:Nat):Obj:=.cells #[.int .i64 s,.int .i64 q,.int .i64 tr,vO,vS,vT,.int .i64 st] 29 (0,0)
abbrev repZ:Obj:=.cells #[.int .i64 0,.int .i64 0,.int .i64 0,.slice none 0 0,.slice none 0 0,.slice none 0 0,.int .i64 0] 29 (0,0)
def svs (sv:Nat→Value)(n:Nat):List Value:=(List.range n).map sv
theorem svs_succ (sv:Nat→Value)(n:Nat):svs sv (n+1)=svs sv n ++ [sv n]:=by simp [svs,List.range_succ]
def tks (x:List Lst)(n:Nat):List Value:=(x.take n).map fun q:Lst=>.int .i64 (q.took:Int)
theorem tks_succ {x:List Lst}{n:Nat}{q:Lst}(h:x[n]?=some q):tks x (n+1)=tks x n ++ [.int .i64 (q.took:Int)]:=by
 unfold tks
 rw [List.take_add_one,h]
 simp
structure RpAt (w:World) (x:List Lst) (sv:Nat→Value) (R0 R s q tr st:Nat) (out:List Int) (vO vS vT:Value) (ks kt:Nat) (wr:World):Prop where
 below:Below w.heap.size w wr
 low:w.heap.size≤R0∧w.heap.size≤R
 zero:wr.heap[R0]?=some repZ
 ne:R0≠R
 rep:wr.heap[R]?=some (repO s q tr vO vS vT st)
 out:wr.ownsRow w.heap.size 2 1 vO out.length (ints out)
 sent:wr.ownsRow w.heap.size 22 1 vS ks (svs sv ks)
 took:wr.ownsRow w.heap.size 3 1 vT kt (tks x kt)
theorem rep_cells {w:World}{R s q tr st:Nat}{vO vS vT:Value}(h:w.heap[R]?=some (repO s q tr vO vS vT st)):(w.cell? ⟨R,0,none⟩=some (.int .i64 s)∧w.cell? ⟨R,1,none⟩=some (.int .i64 q)∧w.cell? ⟨R,2,none⟩=some (.int .i64 tr)∧w.cell? ⟨R,3,none⟩=some vO∧w.cell? ⟨R,4,none⟩=some vS∧w.cell? ⟨R,5,none⟩=some vT∧w.cell? ⟨R,6,none⟩=some (.int .i64 st))∧∀ j,w.frozen? ⟨R,j,none⟩=false:=by simp [World.cell?,World.frozen?,h]
theorem own_far {w wr w4:World}{e e' size n n' g:Nat}{v v':Value}{xs xs':List Value}{ob:Obj}(h:wr.ownsRow g e size v n xs)(hx:wr.ownsRow g e' size v' n' xs')(hne:e≠e')(hg:(wr.drew.alloc ob).grownBy w4 v'.ownBlock)(he:w.heap=w4.heap):w.ownsRow g e size v n xs:=by
 refine own_keep h (fun b hb=>?_)
 rw [he]
 have hl:=(h.lt b hb).2
 refine (hg.block b (by simp;omega) (fun e2=>?_)).trans (Below.heap_alloc wr.drew _ _ hl)
 obtain ⟨c1,h1⟩:=own_ty h hb
 obtain ⟨c2,h2⟩:=own_ty hx e2.symm
 rw [h1] at h2
 simp at h2
 exact hne h2.2
section
variable {w wr w4:World} {x:List Lst} {sv:Nat→Value} {R0 R s q tr st:Nat} {out:List Int} {vO vS vT:Value} {ks kt:Nat}
theorem RpAt.put4 (H:RpAt w x sv R0 R s q tr st out vO vS vT ks kt wr){u v':Value}(hu:u=sv ks)(h4:w4.ownsRow w.heap.size 22 1 v' (ks+1) (svs sv ks ++ [u]))(g4:(wr.drew.alloc (.cells #[u] 22)).grownBy w4 vS.ownBlock):w4.heap[R]?=some (repO s q tr vO vS vT st)∧Below w.heap.size w w4∧RpAt w x sv R0 R s q tr st out vO v' vT (ks+1) kt (w4.setCell ⟨R,4,none⟩ v'):=by
 have hzr:=H.below.size
 have hz4:=g4.size
 simp at hz4
 have nS:∀ b s q tr vO vS' vT st,wr.heap[b]?=some (repO s q tr vO vS' vT st)→vS.ownBlock≠some b:=fun b s q tr vO vS' vT st hb e=>by
  obtain ⟨cur,hc⟩:=own_ty H.sent e
  rw [hb] at hc
  simp at hc
 have blk:∀ b,b < wr.heap.size→vS.ownBlock≠some b→w4.heap[b]?=wr.heap[b]?:=fun b hb hn=>(g4.block b (by simp;omega) (fun e=>hn e.symm)).trans (Below.heap_alloc wr.drew _ _ hb)
 have hR:w4.heap[R]?=some (repO s q tr vO vS vT st):=(blk R (lt_of_block H.rep) (nS _ _ _ _ _ _ _ _ H.rep)).trans H.rep
 have hset:∀ b,b≠R→(w4.setCell ⟨R,4,none⟩ v').heap[b]?=w4.heap[b]?:=fun b hb=>Below.heap_setCell _ ⟨R,4,none⟩ _ _ hb
 have keep:∀ {e n:Nat} {v:Value} {xs:List Value},w4.ownsRow w.heap.size e 1 v n xs→e≠29→(w4.setCell ⟨R,4,none⟩ v').ownsRow w.heap.size e 1 v n xs:=fun h hne=>own_keep h (fun b hb=>hset b (fun e2=>by
  obtain ⟨cur,hc⟩:=own_ty h hb
  rw [e2,hR] at hc
  simp at hc
  exact hne hc.2.symm))
 refine ⟨hR,?_,?_,H.low,?_,H.ne,?_,keep (own_far H.out H.sent (by decide) g4 rfl) (by decide),?_,keep (own_far H.took H.sent (by decide) g4 rfl) (by decide)⟩
 ·exact (H.below.drew.alloc (by exact hzr) _).grown g4 (by simp;omega) (fun b hb=>(H.sent.lt b hb).1)
 ·exact (((H.below.drew.alloc (by exact hzr) _).grown g4 (by simp;omega) (fun b hb=>(H.sent.lt b hb).1))).setCell (p:=⟨R,4,none⟩) H.low.2 _
 ·exact (hset _ H.ne).trans ((blk R0 (lt_of_block H.zero) (nS _ _ _ _ _ _ _ _ H.zero)).trans H.zero)
 ·simp only [World.setCell,Array.getElem?_modify,if_true,hR,Option.map_some]
  rfl
 ·rw [svs_succ,← hu]
  exact keep h4 (by decide)
theorem RpAt.put5 (H:RpAt w x sv R0 R s q tr st out vO vS vT ks kt wr){y:Lst}(hy:x[kt]?=some y){v':Value}(h4:w4.ownsRow w.heap.size 3 1 v' (kt+1) (tks x kt ++ [.int .i64 (y.took:Int)]))(g4:(wr.drew.alloc (.cells #[.int .i64 (y.took:Int)] 3)).grownBy w4 vT.ownBlock):w4.heap[R]?=some (repO s q tr vO vS vT st)∧Below w.heap.size w w4∧RpAt w x sv R0 R s q tr st out vO vS v' ks (kt+1) (w4.setCell ⟨R,5,none⟩ v'):=by
 have hzr:=H.below.size
 have hz4:=g4.size
 simp at hz4
 have nS:∀ b s q tr vO vS' vT' st,wr.heap[b]?=some (repO s q tr vO vS' vT' st)→vT.ownBlock≠some b:=fun b s q tr vO vS' vT' st hb e=>by
  obtain ⟨cur,hc⟩:=own_ty H.took e
  rw [hb] at hc
  simp at hc
 have blk:∀ b,b < wr.heap.size→vT.ownBlock≠some b→w4.heap[b]?=wr.heap[b]?:=fun b hb hn=>(g4.block b (by simp;omega) (fun e=>hn e.symm)).trans (Below.heap_alloc wr.drew _ _ hb)
 have hR:w4.heap[R]?=some (repO s q tr vO vS vT st):=(blk R (lt_of_block H.rep) (nS _ _ _ _ _ _ _ _ H.rep)).trans H.rep
 have hset:∀ b,b≠R→(w4.setCell ⟨R,5,none⟩ v').heap[b]?=w4.heap[b]?:=fun b hb=>Below.heap_setCell _ ⟨R,5,none⟩ _ _ hb
 have keep:∀ {e n:Nat} {v:Value} {xs:List Value},w4.ownsRow w.heap.size e 1 v n xs→e≠29→(w4.setCell ⟨R,5,none⟩ v').ownsRow w.heap.size e 1 v n xs:=fun h hne=>own_keep h (fun b hb=>hset b (fun e2=>by
  obtain ⟨cur,hc⟩:=own_ty h hb
  rw [e2,hR] at hc
  simp at hc
  exact hne hc.2.symm))
 refine ⟨hR,?_,?_,H.low,?_,H.ne,?_,keep (own_far H.out H.took (by decide) g4 rfl) (by decide),keep (own_far H.sent H.took (by decide) g4 rfl) (by decide),?_⟩
 ·exact (H.below.drew.alloc (by exact hzr) _).grown g4 (by simp;omega) (fun b hb=>(H.took.lt b hb).1)
 ·exact (((H.below.drew.alloc (by exact hzr) _).grown g4 (by simp;omega) (fun b hb=>(H.took.lt b hb).1))).setCell (p:=⟨R,5,none⟩) H.low.2 _
 ·exact (hset _ H.ne).trans ((blk R0 (lt_of_block H.zero) (nS _ _ _ _ _ _ _ _ H.zero)).trans H.zero)
 ·simp only [World.setCell,Array.getElem?_modify,if_true,hR,Option.map_some]
  rfl
 ·rw [tks_succ hy]
  exact keep h4 (by decide)
end
abbrev fill7 (w:World) (b s q tr:Nat) (vO vS vT:Value) (st:Nat):World:=((((((w.setCell ⟨b,0,none⟩ (.int .i64 s)).setCell ⟨b,1,none⟩ (.int .i64 q)).setCell ⟨b,2,none⟩ (.int .i64 tr)).setCell ⟨b,3,none⟩ vO).setCell ⟨b,4,none⟩ vS).setCell ⟨b,5,none⟩ vT).setCell ⟨b,6,none⟩ (.int .i64 st)
theorem fill7_at {w:World}{b s q tr:Nat}{vO vS vT:Value}{st:Nat}(h:w.heap[b]?=some repZ):(fill7 w b s q tr vO vS vT st).heap[b]?=some (repO s q tr vO vS vT st):=by
 simp only [World.setCell,Array.getElem?_modify,if_true,h,Option.map_some]
 rfl
theorem fill7_ne {w:World}{b s q tr:Nat}{vO vS vT:Value}{st:Nat}{b':Nat}(hn:b'≠b):(fill7 w b s q tr vO vS vT st).heap[b']?=w.heap[b']?:=by
 rw [Below.heap_setCell _ ⟨b,6,none⟩ _ _ hn,Below.heap_setCell _ ⟨b,5,none⟩ _ _ hn,Below.heap_setCell _ ⟨b,4,none⟩ _ _ hn,Below.heap_setCell _ ⟨b,3,none⟩ _ _ hn,Below.heap_setCell _ ⟨b,2,none⟩ _ _ hn,Below.heap_setCell _ ⟨b,1,none⟩ _ _ hn,Below.heap_setCell _ ⟨b,0,none⟩ _ _ hn]
theorem fill7_below {w0 w:World}{B b s q tr:Nat}{vO vS vT:Value}{st:Nat}(h:Below B w0 w)(hB:B≤b):Below B w0 (fill7 w b s q tr vO vS vT st) :=
 ((((((h.setCell (p:=⟨b,0,none⟩) hB _).setCell (p:=⟨b,1,none⟩) hB _).setCell (p:=⟨b,2,none⟩) hB _).setCell (p:=⟨b,3,none⟩) hB _).setCell (p:=⟨b,4,none⟩) hB _).setCell (p:=⟨b,5,none⟩) hB _).setCell (p:=⟨b,6,none⟩) hB _
theorem fill7_own {w:World}{b s q tr:Nat}{vO vS vT:Value}{st:Nat}(h:w.heap[b]?=some repZ){B e n:Nat}{v:Value}{xs:List Value}(ho:w.ownsRow B e 1 v n xs)(he:e≠29):(fill7 w b s q tr vO vS vT st).ownsRow B e 1 v n xs :=
 own_keep ho (fun k hk=>fill7_ne (fun e2=>by
  obtain ⟨cur,hc⟩:=own_ty ho hk
  rw [e2,h] at hc
  simp at hc
  exact he hc.2.symm))
abbrev repV (s q tr:Nat) (vO vS vT:Value) (st:Nat):Value:=.agg #[.int .i64 s,.int .i64 q,.int .i64 tr,vO,vS,vT,.int .i64 st]
theorem report_any (Q:Nat→Nat)(nb rb off:Nat)(c:Cx)(vB ev:Value)(o T:Nat)(L:Lab)(P:Nat→Nat)(w:World)(t:Tk)(x:List Lst)(vR vO:Value)(H:Hid (St (lsE Q nb rb off) c vB ev o T L P w t x vR vO))(hX:Hid (BoxesAt (lsE Q nb rb off) lsX c vB))(hs:Hid (t.over=0→∃ f rs u i,AtOk c t f rs u i))(ho:t.out.length≤1000000)(va:Option Addr)(vc:Nat)(hvl:Hid (w.ownsRow 0 74 1 (.slice va nb vc) nb (ptrs Q nb)))(hnb:nb≤30)(hxl:x.length=nb)(steps:Nat)(sv:Nat→Value)(hsv:Hid (∀ (i:Nat) q,x[i]?=some q→∃ af cf,LAt L w (Q i) i q af cf (sv i))) :
  Calls Tryz.prog 19 #[.pointer (some ⟨T,0,none⟩),.slice va nb vc,.int .i64 steps] w fun e w'=>∃ vO vS vT,e=.returned (repV (stat lsX c.m t x).1 (stat lsX c.m t x).2 t.trap vO vS vT steps)∧w'.ownsRow w.heap.size 2 1 vO t.out.length (ints t.out)∧w'.ownsRow w.heap.size 22 1 vS nb (svs sv nb)∧w'.ownsRow w.heap.size 3 1 vT nb (tks x nb)∧Below w.heap.size w w':=by
 obtain ⟨i0,hi,hz0,hz1,hz2⟩:=info_parts Tryz.info22
 obtain ⟨i1,hi1,hy0,hy1,hy2⟩:=info_parts Tryz.info3
 obtain ⟨s,hs1⟩:∃ s,s=(stat lsX c.m t x).1:=⟨_,rfl⟩
 obtain ⟨q,hq1⟩:∃ s,s=(stat lsX c.m t x).2:=⟨_,rfl⟩
 rw [← hs1,← hq1]
 have HS1:=Sb.hide hs1
 have HQ1:=Sb.hide hq1
 have HXL:=Sb.hide hxl
 clear hs1 hq1 hxl
 go_enter Tryz.func19,Tryz.ntmps19
 go_wp2_with fail
 have HB0:Hid (Below w.heap.size w (w.alloc repZ)):=(Below.refl _ w).alloc (Nat.le_refl _) _
 have HZB:Hid ((w.alloc repZ).heap[w.heap.size]?=some repZ):=heap_alloc_new w _
 have hzA:(w.alloc repZ).heap.size=w.heap.size+1:=by simp
 generalize w.alloc repZ=W0 at *
 refine (end_any' (lsE Q nb rb off) lsX c vB ev o T L P _ t x vR vO (Sb.hide (H.out.below HB0.out)) hX hs ho).mono ?_
 rw [← HS1.out,← HQ1.out]
 rintro e w1 ⟨v,rfl,hown1,hb1⟩
 obtain ⟨oa,oc,rfl⟩:=own_slice hown1
 have hzB:=hb1.size
 have HB1:Hid (Below w.heap.size w w1):=HB0.out.trans (hb1.mono (by omega))
 have HZ1:Hid (w1.heap[w.heap.size]?=some repZ):=(hb1.block _ (by omega)).trans HZB.out
 have HO1:Hid (w1.ownsRow w.heap.size 2 1 (.slice oa t.out.length oc) t.out.length (ints t.out)):=own_base hown1 (by omega)
 clear hown1 hb1
 have HST:Hid (RpAt w x sv w.heap.size (w1.heap.size+1) s q t.trap steps t.out (.slice oa t.out.length oc) (.slice none 0 0) (.slice none 0 0) 0 0 ((w1.alloc (.cells #[.int .i64 s,.int .i64 q,.int .i64 t.trap,.slice oa t.out.length oc] 91)).alloc (repO s q t.trap (.slice oa t.out.length oc) (.slice none 0 0) (.slice none 0 0) steps))):=by
  have e1:(w1.alloc (.cells #[.int .i64 s,.int .i64 q,.int .i64 t.trap,.slice oa t.out.length oc] 91)).heap.size=w1.heap.size+1:=by simp
  have hbz:=HB1.out.size
  refine ⟨(HB1.out.alloc hbz _).alloc (by simp;omega) _,⟨Nat.le_refl _,by omega⟩,?_,by omega,?_,(HO1.out.alloc _).alloc _,⟨rfl,.inl ⟨rfl,rfl⟩⟩,⟨rfl,.inl ⟨rfl,rfl⟩⟩⟩
  ·exact (Below.heap_alloc _ _ _ (by simp;omega)).trans ((Below.heap_alloc _ _ _ (by omega)).trans HZ1.out)
  ·rw [← e1];exact heap_alloc_new _ _
 go_wp2
 go_loopw [25] (fun v wr=>∃ k:Nat,v=.int .i64 k∧k≤nb∧∃ vS vT,RpAt w x sv w.heap.size (w1.heap.size+1) s q t.trap steps t.out (.slice oa t.out.length oc) vS vT k k wr) (fun v _=>nb - (intOf v).toNat)
 case atStart=>exact ⟨0,rfl,Nat.zero_le _,_,_,HST.out⟩
 case round =>
  obtain ⟨k,rfl,hk,vS,vT,hA⟩:=hrel
  have HA:=Sb.hide hA
  have hbz:=hA.below.size
  have rc:=(rep_cells hA.rep).1
  have rf:=(rep_cells hA.rep).2
  obtain ⟨r0,r1,r2,r3,r4,r5,r6⟩:=rc
  clear hA HST
  obtain ⟨R,hR⟩:∃ R,R=w1.heap.size+1:=⟨_,rfl⟩
  have HR:=Sb.hide hR
  rw [← hR] at r0 r1 r2 r3 r4 r5 r6 rf HA ⊢
  clear hR
  by_cases hlt:k < nb
  ·obtain ⟨y,hy⟩:∃ y,x[k]?=some y:=⟨_,List.getElem?_eq_getElem (by have:=HXL.out;omega)⟩
   obtain ⟨af,cf,hL⟩:=hsv.out k y hy
   obtain ⟨sa,sc,hsvk⟩:=own_slice hL.sent
   have HSVK:=Sb.hide hsvk
   have hLb:=(HA.out.below.block _ (lt_of_block hL.blk)).trans hL.blk
   have hQz:Q k < wr.heap.size:=lt_of_block hLb
   obtain ⟨l0,l1,l2,_⟩:=ls_cells hLb
   rw [hsvk] at l2
   have HQR:Hid (Q k≠R):=fun e=>by
    have:=HA.out.rep
    rw [← e,hLb] at this
    simp at this
   have HY:=Sb.hide hy
   obtain ⟨vg,hva,hvc⟩:=own_cell hvl.out (ptrs_at Q hlt)
   have hvg:vg < w.heap.size:=World.block_lt_of_cell? w _ hvc
   have v0:wr.cell? ⟨vg,k,none⟩=some (.pointer (some ⟨Q k,0,none⟩)):=(cell_eq (HA.out.below.block vg hvg) _).trans hvc
   have HL:Hid (∀ W,Below w.heap.size w W→W.cell? ⟨Q k,1,none⟩=some (.int .i64 y.took)∧W.cell? ⟨Q k,2,none⟩=some (.slice sa y.sent.length sc)):=fun W hW=>by
    have hb:=(hW.block _ (lt_of_block hL.blk)).trans hL.blk
    obtain ⟨_,a1,a2,_⟩:=ls_cells hb
    rw [hsvk] at a2
    exact ⟨a1,a2⟩
   have n0:(0:Int)≤(k:Int):=by omega
   have n1:(k:Int) < (nb:Int):=by omega
   rw [hva]
   clear hva hvc hy hL hsvk hLb l0 l1
   have HOWN:Hid ((wr.drew.alloc (.cells #[.slice sa y.sent.length sc] 22)).ownsRow w.heap.size 22 1 vS k (svs sv k)):=HA.out.sent.drew.alloc _
   go_wp2_with fail
   refine wp_region_held_drew (S:=fun w'=>w'.cell? ⟨Q k,2,none⟩=some (.slice sa y.sent.length sc)) (by kernel_rfl) (by exact l2) (fun hHeld=>?_)
   refine wpAnyH_take (i:=0) (oi:=_) (v:=?_) rfl (by kernel_rfl) (by kernel_rfl) (by kernel_rfl) (fun _ _ _ h=>h) (Or.inl ⟨by rfl,?_⟩) (by assumption) ?_
   rotate_left
   ·intro w hSw
    (try dsimp only at hSw)
    go_simp
    (try with_reducible rfl)
   (try simp only [Act.put])
   refine wpAnyH_take (i:=2) (oi:=_) (v:=?_) rfl (by kernel_rfl) (by kernel_rfl) (by kernel_rfl) (fun _ _ _ h=>h) (Or.inl ⟨by rfl,?_⟩) (by assumption) ?_
   rotate_left
   ·intro w hSw
    (try dsimp only at hSw)
    go_simp
    (try with_reducible rfl)
   (try simp only [Act.put])
   refine wpAnyH_take (i:=3) (oi:=_) (v:=?_) rfl (by kernel_rfl) (by kernel_rfl) (by kernel_rfl) (fun _ _ _ h=>h) (Or.inl ⟨by rfl,?_⟩) (by assumption) ?_
   rotate_left
   ·intro w hSw
    (try dsimp only at hSw)
    go_simp
    (try with_reducible rfl)
   (try simp only [Act.put])
   refine wpAnyH_take (i:=4) (oi:=_) (v:=?_) rfl (by kernel_rfl) (by kernel_rfl) (by kernel_rfl) (fun _ _ _ h=>h) (Or.inl ⟨by rfl,?_⟩) (by assumption) ?_
   rotate_left
   ·intro w hSw
    (try dsimp only at hSw)
    go_simp
    (try with_reducible rfl)
   (try simp only [Act.put])
   refine wpAnyH_take (i:=5) (oi:=_) (v:=?_) rfl (by kernel_rfl) (by kernel_rfl) (by kernel_rfl) (fun _ _ _ h=>h) (Or.inl ⟨by rfl,?_⟩) (by assumption) ?_
   rotate_left
   ·intro w hSw
    (try dsimp only at hSw)
    go_simp
    (try with_reducible rfl)
   (try simp only [Act.put])
   refine wpAnyH_ready (rs:=[1,6]) (by kernel_rfl) (by simp) ?_
   refine AllReadyH.cons (o:=_) rfl (fun K hK=>?_) ?_
   ·go_simp
    refine hK.out _ _ hHeld (fun hHeld=>?_)
    clear hK K
    refine wpAnyH_ready (rs:=[6]) (by kernel_rfl) (by simp) ?_
    refine AllReadyH.cons (o:=_) rfl (fun K hK=>?_) AllReadyH.nil
    go_simp
    refine hK.out _ _ (HL.out _ ((HA.out.below.drew).alloc (by exact HA.out.below.size) _)).2 (fun hHeld=>?_)
    clear hK K
    refine wpAnyH_ready (rs:=[7]) (by kernel_rfl) (by simp) ?_
    refine AllReadyH.cons (o:=_) rfl (fun K hK=>?_) AllReadyH.nil
    refine step_append_where rfl (.tmp 30) (.tmp 35) 26 rfl w.heap.size 22 i0 (.slice none 0 0) 1 24 Tryz.underlying26 hi hz0 hz1 hz2 rfl (by decide) vS k (svs sv k) rfl HOWN.out ⟨wr.heap.size,0,none⟩ 1 1 [(.slice sa y.sent.length sc)] rfl rfl (news1 wr.drew _ _) (ones1 rfl) (by decide) (by unfold maxLen;omega) (by omega) (by simp;omega) ?_
    intro g4 cap4 w4 hown4 hg4 _
    obtain ⟨hR4,hb4,hA4⟩:=HA.out.put4 HSVK.out.symm hown4 hg4
    have HA4:=Sb.hide hA4
    have s4:=HL.out _ hb4
    have s5:=HL.out _ hA4.below
    have q4:=(rep_cells hR4).1
    have f4:=(rep_cells hR4).2
    clear hown4 hg4 hR4 hb4 hA4
    refine hK.out _ _ s4.2 (fun hHeld=>?_)
    clear hK K
    simp only [Act.put]
    refine wpAnyH_take (i:=8) (oi:=_) (v:=?_) rfl (by kernel_rfl) (by kernel_rfl) (by kernel_rfl) (fun _ _ _ h=>h) (Or.inl ⟨by rfl,?_⟩) (by assumption) ?_
    rotate_left
    ·intro w hSw
     (try dsimp only at hSw)
     go_simp
     (try with_reducible rfl)
    (try simp only [Act.put])
    refine wpAnyH_ready (rs:=[9]) (by kernel_rfl) (by simp) ?_
    refine AllReadyH.cons (o:=_) rfl (fun K hK=>?_) AllReadyH.nil
    go_simp
    refine hK.out _ _ s5.2 (fun hHeld=>?_)
    clear hK K hHeld q4 f4 s4
    refine wpAnyH_done (by kernel_rfl) ?_ _
    have HA5:Hid (RpAt w x sv w.heap.size R s q t.trap steps t.out (.slice oa t.out.length oc) (.slice (some ⟨g4,0,none⟩) (k+1) cap4) vT (k+1) k (w4.setCell ⟨R,4,none⟩ (.slice (some ⟨g4,0,none⟩) (k+1) cap4))):=HA4.out
    have l5:=(HL.out _ HA5.out.below).1
    have c5:=(rep_cells HA5.out.rep).1.2.2.2.2.2.1
    have hz5:=HA5.out.below.size
    clear HA4 s5
    generalize w4.setCell ⟨R,4,none⟩ (.slice (some ⟨g4,0,none⟩) (k+1) cap4)=w5 at *
    obtain ⟨g5,hg5⟩:∃ g,g=g4:=⟨_,rfl⟩
    obtain ⟨cap5,hc5⟩:∃ g,g=cap4:=⟨_,rfl⟩
    rw [← hg5,← hc5] at HA5
    rw [← hg5,← hc5]
    clear hg5 hc5
    have HOWN5:Hid ((w5.drew.alloc (.cells #[.int .i64 (y.took:Int)] 3)).ownsRow w.heap.size 3 1 vT k (tks x k)):=HA5.out.took.drew.alloc _
    go_wp2_with fail
    refine wp_region_held_drew (S:=fun w'=>w'.cell? ⟨Q k,1,none⟩=some (.int .i64 y.took)) (by kernel_rfl) (by exact l5) (fun hHeld=>?_)
    refine wpAnyH_take (i:=0) (oi:=_) (v:=?_) rfl (by kernel_rfl) (by kernel_rfl) (by kernel_rfl) (fun _ _ _ h=>h) (Or.inl ⟨by rfl,?_⟩) (by assumption) ?_
    rotate_left
    ·intro w hSw
     (try dsimp only at hSw)
     go_simp
     (try with_reducible rfl)
    (try simp only [Act.put])
    refine wpAnyH_take (i:=2) (oi:=_) (v:=?_) rfl (by kernel_rfl) (by kernel_rfl) (by kernel_rfl) (fun _ _ _ h=>h) (Or.inl ⟨by rfl,?_⟩) (by assumption) ?_
    rotate_left
    ·intro w hSw
     (try dsimp only at hSw)
     go_simp
     (try with_reducible rfl)
    (try simp only [Act.put])
    refine wpAnyH_take (i:=3) (oi:=_) (v:=?_) rfl (by kernel_rfl) (by kernel_rfl) (by kernel_rfl) (fun _ _ _ h=>h) (Or.inl ⟨by rfl,?_⟩) (by assumption) ?_
    rotate_left
    ·intro w hSw
     (try dsimp only at hSw)
     go_simp
     (try with_reducible rfl)
    (try simp only [Act.put])
    refine wpAnyH_take (i:=4) (oi:=_) (v:=?_) rfl (by kernel_rfl) (by kernel_rfl) (by kernel_rfl) (fun _ _ _ h=>h) (Or.inl ⟨by rfl,?_⟩) (by assumption) ?_
    rotate_left
    ·intro w hSw
     (try dsimp only at hSw)
     go_simp
     (try with_reducible rfl)
    (try simp only [Act.put])
    refine wpAnyH_take (i:=5) (oi:=_) (v:=?_) rfl (by kernel_rfl) (by kernel_rfl) (by kernel_rfl) (fun _ _ _ h=>h) (Or.inl ⟨by rfl,?_⟩) (by assumption) ?_
    rotate_left
    ·intro w hSw
     (try dsimp only at hSw)
     go_simp
     (try with_reducible rfl)
    (try simp only [Act.put])
    refine wpAnyH_ready (rs:=[1,6]) (by kernel_rfl) (by simp) ?_
    refine AllReadyH.cons (o:=_) rfl (fun K hK=>?_) ?_
    ·go_simp
     refine hK.out _ _ hHeld (fun hHeld=>?_)
     clear hK K
     refine wpAnyH_ready (rs:=[6]) (by kernel_rfl) (by simp) ?_
     refine AllReadyH.cons (o:=_) rfl (fun K hK=>?_) AllReadyH.nil
     go_simp
     refine hK.out _ _ (HL.out _ ((HA5.out.below.drew).alloc (by exact HA5.out.below.size) _)).1 (fun hHeld=>?_)
     clear hK K
     refine wpAnyH_ready (rs:=[7]) (by kernel_rfl) (by simp) ?_
     refine AllReadyH.cons (o:=_) rfl (fun K hK=>?_) AllReadyH.nil
     refine step_append_where rfl (.tmp 39) (.tmp 44) 27 rfl w.heap.size 3 i1 (.int .i64 0) 1 8 Tryz.underlying27 hi1 hy0 hy1 hy2 rfl (by decide) vT k (tks x k) rfl HOWN5.out ⟨w5.heap.size,0,none⟩ 1 1 [(.int .i64 (y.took:Int))] rfl rfl (news1 w5.drew _ _) (ones1 rfl) (by decide) (by unfold maxLen;omega) (by omega) (by simp;omega) ?_
     intro g4 cap4 w4 hown4 hg4 _
     obtain ⟨hR4,hb4,hA4⟩:=HA5.out.put5 HY.out hown4 hg4
     have HA4:=Sb.hide hA4
     have s4:=HL.out _ hb4
     have s5:=HL.out _ hA4.below
     have q4:=(rep_cells hR4).1
     have f4:=(rep_cells hR4).2
     clear hown4 hg4 hR4 hb4 hA4
     refine hK.out _ _ s4.1 (fun hHeld=>?_)
     clear hK K
     simp only [Act.put]
     refine wpAnyH_take (i:=8) (oi:=_) (v:=?_) rfl (by kernel_rfl) (by kernel_rfl) (by kernel_rfl) (fun _ _ _ h=>h) (Or.inl ⟨by rfl,?_⟩) (by assumption) ?_
     rotate_left
     ·intro w hSw
      (try dsimp only at hSw)
      go_simp
      (try with_reducible rfl)
     (try simp only [Act.put])
     refine wpAnyH_ready (rs:=[9]) (by kernel_rfl) (by simp) ?_
     refine AllReadyH.cons (o:=_) rfl (fun K hK=>?_) AllReadyH.nil
     go_simp
     refine hK.out _ _ s5.1 (fun hHeld=>?_)
     clear hK K hHeld q4 f4 s4
     refine wpAnyH_done (by kernel_rfl) ?_ _
     have HREL:Hid (RpAt w x sv w.heap.size R s q t.trap steps t.out (.slice oa t.out.length oc) (.slice (some ⟨g5,0,none⟩) (k+1) cap5) (.slice (some ⟨g4,0,none⟩) (k+1) cap4) (k+1) (k+1) (w4.setCell ⟨R,5,none⟩ (.slice (some ⟨g4,0,none⟩) (k+1) cap4))):=HA4.out
     clear HA4 HA5 s5
     go_wp2
     go_roundw
     case rel=>exact ⟨k+1,by go_num,by omega,_,_,HREL.out⟩
     case measure=>simp [intOf];omega
    ·skip
     refine AllReadyH.cons (o:=_) rfl (fun K hK=>?_) AllReadyH.nil
     go_simp
     refine hK.out _ _ (HL.out _ ((HA5.out.below.drew).alloc (by exact HA5.out.below.size) _)).1 (fun hHeld=>?_)
     clear hK K
     have c5b:(w5.alloc (.cells #[.int .i64 (y.took:Int)] 3)).drew.cell? ⟨R,5,none⟩=some vT:=(cell_eq (Below.heap_alloc w5 (.cells #[.int .i64 (y.took:Int)] 3) _ (lt_of_block HA5.out.rep)) _).trans c5
     refine wpAnyH_ready (rs:=[1]) (by kernel_rfl) (by simp) ?_
     refine AllReadyH.cons (o:=_) rfl (fun K hK=>?_) AllReadyH.nil
     go_simp
     refine hK.out _ _ hHeld (fun hHeld=>?_)
     clear hK K
     refine wpAnyH_ready (rs:=[7]) (by kernel_rfl) (by simp) ?_
     refine AllReadyH.cons (o:=_) rfl (fun K hK=>?_) AllReadyH.nil
     refine step_append_where rfl (.tmp 39) (.tmp 44) 27 rfl w.heap.size 3 i1 (.int .i64 0) 1 8 Tryz.underlying27 hi1 hy0 hy1 hy2 rfl (by decide) vT k (tks x k) rfl HOWN5.out ⟨w5.heap.size,0,none⟩ 1 1 [(.int .i64 (y.took:Int))] rfl rfl (news1 w5.drew _ _) (ones1 rfl) (by decide) (by unfold maxLen;omega) (by omega) (by simp;omega) ?_
     intro g4 cap4 w4 hown4 hg4 _
     obtain ⟨hR4,hb4,hA4⟩:=HA5.out.put5 HY.out hown4 hg4
     have HA4:=Sb.hide hA4
     have s4:=HL.out _ hb4
     have s5:=HL.out _ hA4.below
     have q4:=(rep_cells hR4).1
     have f4:=(rep_cells hR4).2
     clear hown4 hg4 hR4 hb4 hA4
     refine hK.out _ _ s4.1 (fun hHeld=>?_)
     clear hK K
     simp only [Act.put]
     refine wpAnyH_take (i:=8) (oi:=_) (v:=?_) rfl (by kernel_rfl) (by kernel_rfl) (by kernel_rfl) (fun _ _ _ h=>h) (Or.inl ⟨by rfl,?_⟩) (by assumption) ?_
     rotate_left
     ·intro w hSw
      (try dsimp only at hSw)
      go_simp
      (try with_reducible rfl)
     (try simp only [Act.put])
     refine wpAnyH_ready (rs:=[9]) (by kernel_rfl) (by simp) ?_
     refine AllReadyH.cons (o:=_) rfl (fun K hK=>?_) AllReadyH.nil
     go_simp
     refine hK.out _ _ s5.1 (fun hHeld=>?_)
     clear hK K hHeld q4 f4 s4
     refine wpAnyH_done (by kernel_rfl) ?_ _
     have HREL:Hid (RpAt w x sv w.heap.size R s q t.trap steps t.out (.slice oa t.out.length oc) (.slice (some ⟨g5,0,none⟩) (k+1) cap5) (.slice (some ⟨g4,0,none⟩) (k+1) cap4) (k+1) (k+1) (w4.setCell ⟨R,5,none⟩ (.slice (some ⟨g4,0,none⟩) (k+1) cap4))):=HA4.out
     clear HA4 HA5 s5
     go_wp2
     go_roundw
     case rel=>exact ⟨k+1,by go_num,by omega,_,_,HREL.out⟩
     case measure=>simp [intOf];omega
   ·skip
    refine AllReadyH.cons (o:=_) rfl (fun K hK=>?_) AllReadyH.nil
    go_simp
    refine hK.out _ _ (HL.out _ ((HA.out.below.drew).alloc (by exact HA.out.below.size) _)).2 (fun hHeld=>?_)
    clear hK K
    have r4b:(wr.alloc (.cells #[.slice sa y.sent.length sc] 22)).drew.cell? ⟨R,4,none⟩=some vS:=(cell_eq (Below.heap_alloc wr (.cells #[.slice sa y.sent.length sc] 22) _ (lt_of_block HA.out.rep)) _).trans r4
    refine wpAnyH_ready (rs:=[1]) (by kernel_rfl) (by simp) ?_
    refine AllReadyH.cons (o:=_) rfl (fun K hK=>?_) AllReadyH.nil
    go_simp
    refine hK.out _ _ hHeld (fun hHeld=>?_)
    clear hK K
    refine wpAnyH_ready (rs:=[7]) (by kernel_rfl) (by simp) ?_
    refine AllReadyH.cons (o:=_) rfl (fun K hK=>?_) AllReadyH.nil
    refine step_append_where rfl (.tmp 30) (.tmp 35) 26 rfl w.heap.size 22 i0 (.slice none 0 0) 1 24 Tryz.underlying26 hi hz0 hz1 hz2 rfl (by decide) vS k (svs sv k) rfl HOWN.out ⟨wr.heap.size,0,none⟩ 1 1 [(.slice sa y.sent.length sc)] rfl rfl (news1 wr.drew _ _) (ones1 rfl) (by decide) (by unfold maxLen;omega) (by omega) (by simp;omega) ?_
    intro g4 cap4 w4 hown4 hg4 _
    obtain ⟨hR4,hb4,hA4⟩:=HA.out.put4 HSVK.out.symm hown4 hg4
    have HA4:=Sb.hide hA4
    have s4:=HL.out _ hb4
    have s5:=HL.out _ hA4.below
    have q4:=(rep_cells hR4).1
    have f4:=(rep_cells hR4).2
    clear hown4 hg4 hR4 hb4 hA4
    refine hK.out _ _ s4.2 (fun hHeld=>?_)
    clear hK K
    simp only [Act.put]
    refine wpAnyH_take (i:=8) (oi:=_) (v:=?_) rfl (by kernel_rfl) (by kernel_rfl) (by kernel_rfl) (fun _ _ _ h=>h) (Or.inl ⟨by rfl,?_⟩) (by assumption) ?_
    rotate_left
    ·intro w hSw
     (try dsimp only at hSw)
     go_simp
     (try with_reducible rfl)
    (try simp only [Act.put])
    refine wpAnyH_ready (rs:=[9]) (by kernel_rfl) (by simp) ?_
    refine AllReadyH.cons (o:=_) rfl (fun K hK=>?_) AllReadyH.nil
    go_simp
    refine hK.out _ _ s5.2 (fun hHeld=>?_)
    clear hK K hHeld q4 f4 s4
    refine wpAnyH_done (by kernel_rfl) ?_ _
    have HA5:Hid (RpAt w x sv w.heap.size R s q t.trap steps t.out (.slice oa t.out.length oc) (.slice (some ⟨g4,0,none⟩) (k+1) cap4) vT (k+1) k (w4.setCell ⟨R,4,none⟩ (.slice (some ⟨g4,0,none⟩) (k+1) cap4))):=HA4.out
    have l5:=(HL.out _ HA5.out.below).1
    have c5:=(rep_cells HA5.out.rep).1.2.2.2.2.2.1
    have hz5:=HA5.out.below.size
    clear HA4 s5
    generalize w4.setCell ⟨R,4,none⟩ (.slice (some ⟨g4,0,none⟩) (k+1) cap4)=w5 at *
    obtain ⟨g5,hg5⟩:∃ g,g=g4:=⟨_,rfl⟩
    obtain ⟨cap5,hc5⟩:∃ g,g=cap4:=⟨_,rfl⟩
    rw [← hg5,← hc5] at HA5
    rw [← hg5,← hc5]
    clear hg5 hc5
    have HOWN5:Hid ((w5.drew.alloc (.cells #[.int .i64 (y.took:Int)] 3)).ownsRow w.heap.size 3 1 vT k (tks x k)):=HA5.out.took.drew.alloc _
    go_wp2_with fail
    refine wp_region_held_drew (S:=fun w'=>w'.cell? ⟨Q k,1,none⟩=some (.int .i64 y.took)) (by kernel_rfl) (by exact l5) (fun hHeld=>?_)
    refine wpAnyH_take (i:=0) (oi:=_) (v:=?_) rfl (by kernel_rfl) (by kernel_rfl) (by kernel_rfl) (fun _ _ _ h=>h) (Or.inl ⟨by rfl,?_⟩) (by assumption) ?_
    rotate_left
    ·intro w hSw
     (try dsimp only at hSw)
     go_simp
     (try with_reducible rfl)
    (try simp only [Act.put])
    refine wpAnyH_take (i:=2) (oi:=_) (v:=?_) rfl (by kernel_rfl) (by kernel_rfl) (by kernel_rfl) (fun _ _ _ h=>h) (Or.inl ⟨by rfl,?_⟩) (by assumption) ?_
    rotate_left
    ·intro w hSw
     (try dsimp only at hSw)
     go_simp
     (try with_reducible rfl)
    (try simp only [Act.put])
    refine wpAnyH_take (i:=3) (oi:=_) (v:=?_) rfl (by kernel_rfl) (by kernel_rfl) (by kernel_rfl) (fun _ _ _ h=>h) (Or.inl ⟨by rfl,?_⟩) (by assumption) ?_
    rotate_left
    ·intro w hSw
     (try dsimp only at hSw)
     go_simp
     (try with_reducible rfl)
    (try simp only [Act.put])
    refine wpAnyH_take (i:=4) (oi:=_) (v:=?_) rfl (by kernel_rfl) (by kernel_rfl) (by kernel_rfl) (fun _ _ _ h=>h) (Or.inl ⟨by rfl,?_⟩) (by assumption) ?_
    rotate_left
    ·intro w hSw
     (try dsimp only at hSw)
     go_simp
     (try with_reducible rfl)
    (try simp only [Act.put])
    refine wpAnyH_take (i:=5) (oi:=_) (v:=?_) rfl (by kernel_rfl) (by kernel_rfl) (by kernel_rfl) (fun _ _ _ h=>h) (Or.inl ⟨by rfl,?_⟩) (by assumption) ?_
    rotate_left
    ·intro w hSw
     (try dsimp only at hSw)
     go_simp
     (try with_reducible rfl)
    (try simp only [Act.put])
    refine wpAnyH_ready (rs:=[1,6]) (by kernel_rfl) (by simp) ?_
    refine AllReadyH.cons (o:=_) rfl (fun K hK=>?_) ?_
    ·go_simp
     refine hK.out _ _ hHeld (fun hHeld=>?_)
     clear hK K
     refine wpAnyH_ready (rs:=[6]) (by kernel_rfl) (by simp) ?_
     refine AllReadyH.cons (o:=_) rfl (fun K hK=>?_) AllReadyH.nil
     go_simp
     refine hK.out _ _ (HL.out _ ((HA5.out.below.drew).alloc (by exact HA5.out.below.size) _)).1 (fun hHeld=>?_)
     clear hK K
     refine wpAnyH_ready (rs:=[7]) (by kernel_rfl) (by simp) ?_
     refine AllReadyH.cons (o:=_) rfl (fun K hK=>?_) AllReadyH.nil
     refine step_append_where rfl (.tmp 39) (.tmp 44) 27 rfl w.heap.size 3 i1 (.int .i64 0) 1 8 Tryz.underlying27 hi1 hy0 hy1 hy2 rfl (by decide) vT k (tks x k) rfl HOWN5.out ⟨w5.heap.size,0,none⟩ 1 1 [(.int .i64 (y.took:Int))] rfl rfl (news1 w5.drew _ _) (ones1 rfl) (by decide) (by unfold maxLen;omega) (by omega) (by simp;omega) ?_
     intro g4 cap4 w4 hown4 hg4 _
     obtain ⟨hR4,hb4,hA4⟩:=HA5.out.put5 HY.out hown4 hg4
     have HA4:=Sb.hide hA4
     have s4:=HL.out _ hb4
     have s5:=HL.out _ hA4.below
     have q4:=(rep_cells hR4).1
     have f4:=(rep_cells hR4).2
     clear hown4 hg4 hR4 hb4 hA4
     refine hK.out _ _ s4.1 (fun hHeld=>?_)
     clear hK K
     simp only [Act.put]
     refine wpAnyH_take (i:=8) (oi:=_) (v:=?_) rfl (by kernel_rfl) (by kernel_rfl) (by kernel_rfl) (fun _ _ _ h=>h) (Or.inl ⟨by rfl,?_⟩) (by assumption) ?_
     rotate_left
     ·intro w hSw
      (try dsimp only at hSw)
      go_simp
      (try with_reducible rfl)
     (try simp only [Act.put])
     refine wpAnyH_ready (rs:=[9]) (by kernel_rfl) (by simp) ?_
     refine AllReadyH.cons (o:=_) rfl (fun K hK=>?_) AllReadyH.nil
     go_simp
     refine hK.out _ _ s5.1 (fun hHeld=>?_)
     clear hK K hHeld q4 f4 s4
     refine wpAnyH_done (by kernel_rfl) ?_ _
     have HREL:Hid (RpAt w x sv w.heap.size R s q t.trap steps t.out (.slice oa t.out.length oc) (.slice (some ⟨g5,0,none⟩) (k+1) cap5) (.slice (some ⟨g4,0,none⟩) (k+1) cap4) (k+1) (k+1) (w4.setCell ⟨R,5,none⟩ (.slice (some ⟨g4,0,none⟩) (k+1) cap4))):=HA4.out
     clear HA4 HA5 s5
     go_wp2
     go_roundw
     case rel=>exact ⟨k+1,by go_num,by omega,_,_,HREL.out⟩
     case measure=>simp [intOf];omega
    ·skip
     refine AllReadyH.cons (o:=_) rfl (fun K hK=>?_) AllReadyH.nil
     go_simp
     refine hK.out _ _ (HL.out _ ((HA5.out.below.drew).alloc (by exact HA5.out.below.size) _)).1 (fun hHeld=>?_)
     clear hK K
     have c5b:(w5.alloc (.cells #[.int .i64 (y.took:Int)] 3)).drew.cell? ⟨R,5,none⟩=some vT:=(cell_eq (Below.heap_alloc w5 (.cells #[.int .i64 (y.took:Int)] 3) _ (lt_of_block HA5.out.rep)) _).trans c5
     refine wpAnyH_ready (rs:=[1]) (by kernel_rfl) (by simp) ?_
     refine AllReadyH.cons (o:=_) rfl (fun K hK=>?_) AllReadyH.nil
     go_simp
     refine hK.out _ _ hHeld (fun hHeld=>?_)
     clear hK K
     refine wpAnyH_ready (rs:=[7]) (by kernel_rfl) (by simp) ?_
     refine AllReadyH.cons (o:=_) rfl (fun K hK=>?_) AllReadyH.nil
     refine step_append_where rfl (.tmp 39) (.tmp 44) 27 rfl w.heap.size 3 i1 (.int .i64 0) 1 8 Tryz.underlying27 hi1 hy0 hy1 hy2 rfl (by decide) vT k (tks x k) rfl HOWN5.out ⟨w5.heap.size,0,none⟩ 1 1 [(.int .i64 (y.took:Int))] rfl rfl (news1 w5.drew _ _) (ones1 rfl) (by decide) (by unfold maxLen;omega) (by omega) (by simp;omega) ?_
     intro g4 cap4 w4 hown4 hg4 _
     obtain ⟨hR4,hb4,hA4⟩:=HA5.out.put5 HY.out hown4 hg4
     have HA4:=Sb.hide hA4
     have s4:=HL.out _ hb4
     have s5:=HL.out _ hA4.below
     have q4:=(rep_cells hR4).1
     have f4:=(rep_cells hR4).2
     clear hown4 hg4 hR4 hb4 hA4
     refine hK.out _ _ s4.1 (fun hHeld=>?_)
     clear hK K
     simp only [Act.put]
     refine wpAnyH_take (i:=8) (oi:=_) (v:=?_) rfl (by kernel_rfl) (by kernel_rfl) (by kernel_rfl) (fun _ _ _ h=>h) (Or.inl ⟨by rfl,?_⟩) (by assumption) ?_
     rotate_left
     ·intro w hSw
      (try dsimp only at hSw)
      go_simp
      (try with_reducible rfl)
     (try simp only [Act.put])
     refine wpAnyH_ready (rs:=[9]) (by kernel_rfl) (by simp) ?_
     refine AllReadyH.cons (o:=_) rfl (fun K hK=>?_) AllReadyH.nil
     go_simp
     refine hK.out _ _ s5.1 (fun hHeld=>?_)
     clear hK K hHeld q4 f4 s4
     refine wpAnyH_done (by kernel_rfl) ?_ _
     have HREL:Hid (RpAt w x sv w.heap.size R s q t.trap steps t.out (.slice oa t.out.length oc) (.slice (some ⟨g5,0,none⟩) (k+1) cap5) (.slice (some ⟨g4,0,none⟩) (k+1) cap4) (k+1) (k+1) (w4.setCell ⟨R,5,none⟩ (.slice (some ⟨g4,0,none⟩) (k+1) cap4))):=HA4.out
     clear HA4 HA5 s5
     go_wp2
     go_roundw
     case rel=>exact ⟨k+1,by go_num,by omega,_,_,HREL.out⟩
     case measure=>simp [intOf];omega
  ·have n1:¬ (k:Int) < (nb:Int):=by omega
   have ek:k=nb:=by omega
   subst ek
   have z:=(rep_cells HA.out.zero).1
   have zf:=(rep_cells HA.out.zero).2
   obtain ⟨z0,z1,z2,z3,z4,z5,z6⟩:=z
   have HNE:Hid (w.heap.size≠R):=HA.out.ne
   obtain ⟨sa,sc,hSv⟩:=own_slice HA.out.sent
   obtain ⟨ta,tc,hTv⟩:=own_slice HA.out.took
   subst hSv hTv
   go_wp2
   have hX:=fill7_at (s:=s) (q:=q) (tr:=t.trap) (vO:=.slice oa t.out.length oc) (vS:=.slice sa k sc) (vT:=.slice ta k tc) (st:=steps) HA.out.zero
   refine bodyPost_ret (v:=repV s q t.trap (.slice oa t.out.length oc) (.slice sa k sc) (.slice ta k tc) steps) ?_ rfl ⟨_,_,_,rfl,fill7_own HA.out.zero HA.out.out (by decide),fill7_own HA.out.zero HA.out.sent (by decide),fill7_own HA.out.zero HA.out.took (by decide),fill7_below HA.out.below (Nat.le_refl _)⟩
   unfold fill7 at hX
   generalize ((((((wr.setCell ⟨w.heap.size,0,none⟩ (.int .i64 s)).setCell ⟨w.heap.size,1,none⟩ (.int .i64 q)).setCell ⟨w.heap.size,2,none⟩ (.int .i64 t.trap)).setCell ⟨w.heap.size,3,none⟩ (.slice oa t.out.length oc)).setCell ⟨w.heap.size,4,none⟩ (.slice sa k sc)).setCell ⟨w.heap.size,5,none⟩ (.slice ta k tc)).setCell ⟨w.heap.size,6,none⟩ (.int .i64 steps)=W4 at *
   obtain ⟨g0,g1,g2,g3,g4,g5,g6⟩:=(rep_cells hX).1
   simp [results,Tryz.results19,go_sem,g0,g1,g2,g3,g4,g5,g6]
end Go.Proofs.YthffafaoobpedabGreatDoor.Vw
