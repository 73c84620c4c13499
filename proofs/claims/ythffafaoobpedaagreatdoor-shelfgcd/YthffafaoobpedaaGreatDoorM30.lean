/- The walk of feed: lists out of feeds. -/
import Derived.Test.YthffafaoobpedaaGreatDoorM29
set_option maxRecDepth 100000
set_option maxHeartbeats 2000000
namespace Go.Proofs.YthffafaoobpedaaGreatDoor.Vw
open Go.RowKit Vf Vm
theorem Tryz.aar:(Tryz.prog.info? 74).map (fun i=>(i.zero,i.size,i.bytes))=some (some (.pointer none),1,8):=by kernel_rfl
theorem Tryz.aas:(Tryz.prog.info? 195).map (fun i=>(i.zero,i.size,i.bytes))=some (some .nilIface,1,16):=by kernel_rfl
def nP (Q:Nat→Nat)(n:Nat):List Value:=(List.range n).map fun i=>.iface 74 (.pointer (some ⟨Q i,0,none⟩))
theorem aat (Q:Nat→Nat){n i:Nat}(h:i < n):(nP Q n)[i]?=some (.iface 74 (.pointer (some ⟨Q i,0,none⟩))):=by simp [nP,h]
theorem aau (Q:Nat→Nat)(n:Nat):nP Q (n+1)=nP Q n ++ [.iface 74 (.pointer (some ⟨Q n,0,none⟩))]:=by simp [nP,List.range_succ]
theorem aav (Q:Nat→Nat)(n:Nat):ptrs Q (n+1)=ptrs Q n ++ [.pointer (some ⟨Q n,0,none⟩)]:=by simp [ptrs,List.range_succ]
theorem aaw {Q Q':Nat→Nat}{n:Nat}(h:∀ i,i < n→Q i=Q' i):nP Q n=nP Q' n:=List.map_congr_left (fun i hi=>by rw [h i (by simpa using hi)])
theorem aax {Q Q':Nat→Nat}{n:Nat}(h:∀ i,i < n→Q i=Q' i):ptrs Q n=ptrs Q' n:=List.map_congr_left (fun i hi=>by rw [h i (by simpa using hi)])
structure uE (w:World) (fs:List (List Int)) (fa:Nat→Option Addr) (fc:Nat→Nat) (k:Nat) (vl vb:Value) (Q:Nat→Nat) (wr:World):Prop where
 le:k≤fs.length
 below:Below w.heap.size w wr
 ptr:wr.ownsRow w.heap.size 74 1 vl k (ptrs Q k)
 mP:wr.ownsRow w.heap.size 195 1 vb k (nP Q k)
 blk:∀ (i:Nat) f,i < k→fs[i]?=some f→wr.heap[Q i]?=some (jv (fa i) f.length (fc i) 0 (.slice none 0 0))
 low:∀ i,i < k→w.heap.size≤Q i
 inj:∀ i j,i < j→j < k→Q i < Q j
theorem uE.more {w wr:World}{fs:List (List Int)}{fa:Nat→Option Addr}{fc:Nat→Nat}{k:Nat}{vl vb:Value}{Q:Nat→Nat}(h:uE w fs fa fc k vl vb Q wr){f:List Int}(hf:fs[k]?=some f){w3 w5:World}{O0 O1:Value}
  (h3:w3.ownsRow w.heap.size 74 1 O0 (k+1) (ptrs Q k ++ [.pointer (some ⟨wr.heap.size,0,none⟩)])) (g3:((wr.alloc (jv (fa k) f.length (fc k) 0 (.slice none 0 0))).alloc (.cells #[.pointer (some ⟨wr.heap.size,0,none⟩)] 74)).grownBy w3 vl.ownBlock)
  (h5:w5.ownsRow w.heap.size 195 1 O1 (k+1) (nP Q k ++ [.iface 74 (.pointer (some ⟨wr.heap.size,0,none⟩))])) (g5:(w3.alloc (.cells #[.iface 74 (.pointer (some ⟨wr.heap.size,0,none⟩))] 195)).grownBy w5 vb.ownBlock) :
  uE w fs fa fc (k+1) O0 O1 (fun i=>if i=k then wr.heap.size else Q i) w5:=by
 have hz3:=g3.size
 have zh:=g5.size
 simp at hz3 zh
 have hbz:=h.below.size
 have hQ:∀ i,i < k→(if i=k then wr.heap.size else Q i)=Q i:=fun i hi=>if_neg (by omega)
 -- blocks of other types stay
 have O3:∀ b,b < wr.heap.size+1→vl.ownBlock≠some b→w3.heap[b]?=(wr.alloc (jv (fa k) f.length (fc k) 0 (.slice none 0 0))).heap[b]?:=fun b hb hne=>(g3.block b (by simp;omega) (fun e=>hne e.symm)).trans (Below.heap_alloc _ _ _ (by simp;omega))
 have G7:∀ b,b < w3.heap.size→vb.ownBlock≠some b→w5.heap[b]?=w3.heap[b]?:=fun b hb hne=>(g5.block b (by simp;omega) (fun e=>hne e.symm)).trans (Below.heap_alloc _ _ _ hb)
 have lsy:∀ (b:Nat) (o:Obj),wr.heap[b]?=some o→(∀ cur,o≠.cells cur 74 (0,0))→vl.ownBlock≠some b:=fun b o hb hn e=>by
  obtain ⟨cur,hc⟩:=jE h.ptr e
  rw [hb] at hc
  exact hn cur (Option.some.inj hc)
 have BS:w3.heap[wr.heap.size]?=some (jv (fa k) f.length (fc k) 0 (.slice none 0 0)):=(O3 _ (by omega) (fun e=>by have:=(h.ptr.lt _ e).2;omega)).trans (heap_alloc_new wr _)
 have G8:∀ b,b < wr.heap.size→vl.ownBlock≠some b→w3.heap[b]?=wr.heap[b]?:=fun b hb hne=>(O3 b (by omega) hne).trans (Below.heap_alloc _ _ _ hb)
 have O4:∀ b,vb.ownBlock=some b→b < wr.heap.size:=fun b e=>(h.mP.lt b e).2
 have O5:∀ (b:Nat) af m cf vS,w3.heap[b]?=some (jv af m cf 0 vS)→b < wr.heap.size+1→vb.ownBlock≠some b:=fun b af m cf vS hb _ e=>by
  obtain ⟨cur,hc⟩:=jE h.mP e
  have hne:vl.ownBlock≠some b:=fun e2=>by
   obtain ⟨G9,hc2⟩:=jE h.ptr e2
   rw [hc] at hc2
   simp at hc2
  rw [G8 b (O4 b e) hne,hc] at hb
  simp at hb
 refine ⟨(List.getElem?_eq_some_iff.1 hf).1,?_,?_,?_,fun i f' hi hf'=>?_,fun i hi=>?_,fun i j hij hj=>?_⟩
 ·have b1:Below w.heap.size w ((wr.alloc (jv (fa k) f.length (fc k) 0 (.slice none 0 0))).alloc (.cells #[.pointer (some ⟨wr.heap.size,0,none⟩)] 74)):=(h.below.alloc hbz _).alloc (by simp;omega) _
  have b3:Below w.heap.size w w3:=b1.grown g3 (by simp;omega) (fun b hb=>(h.ptr.lt b hb).1)
  exact (b3.alloc (by omega) _).grown g5 (by simp;omega) (fun b hb=>(h.mP.lt b hb).1)
 ·rw [aav,aax hQ,if_pos rfl]
  refine bU h3 (fun b hb=>G7 b (h3.lt b hb).2 (fun e=>?_))
  obtain ⟨cur,hc⟩:=jE h3 hb
  obtain ⟨G9,hc2⟩:=jE h.mP e
  have hne:vl.ownBlock≠some b:=fun e2=>by
   obtain ⟨ahu,hc3⟩:=jE h.ptr e2
   rw [hc2] at hc3
   simp at hc3
  rw [G8 b (O4 b e) hne,hc2] at hc
  simp at hc
 ·rw [aau,aaw hQ,if_pos rfl]
  exact h5
 ·by_cases e:i=k
  ·subst e
   rw [hf] at hf'
   cases hf'
   simp only [if_true]
   exact (G7 _ (by omega) (O5 _ _ _ _ _ BS (by omega))).trans BS
  ·simp only [if_neg e]
   have hb:=h.blk i f' (by omega) hf'
   have hlt:=lt_of_block hb
   have hb3:=(G8 _ hlt (lsy _ _ hb (fun cur e2=>by simp at e2))).trans hb
   exact (G7 _ (by omega) (O5 _ _ _ _ _ hb3 (by omega))).trans hb3
 ·show _≤if i=k then _ else _
  split
  ·exact hbz
  ·exact h.low i (by omega)
 ·show (if i=k then _ else _) < (if j=k then _ else _)
  rw [if_neg (by omega)]
  split
  ·obtain ⟨f',hf'⟩:∃ f',fs[i]?=some f':=⟨_,List.getElem?_eq_getElem (by have:=h.le;omega)⟩
   exact lt_of_block (h.blk i f' (by omega) hf')
  ·exact h.inj i j hij (by omega)
theorem aaz (B:Nat)(fs:List (List Int))(a:Option Addr)(cap:Nat)(fa:Nat→Option Addr)(fc:Nat→Nat)(w:World)(fw:Hid (jD B w fs a fa fc))(hB:B≤w.heap.size)(dw:fs.length≤30) :
  Calls Tryz.prog 20 #[.slice a fs.length cap] w fun e w'=>∃ vl vb Q,e=.returned (.tuple #[vl,vb])∧uE w fs fa fc fs.length vl vb Q w':=by
 obtain ⟨i0,hi,hz0,hz1,hz2⟩:=info_parts Tryz.aar
 obtain ⟨i1,hi1,hy0,hy1,hy2⟩:=info_parts Tryz.aas
 have HST:Hid (uE w fs fa fc 0 (.slice none 0 0) (.slice none 0 0) (fun _=>0) w):=⟨Nat.zero_le _,.refl _ _,⟨rfl,.inl ⟨rfl,rfl⟩⟩,⟨rfl,.inl ⟨rfl,rfl⟩⟩,fun i f hi=>by omega,fun i hi=>by omega,fun i j _ hj=>by omega⟩
 go_enter Tryz.func20,Tryz.ntmps20
 go_wp2
 go_loopw [4,5,11] (fun vl vb v wr=>∃ k:Nat,v=.int .i64 k∧∃ Q,uE w fs fa fc k vl vb Q wr) (fun _ _ v _=>fs.length - (intOf v).toNat)
 case atStart=>exact ⟨0,rfl,_,HST.out⟩
 case round =>
  obtain ⟨k,rfl,Q,hA⟩:=hrel
  have HA:=Sb.hide hA
  have hbz:=hA.below.size
  have hk:=hA.le
  clear hA HST
  by_cases hlt:k < fs.length
  ·obtain ⟨f,hf⟩:∃ f,fs[k]?=some f:=⟨_,List.getElem?_eq_getElem hlt⟩
   obtain ⟨fb,GZ,rfl,hfb,y0⟩:=fw.out.rows k f hf
   have y1:wr.cell? ⟨fb,GZ+k,none⟩=some (.slice (fa k) f.length (fc k)):=(aS (HA.out.below.block fb (by omega)) _).trans y0
   have HF:=Sb.hide hf
   obtain ⟨ml,di⟩:∃ m,m=fs.length:=⟨_,rfl⟩
   rw [← di] at hlt dw ⊢
   have kM:=Sb.hide di
   have n0:(0:Int)≤(k:Int):=by omega
   have n1:(k:Int) < (ml:Int):=by omega
   have HP:Hid (((wr.alloc (jv (fa k) f.length (fc k) 0 (.slice none 0 0))).alloc (.cells #[.pointer (some ⟨wr.heap.size,0,none⟩)] 74)).ownsRow w.heap.size 74 1 u4 k (ptrs Q k)):=(HA.out.ptr.alloc _).alloc _
   clear di hf y0 fw
   go_wp2_with (at_builtin;refine wm rfl (.tmp 18) (.tmp 20) 48 rfl w.heap.size 74 i0 (.pointer none) 1 8 Tryz.ahv hi hz0 hz1 hz2 rfl (by decide) u4 k (ptrs Q k) rfl HP.out ⟨(wr.alloc (jv (fa k) f.length (fc k) 0 (.slice none 0 0))).heap.size,0,none⟩ 1 1 [.pointer (some ⟨wr.heap.size,0,none⟩)] (by rw [show (wr.alloc (jv (fa k) f.length (fc k) 0 (.slice none 0 0))).heap.size=wr.heap.size+1 by simp];rfl) rfl (kr (wr.alloc (jv (fa k) f.length (fc k) 0 (.slice none 0 0))) _ _) (kv rfl) (by decide) (by unfold maxLen;omega) (by omega) (by simp;omega) ?_)
   intro R3 ahw w3 hown3 hg3 hR3
   have H3:=Sb.hide hown3
   have G3:=Sb.hide hg3
   have hz3:=hg3.size
   simp at hz3
   have HI:Hid ((w3.alloc (.cells #[.iface 74 (.pointer (some ⟨wr.heap.size,0,none⟩))] 195)).ownsRow w.heap.size 195 1 u5 k (nP Q k)):=by
    refine World.ownsRow.alloc (bU HA.out.mP (fun b hb=>?_)) _
    have hbl:=(HA.out.mP.lt b hb).2
    refine (hg3.block b (by simp;omega) (fun e=>?_)).trans ((Below.heap_alloc _ _ _ (by simp;omega)).trans (Below.heap_alloc _ _ _ hbl))
    obtain ⟨cur,hc⟩:=jE HA.out.mP hb
    obtain ⟨G9,hc2⟩:=jE HA.out.ptr e.symm
    rw [hc] at hc2
    simp at hc2
   clear hown3 hg3 hR3
   go_wp2_with (at_builtin;refine wm rfl (.tmp 22) (.tmp 25) 49 rfl w.heap.size 195 i1 .nilIface 1 16 Tryz.ahx hi1 hy0 hy1 hy2 rfl (by decide) u5 k (nP Q k) rfl HI.out ⟨w3.heap.size,0,none⟩ 1 1 [.iface 74 (.pointer (some ⟨wr.heap.size,0,none⟩))] rfl rfl (kr w3 _ _) (kv rfl) (by decide) (by unfold maxLen;omega) (by omega) (by simp;omega) ?_)
   intro R5 cap5 w5 hown5 hg5 hR5
   have dV:=Sb.hide (HA.out.more HF.out H3.out G3.out hown5 hg5)
   clear hown5 hg5 hR5
   go_wp2
   go_roundw
   case rel=>exact ⟨k+1,by go_num,_,dV.out⟩
   case measure=>simp [intOf];omega
  ·have n1:¬ (k:Int) < (fs.length:Int):=by omega
   have ek:k=fs.length:=by omega
   subst ek
   go_wp2
   exact bodyPost_ret (v:=.tuple #[_,_]) (by simp [results,Tryz.ahy,go_sem] <;> first | exact ⟨rfl,rfl⟩ | rfl) rfl ⟨_,_,rfl,Q,HA.out⟩
theorem Tryz.aaC:(Tryz.prog.info? 22).map (fun i=>(i.zero,i.size,i.bytes))=some (some (.slice none 0 0),1,24):=by kernel_rfl
abbrev kR (s q tr:Nat) (vO vS vT:Value) (st:Nat):Obj:=.cells #[.int .i64 s,.int .i64 q,.int .i64 tr,vO,vS,vT,.int .i64 st] 29 (0,0)
abbrev jU:Obj:=.cells #[.int .i64 0,.int .i64 0,.int .i64 0,.slice none 0 0,.slice none 0 0,.slice none 0 0,.int .i64 0] 29 (0,0)
def nQ (sv:Nat→Value)(n:Nat):List Value:=(List.range n).map sv
theorem aaD (sv:Nat→Value)(n:Nat):nQ sv (n+1)=nQ sv n ++ [sv n]:=by simp [nQ,List.range_succ]
def kE (x:List aR)(n:Nat):List Value:=(x.take n).map fun q:aR=>.int .i64 (q.took:Int)
theorem aaE {x:List aR}{n:Nat}{q:aR}(h:x[n]?=some q):kE x (n+1)=kE x n ++ [.int .i64 (q.took:Int)]:=by
 unfold kE
 rw [List.take_add_one,h]
 simp
structure kS (w:World) (x:List aR) (sv:Nat→Value) (R0 R s q tr st:Nat) (out:List Int) (vO vS vT:Value) (ks kt:Nat) (wr:World):Prop where
 below:Below w.heap.size w wr
 low:w.heap.size≤R0∧w.heap.size≤R
 zero:wr.heap[R0]?=some jU
 ne:R0≠R
 rep:wr.heap[R]?=some (kR s q tr vO vS vT st)
 out:wr.ownsRow w.heap.size 2 1 vO out.length (ints out)
 sent:wr.ownsRow w.heap.size 22 1 vS ks (nQ sv ks)
 took:wr.ownsRow w.heap.size 3 1 vT kt (kE x kt)
theorem eQ {w:World}{R s q tr st:Nat}{vO vS vT:Value}(h:w.heap[R]?=some (kR s q tr vO vS vT st)):(w.cell? ⟨R,0,none⟩=some (.int .i64 s)∧w.cell? ⟨R,1,none⟩=some (.int .i64 q)∧w.cell? ⟨R,2,none⟩=some (.int .i64 tr)∧w.cell? ⟨R,3,none⟩=some vO∧w.cell? ⟨R,4,none⟩=some vS∧w.cell? ⟨R,5,none⟩=some vT∧w.cell? ⟨R,6,none⟩=some (.int .i64 st))∧∀ j,w.frozen? ⟨R,j,none⟩=false:=by simp [World.cell?,World.frozen?,h]
theorem Cm {w wr w4:World}{e e' size n n' g:Nat}{v v':Value}{xs xs':List Value}{ob:Obj}(h:wr.ownsRow g e size v n xs)(hx:wr.ownsRow g e' size v' n' xs')(hne:e≠e')(hg:(wr.drew.alloc ob).grownBy w4 v'.ownBlock)(he:w.heap=w4.heap):w.ownsRow g e size v n xs:=by
 refine bU h (fun b hb=>?_)
 rw [he]
 have hl:=(h.lt b hb).2
 refine (hg.block b (by simp;omega) (fun e2=>?_)).trans (Below.heap_alloc wr.drew _ _ hl)
 obtain ⟨c1,h1⟩:=jE h hb
 obtain ⟨c2,h2⟩:=jE hx e2.symm
 rw [h1] at h2
 simp at h2
 exact hne h2.2
section
variable {w wr w4:World} {x:List aR} {sv:Nat→Value} {R0 R s q tr st:Nat} {out:List Int} {vO vS vT:Value} {ks kt:Nat}
theorem kS.O6 (H:kS w x sv R0 R s q tr st out vO vS vT ks kt wr){u v':Value}(hu:u=sv ks)(h4:w4.ownsRow w.heap.size 22 1 v' (ks+1) (nQ sv ks ++ [u]))(g4:(wr.drew.alloc (.cells #[u] 22)).grownBy w4 vS.ownBlock):w4.heap[R]?=some (kR s q tr vO vS vT st)∧Below w.heap.size w w4∧kS w x sv R0 R s q tr st out vO v' vT (ks+1) kt (w4.setCell ⟨R,4,none⟩ v'):=by
 have zB:=H.below.size
 have lD:=g4.size
 simp at lD
 have nS:∀ b s q tr vO zC vT st,wr.heap[b]?=some (kR s q tr vO zC vT st)→vS.ownBlock≠some b:=fun b s q tr vO zC vT st hb e=>by
  obtain ⟨cur,hc⟩:=jE H.sent e
  rw [hb] at hc
  simp at hc
 have blk:∀ b,b < wr.heap.size→vS.ownBlock≠some b→w4.heap[b]?=wr.heap[b]?:=fun b hb hn=>(g4.block b (by simp;omega) (fun e=>hn e.symm)).trans (Below.heap_alloc wr.drew _ _ hb)
 have hR:w4.heap[R]?=some (kR s q tr vO vS vT st):=(blk R (lt_of_block H.rep) (nS _ _ _ _ _ _ _ _ H.rep)).trans H.rep
 have hset:∀ b,b≠R→(w4.setCell ⟨R,4,none⟩ v').heap[b]?=w4.heap[b]?:=fun b hb=>Below.heap_setCell _ ⟨R,4,none⟩ _ _ hb
 have keep:∀ {e n:Nat} {v:Value} {xs:List Value},w4.ownsRow w.heap.size e 1 v n xs→e≠29→(w4.setCell ⟨R,4,none⟩ v').ownsRow w.heap.size e 1 v n xs:=fun h hne=>bU h (fun b hb=>hset b (fun e2=>by
  obtain ⟨cur,hc⟩:=jE h hb
  rw [e2,hR] at hc
  simp at hc
  exact hne hc.2.symm))
 refine ⟨hR,?_,?_,H.low,?_,H.ne,?_,keep (Cm H.out H.sent (by decide) g4 rfl) (by decide),?_,keep (Cm H.took H.sent (by decide) g4 rfl) (by decide)⟩
 ·exact (H.below.drew.alloc (by exact zB) _).grown g4 (by simp;omega) (fun b hb=>(H.sent.lt b hb).1)
 ·exact (((H.below.drew.alloc (by exact zB) _).grown g4 (by simp;omega) (fun b hb=>(H.sent.lt b hb).1))).setCell (p:=⟨R,4,none⟩) H.low.2 _
 ·exact (hset _ H.ne).trans ((blk R0 (lt_of_block H.zero) (nS _ _ _ _ _ _ _ _ H.zero)).trans H.zero)
 ·simp only [World.setCell,Array.getElem?_modify,if_true,hR,Option.map_some]
  rfl
 ·rw [aaD,← hu]
  exact keep h4 (by decide)
theorem kS.Cn (H:kS w x sv R0 R s q tr st out vO vS vT ks kt wr){y:aR}(hy:x[kt]?=some y){v':Value}(h4:w4.ownsRow w.heap.size 3 1 v' (kt+1) (kE x kt ++ [.int .i64 (y.took:Int)]))(g4:(wr.drew.alloc (.cells #[.int .i64 (y.took:Int)] 3)).grownBy w4 vT.ownBlock):w4.heap[R]?=some (kR s q tr vO vS vT st)∧Below w.heap.size w w4∧kS w x sv R0 R s q tr st out vO vS v' ks (kt+1) (w4.setCell ⟨R,5,none⟩ v'):=by
 have zB:=H.below.size
 have lD:=g4.size
 simp at lD
 have nS:∀ b s q tr vO zC O7 st,wr.heap[b]?=some (kR s q tr vO zC O7 st)→vT.ownBlock≠some b:=fun b s q tr vO zC O7 st hb e=>by
  obtain ⟨cur,hc⟩:=jE H.took e
  rw [hb] at hc
  simp at hc
 have blk:∀ b,b < wr.heap.size→vT.ownBlock≠some b→w4.heap[b]?=wr.heap[b]?:=fun b hb hn=>(g4.block b (by simp;omega) (fun e=>hn e.symm)).trans (Below.heap_alloc wr.drew _ _ hb)
 have hR:w4.heap[R]?=some (kR s q tr vO vS vT st):=(blk R (lt_of_block H.rep) (nS _ _ _ _ _ _ _ _ H.rep)).trans H.rep
 have hset:∀ b,b≠R→(w4.setCell ⟨R,5,none⟩ v').heap[b]?=w4.heap[b]?:=fun b hb=>Below.heap_setCell _ ⟨R,5,none⟩ _ _ hb
 have keep:∀ {e n:Nat} {v:Value} {xs:List Value},w4.ownsRow w.heap.size e 1 v n xs→e≠29→(w4.setCell ⟨R,5,none⟩ v').ownsRow w.heap.size e 1 v n xs:=fun h hne=>bU h (fun b hb=>hset b (fun e2=>by
  obtain ⟨cur,hc⟩:=jE h hb
  rw [e2,hR] at hc
  simp at hc
  exact hne hc.2.symm))
 refine ⟨hR,?_,?_,H.low,?_,H.ne,?_,keep (Cm H.out H.took (by decide) g4 rfl) (by decide),keep (Cm H.sent H.took (by decide) g4 rfl) (by decide),?_⟩
 ·exact (H.below.drew.alloc (by exact zB) _).grown g4 (by simp;omega) (fun b hb=>(H.took.lt b hb).1)
 ·exact (((H.below.drew.alloc (by exact zB) _).grown g4 (by simp;omega) (fun b hb=>(H.took.lt b hb).1))).setCell (p:=⟨R,5,none⟩) H.low.2 _
 ·exact (hset _ H.ne).trans ((blk R0 (lt_of_block H.zero) (nS _ _ _ _ _ _ _ _ H.zero)).trans H.zero)
 ·simp only [World.setCell,Array.getElem?_modify,if_true,hR,Option.map_some]
  rfl
 ·rw [aaE hy]
  exact keep h4 (by decide)
end
abbrev zD (w:World) (b s q tr:Nat) (vO vS vT:Value) (st:Nat):World:=((((((w.setCell ⟨b,0,none⟩ (.int .i64 s)).setCell ⟨b,1,none⟩ (.int .i64 q)).setCell ⟨b,2,none⟩ (.int .i64 tr)).setCell ⟨b,3,none⟩ vO).setCell ⟨b,4,none⟩ vS).setCell ⟨b,5,none⟩ vT).setCell ⟨b,6,none⟩ (.int .i64 st)
theorem aaF {w:World}{b s q tr:Nat}{vO vS vT:Value}{st:Nat}(h:w.heap[b]?=some jU):(zD w b s q tr vO vS vT st).heap[b]?=some (kR s q tr vO vS vT st):=by
 simp only [World.setCell,Array.getElem?_modify,if_true,h,Option.map_some]
 rfl
theorem aaG {w:World}{b s q tr:Nat}{vO vS vT:Value}{st:Nat}{b':Nat}(hn:b'≠b):(zD w b s q tr vO vS vT st).heap[b']?=w.heap[b']?:=by
 rw [Below.heap_setCell _ ⟨b,6,none⟩ _ _ hn,Below.heap_setCell _ ⟨b,5,none⟩ _ _ hn,Below.heap_setCell _ ⟨b,4,none⟩ _ _ hn,Below.heap_setCell _ ⟨b,3,none⟩ _ _ hn,Below.heap_setCell _ ⟨b,2,none⟩ _ _ hn,Below.heap_setCell _ ⟨b,1,none⟩ _ _ hn,Below.heap_setCell _ ⟨b,0,none⟩ _ _ hn]
theorem aaH {w0 w:World}{B b s q tr:Nat}{vO vS vT:Value}{st:Nat}(h:Below B w0 w)(hB:B≤b):Below B w0 (zD w b s q tr vO vS vT st) :=
 ((((((h.setCell (p:=⟨b,0,none⟩) hB _).setCell (p:=⟨b,1,none⟩) hB _).setCell (p:=⟨b,2,none⟩) hB _).setCell (p:=⟨b,3,none⟩) hB _).setCell (p:=⟨b,4,none⟩) hB _).setCell (p:=⟨b,5,none⟩) hB _).setCell (p:=⟨b,6,none⟩) hB _
theorem Ha {w:World}{b s q tr:Nat}{vO vS vT:Value}{st:Nat}(h:w.heap[b]?=some jU){B e n:Nat}{v:Value}{xs:List Value}(ho:w.ownsRow B e 1 v n xs)(he:e≠29):(zD w b s q tr vO vS vT st).ownsRow B e 1 v n xs :=
 bU ho (fun k hk=>aaG (fun e2=>by
  obtain ⟨cur,hc⟩:=jE ho hk
  rw [e2,h] at hc
  simp at hc
  exact he hc.2.symm))
abbrev iY (s q tr:Nat) (vO vS vT:Value) (st:Nat):Value:=.agg #[.int .i64 s,.int .i64 q,.int .i64 tr,vO,vS,vT,.int .i64 st]
theorem aaI (Q:Nat→Nat)(nb rb off:Nat)(c:Cx)(vB ev:Value)(o T:Nat)(L:ay)(P:Nat→Nat)(w:World)(t:Tk)(x:List aR)(vR vO:Value)(H:Hid (St (nJ Q nb rb off) c vB ev o T L P w t x vR vO))(hX:Hid (lF (nJ Q nb rb off) aC c vB))(hs:Hid (t.over=0→∃ f rs u i,lJ c t f rs u i))(ho:t.out.length≤1000000)(va:Option Addr)(vc:Nat)(hvl:Hid (w.ownsRow 0 74 1 (.slice va nb vc) nb (ptrs Q nb)))(hnb:nb≤30)(hxl:x.length=nb)(steps:Nat)(sv:Nat→Value)(hsv:Hid (∀ (i:Nat) q,x[i]?=some q→∃ af cf,jO L w (Q i) i q af cf (sv i))) :
  Calls Tryz.prog 23 #[.pointer (some ⟨T,0,none⟩),.slice va nb vc,.int .i64 steps] w fun e w'=>∃ vO vS vT,e=.returned (iY (stat aC c.m t x).1 (stat aC c.m t x).2 t.trap vO vS vT steps)∧w'.ownsRow w.heap.size 2 1 vO t.out.length (ints t.out)∧w'.ownsRow w.heap.size 22 1 vS nb (nQ sv nb)∧w'.ownsRow w.heap.size 3 1 vT nb (kE x nb)∧Below w.heap.size w w':=by
 obtain ⟨i0,hi,hz0,hz1,hz2⟩:=info_parts Tryz.aaC
 obtain ⟨i1,hi1,hy0,hy1,hy2⟩:=info_parts Tryz.info3
 obtain ⟨s,hs1⟩:∃ s,s=(stat aC c.m t x).1:=⟨_,rfl⟩
 obtain ⟨q,hq1⟩:∃ s,s=(stat aC c.m t x).2:=⟨_,rfl⟩
 rw [← hs1,← hq1]
 have iK:=Sb.hide hs1
 have rE:=Sb.hide hq1
 have HXL:=Sb.hide hxl
 clear hs1 hq1 hxl
 go_enter Tryz.ahz,Tryz.ahA
 go_wp2_with fail
 have HB0:Hid (Below w.heap.size w (w.alloc jU)):=(Below.refl _ w).alloc (Nat.le_refl _) _
 have G6:Hid ((w.alloc jU).heap[w.heap.size]?=some jU):=heap_alloc_new w _
 have hzA:(w.alloc jU).heap.size=w.heap.size+1:=by simp
 generalize w.alloc jU=W0 at *
 refine (aao (nJ Q nb rb off) aC c vB ev o T L P _ t x vR vO (Sb.hide (H.out.below HB0.out)) hX hs ho).mono ?_
 rw [← iK.out,← rE.out]
 rintro e w1 ⟨v,rfl,hown1,hb1⟩
 obtain ⟨oa,oc,rfl⟩:=mO hown1
 have hzB:=hb1.size
 have HB1:Hid (Below w.heap.size w w1):=HB0.out.trans (hb1.mono (by omega))
 have HZ1:Hid (w1.heap[w.heap.size]?=some jU):=(hb1.block _ (by omega)).trans G6.out
 have uF:Hid (w1.ownsRow w.heap.size 2 1 (.slice oa t.out.length oc) t.out.length (ints t.out)):=rM hown1 (by omega)
 clear hown1 hb1
 have HST:Hid (kS w x sv w.heap.size (w1.heap.size+1) s q t.trap steps t.out (.slice oa t.out.length oc) (.slice none 0 0) (.slice none 0 0) 0 0 ((w1.alloc (.cells #[.int .i64 s,.int .i64 q,.int .i64 t.trap,.slice oa t.out.length oc] 91)).alloc (kR s q t.trap (.slice oa t.out.length oc) (.slice none 0 0) (.slice none 0 0) steps))):=by
  have e1:(w1.alloc (.cells #[.int .i64 s,.int .i64 q,.int .i64 t.trap,.slice oa t.out.length oc] 91)).heap.size=w1.heap.size+1:=by simp
  have hbz:=HB1.out.size
  refine ⟨(HB1.out.alloc hbz _).alloc (by simp;omega) _,⟨Nat.le_refl _,by omega⟩,?_,by omega,?_,(uF.out.alloc _).alloc _,⟨rfl,.inl ⟨rfl,rfl⟩⟩,⟨rfl,.inl ⟨rfl,rfl⟩⟩⟩
  ·exact (Below.heap_alloc _ _ _ (by simp;omega)).trans ((Below.heap_alloc _ _ _ (by omega)).trans HZ1.out)
  ·rw [← e1];exact heap_alloc_new _ _
 go_wp2
 go_loopw [25] (fun v wr=>∃ k:Nat,v=.int .i64 k∧k≤nb∧∃ vS vT,kS w x sv w.heap.size (w1.heap.size+1) s q t.trap steps t.out (.slice oa t.out.length oc) vS vT k k wr) (fun v _=>nb - (intOf v).toNat)
 case atStart=>exact ⟨0,rfl,Nat.zero_le _,_,_,HST.out⟩
 case round =>
  obtain ⟨k,rfl,hk,vS,vT,hA⟩:=hrel
  have HA:=Sb.hide hA
  have hbz:=hA.below.size
  have rc:=(eQ hA.rep).1
  have rf:=(eQ hA.rep).2
  obtain ⟨r0,r1,r2,r3,r4,r5,r6⟩:=rc
  clear hA HST
  obtain ⟨R,hR⟩:∃ R,R=w1.heap.size+1:=⟨_,rfl⟩
  have HR:=Sb.hide hR
  rw [← hR] at r0 r1 r2 r3 r4 r5 r6 rf HA ⊢
  clear hR
  by_cases hlt:k < nb
  ·obtain ⟨y,hy⟩:∃ y,x[k]?=some y:=⟨_,List.getElem?_eq_getElem (by have:=HXL.out;omega)⟩
   obtain ⟨af,cf,hL⟩:=hsv.out k y hy
   obtain ⟨sa,sc,Co⟩:=mO hL.sent
   have O8:=Sb.hide Co
   have uk:=(HA.out.below.block _ (lt_of_block hL.blk)).trans hL.blk
   have hQz:Q k < wr.heap.size:=lt_of_block uk
   obtain ⟨l0,l1,l2,_⟩:=yV uk
   rw [Co] at l2
   have HQR:Hid (Q k≠R):=fun e=>by
    have:=HA.out.rep
    rw [← e,uk] at this
    simp at this
   have HY:=Sb.hide hy
   obtain ⟨vg,hva,zF⟩:=zA hvl.out (Ll Q hlt)
   have hvg:vg < w.heap.size:=World.block_lt_of_cell? w _ zF
   have v0:wr.cell? ⟨vg,k,none⟩=some (.pointer (some ⟨Q k,0,none⟩)):=(aS (HA.out.below.block vg hvg) _).trans zF
   have HL:Hid (∀ W,Below w.heap.size w W→W.cell? ⟨Q k,1,none⟩=some (.int .i64 y.took)∧W.cell? ⟨Q k,2,none⟩=some (.slice sa y.sent.length sc)):=fun W hW=>by
    have hb:=(hW.block _ (lt_of_block hL.blk)).trans hL.blk
    obtain ⟨_,a1,a2,_⟩:=yV hb
    rw [Co] at a2
    exact ⟨a1,a2⟩
   have n0:(0:Int)≤(k:Int):=by omega
   have n1:(k:Int) < (nb:Int):=by omega
   rw [hva]
   clear hva zF hy hL Co uk l0 l1
   have HOWN:Hid ((wr.drew.alloc (.cells #[.slice sa y.sent.length sc] 22)).ownsRow w.heap.size 22 1 vS k (nQ sv k)):=HA.out.sent.drew.alloc _
   go_wp2_with fail
   refine wp_region_held_drew (S:=fun w'=>w'.cell? ⟨Q k,2,none⟩=some (.slice sa y.sent.length sc)) (by kernel_rfl) (by exact l2) (fun hHeld=>?_)
   refine wpAnyH_take (i:=0) (oi:=_) (v:=?_) rfl (by kernel_rfl) (by kernel_rfl) (by kernel_rfl) (fun _ _ _ h=>h) (Or.inl ⟨by rfl,?_⟩) (by assumption) ?_
   rotate_left
   ·intro w hSw
    (try dsimp only at hSw)
    go_simp
    (try with_reducible rfl)
   (try simp only [Act.put])
   refine wpAnyH_take (i:=2) (oi:=_) (v:=?_) rfl (by kernel_rfl) (by kernel_rfl) (by kernel_rfl) (fun _ _ _ h=>h) (Or.inl ⟨by rfl,?_⟩) (by assumption) ?_
   rotate_left
   ·intro w hSw
    (try dsimp only at hSw)
    go_simp
    (try with_reducible rfl)
   (try simp only [Act.put])
   refine wpAnyH_take (i:=3) (oi:=_) (v:=?_) rfl (by kernel_rfl) (by kernel_rfl) (by kernel_rfl) (fun _ _ _ h=>h) (Or.inl ⟨by rfl,?_⟩) (by assumption) ?_
   rotate_left
   ·intro w hSw
    (try dsimp only at hSw)
    go_simp
    (try with_reducible rfl)
   (try simp only [Act.put])
   refine wpAnyH_take (i:=4) (oi:=_) (v:=?_) rfl (by kernel_rfl) (by kernel_rfl) (by kernel_rfl) (fun _ _ _ h=>h) (Or.inl ⟨by rfl,?_⟩) (by assumption) ?_
   rotate_left
   ·intro w hSw
    (try dsimp only at hSw)
    go_simp
    (try with_reducible rfl)
   (try simp only [Act.put])
   refine wpAnyH_take (i:=5) (oi:=_) (v:=?_) rfl (by kernel_rfl) (by kernel_rfl) (by kernel_rfl) (fun _ _ _ h=>h) (Or.inl ⟨by rfl,?_⟩) (by assumption) ?_
   rotate_left
   ·intro w hSw
    (try dsimp only at hSw)
    go_simp
    (try with_reducible rfl)
   (try simp only [Act.put])
   refine wpAnyH_ready (rs:=[1,6]) (by kernel_rfl) (by simp) ?_
   refine AllReadyH.cons (o:=_) rfl (fun K hK=>?_) ?_
   ·go_simp
    refine hK.out _ _ hHeld (fun hHeld=>?_)
    clear hK K
    refine wpAnyH_ready (rs:=[6]) (by kernel_rfl) (by simp) ?_
    refine AllReadyH.cons (o:=_) rfl (fun K hK=>?_) AllReadyH.nil
    go_simp
    refine hK.out _ _ (HL.out _ ((HA.out.below.drew).alloc (by exact HA.out.below.size) _)).2 (fun hHeld=>?_)
    clear hK K
    refine wpAnyH_ready (rs:=[7]) (by kernel_rfl) (by simp) ?_
    refine AllReadyH.cons (o:=_) rfl (fun K hK=>?_) AllReadyH.nil
    refine nA rfl (.tmp 30) (.tmp 35) 26 rfl w.heap.size 22 i0 (.slice none 0 0) 1 24 Tryz.aaL hi hz0 hz1 hz2 rfl (by decide) vS k (nQ sv k) rfl HOWN.out ⟨wr.heap.size,0,none⟩ 1 1 [(.slice sa y.sent.length sc)] rfl rfl (kr wr.drew _ _) (kv rfl) (by decide) (by unfold maxLen;omega) (by omega) (by simp;omega) ?_
    intro g4 cap4 w4 bK hg4 _
    obtain ⟨bH,hb4,gp⟩:=HA.out.O6 O8.out.symm bK hg4
    have jF:=Sb.hide gp
    have s4:=HL.out _ hb4
    have s5:=HL.out _ gp.below
    have q4:=(eQ bH).1
    have f4:=(eQ bH).2
    clear bK hg4 bH hb4 gp
    refine hK.out _ _ s4.2 (fun hHeld=>?_)
    clear hK K
    simp only [Act.put]
    refine wpAnyH_take (i:=8) (oi:=_) (v:=?_) rfl (by kernel_rfl) (by kernel_rfl) (by kernel_rfl) (fun _ _ _ h=>h) (Or.inl ⟨by rfl,?_⟩) (by assumption) ?_
    rotate_left
    ·intro w hSw
     (try dsimp only at hSw)
     go_simp
     (try with_reducible rfl)
    (try simp only [Act.put])
    refine wpAnyH_ready (rs:=[9]) (by kernel_rfl) (by simp) ?_
    refine AllReadyH.cons (o:=_) rfl (fun K hK=>?_) AllReadyH.nil
    go_simp
    refine hK.out _ _ s5.2 (fun hHeld=>?_)
    clear hK K hHeld q4 f4 s4
    refine wpAnyH_done (by kernel_rfl) ?_ _
    have dQ:Hid (kS w x sv w.heap.size R s q t.trap steps t.out (.slice oa t.out.length oc) (.slice (some ⟨g4,0,none⟩) (k+1) cap4) vT (k+1) k (w4.setCell ⟨R,4,none⟩ (.slice (some ⟨g4,0,none⟩) (k+1) cap4))):=jF.out
    have l5:=(HL.out _ dQ.out.below).1
    have c5:=(eQ dQ.out.rep).1.2.2.2.2.2.1
    have zh:=dQ.out.below.size
    clear jF s5
    generalize w4.setCell ⟨R,4,none⟩ (.slice (some ⟨g4,0,none⟩) (k+1) cap4)=w5 at *
    obtain ⟨g5,hg5⟩:∃ g,g=g4:=⟨_,rfl⟩
    obtain ⟨cap5,qH⟩:∃ g,g=cap4:=⟨_,rfl⟩
    rw [← hg5,← qH] at dQ
    rw [← hg5,← qH]
    clear hg5 qH
    have zG:Hid ((w5.drew.alloc (.cells #[.int .i64 (y.took:Int)] 3)).ownsRow w.heap.size 3 1 vT k (kE x k)):=dQ.out.took.drew.alloc _
    go_wp2_with fail
    refine wp_region_held_drew (S:=fun w'=>w'.cell? ⟨Q k,1,none⟩=some (.int .i64 y.took)) (by kernel_rfl) (by exact l5) (fun hHeld=>?_)
    refine wpAnyH_take (i:=0) (oi:=_) (v:=?_) rfl (by kernel_rfl) (by kernel_rfl) (by kernel_rfl) (fun _ _ _ h=>h) (Or.inl ⟨by rfl,?_⟩) (by assumption) ?_
    rotate_left
    ·intro w hSw
     (try dsimp only at hSw)
     go_simp
     (try with_reducible rfl)
    (try simp only [Act.put])
    refine wpAnyH_take (i:=2) (oi:=_) (v:=?_) rfl (by kernel_rfl) (by kernel_rfl) (by kernel_rfl) (fun _ _ _ h=>h) (Or.inl ⟨by rfl,?_⟩) (by assumption) ?_
    rotate_left
    ·intro w hSw
     (try dsimp only at hSw)
     go_simp
     (try with_reducible rfl)
    (try simp only [Act.put])
    refine wpAnyH_take (i:=3) (oi:=_) (v:=?_) rfl (by kernel_rfl) (by kernel_rfl) (by kernel_rfl) (fun _ _ _ h=>h) (Or.inl ⟨by rfl,?_⟩) (by assumption) ?_
    rotate_left
    ·intro w hSw
     (try dsimp only at hSw)
     go_simp
     (try with_reducible rfl)
    (try simp only [Act.put])
    refine wpAnyH_take (i:=4) (oi:=_) (v:=?_) rfl (by kernel_rfl) (by kernel_rfl) (by kernel_rfl) (fun _ _ _ h=>h) (Or.inl ⟨by rfl,?_⟩) (by assumption) ?_
    rotate_left
    ·intro w hSw
     (try dsimp only at hSw)
     go_simp
     (try with_reducible rfl)
    (try simp only [Act.put])
    refine wpAnyH_take (i:=5) (oi:=_) (v:=?_) rfl (by kernel_rfl) (by kernel_rfl) (by kernel_rfl) (fun _ _ _ h=>h) (Or.inl ⟨by rfl,?_⟩) (by assumption) ?_
    rotate_left
    ·intro w hSw
     (try dsimp only at hSw)
     go_simp
     (try with_reducible rfl)
    (try simp only [Act.put])
    refine wpAnyH_ready (rs:=[1,6]) (by kernel_rfl) (by simp) ?_
    refine AllReadyH.cons (o:=_) rfl (fun K hK=>?_) ?_
    ·go_simp
     refine hK.out _ _ hHeld (fun hHeld=>?_)
     clear hK K
     refine wpAnyH_ready (rs:=[6]) (by kernel_rfl) (by simp) ?_
     refine AllReadyH.cons (o:=_) rfl (fun K hK=>?_) AllReadyH.nil
     go_simp
     refine hK.out _ _ (HL.out _ ((dQ.out.below.drew).alloc (by exact dQ.out.below.size) _)).1 (fun hHeld=>?_)
     clear hK K
     refine wpAnyH_ready (rs:=[7]) (by kernel_rfl) (by simp) ?_
     refine AllReadyH.cons (o:=_) rfl (fun K hK=>?_) AllReadyH.nil
     refine nA rfl (.tmp 39) (.tmp 44) 27 rfl w.heap.size 3 i1 (.int .i64 0) 1 8 Tryz.uf hi1 hy0 hy1 hy2 rfl (by decide) vT k (kE x k) rfl zG.out ⟨w5.heap.size,0,none⟩ 1 1 [(.int .i64 (y.took:Int))] rfl rfl (kr w5.drew _ _) (kv rfl) (by decide) (by unfold maxLen;omega) (by omega) (by simp;omega) ?_
     intro g4 cap4 w4 bK hg4 _
     obtain ⟨bH,hb4,gp⟩:=dQ.out.Cn HY.out bK hg4
     have jF:=Sb.hide gp
     have s4:=HL.out _ hb4
     have s5:=HL.out _ gp.below
     have q4:=(eQ bH).1
     have f4:=(eQ bH).2
     clear bK hg4 bH hb4 gp
     refine hK.out _ _ s4.1 (fun hHeld=>?_)
     clear hK K
     simp only [Act.put]
     refine wpAnyH_take (i:=8) (oi:=_) (v:=?_) rfl (by kernel_rfl) (by kernel_rfl) (by kernel_rfl) (fun _ _ _ h=>h) (Or.inl ⟨by rfl,?_⟩) (by assumption) ?_
     rotate_left
     ·intro w hSw
      (try dsimp only at hSw)
      go_simp
      (try with_reducible rfl)
     (try simp only [Act.put])
     refine wpAnyH_ready (rs:=[9]) (by kernel_rfl) (by simp) ?_
     refine AllReadyH.cons (o:=_) rfl (fun K hK=>?_) AllReadyH.nil
     go_simp
     refine hK.out _ _ s5.1 (fun hHeld=>?_)
     clear hK K hHeld q4 f4 s4
     refine wpAnyH_done (by kernel_rfl) ?_ _
     have dV:Hid (kS w x sv w.heap.size R s q t.trap steps t.out (.slice oa t.out.length oc) (.slice (some ⟨g5,0,none⟩) (k+1) cap5) (.slice (some ⟨g4,0,none⟩) (k+1) cap4) (k+1) (k+1) (w4.setCell ⟨R,5,none⟩ (.slice (some ⟨g4,0,none⟩) (k+1) cap4))):=jF.out
     clear jF dQ s5
     go_wp2
     go_roundw
     case rel=>exact ⟨k+1,by go_num,by omega,_,_,dV.out⟩
     case measure=>simp [intOf];omega
    ·skip
     refine AllReadyH.cons (o:=_) rfl (fun K hK=>?_) AllReadyH.nil
     go_simp
     refine hK.out _ _ (HL.out _ ((dQ.out.below.drew).alloc (by exact dQ.out.below.size) _)).1 (fun hHeld=>?_)
     clear hK K
     have c5b:(w5.alloc (.cells #[.int .i64 (y.took:Int)] 3)).drew.cell? ⟨R,5,none⟩=some vT:=(aS (Below.heap_alloc w5 (.cells #[.int .i64 (y.took:Int)] 3) _ (lt_of_block dQ.out.rep)) _).trans c5
     refine wpAnyH_ready (rs:=[1]) (by kernel_rfl) (by simp) ?_
     refine AllReadyH.cons (o:=_) rfl (fun K hK=>?_) AllReadyH.nil
     go_simp
     refine hK.out _ _ hHeld (fun hHeld=>?_)
     clear hK K
     refine wpAnyH_ready (rs:=[7]) (by kernel_rfl) (by simp) ?_
     refine AllReadyH.cons (o:=_) rfl (fun K hK=>?_) AllReadyH.nil
     refine nA rfl (.tmp 39) (.tmp 44) 27 rfl w.heap.size 3 i1 (.int .i64 0) 1 8 Tryz.uf hi1 hy0 hy1 hy2 rfl (by decide) vT k (kE x k) rfl zG.out ⟨w5.heap.size,0,none⟩ 1 1 [(.int .i64 (y.took:Int))] rfl rfl (kr w5.drew _ _) (kv rfl) (by decide) (by unfold maxLen;omega) (by omega) (by simp;omega) ?_
     intro g4 cap4 w4 bK hg4 _
     obtain ⟨bH,hb4,gp⟩:=dQ.out.Cn HY.out bK hg4
     have jF:=Sb.hide gp
     have s4:=HL.out _ hb4
     have s5:=HL.out _ gp.below
     have q4:=(eQ bH).1
     have f4:=(eQ bH).2
     clear bK hg4 bH hb4 gp
     refine hK.out _ _ s4.1 (fun hHeld=>?_)
     clear hK K
     simp only [Act.put]
     refine wpAnyH_take (i:=8) (oi:=_) (v:=?_) rfl (by kernel_rfl) (by kernel_rfl) (by kernel_rfl) (fun _ _ _ h=>h) (Or.inl ⟨by rfl,?_⟩) (by assumption) ?_
     rotate_left
     ·intro w hSw
      (try dsimp only at hSw)
      go_simp
      (try with_reducible rfl)
     (try simp only [Act.put])
     refine wpAnyH_ready (rs:=[9]) (by kernel_rfl) (by simp) ?_
     refine AllReadyH.cons (o:=_) rfl (fun K hK=>?_) AllReadyH.nil
     go_simp
     refine hK.out _ _ s5.1 (fun hHeld=>?_)
     clear hK K hHeld q4 f4 s4
     refine wpAnyH_done (by kernel_rfl) ?_ _
     have dV:Hid (kS w x sv w.heap.size R s q t.trap steps t.out (.slice oa t.out.length oc) (.slice (some ⟨g5,0,none⟩) (k+1) cap5) (.slice (some ⟨g4,0,none⟩) (k+1) cap4) (k+1) (k+1) (w4.setCell ⟨R,5,none⟩ (.slice (some ⟨g4,0,none⟩) (k+1) cap4))):=jF.out
     clear jF dQ s5
     go_wp2
     go_roundw
     case rel=>exact ⟨k+1,by go_num,by omega,_,_,dV.out⟩
     case measure=>simp [intOf];omega
   ·skip
    refine AllReadyH.cons (o:=_) rfl (fun K hK=>?_) AllReadyH.nil
    go_simp
    refine hK.out _ _ (HL.out _ ((HA.out.below.drew).alloc (by exact HA.out.below.size) _)).2 (fun hHeld=>?_)
    clear hK K
    have r4b:(wr.alloc (.cells #[.slice sa y.sent.length sc] 22)).drew.cell? ⟨R,4,none⟩=some vS:=(aS (Below.heap_alloc wr (.cells #[.slice sa y.sent.length sc] 22) _ (lt_of_block HA.out.rep)) _).trans r4
    refine wpAnyH_ready (rs:=[1]) (by kernel_rfl) (by simp) ?_
    refine AllReadyH.cons (o:=_) rfl (fun K hK=>?_) AllReadyH.nil
    go_simp
    refine hK.out _ _ hHeld (fun hHeld=>?_)
    clear hK K
    refine wpAnyH_ready (rs:=[7]) (by kernel_rfl) (by simp) ?_
    refine AllReadyH.cons (o:=_) rfl (fun K hK=>?_) AllReadyH.nil
    refine nA rfl (.tmp 30) (.tmp 35) 26 rfl w.heap.size 22 i0 (.slice none 0 0) 1 24 Tryz.aaL hi hz0 hz1 hz2 rfl (by decide) vS k (nQ sv k) rfl HOWN.out ⟨wr.heap.size,0,none⟩ 1 1 [(.slice sa y.sent.length sc)] rfl rfl (kr wr.drew _ _) (kv rfl) (by decide) (by unfold maxLen;omega) (by omega) (by simp;omega) ?_
    intro g4 cap4 w4 bK hg4 _
    obtain ⟨bH,hb4,gp⟩:=HA.out.O6 O8.out.symm bK hg4
    have jF:=Sb.hide gp
    have s4:=HL.out _ hb4
    have s5:=HL.out _ gp.below
    have q4:=(eQ bH).1
    have f4:=(eQ bH).2
    clear bK hg4 bH hb4 gp
    refine hK.out _ _ s4.2 (fun hHeld=>?_)
    clear hK K
    simp only [Act.put]
    refine wpAnyH_take (i:=8) (oi:=_) (v:=?_) rfl (by kernel_rfl) (by kernel_rfl) (by kernel_rfl) (fun _ _ _ h=>h) (Or.inl ⟨by rfl,?_⟩) (by assumption) ?_
    rotate_left
    ·intro w hSw
     (try dsimp only at hSw)
     go_simp
     (try with_reducible rfl)
    (try simp only [Act.put])
    refine wpAnyH_ready (rs:=[9]) (by kernel_rfl) (by simp) ?_
    refine AllReadyH.cons (o:=_) rfl (fun K hK=>?_) AllReadyH.nil
    go_simp
    refine hK.out _ _ s5.2 (fun hHeld=>?_)
    clear hK K hHeld q4 f4 s4
    refine wpAnyH_done (by kernel_rfl) ?_ _
    have dQ:Hid (kS w x sv w.heap.size R s q t.trap steps t.out (.slice oa t.out.length oc) (.slice (some ⟨g4,0,none⟩) (k+1) cap4) vT (k+1) k (w4.setCell ⟨R,4,none⟩ (.slice (some ⟨g4,0,none⟩) (k+1) cap4))):=jF.out
    have l5:=(HL.out _ dQ.out.below).1
    have c5:=(eQ dQ.out.rep).1.2.2.2.2.2.1
    have zh:=dQ.out.below.size
    clear jF s5
    generalize w4.setCell ⟨R,4,none⟩ (.slice (some ⟨g4,0,none⟩) (k+1) cap4)=w5 at *
    obtain ⟨g5,hg5⟩:∃ g,g=g4:=⟨_,rfl⟩
    obtain ⟨cap5,qH⟩:∃ g,g=cap4:=⟨_,rfl⟩
    rw [← hg5,← qH] at dQ
    rw [← hg5,← qH]
    clear hg5 qH
    have zG:Hid ((w5.drew.alloc (.cells #[.int .i64 (y.took:Int)] 3)).ownsRow w.heap.size 3 1 vT k (kE x k)):=dQ.out.took.drew.alloc _
    go_wp2_with fail
    refine wp_region_held_drew (S:=fun w'=>w'.cell? ⟨Q k,1,none⟩=some (.int .i64 y.took)) (by kernel_rfl) (by exact l5) (fun hHeld=>?_)
    refine wpAnyH_take (i:=0) (oi:=_) (v:=?_) rfl (by kernel_rfl) (by kernel_rfl) (by kernel_rfl) (fun _ _ _ h=>h) (Or.inl ⟨by rfl,?_⟩) (by assumption) ?_
    rotate_left
    ·intro w hSw
     (try dsimp only at hSw)
     go_simp
     (try with_reducible rfl)
    (try simp only [Act.put])
    refine wpAnyH_take (i:=2) (oi:=_) (v:=?_) rfl (by kernel_rfl) (by kernel_rfl) (by kernel_rfl) (fun _ _ _ h=>h) (Or.inl ⟨by rfl,?_⟩) (by assumption) ?_
    rotate_left
    ·intro w hSw
     (try dsimp only at hSw)
     go_simp
     (try with_reducible rfl)
    (try simp only [Act.put])
    refine wpAnyH_take (i:=3) (oi:=_) (v:=?_) rfl (by kernel_rfl) (by kernel_rfl) (by kernel_rfl) (fun _ _ _ h=>h) (Or.inl ⟨by rfl,?_⟩) (by assumption) ?_
    rotate_left
    ·intro w hSw
     (try dsimp only at hSw)
     go_simp
     (try with_reducible rfl)
    (try simp only [Act.put])
    refine wpAnyH_take (i:=4) (oi:=_) (v:=?_) rfl (by kernel_rfl) (by kernel_rfl) (by kernel_rfl) (fun _ _ _ h=>h) (Or.inl ⟨by rfl,?_⟩) (by assumption) ?_
    rotate_left
    ·intro w hSw
     (try dsimp only at hSw)
     go_simp
     (try with_reducible rfl)
    (try simp only [Act.put])
    refine wpAnyH_take (i:=5) (oi:=_) (v:=?_) rfl (by kernel_rfl) (by kernel_rfl) (by kernel_rfl) (fun _ _ _ h=>h) (Or.inl ⟨by rfl,?_⟩) (by assumption) ?_
    rotate_left
    ·intro w hSw
     (try dsimp only at hSw)
     go_simp
     (try with_reducible rfl)
    (try simp only [Act.put])
    refine wpAnyH_ready (rs:=[1,6]) (by kernel_rfl) (by simp) ?_
    refine AllReadyH.cons (o:=_) rfl (fun K hK=>?_) ?_
    ·go_simp
     refine hK.out _ _ hHeld (fun hHeld=>?_)
     clear hK K
     refine wpAnyH_ready (rs:=[6]) (by kernel_rfl) (by simp) ?_
     refine AllReadyH.cons (o:=_) rfl (fun K hK=>?_) AllReadyH.nil
     go_simp
     refine hK.out _ _ (HL.out _ ((dQ.out.below.drew).alloc (by exact dQ.out.below.size) _)).1 (fun hHeld=>?_)
     clear hK K
     refine wpAnyH_ready (rs:=[7]) (by kernel_rfl) (by simp) ?_
     refine AllReadyH.cons (o:=_) rfl (fun K hK=>?_) AllReadyH.nil
     refine nA rfl (.tmp 39) (.tmp 44) 27 rfl w.heap.size 3 i1 (.int .i64 0) 1 8 Tryz.uf hi1 hy0 hy1 hy2 rfl (by decide) vT k (kE x k) rfl zG.out ⟨w5.heap.size,0,none⟩ 1 1 [(.int .i64 (y.took:Int))] rfl rfl (kr w5.drew _ _) (kv rfl) (by decide) (by unfold maxLen;omega) (by omega) (by simp;omega) ?_
     intro g4 cap4 w4 bK hg4 _
     obtain ⟨bH,hb4,gp⟩:=dQ.out.Cn HY.out bK hg4
     have jF:=Sb.hide gp
     have s4:=HL.out _ hb4
     have s5:=HL.out _ gp.below
     have q4:=(eQ bH).1
     have f4:=(eQ bH).2
     clear bK hg4 bH hb4 gp
     refine hK.out _ _ s4.1 (fun hHeld=>?_)
     clear hK K
     simp only [Act.put]
     refine wpAnyH_take (i:=8) (oi:=_) (v:=?_) rfl (by kernel_rfl) (by kernel_rfl) (by kernel_rfl) (fun _ _ _ h=>h) (Or.inl ⟨by rfl,?_⟩) (by assumption) ?_
     rotate_left
     ·intro w hSw
      (try dsimp only at hSw)
      go_simp
      (try with_reducible rfl)
     (try simp only [Act.put])
     refine wpAnyH_ready (rs:=[9]) (by kernel_rfl) (by simp) ?_
     refine AllReadyH.cons (o:=_) rfl (fun K hK=>?_) AllReadyH.nil
     go_simp
     refine hK.out _ _ s5.1 (fun hHeld=>?_)
     clear hK K hHeld q4 f4 s4
     refine wpAnyH_done (by kernel_rfl) ?_ _
     have dV:Hid (kS w x sv w.heap.size R s q t.trap steps t.out (.slice oa t.out.length oc) (.slice (some ⟨g5,0,none⟩) (k+1) cap5) (.slice (some ⟨g4,0,none⟩) (k+1) cap4) (k+1) (k+1) (w4.setCell ⟨R,5,none⟩ (.slice (some ⟨g4,0,none⟩) (k+1) cap4))):=jF.out
     clear jF dQ s5
     go_wp2
     go_roundw
     case rel=>exact ⟨k+1,by go_num,by omega,_,_,dV.out⟩
     case measure=>simp [intOf];omega
    ·skip
     refine AllReadyH.cons (o:=_) rfl (fun K hK=>?_) AllReadyH.nil
     go_simp
     refine hK.out _ _ (HL.out _ ((dQ.out.below.drew).alloc (by exact dQ.out.below.size) _)).1 (fun hHeld=>?_)
     clear hK K
     have c5b:(w5.alloc (.cells #[.int .i64 (y.took:Int)] 3)).drew.cell? ⟨R,5,none⟩=some vT:=(aS (Below.heap_alloc w5 (.cells #[.int .i64 (y.took:Int)] 3) _ (lt_of_block dQ.out.rep)) _).trans c5
     refine wpAnyH_ready (rs:=[1]) (by kernel_rfl) (by simp) ?_
     refine AllReadyH.cons (o:=_) rfl (fun K hK=>?_) AllReadyH.nil
     go_simp
     refine hK.out _ _ hHeld (fun hHeld=>?_)
     clear hK K
     refine wpAnyH_ready (rs:=[7]) (by kernel_rfl) (by simp) ?_
     refine AllReadyH.cons (o:=_) rfl (fun K hK=>?_) AllReadyH.nil
     refine nA rfl (.tmp 39) (.tmp 44) 27 rfl w.heap.size 3 i1 (.int .i64 0) 1 8 Tryz.uf hi1 hy0 hy1 hy2 rfl (by decide) vT k (kE x k) rfl zG.out ⟨w5.heap.size,0,none⟩ 1 1 [(.int .i64 (y.took:Int))] rfl rfl (kr w5.drew _ _) (kv rfl) (by decide) (by unfold maxLen;omega) (by omega) (by simp;omega) ?_
     intro g4 cap4 w4 bK hg4 _
     obtain ⟨bH,hb4,gp⟩:=dQ.out.Cn HY.out bK hg4
     have jF:=Sb.hide gp
     have s4:=HL.out _ hb4
     have s5:=HL.out _ gp.below
     have q4:=(eQ bH).1
     have f4:=(eQ bH).2
     clear bK hg4 bH hb4 gp
     refine hK.out _ _ s4.1 (fun hHeld=>?_)
     clear hK K
     simp only [Act.put]
     refine wpAnyH_take (i:=8) (oi:=_) (v:=?_) rfl (by kernel_rfl) (by kernel_rfl) (by kernel_rfl) (fun _ _ _ h=>h) (Or.inl ⟨by rfl,?_⟩) (by assumption) ?_
     rotate_left
     ·intro w hSw
      (try dsimp only at hSw)
      go_simp
      (try with_reducible rfl)
     (try simp only [Act.put])
     refine wpAnyH_ready (rs:=[9]) (by kernel_rfl) (by simp) ?_
     refine AllReadyH.cons (o:=_) rfl (fun K hK=>?_) AllReadyH.nil
     go_simp
     refine hK.out _ _ s5.1 (fun hHeld=>?_)
     clear hK K hHeld q4 f4 s4
     refine wpAnyH_done (by kernel_rfl) ?_ _
     have dV:Hid (kS w x sv w.heap.size R s q t.trap steps t.out (.slice oa t.out.length oc) (.slice (some ⟨g5,0,none⟩) (k+1) cap5) (.slice (some ⟨g4,0,none⟩) (k+1) cap4) (k+1) (k+1) (w4.setCell ⟨R,5,none⟩ (.slice (some ⟨g4,0,none⟩) (k+1) cap4))):=jF.out
     clear jF dQ s5
     go_wp2
     go_roundw
     case rel=>exact ⟨k+1,by go_num,by omega,_,_,dV.out⟩
     case measure=>simp [intOf];omega
  ·have n1:¬ (k:Int) < (nb:Int):=by omega
   have ek:k=nb:=by omega
   subst ek
   have z:=(eQ HA.out.zero).1
   have zf:=(eQ HA.out.zero).2
   obtain ⟨z0,z1,z2,z3,z4,z5,z6⟩:=z
   have HNE:Hid (w.heap.size≠R):=HA.out.ne
   obtain ⟨sa,sc,hSv⟩:=mO HA.out.sent
   obtain ⟨ta,tc,hTv⟩:=mO HA.out.took
   subst hSv hTv
   go_wp2
   have hX:=aaF (s:=s) (q:=q) (tr:=t.trap) (vO:=.slice oa t.out.length oc) (vS:=.slice sa k sc) (vT:=.slice ta k tc) (st:=steps) HA.out.zero
   refine bodyPost_ret (v:=iY s q t.trap (.slice oa t.out.length oc) (.slice sa k sc) (.slice ta k tc) steps) ?_ rfl ⟨_,_,_,rfl,Ha HA.out.zero HA.out.out (by decide),Ha HA.out.zero HA.out.sent (by decide),Ha HA.out.zero HA.out.took (by decide),aaH HA.out.below (Nat.le_refl _)⟩
   unfold zD at hX
   generalize ((((((wr.setCell ⟨w.heap.size,0,none⟩ (.int .i64 s)).setCell ⟨w.heap.size,1,none⟩ (.int .i64 q)).setCell ⟨w.heap.size,2,none⟩ (.int .i64 t.trap)).setCell ⟨w.heap.size,3,none⟩ (.slice oa t.out.length oc)).setCell ⟨w.heap.size,4,none⟩ (.slice sa k sc)).setCell ⟨w.heap.size,5,none⟩ (.slice ta k tc)).setCell ⟨w.heap.size,6,none⟩ (.int .i64 steps)=W4 at *
   obtain ⟨g0,g1,g2,g3,g4,g5,g6⟩:=(eQ hX).1
   simp [results,Tryz.ahH,go_sem,g0,g1,g2,g3,g4,g5,g6]
end Go.Proofs.YthffafaoobpedaaGreatDoor.Vw
