/- What the row's list gives: the table of signs,the two types; a world that holds them. -/
import Derived.Test.YtbioaoangfiijaaGreatDoorRows
import Derived.Test.YtbioaoangfiijaaGreatDoorM48
import Derived.ChangeArms
import Derived.DataReads
import Derived.Lib.LaidTab
import Derived.LaidSub
import Derived.OpenShut
import Derived.MakeChecks
import Derived.SizedLaws
import Derived.LaidLaws
import Derived.Test.YtbioaoangfiijaaGreatDoorM2
namespace Go.Proofs.YtbioaoangfiijaaGreatDoor
open Go.RowKit
namespace Xe
def laidS:List (String × DataW Unit):=[("yieldshape/syn.pairs",Rows.laid_yieldshape_syn_pairs),("yieldshape/sema.number",Rows.laid_yieldshape_sema_number),("yieldshape/sema.truth",Rows.laid_yieldshape_sema_truth)]
theorem two {cs:List Value} (h:cs.length = 2):∃ a b,cs = [a,b]:=by
 match cs,h with
 | [a,b],_ => exact ⟨a,b,rfl⟩
theorem three {cs:List Value} (h:cs.length = 3):∃ a b c,cs = [a,b,c]:=by
 match cs,h with
 | [a,b,c],_ => exact ⟨a,b,c,rfl⟩
theorem cells_int:Tryz.prog.cellsOf 3 = 1:=by kernel_rfl
theorem cells_pair:Tryz.prog.cellsOf 80 = 3:=by kernel_rfl
theorem cells_tab:Tryz.prog.cellsOf 81 = 39:=by kernel_rfl
theorem cells_ty:Tryz.prog.cellsOf 35 = 2:=by kernel_rfl
theorem cells_str:Tryz.prog.cellsOf 9 = 1:=by kernel_rfl
section
variable {H:Type} {enc:TypeId × Value → H} {w:World} {base:Nat} {spare:Nat → Bool} {held:Bool} {fuel:Nat} {cs:List Value} {p:List MemPlace}
theorem pair_cells {k l:Int} {s:List UInt8} (h:DataW.trod enc Tryz.prog w base spare held fuel 80 cs = some (.agg [.lit (.int .i64 k),.lit (.string s),.lit (.int .i64 l)],p)) :
  cs = [iv k,sv s,iv l]:=by
 obtain ⟨xs,n,rfl,hx,hl,hxl,hf⟩:=DataW.trod_struct Tryz.underlying80 h
 rw [cells_pair] at hl
 obtain ⟨a,b,c,rfl⟩:=three hl
 have e:xs.map (·.1) = [.lit (.int .i64 k),.lit (.string s),.lit (.int .i64 l)]:=by
  have:=congrArg Prod.fst hx
  simpa using this.symm
 match xs,e with
 | [x0,x1,x2],e =>
  simp only [List.map_cons,List.map_nil,List.cons.injEq,and_true] at e
  have h0:DataW.trod enc Tryz.prog w base spare held n 3 (([a,b,c].drop 0).take (Tryz.prog.cellsOf 3)) = some x0:=hf 0 _ rfl
  have h1:DataW.trod enc Tryz.prog w base spare held n 9 (([a,b,c].drop 1).take (Tryz.prog.cellsOf 9)) = some x1:=hf 1 _ rfl
  have h2:DataW.trod enc Tryz.prog w base spare held n 3 (([a,b,c].drop 2).take (Tryz.prog.cellsOf 3)) = some x2:=hf 2 _ rfl
  rw [cells_int] at h0 h2
  rw [cells_str] at h1
  obtain ⟨k',hk,rfl,_⟩:=DataW.trod_int Tryz.underlying3 h0
  obtain ⟨s',hs,rfl,_⟩:=DataW.trod_string Tryz.underlying9 h1
  obtain ⟨l',hl',rfl,_⟩:=DataW.trod_int Tryz.underlying3 h2
  simp at hk hs hl'
  simp at e
  obtain ⟨e1,e2,e3⟩:=e
  rw [hk,hs,hl',e1,e3,← e2]
  rfl
theorem type_cells {k:Int} {s:List UInt8} (h:DataW.trod enc Tryz.prog w base spare held fuel 35 cs = some (.agg [.lit (.int .i64 k),.lit (.string s)],p)) :
  cs = [iv k,sv s]:=by
 obtain ⟨xs,n,rfl,hx,hl,hxl,hf⟩:=DataW.trod_struct Tryz.underlying35 h
 rw [cells_ty] at hl
 obtain ⟨a,b,rfl⟩:=two hl
 have e:xs.map (·.1) = [.lit (.int .i64 k),.lit (.string s)]:=by
  have:=congrArg Prod.fst hx
  simpa using this.symm
 match xs,e with
 | [x0,x1],e =>
  simp only [List.map_cons,List.map_nil,List.cons.injEq,and_true] at e
  have h0:DataW.trod enc Tryz.prog w base spare held n 3 (([a,b].drop 0).take (Tryz.prog.cellsOf 3)) = some x0:=hf 0 _ rfl
  have h1:DataW.trod enc Tryz.prog w base spare held n 9 (([a,b].drop 1).take (Tryz.prog.cellsOf 9)) = some x1:=hf 1 _ rfl
  rw [cells_int] at h0
  rw [cells_str] at h1
  obtain ⟨k',hk,rfl,_⟩:=DataW.trod_int Tryz.underlying3 h0
  obtain ⟨s',hs,rfl,_⟩:=DataW.trod_string Tryz.underlying9 h1
  simp at hk hs
  simp at e
  obtain ⟨e1,e2⟩:=e
  rw [hk,hs,e1,← e2]
  rfl
theorem chunks {α:Type} (f:α → List Value) (hf:∀ a,(f a).length = 3):∀ (ts:List α) (cs:List Value),cs.length = 3 * ts.length → (∀ i a,ts[i]? = some a → (cs.drop (i * 3)).take 3 = f a) → cs = ts.flatMap f
 | [],cs,hl,_ => by simp at hl; simp [hl]
 | a :: ts,cs,hl,h => by
  have h0:=h 0 a rfl
  simp only [Nat.zero_mul,List.drop_zero] at h0
  have ih:=chunks f hf ts (cs.drop 3) (by simp at hl ⊢; omega) (fun i b hb => by
   have:=h (i + 1) b (by simpa using hb)
   rw [List.drop_drop,show 3 + i * 3 = (i + 1) * 3 by omega]
   exact this)
  rw [List.flatMap_cons,← h0,← ih,List.take_append_drop]
def signs:List (Int × List UInt8 × Int):=[(18,[111,114],1),(17,[97,110,100],2),(11,[61,61],3),(12,[33,61],3),(13,[60],3),(14,[60,61],3),(15,[62],3),(16,[62,61],3),(6,[43],4),(7,[45],4),(8,[42],5),(9,[47],5),(10,[37],5)]
def signsD {H:Type}:List (DataW H):=signs.map fun p => .agg [.lit (.int .i64 p.1),.lit (.string p.2.1),.lit (.int .i64 p.2.2)]
theorem laid_signs {H:Type}:(Rows.laid_yieldshape_syn_pairs:DataW H) = .agg signsD:=rfl
theorem signs_cells (h:DataW.trod enc Tryz.prog w base spare held fuel 81 cs = some (.agg signsD,p)):cs = pairL:=by
 obtain ⟨xs,n,rfl,hx,hl,hxl,hel⟩:=DataW.trod_array Tryz.underlying81 h
 rw [cells_tab] at hl
 have hx1:xs.map (·.1) = signsD:=by
  have:=congrArg Prod.fst hx
  simpa using this.symm
 refine (chunks (fun p => [iv p.1,sv p.2.1,iv p.2.2]) (fun _ => rfl) signs cs (by rw [hl]; rfl) (fun i q hq => ?_)).trans rfl
 have hi:i < 13:=by have:=(List.getElem?_eq_some_iff.1 hq).1; simpa [signs] using this
 have he:=hel i hi
 rw [cells_pair] at he
 obtain ⟨x,hxi⟩:∃ x,xs[i]? = some x:=⟨_,List.getElem?_eq_getElem (by omega)⟩
 rw [hxi] at he
 have hd:x.1 = .agg [.lit (.int .i64 q.1),.lit (.string q.2.1),.lit (.int .i64 q.2.2)]:=by
  have h1:(xs.map (·.1))[i]? = some x.1:=by rw [List.getElem?_map,hxi]; rfl
  rw [hx1] at h1
  unfold signsD at h1
  rw [List.getElem?_map,hq] at h1
  simpa using h1.symm
 exact pair_cells (cs:=(cs.drop (i * 3)).take 3) (p:=x.2) (by rw [← hd]; exact he)
end
theorem gPairs:Tryz.prog.globalNamed "yieldshape/syn.pairs" = some 0:=by kernel_rfl
theorem gTruth:Tryz.prog.globalNamed "yieldshape/sema.truth" = some 1:=by kernel_rfl
theorem gNum:Tryz.prog.globalNamed "yieldshape/sema.number" = some 2:=by kernel_rfl
theorem gPairsT:(Tryz.prog.globals[0]?).map (·.type) = some 81:=by kernel_rfl
theorem gTruthT:(Tryz.prog.globals[1]?).map (·.type) = some 35:=by kernel_rfl
theorem gNumT:(Tryz.prog.globals[2]?).map (·.type) = some 35:=by kernel_rfl
theorem arr_eq {c:Array Value} {l:List Value} (h:c.toList = l):c = ⟨l⟩:=by cases c; simp at h; rw [h]
theorem of_laidS {W:World} (h:laidMetH Tryz.prog laidS W):Tabs W:=by
 refine ⟨?_,?_,?_⟩
 ·have h1:=h.filter (fun x => x.1 == "yieldshape/syn.pairs")
  have e:laidS.filter (fun x => x.1 == "yieldshape/syn.pairs") = [("yieldshape/syn.pairs",Rows.laid_yieldshape_syn_pairs)]:=by rfl
  rw [e,MakeChecks.laidMetH_plain _ _ _ (by kernel_rfl)] at h1
  obtain ⟨ps,⟨g',t',cs,fuel,p,q,hg',ht',hvar,hd,_,_⟩,_⟩:=h1
  obtain rfl:=Option.some.inj (gPairs.symm.trans hg')
  obtain rfl:=Option.some.inj (gPairsT.symm.trans ht')
  rw [laid_signs] at hd
  have hc:=signs_cells hd
  simp only [World.var?,gPairs,Option.bind_some] at hvar
  split at hvar
  ·rename_i c t fr hh
   simp only [Option.some.injEq] at hvar
   subst hvar
   exact ⟨t,fr,by rw [hh,arr_eq hc]⟩
  ·simp at hvar
 ·have h1:=h.filter (fun x => x.1 == "yieldshape/sema.truth")
  have e:laidS.filter (fun x => x.1 == "yieldshape/sema.truth") = [("yieldshape/sema.truth",Rows.laid_yieldshape_sema_truth)]:=by rfl
  rw [e,MakeChecks.laidMetH_plain _ _ _ (by kernel_rfl)] at h1
  obtain ⟨ps,⟨g',t',cs,fuel,p,q,hg',ht',hvar,hd,_,_⟩,_⟩:=h1
  obtain rfl:=Option.some.inj (gTruth.symm.trans hg')
  obtain rfl:=Option.some.inj (gTruthT.symm.trans ht')
  have hc:=type_cells hd
  simp only [World.var?,gTruth,Option.bind_some] at hvar
  split at hvar
  ·rename_i c t fr hh
   simp only [Option.some.injEq] at hvar
   subst hvar
   exact ⟨t,fr,by rw [hh,arr_eq hc]; rfl⟩
  ·simp at hvar
 ·have h1:=h.filter (fun x => x.1 == "yieldshape/sema.number")
  have e:laidS.filter (fun x => x.1 == "yieldshape/sema.number") = [("yieldshape/sema.number",Rows.laid_yieldshape_sema_number)]:=by rfl
  rw [e,MakeChecks.laidMetH_plain _ _ _ (by kernel_rfl)] at h1
  obtain ⟨ps,⟨g',t',cs,fuel,p,q,hg',ht',hvar,hd,_,_⟩,_⟩:=h1
  obtain rfl:=Option.some.inj (gNum.symm.trans hg')
  obtain rfl:=Option.some.inj (gNumT.symm.trans ht')
  have hc:=type_cells hd
  simp only [World.var?,gNum,Option.bind_some] at hvar
  split at hvar
  ·rename_i c t fr hh
   simp only [Option.some.injEq] at hvar
   subst hvar
   exact ⟨t,fr,by rw [hh,arr_eq hc]; rfl⟩
  ·simp at hvar
def putCells (cs:Array Value) (o:Obj):Obj :=
 match o with
 | .cells _ t frozen => .cells cs t frozen
 | o => o
noncomputable def laidWorld (os:Os):World :=
 { World.holding Tryz.prog os ⟨#[],#[],[]⟩ with heap:=(((World.holding Tryz.prog os ⟨#[],#[],[]⟩).heap.modify 0 (putCells ⟨pairL⟩)).modify 1 (putCells ⟨truthL⟩)).modify 2 (putCells ⟨numL⟩) }
theorem laid_met (os:Os) (args:Array Value):laidMet Tryz.prog laidS ((laidWorld os).forCall (fun _ _ => 0) ⟨#[],args,[]⟩).memory :=
 laidMet_of_run' 8 (by kernel_rfl) (by kernel_rfl)
end Xe
section
variable {H:Type} {enc:TypeId × Value → H} {w:World} {base:Nat} {spare:Nat → Bool} {held:Bool}
theorem ExIn.mono {B:Nat} {w:World}:∀ {h h':Nat} {x:Sy.Ex} {a:Option Addr},h ≤ h' → ExIn B w h x a → ExIn B w h' x a
 | 0,_,_,_,_,hx => hx.elim
 | h + 1,0,_,_,hh,_ => by omega
 | h + 1,h' + 1,x,a,hh,hx => ⟨hx.1,hx.2.1,fun i k hk => by
  obtain ⟨b,off,a',c',e,hb,c0,c1,c2,c3,hin⟩:=hx.2.2 i k hk
  exact ⟨b,off,a',c',e,hb,c0,c1,c2,c3,hin.mono (by omega)⟩⟩
theorem StIn.mono {B:Nat} {w:World}:∀ {h h':Nat} {s:Sy.St} {xa ba ea:Option Addr},h ≤ h' → StIn B w h s xa ba ea → StIn B w h' s xa ba ea
 | 0,_,_,_,_,_,_,hx => hx.elim
 | h + 1,0,_,_,_,_,hh,_ => by omega
 | h + 1,h' + 1,s,xa,ba,ea,hh,hx => ⟨hx.1,hx.2.1,hx.2.2.1,hx.2.2.2.1,
  fun i k hk => by
   obtain ⟨b,off,xa',xc,ba',bc,ea',ec,e,hb,c0,c1,c2,c3,c4,c5,c6,c7,hin⟩:=hx.2.2.2.2.1 i k hk
   exact ⟨b,off,xa',xc,ba',bc,ea',ec,e,hb,c0,c1,c2,c3,c4,c5,c6,c7,hin.mono (by omega)⟩,
  fun i k hk => by
   obtain ⟨b,off,xa',xc,ba',bc,ea',ec,e,hb,c0,c1,c2,c3,c4,c5,c6,c7,hin⟩:=hx.2.2.2.2.2 i k hk
   exact ⟨b,off,xa',xc,ba',bc,ea',ec,e,hb,c0,c1,c2,c3,c4,c5,c6,c7,hin.mono (by omega)⟩⟩
theorem cells_at {a:Addr} {i n:Nat} {cs:List Value} (hn:0 < n) (h:w.cells? base (a.add (i * n)) n = some cs) (h0:a.spot = none) :
  a.block < w.heap.size ∧ ∀ j,j < n → w.cell? ⟨a.block,a.off + i * n + j,none⟩ = cs[j]?:=by
 obtain ⟨hb,hl,hc⟩:=World.cells?_some h
 have hadd:∀ k,a.add k = ⟨a.block,a.off + k,none⟩:=by
  intro k
  unfold Addr.add
  split
  ·subst_vars; cases a; simp_all
  ·rfl
 have hcell:∀ j,j < n → w.cell? ⟨a.block,a.off + i * n + j,none⟩ = cs[j]?:=by
  intro j hj
  have:=hc j hj
  rw [hadd] at this
  rw [← this]
  congr 1
  unfold Addr.add
  split
  ·subst_vars; rfl
  ·rfl
 refine ⟨?_,hcell⟩
 have h1:=hcell 0 hn
 rw [List.getElem?_eq_getElem (by omega)] at h1
 cases hh:w.heap[a.block]? with
 | none => simp [World.cell?,hh] at h1
 | some o => exact lt_of_block hh
theorem spot_of {a:Addr} {n:Nat} {cs:List Value} (hn:0 < n) (h:w.cells? base (a.add (0 * n)) n = some cs):a.spot = none:=by
 obtain ⟨hb,hl,hc⟩:=World.cells?_some h
 have h1:=hc 0 hn
 rw [List.getElem?_eq_getElem (by omega)] at h1
 simp only [Nat.zero_mul,Addr.add,if_true] at h1
 unfold World.cell? at h1
 split at h1
 ·split at h1
  ·simp at h1
  ·rename_i hs; simpa using hs
 ·simp at h1
theorem list_of {α:Type} {p:Nat → α → Prop}:∀ (n:Nat),(∀ i,i < n → ∃ y,p i y) → ∃ l:List α,l.length = n ∧ ∀ i y,l[i]? = some y → p i y
 | 0,_ => ⟨[],rfl,fun i y hy => by simp at hy⟩
 | m + 1,hall => by
  obtain ⟨l,h1,h2⟩:=list_of m (fun i hi => hall i (by omega))
  obtain ⟨y,h3⟩:=hall m (by omega)
  refine ⟨l ++ [y],by simp [h1],fun i z hz => ?_⟩
  by_cases hi:i < l.length
  ·rw [List.getElem?_append_left hi] at hz; exact h2 i z hz
  ·rw [List.getElem?_append_right (by omega)] at hz
   have hi2:i - l.length = 0:=by
    have:=(List.getElem?_eq_some_iff.1 hz).1
    simp at this; omega
   rw [hi2] at hz
   simp at hz
   subst hz
   obtain rfl:i = m:=by omega
   exact h3
theorem slice_list {α:Type} {t e:TypeId} {n fuel:Nat} {cs:List Value} {x:DataW H × List MemPlace} (Q:Nat → List Value → α → Prop)
  (ht:Tryz.prog.underlying t = some (.slice e)) (hce:Tryz.prog.cellsOf e = n) (hn:0 < n)
  (hQ:∀ f cs' x',f < fuel → DataW.trod enc Tryz.prog w base spare held f e cs' = some x' → ∃ y,Q f cs' y)
  (h:DataW.trod enc Tryz.prog w base spare held fuel t cs = some x) :
  ∃ (l:List α) (a:Option Addr) (c:Nat),cs = [.slice a l.length c] ∧ l.length ≤ maxLen ∧
   ∀ i y,l[i]? = some y → ∃ b off cs' f,a = some ⟨b,off,none⟩ ∧ b < w.heap.size ∧ f < fuel ∧ cs'.length = n ∧ Q f cs' y ∧ ∀ j,j < n → w.cell? ⟨b,off + i * n + j,none⟩ = cs'[j]?:=by
 rcases DataW.trod_slice ht h with ⟨rfl,_⟩ | ⟨a,len,cap,elems,rest,k,rfl,rfl,_,hb,hl,hm,hlen,hel,_,_⟩
 ·exact ⟨[],none,0,rfl,Nat.zero_le _,fun i y hy => by simp at hy⟩
 ·rw [hce] at hel
  have hall:∀ i,i < len → ∃ cs' y,w.cells? base (a.add (i * n)) n = some cs' ∧ Q k cs' y:=by
   intro i hi
   have:=hel i hi
   rw [List.getElem?_eq_getElem (by omega)] at this
   obtain ⟨cs',h1,h2⟩:=Option.bind_eq_some_iff.1 this
   obtain ⟨y,hy⟩:=hQ k cs' _ (by omega) h2
   exact ⟨cs',y,h1,hy⟩
  obtain ⟨l,hll,hlq⟩:=list_of (p:=fun i y => ∃ cs',w.cells? base (a.add (i * n)) n = some cs' ∧ Q k cs' y) len (fun i hi => by
   obtain ⟨cs',y,h1,h2⟩:=hall i hi
   exact ⟨y,cs',h1,h2⟩)
  refine ⟨l,some a,cap,by rw [hll],by omega,fun i y hy => ?_⟩
  have hi:=(List.getElem?_eq_some_iff.1 hy).1
  have hsp:a.spot = none:=by
   obtain ⟨cs0,y0,h1,_⟩:=hall 0 (by omega)
   exact spot_of hn h1
  obtain ⟨cs',h1,h2⟩:=hlq i y hy
  obtain ⟨h3,h4⟩:=cells_at hn h1 hsp
  exact ⟨a.block,a.off,cs',k,by cases a; simp_all,h3,by omega,(World.cells?_some h1).2.1,h2,h4⟩
theorem cells_expr:Tryz.prog.cellsOf 137 = 4:=by kernel_rfl
theorem cells_stat:Tryz.prog.cellsOf 139 = 8:=by kernel_rfl
theorem cells_def:Tryz.prog.cellsOf 39 = 9:=by kernel_rfl
theorem cells_param:Tryz.prog.cellsOf 127 = 3:=by kernel_rfl
theorem cells_type:Tryz.prog.cellsOf 35 = 2:=by kernel_rfl
theorem cells_int:Tryz.prog.cellsOf 3 = 1:=by kernel_rfl
theorem cells_i64:Tryz.prog.cellsOf 2 = 1:=by kernel_rfl
theorem cells_str:Tryz.prog.cellsOf 9 = 1:=by kernel_rfl
theorem cells_exprs:Tryz.prog.cellsOf 135 = 1:=by kernel_rfl
theorem cells_stats:Tryz.prog.cellsOf 37 = 1:=by kernel_rfl
theorem cells_params:Tryz.prog.cellsOf 36 = 1:=by kernel_rfl
theorem fourOp {cs:List Value} (h:cs.length = 4):∃ a b c d,cs = [a,b,c,d]:=by
 match cs,h with
 | [a,b,c,d],_ => exact ⟨a,b,c,d,rfl⟩
theorem twoOp {cs:List Value} (h:cs.length = 2):∃ a b,cs = [a,b]:=by
 match cs,h with
 | [a,b],_ => exact ⟨a,b,rfl⟩
theorem threeOp {cs:List Value} (h:cs.length = 3):∃ a b c,cs = [a,b,c]:=by
 match cs,h with
 | [a,b,c],_ => exact ⟨a,b,c,rfl⟩
theorem eightOp {cs:List Value} (h:cs.length = 8):∃ a b c d e f g i,cs = [a,b,c,d,e,f,g,i]:=by
 match cs,h with
 | [a,b,c,d,e,f,g,i],_ => exact ⟨a,b,c,d,e,f,g,i,rfl⟩
theorem nineOp {cs:List Value} (h:cs.length = 9):∃ a b c d e f g i j,cs = [a,b,c,d,e,f,g,i,j]:=by
 match cs,h with
 | [a,b,c,d,e,f,g,i,j],_ => exact ⟨a,b,c,d,e,f,g,i,j,rfl⟩
theorem field_some {fs:Array Field} {n:Nat} {cs:List Value} {xs:List (DataW H × List MemPlace)} (hl:xs.length = fs.size)
  (h:∀ (i:Nat) (f:Field),fs[i]? = some f → DataW.trod enc Tryz.prog w base spare held n f.type ((cs.drop f.offset).take (Tryz.prog.cellsOf f.type)) = xs[i]?)
  (i:Nat) (f:Field) (hf:fs[i]? = some f):∃ x,DataW.trod enc Tryz.prog w base spare held n f.type ((cs.drop f.offset).take (Tryz.prog.cellsOf f.type)) = some x:=by
 have hi:i < fs.size:=(Array.getElem?_eq_some_iff.1 hf).1
 exact ⟨xs[i]'(by omega),by rw [h i f hf,List.getElem?_eq_getElem]⟩
theorem type_open {fuel:Nat} {cs:List Value} {x:DataW H × List MemPlace} (h:DataW.trod enc Tryz.prog w base spare held fuel 35 cs = some x) :
  ∃ t:Sy.Ty,cs = [.int .i64 t.kind,.string t.gen] ∧ t.gen.size ≤ maxLen:=by
 obtain ⟨xs,n,rfl,_,hl,hxl,hf⟩:=DataW.trod_struct Tryz.underlying35 h
 rw [cells_type] at hl
 obtain ⟨a,b,rfl⟩:=twoOp hl
 obtain ⟨x0,h0⟩:∃ x,DataW.trod enc Tryz.prog w base spare held n 3 (([a,b].drop 0).take (Tryz.prog.cellsOf 3)) = some x:=field_some hxl hf 0 _ rfl
 obtain ⟨x1,h1⟩:∃ x,DataW.trod enc Tryz.prog w base spare held n 9 (([a,b].drop 1).take (Tryz.prog.cellsOf 9)) = some x:=field_some hxl hf 1 _ rfl
 simp only [cells_int,cells_str] at h0 h1
 obtain ⟨k,hk,_,_⟩:=DataW.trod_int Tryz.underlying3 h0
 obtain ⟨s,hs,_,hsz⟩:=DataW.trod_string Tryz.underlying9 h1
 simp at hk hs
 exact ⟨⟨k,s⟩,by rw [hk,hs],hsz⟩
theorem expr_open:∀ (fuel:Nat) (cs:List Value) (x:DataW H × List MemPlace),DataW.trod enc Tryz.prog w base spare held fuel 137 cs = some x →
  ∃ (e:Sy.Ex) (a:Option Addr) (c:Nat),cs = [.int .i64 e.kind,.int .i64 e.n,.string e.name,.slice a e.kids.length c] ∧ ExIn w.heap.size w fuel e a:=by
 intro fuel
 induction fuel using Nat.strongRecOn with
 | ind fuel ih =>
  intro cs x h
  obtain ⟨xs,n,rfl,_,hl,hxl,hf⟩:=DataW.trod_struct Tryz.underlying137 h
  rw [cells_expr] at hl
  obtain ⟨a,b,c,d,rfl⟩:=fourOp hl
  obtain ⟨x0,h0⟩:∃ x,DataW.trod enc Tryz.prog w base spare held n 3 (([a,b,c,d].drop 0).take (Tryz.prog.cellsOf 3)) = some x:=field_some hxl hf 0 _ rfl
  obtain ⟨x1,h1⟩:∃ x,DataW.trod enc Tryz.prog w base spare held n 2 (([a,b,c,d].drop 1).take (Tryz.prog.cellsOf 2)) = some x:=field_some hxl hf 1 _ rfl
  obtain ⟨x2,h2⟩:∃ x,DataW.trod enc Tryz.prog w base spare held n 9 (([a,b,c,d].drop 2).take (Tryz.prog.cellsOf 9)) = some x:=field_some hxl hf 2 _ rfl
  obtain ⟨x3,h3⟩:∃ x,DataW.trod enc Tryz.prog w base spare held n 135 (([a,b,c,d].drop 3).take (Tryz.prog.cellsOf 135)) = some x:=field_some hxl hf 3 _ rfl
  simp only [cells_int,cells_i64,cells_str,cells_exprs] at h0 h1 h2 h3
  obtain ⟨k,hk,_,_⟩:=DataW.trod_int Tryz.underlying3 h0
  obtain ⟨nn,hnn,_,_⟩:=DataW.trod_int Tryz.underlying2 h1
  obtain ⟨s,hs,_,hsz⟩:=DataW.trod_string Tryz.underlying9 h2
  obtain ⟨l,ad,cp,hsl,hlm,hall⟩:=slice_list (n:=4) (fun f cs' (y:Sy.Ex) => ∃ (a:Option Addr) (c:Nat),cs' = [.int .i64 y.kind,.int .i64 y.n,.string y.name,.slice a y.kids.length c] ∧ ExIn w.heap.size w f y a) Tryz.underlying135 cells_expr (by decide) (fun f cs' x' hlt hx' => ih f (by omega) cs' x' hx') h3
  simp at hk hnn hs hsl
  refine ⟨⟨k,nn,s,l⟩,ad,cp,by rw [hk,hnn,hs,hsl],hsz,hlm,fun i y hy => ?_⟩
  obtain ⟨bb,off,cs',f,he,hb,hflt,_,⟨a',c',rfl,hin⟩,hc⟩:=hall i y hy
  exact ⟨bb,off,a',c',he,hb,hc 0 (by decide),hc 1 (by decide),hc 2 (by decide),hc 3 (by decide),hin.mono (by omega)⟩
theorem stat_open:∀ (fuel:Nat) (cs:List Value) (x:DataW H × List MemPlace),DataW.trod enc Tryz.prog w base spare held fuel 139 cs = some x →
  ∃ (s:Sy.St) (xa:Option Addr) (xc:Nat) (ba:Option Addr) (bc:Nat) (ea:Option Addr) (ec:Nat),
   cs = [.int .i64 s.kind,.string s.name,.int .i64 s.x.kind,.int .i64 s.x.n,.string s.x.name,.slice xa s.x.kids.length xc,.slice ba s.body.length bc,.slice ea s.els.length ec] ∧ StIn w.heap.size w fuel s xa ba ea:=by
 intro fuel
 induction fuel using Nat.strongRecOn with
 | ind fuel ih =>
  intro cs x h
  obtain ⟨xs,n,rfl,_,hl,hxl,hf⟩:=DataW.trod_struct Tryz.underlying139 h
  rw [cells_stat] at hl
  obtain ⟨v0,v1,v2,v3,v4,v5,v6,v7,rfl⟩:=eightOp hl
  obtain ⟨x0,h0⟩:∃ x,DataW.trod enc Tryz.prog w base spare held n 3 (([v0,v1,v2,v3,v4,v5,v6,v7].drop 0).take (Tryz.prog.cellsOf 3)) = some x:=field_some hxl hf 0 _ rfl
  obtain ⟨x1,h1⟩:∃ x,DataW.trod enc Tryz.prog w base spare held n 9 (([v0,v1,v2,v3,v4,v5,v6,v7].drop 1).take (Tryz.prog.cellsOf 9)) = some x:=field_some hxl hf 1 _ rfl
  obtain ⟨x2,h2⟩:∃ x,DataW.trod enc Tryz.prog w base spare held n 137 (([v0,v1,v2,v3,v4,v5,v6,v7].drop 2).take (Tryz.prog.cellsOf 137)) = some x:=field_some hxl hf 2 _ rfl
  obtain ⟨x3,h3⟩:∃ x,DataW.trod enc Tryz.prog w base spare held n 37 (([v0,v1,v2,v3,v4,v5,v6,v7].drop 6).take (Tryz.prog.cellsOf 37)) = some x:=field_some hxl hf 3 _ rfl
  obtain ⟨x4,h4⟩:∃ x,DataW.trod enc Tryz.prog w base spare held n 37 (([v0,v1,v2,v3,v4,v5,v6,v7].drop 7).take (Tryz.prog.cellsOf 37)) = some x:=field_some hxl hf 4 _ rfl
  simp only [cells_int,cells_str,cells_expr,cells_stats] at h0 h1 h2 h3 h4
  obtain ⟨k,hk,_,_⟩:=DataW.trod_int Tryz.underlying3 h0
  obtain ⟨s,hs,_,hsz⟩:=DataW.trod_string Tryz.underlying9 h1
  obtain ⟨e,xa,xc,he,hein⟩:=expr_open _ _ _ h2
  have row:=fun (cs:List Value) (x:DataW H × List MemPlace) (hx:DataW.trod enc Tryz.prog w base spare held n 37 cs = some x) => slice_list (n:=8) (fun f cs' (y:Sy.St) => ∃ (xa:Option Addr) (xc:Nat) (ba:Option Addr) (bc:Nat) (ea:Option Addr) (ec:Nat),cs' = [.int .i64 y.kind,.string y.name,.int .i64 y.x.kind,.int .i64 y.x.n,.string y.x.name,.slice xa y.x.kids.length xc,.slice ba y.body.length bc,.slice ea y.els.length ec] ∧ StIn w.heap.size w f y xa ba ea) Tryz.underlying37 cells_stat (by decide) (fun f cs' x' hlt hx' => ih f (by omega) cs' x' hx') hx
  obtain ⟨lb,ba,bc,hbsl,hblm,hball⟩:=row _ _ h3
  obtain ⟨le,ea,ec,hesl,helm,heall⟩:=row _ _ h4
  simp at hk hs he hbsl hesl
  obtain ⟨e2,e3,e4,e5⟩:=he
  refine ⟨⟨k,s,e,lb,le⟩,xa,xc,ba,bc,ea,ec,by rw [hk,hs,e2,e3,e4,e5,hbsl,hesl],hsz,⟨n,hein⟩,hblm,helm,?_,?_⟩
  ·intro i y hy
   obtain ⟨bb,off,cs',f,hea,hb,hflt,_,⟨xa',xc',ba',bc',ea',ec',rfl,hin⟩,hc⟩:=hball i y hy
   exact ⟨bb,off,xa',xc',ba',bc',ea',ec',hea,hb,hc 0 (by decide),hc 1 (by decide),hc 2 (by decide),hc 3 (by decide),hc 4 (by decide),hc 5 (by decide),hc 6 (by decide),hc 7 (by decide),hin.mono (by omega)⟩
  ·intro i y hy
   obtain ⟨bb,off,cs',f,hea,hb,hflt,_,⟨xa',xc',ba',bc',ea',ec',rfl,hin⟩,hc⟩:=heall i y hy
   exact ⟨bb,off,xa',xc',ba',bc',ea',ec',hea,hb,hc 0 (by decide),hc 1 (by decide),hc 2 (by decide),hc 3 (by decide),hc 4 (by decide),hc 5 (by decide),hc 6 (by decide),hc 7 (by decide),hin.mono (by omega)⟩
theorem param_open {fuel:Nat} {cs:List Value} {x:DataW H × List MemPlace} (h:DataW.trod enc Tryz.prog w base spare held fuel 127 cs = some x) :
  ∃ p:Sy.Pm,cs = [.string p.name,.int .i64 p.ty.kind,.string p.ty.gen] ∧ p.name.size ≤ maxLen ∧ p.ty.gen.size ≤ maxLen:=by
 obtain ⟨xs,n,rfl,_,hl,hxl,hf⟩:=DataW.trod_struct Tryz.underlying127 h
 rw [cells_param] at hl
 obtain ⟨a,b,c,rfl⟩:=threeOp hl
 obtain ⟨x0,h0⟩:∃ x,DataW.trod enc Tryz.prog w base spare held n 9 (([a,b,c].drop 0).take (Tryz.prog.cellsOf 9)) = some x:=field_some hxl hf 0 _ rfl
 obtain ⟨x1,h1⟩:∃ x,DataW.trod enc Tryz.prog w base spare held n 35 (([a,b,c].drop 1).take (Tryz.prog.cellsOf 35)) = some x:=field_some hxl hf 1 _ rfl
 simp only [cells_type,cells_str] at h0 h1
 obtain ⟨s,hs,_,hsz⟩:=DataW.trod_string Tryz.underlying9 h0
 obtain ⟨t,ht,htz⟩:=type_open h1
 simp at hs ht
 obtain ⟨e1,e2⟩:=ht
 exact ⟨⟨s,t⟩,by rw [hs,e1,e2],hsz,htz⟩
theorem def_open {fuel:Nat} {cs:List Value} {x:DataW H × List MemPlace} (h:DataW.trod enc Tryz.prog w base spare held fuel 39 cs = some x) :
  ∃ (d:Sy.Df) (pa:Option Addr) (pc:Nat) (ba:Option Addr) (bc:Nat),cs = [.int .i64 d.kind,.string d.name,.int .i64 d.ty.kind,.string d.ty.gen,.int .i64 d.takes.kind,.string d.takes.gen,.int .i64 d.cap,.slice pa d.params.length pc,.slice ba d.body.length bc] ∧ DfIn w.heap.size w d pa ba:=by
 obtain ⟨xs,n,rfl,_,hl,hxl,hf⟩:=DataW.trod_struct Tryz.underlying39 h
 rw [cells_def] at hl
 obtain ⟨v0,v1,v2,v3,v4,v5,v6,v7,v8,rfl⟩:=nineOp hl
 obtain ⟨x0,h0⟩:∃ x,DataW.trod enc Tryz.prog w base spare held n 3 (([v0,v1,v2,v3,v4,v5,v6,v7,v8].drop 0).take (Tryz.prog.cellsOf 3)) = some x:=field_some hxl hf 0 _ rfl
 obtain ⟨x1,h1⟩:∃ x,DataW.trod enc Tryz.prog w base spare held n 9 (([v0,v1,v2,v3,v4,v5,v6,v7,v8].drop 1).take (Tryz.prog.cellsOf 9)) = some x:=field_some hxl hf 1 _ rfl
 obtain ⟨x2,h2⟩:∃ x,DataW.trod enc Tryz.prog w base spare held n 35 (([v0,v1,v2,v3,v4,v5,v6,v7,v8].drop 2).take (Tryz.prog.cellsOf 35)) = some x:=field_some hxl hf 2 _ rfl
 obtain ⟨x3,h3⟩:∃ x,DataW.trod enc Tryz.prog w base spare held n 35 (([v0,v1,v2,v3,v4,v5,v6,v7,v8].drop 4).take (Tryz.prog.cellsOf 35)) = some x:=field_some hxl hf 3 _ rfl
 obtain ⟨x4,h4⟩:∃ x,DataW.trod enc Tryz.prog w base spare held n 3 (([v0,v1,v2,v3,v4,v5,v6,v7,v8].drop 6).take (Tryz.prog.cellsOf 3)) = some x:=field_some hxl hf 4 _ rfl
 obtain ⟨x5,h5⟩:∃ x,DataW.trod enc Tryz.prog w base spare held n 36 (([v0,v1,v2,v3,v4,v5,v6,v7,v8].drop 7).take (Tryz.prog.cellsOf 36)) = some x:=field_some hxl hf 5 _ rfl
 obtain ⟨x6,h6⟩:∃ x,DataW.trod enc Tryz.prog w base spare held n 37 (([v0,v1,v2,v3,v4,v5,v6,v7,v8].drop 8).take (Tryz.prog.cellsOf 37)) = some x:=field_some hxl hf 6 _ rfl
 simp only [cells_int,cells_str,cells_type,cells_stats,cells_params] at h0 h1 h2 h3 h4 h5 h6
 obtain ⟨k,hk,_,_⟩:=DataW.trod_int Tryz.underlying3 h0
 obtain ⟨s,hs,_,hsz⟩:=DataW.trod_string Tryz.underlying9 h1
 obtain ⟨t,ht,htz⟩:=type_open h2
 obtain ⟨u,hu,huz⟩:=type_open h3
 obtain ⟨cp,hcp,_,_⟩:=DataW.trod_int Tryz.underlying3 h4
 obtain ⟨lp,pa,pc,hpsl,hplm,hpall⟩:=slice_list (n:=3) (fun _ cs' (y:Sy.Pm) => cs' = [.string y.name,.int .i64 y.ty.kind,.string y.ty.gen] ∧ y.name.size ≤ maxLen ∧ y.ty.gen.size ≤ maxLen) Tryz.underlying36 cells_param (by decide) (fun f cs' x' _ hx' => param_open hx') h5
 obtain ⟨lb,ba,bc,hbsl,hblm,hball⟩:=slice_list (n:=8) (fun f cs' (y:Sy.St) => ∃ (xa:Option Addr) (xc:Nat) (ba:Option Addr) (bc:Nat) (ea:Option Addr) (ec:Nat),cs' = [.int .i64 y.kind,.string y.name,.int .i64 y.x.kind,.int .i64 y.x.n,.string y.x.name,.slice xa y.x.kids.length xc,.slice ba y.body.length bc,.slice ea y.els.length ec] ∧ StIn w.heap.size w f y xa ba ea) Tryz.underlying37 cells_stat (by decide) (fun f cs' x' _ hx' => stat_open f cs' x' hx') h6
 simp at hk hs ht hu hcp hpsl hbsl
 obtain ⟨e2,e3⟩:=ht
 obtain ⟨e4,e5⟩:=hu
 refine ⟨⟨k,s,t,u,cp,lp,lb⟩,pa,pc,ba,bc,by rw [hk,hs,e2,e3,e4,e5,hcp,hpsl,hbsl],hsz,htz,huz,⟨hplm,?_⟩,n,hblm,?_⟩
 ·intro i y hy
  obtain ⟨bb,off,cs',f,hea,hb,hflt,_,⟨rfl,h1,h2⟩,hc⟩:=hpall i y hy
  exact ⟨bb,off,hea,hb,hc 0 (by decide),hc 1 (by decide),hc 2 (by decide),h1,h2⟩
 ·intro i y hy
  obtain ⟨bb,off,cs',f,hea,hb,hflt,_,⟨xa',xc',ba',bc',ea',ec',rfl,hin⟩,hc⟩:=hball i y hy
  exact ⟨bb,off,xa',xc',ba',bc',ea',ec',hea,hb,hc 0 (by decide),hc 1 (by decide),hc 2 (by decide),hc 3 (by decide),hc 4 (by decide),hc 5 (by decide),hc 6 (by decide),hc 7 (by decide),hin.mono (by omega)⟩
theorem defs_open {fuel:Nat} {cs:List Value} {x:DataW H × List MemPlace} (h:DataW.trod enc Tryz.prog w base spare held fuel 22 cs = some x) :
  ∃ (l:List Sy.Df) (a:Option Addr) (c:Nat),cs = [.slice a l.length c] ∧ DfsIn w.heap.size w l a:=by
 obtain ⟨l,a,c,hsl,hlm,hall⟩:=slice_list (n:=9) (fun _ cs' (d:Sy.Df) => ∃ (pa:Option Addr) (pc:Nat) (ba:Option Addr) (bc:Nat),cs' = [.int .i64 d.kind,.string d.name,.int .i64 d.ty.kind,.string d.ty.gen,.int .i64 d.takes.kind,.string d.takes.gen,.int .i64 d.cap,.slice pa d.params.length pc,.slice ba d.body.length bc] ∧ DfIn w.heap.size w d pa ba) Tryz.underlying22 cells_def (by decide) (fun f cs' x' _ hx' => def_open hx') h
 refine ⟨l,a,c,hsl,hlm,fun i d hd => ?_⟩
 obtain ⟨bb,off,cs',f,hea,hb,hflt,_,⟨pa,pc,ba,bc,rfl,hin⟩,hc⟩:=hall i d hd
 exact ⟨bb,off,pa,pc,ba,bc,hea,hb,hc 0 (by decide),hc 1 (by decide),hc 2 (by decide),hc 3 (by decide),hc 4 (by decide),hc 5 (by decide),hc 6 (by decide),hc 7 (by decide),hc 8 (by decide),hin⟩
end
end Go.Proofs.YtbioaoangfiijaaGreatDoor
