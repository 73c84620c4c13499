/- Rows of an argument are short: what the form's own reach says of them. -/
import Derived.Test.YtpnljpdpobbiiaaGreatDoorM36
import Derived.Test.YtpnljpdpobbiiaaGreatDoorRows
import Derived.Test.YtpnljpdpobbiiaaGreatDoorM9
import Derived.ChangeArms
import Derived.DataReads
import Derived.Lib.LaidTab
import Derived.LaidSub
import Derived.OpenShut
import Derived.MakeChecks
import Derived.SizedLaws
import Derived.LaidLaws
namespace Go.Proofs.YtpnljpdpobbiiaaGreatDoor
open Go.RowKit
section
variable {H:Type}
theorem wAll_mem {P:Program} {e:TypeId}:∀ {l:List (DataW H)} {d:DataW H},d ∈ l → ∀ n ∈ d.weights P e,n ∈ DataW.weightsAll P e l
 | a :: l,d,h,n,hn => by
  simp only [DataW.weightsAll,List.mem_append]
  rcases List.mem_cons.1 h with rfl | h
  ·exact .inl hn
  ·exact .inr (wAll_mem h n hn)
theorem wEach_mem {P:Program}:∀ {ts:List TypeId} {l:List (DataW H)} {i:Nat} {t:TypeId} {d:DataW H},ts[i]? = some t → l[i]? = some d → ∀ n ∈ d.weights P t,n ∈ DataW.weightsEach P ts l
 | [],_,i,_,_,h,_,_,_ => by simp at h
 | _ :: _,[],i,_,_,_,h,_,_ => by simp at h
 | a :: ts,b :: l,i,t,d,h,k,n,hn => by
  simp only [DataW.weightsEach,List.mem_append]
  cases i with
  | zero => simp at h k; subst h k; exact .inl hn
  | succ i => exact .inr (wEach_mem (i:=i) (by simpa using h) (by simpa using k) n hn)
def Wt (t:TypeId) (d:DataW H):Prop:=∀ n ∈ d.weights Tryz.prog t,n ≤ 140737488351232
theorem wt_agg (t:TypeId) (fs:Array Field) (ht:Tryz.prog.underlying t = some (.struct fs)) (ps:List (DataW H)) (h:Wt t (.agg ps)) (i:Nat) (f:Field) (d:DataW H) (hf:fs[i]? = some f) (hd:ps[i]? = some d):Wt f.type d:=fun n hn => by
 refine h n ?_
 simp only [DataW.weights,ht]
 exact wEach_mem (i:=i) (by rw [List.getElem?_map,Array.getElem?_toList,hf]; rfl) hd n hn
theorem wt_slice (t e:TypeId) (ht:Tryz.prog.underlying t = some (.slice e)) (el sp:List (DataW H)) (h:Wt t (.slice el sp)):el.length * Tryz.prog.bytesOf e ≤ 140737488351232 ∧ ∀ d ∈ el,Wt e d:=by
 unfold Wt at h ⊢
 simp only [DataW.weights,ht] at h
 refine ⟨Nat.le_trans (Nat.mul_le_mul_right _ (Nat.le_add_right el.length sp.length)) (h _ (by simp)),fun d hd n hn => h n ?_⟩
 simp only [List.mem_cons,List.mem_append]
 exact .inr (.inl (wAll_mem hd n hn))
theorem wt_of {d:DataW H} {t:TypeId} (h:(DataW.weightsEach Tryz.prog [t] [d]).all (· ≤ reachBytes) = true):Wt t d:=fun n hn => by
 have:=List.all_eq_true.1 h n (wEach_mem (i:=0) rfl rfl n hn)
 exact of_decide_eq_true this
end
namespace Xe
def laidS:List (String × DataW Unit):=[("yieldshape/syn.pairs",Rows.laid_yieldshape_syn_pairs),("yieldshape/sema.number",Rows.laid_yieldshape_sema_number),("yieldshape/sema.truth",Rows.laid_yieldshape_sema_truth)]
theorem two {cs:List Value} (h:cs.length = 2):∃ a b,cs = [a,b]:=by
 match cs,h with
 | [a,b],_ => exact ⟨a,b,rfl⟩
theorem three {cs:List Value} (h:cs.length = 3):∃ a b c,cs = [a,b,c]:=by
 match cs,h with
 | [a,b,c],_ => exact ⟨a,b,c,rfl⟩
theorem cells_int:Tryz.prog.cellsOf 3 = 1:=by kernel_rfl
theorem cells_pair:Tryz.prog.cellsOf 102 = 3:=by kernel_rfl
theorem cells_tab:Tryz.prog.cellsOf 103 = 39:=by kernel_rfl
theorem cells_ty:Tryz.prog.cellsOf 31 = 2:=by kernel_rfl
theorem cells_str:Tryz.prog.cellsOf 9 = 1:=by kernel_rfl
section
variable {H:Type} {enc:TypeId × Value → H} {w:World} {base:Nat} {spare:Nat → Bool} {held:Bool} {fuel:Nat} {cs:List Value} {p:List MemPlace}
theorem pair_cells {k l:Int} {s:List UInt8} (h:DataW.trod enc Tryz.prog w base spare held fuel 102 cs = some (.agg [.lit (.int .i64 k),.lit (.string s),.lit (.int .i64 l)],p)) :
  cs = [iv k,sv s,iv l]:=by
 obtain ⟨xs,n,rfl,hx,hl,hxl,hf⟩:=DataW.trod_struct Tryz.underlying102 h
 rw [cells_pair] at hl
 obtain ⟨a,b,c,rfl⟩:=three hl
 have e:xs.map (·.1) = [.lit (.int .i64 k),.lit (.string s),.lit (.int .i64 l)]:=by
  have:=congrArg Prod.fst hx
  simpa using this.symm
 match xs,e with
 | [x0,x1,x2],e =>
  simp only [List.map_cons,List.map_nil,List.cons.injEq,and_true] at e
  have h0:DataW.trod enc Tryz.prog w base spare held n 3 (([a,b,c].drop 0).take (Tryz.prog.cellsOf 3)) = some x0:=hf 0 _ rfl
  have h1:DataW.trod enc Tryz.prog w base spare held n 9 (([a,b,c].drop 1).take (Tryz.prog.cellsOf 9)) = some x1:=hf 1 _ rfl
  have h2:DataW.trod enc Tryz.prog w base spare held n 3 (([a,b,c].drop 2).take (Tryz.prog.cellsOf 3)) = some x2:=hf 2 _ rfl
  rw [cells_int] at h0 h2
  rw [cells_str] at h1
  obtain ⟨k',hk,rfl,_⟩:=DataW.trod_int Tryz.underlying3 h0
  obtain ⟨s',hs,rfl,_⟩:=DataW.trod_string Tryz.underlying9 h1
  obtain ⟨l',hl',rfl,_⟩:=DataW.trod_int Tryz.underlying3 h2
  simp at hk hs hl'
  simp at e
  obtain ⟨e1,e2,e3⟩:=e
  rw [hk,hs,hl',e1,e3,← e2]
  rfl
theorem type_cells {k:Int} {s:List UInt8} (h:DataW.trod enc Tryz.prog w base spare held fuel 31 cs = some (.agg [.lit (.int .i64 k),.lit (.string s)],p)) :
  cs = [iv k,sv s]:=by
 obtain ⟨xs,n,rfl,hx,hl,hxl,hf⟩:=DataW.trod_struct Tryz.underlying31 h
 rw [cells_ty] at hl
 obtain ⟨a,b,rfl⟩:=two hl
 have e:xs.map (·.1) = [.lit (.int .i64 k),.lit (.string s)]:=by
  have:=congrArg Prod.fst hx
  simpa using this.symm
 match xs,e with
 | [x0,x1],e =>
  simp only [List.map_cons,List.map_nil,List.cons.injEq,and_true] at e
  have h0:DataW.trod enc Tryz.prog w base spare held n 3 (([a,b].drop 0).take (Tryz.prog.cellsOf 3)) = some x0:=hf 0 _ rfl
  have h1:DataW.trod enc Tryz.prog w base spare held n 9 (([a,b].drop 1).take (Tryz.prog.cellsOf 9)) = some x1:=hf 1 _ rfl
  rw [cells_int] at h0
  rw [cells_str] at h1
  obtain ⟨k',hk,rfl,_⟩:=DataW.trod_int Tryz.underlying3 h0
  obtain ⟨s',hs,rfl,_⟩:=DataW.trod_string Tryz.underlying9 h1
  simp at hk hs
  simp at e
  obtain ⟨e1,e2⟩:=e
  rw [hk,hs,e1,← e2]
  rfl
theorem chunks {α:Type} (f:α → List Value) (hf:∀ a,(f a).length = 3):∀ (ts:List α) (cs:List Value),cs.length = 3 * ts.length → (∀ i a,ts[i]? = some a → (cs.drop (i * 3)).take 3 = f a) → cs = ts.flatMap f
 | [],cs,hl,_ => by simp at hl; simp [hl]
 | a :: ts,cs,hl,h => by
  have h0:=h 0 a rfl
  simp only [Nat.zero_mul,List.drop_zero] at h0
  have ih:=chunks f hf ts (cs.drop 3) (by simp at hl ⊢; omega) (fun i b hb => by
   have:=h (i + 1) b (by simpa using hb)
   rw [List.drop_drop,show 3 + i * 3 = (i + 1) * 3 by omega]
   exact this)
  rw [List.flatMap_cons,← h0,← ih,List.take_append_drop]
def signs:List (Int × List UInt8 × Int):=[(18,[111,114],1),(17,[97,110,100],2),(11,[61,61],3),(12,[33,61],3),(13,[60],3),(14,[60,61],3),(15,[62],3),(16,[62,61],3),(6,[43],4),(7,[45],4),(8,[42],5),(9,[47],5),(10,[37],5)]
def signsD {H:Type}:List (DataW H):=signs.map fun p => .agg [.lit (.int .i64 p.1),.lit (.string p.2.1),.lit (.int .i64 p.2.2)]
theorem laid_signs {H:Type}:(Rows.laid_yieldshape_syn_pairs:DataW H) = .agg signsD:=rfl
theorem signs_cells (h:DataW.trod enc Tryz.prog w base spare held fuel 103 cs = some (.agg signsD,p)):cs = pairL:=by
 obtain ⟨xs,n,rfl,hx,hl,hxl,hel⟩:=DataW.trod_array Tryz.underlying103 h
 rw [cells_tab] at hl
 have hx1:xs.map (·.1) = signsD:=by
  have:=congrArg Prod.fst hx
  simpa using this.symm
 refine (chunks (fun p => [iv p.1,sv p.2.1,iv p.2.2]) (fun _ => rfl) signs cs (by rw [hl]; rfl) (fun i q hq => ?_)).trans rfl
 have hi:i < 13:=by have:=(List.getElem?_eq_some_iff.1 hq).1; simpa [signs] using this
 have he:=hel i hi
 rw [cells_pair] at he
 obtain ⟨x,hxi⟩:∃ x,xs[i]? = some x:=⟨_,List.getElem?_eq_getElem (by omega)⟩
 rw [hxi] at he
 have hd:x.1 = .agg [.lit (.int .i64 q.1),.lit (.string q.2.1),.lit (.int .i64 q.2.2)]:=by
  have h1:(xs.map (·.1))[i]? = some x.1:=by rw [List.getElem?_map,hxi]; rfl
  rw [hx1] at h1
  unfold signsD at h1
  rw [List.getElem?_map,hq] at h1
  simpa using h1.symm
 exact pair_cells (cs:=(cs.drop (i * 3)).take 3) (p:=x.2) (by rw [← hd]; exact he)
end
theorem gPairs:Tryz.prog.globalNamed "yieldshape/syn.pairs" = some 0:=by kernel_rfl
theorem gTruth:Tryz.prog.globalNamed "yieldshape/sema.truth" = some 1:=by kernel_rfl
theorem gNum:Tryz.prog.globalNamed "yieldshape/sema.number" = some 2:=by kernel_rfl
theorem gPairsT:(Tryz.prog.globals[0]?).map (·.type) = some 103:=by kernel_rfl
theorem gTruthT:(Tryz.prog.globals[1]?).map (·.type) = some 31:=by kernel_rfl
theorem gNumT:(Tryz.prog.globals[2]?).map (·.type) = some 31:=by kernel_rfl
theorem arr_eq {c:Array Value} {l:List Value} (h:c.toList = l):c = ⟨l⟩:=by cases c; simp at h; rw [h]
theorem of_laidS {W:World} (h:laidMetH Tryz.prog laidS W):Tabs W:=by
 refine ⟨?_,?_,?_⟩
 ·have h1:=h.filter (fun x => x.1 == "yieldshape/syn.pairs")
  have e:laidS.filter (fun x => x.1 == "yieldshape/syn.pairs") = [("yieldshape/syn.pairs",Rows.laid_yieldshape_syn_pairs)]:=by rfl
  rw [e,MakeChecks.laidMetH_plain _ _ _ (by kernel_rfl)] at h1
  obtain ⟨ps,⟨g',t',cs,fuel,p,q,hg',ht',hvar,hd,_,_⟩,_⟩:=h1
  obtain rfl:=Option.some.inj (gPairs.symm.trans hg')
  obtain rfl:=Option.some.inj (gPairsT.symm.trans ht')
  rw [laid_signs] at hd
  have hc:=signs_cells hd
  simp only [World.var?,gPairs,Option.bind_some] at hvar
  split at hvar
  ·rename_i c t fr hh
   simp only [Option.some.injEq] at hvar
   subst hvar
   exact ⟨t,fr,by rw [hh,arr_eq hc]⟩
  ·simp at hvar
 ·have h1:=h.filter (fun x => x.1 == "yieldshape/sema.truth")
  have e:laidS.filter (fun x => x.1 == "yieldshape/sema.truth") = [("yieldshape/sema.truth",Rows.laid_yieldshape_sema_truth)]:=by rfl
  rw [e,MakeChecks.laidMetH_plain _ _ _ (by kernel_rfl)] at h1
  obtain ⟨ps,⟨g',t',cs,fuel,p,q,hg',ht',hvar,hd,_,_⟩,_⟩:=h1
  obtain rfl:=Option.some.inj (gTruth.symm.trans hg')
  obtain rfl:=Option.some.inj (gTruthT.symm.trans ht')
  have hc:=type_cells hd
  simp only [World.var?,gTruth,Option.bind_some] at hvar
  split at hvar
  ·rename_i c t fr hh
   simp only [Option.some.injEq] at hvar
   subst hvar
   exact ⟨t,fr,by rw [hh,arr_eq hc]; rfl⟩
  ·simp at hvar
 ·have h1:=h.filter (fun x => x.1 == "yieldshape/sema.number")
  have e:laidS.filter (fun x => x.1 == "yieldshape/sema.number") = [("yieldshape/sema.number",Rows.laid_yieldshape_sema_number)]:=by rfl
  rw [e,MakeChecks.laidMetH_plain _ _ _ (by kernel_rfl)] at h1
  obtain ⟨ps,⟨g',t',cs,fuel,p,q,hg',ht',hvar,hd,_,_⟩,_⟩:=h1
  obtain rfl:=Option.some.inj (gNum.symm.trans hg')
  obtain rfl:=Option.some.inj (gNumT.symm.trans ht')
  have hc:=type_cells hd
  simp only [World.var?,gNum,Option.bind_some] at hvar
  split at hvar
  ·rename_i c t fr hh
   simp only [Option.some.injEq] at hvar
   subst hvar
   exact ⟨t,fr,by rw [hh,arr_eq hc]; rfl⟩
  ·simp at hvar
def putCells (cs:Array Value) (o:Obj):Obj :=
 match o with
 | .cells _ t frozen => .cells cs t frozen
 | o => o
noncomputable def laidWorld (os:Os):World :=
 { World.holding Tryz.prog os ⟨#[],#[],[]⟩ with heap:=(((World.holding Tryz.prog os ⟨#[],#[],[]⟩).heap.modify 0 (putCells ⟨pairL⟩)).modify 1 (putCells ⟨truthL⟩)).modify 2 (putCells ⟨numL⟩) }
theorem laid_met (os:Os) (args:Array Value):laidMet Tryz.prog laidS ((laidWorld os).forCall (fun _ _ => 0) ⟨#[],args,[]⟩).memory :=
 laidMet_of_run' 8 (by kernel_rfl) (by kernel_rfl)
end Xe
end Go.Proofs.YtpnljpdpobbiiaaGreatDoor
