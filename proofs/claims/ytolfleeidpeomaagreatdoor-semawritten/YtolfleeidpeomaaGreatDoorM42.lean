/- What the row's list gives: the table of signs,the table of powers,the two types. -/
import Derived.Test.YtolfleeidpeomaaGreatDoorRows
import Derived.Test.YtolfleeidpeomaaGreatDoorM20
import Derived.Test.YtolfleeidpeomaaGreatDoorM41
import Derived.Test.YtolfleeidpeomaaGreatDoorM27
import Derived.Test.YtolfleeidpeomaaGreatDoorM29
import Derived.Lib.LaidTab
import Derived.LaidSub
import Derived.OpenShut
import Derived.MakeChecks
import Derived.SizedLaws
namespace Go.Proofs.YtolfleeidpeomaaGreatDoor
open Go.RowKit
theorem T9:Tryz.prog.cellsOf 75=3:=by kernel_rfl
theorem ad4:Tryz.prog.cellsOf 76=39:=by kernel_rfl
theorem pair_cells {H:Type}{enc:TypeId × Value→H}{w:World}{base:Nat}{spare:Nat→Bool}{held:Bool}{fuel:Nat}{cs:List Value}{k l:Int}{s:List UInt8}{p:List MemPlace}
  (h:DataW.trod enc Tryz.prog w base spare held fuel 75 cs=some (.agg [.lit (.int .i64 k),.lit (.string s),.lit (.int .i64 l)],p)) :
  cs=[.int .i64 k,.string ⟨s.toArray⟩,.int .i64 l]:=by
 obtain ⟨xs,n,rfl,hx,hl,hxl,hf⟩:=DataW.trod_struct Tryz.underlying75 h
 rw [T9] at hl
 obtain ⟨a,b,c,rfl⟩:=TV hl
 have e:xs.map (·.1)=[.lit (.int .i64 k),.lit (.string s),.lit (.int .i64 l)]:=by
  have:=congrArg Prod.fst hx
  simpa using this.symm
 match xs,e with
 | [x0,x1,x2],e =>
  simp only [List.map_cons,List.map_nil,List.cons.injEq,and_true] at e
  have h0:DataW.trod enc Tryz.prog w base spare held n 3 (([a,b,c].drop 0).take (Tryz.prog.cellsOf 3))=some x0:=hf 0 _ rfl
  have h1:DataW.trod enc Tryz.prog w base spare held n 9 (([a,b,c].drop 1).take (Tryz.prog.cellsOf 9))=some x1:=hf 1 _ rfl
  have h2:DataW.trod enc Tryz.prog w base spare held n 3 (([a,b,c].drop 2).take (Tryz.prog.cellsOf 3))=some x2:=hf 2 _ rfl
  rw [zg] at h0 h2
  rw [xz] at h1
  obtain ⟨k',hk,rfl,_⟩:=DataW.trod_int Tryz.underlying3 h0
  obtain ⟨s',hs,rfl,_⟩:=DataW.trod_string Tryz.underlying9 h1
  obtain ⟨l',hl',rfl,_⟩:=DataW.trod_int Tryz.underlying3 h2
  simp at hk hs hl'
  simp at e
  obtain ⟨e1,e2,e3⟩:=e
  rw [hk,hs,hl',e1,e3,← e2]
theorem chunks {α:Type}(f:α→List Value)(hf:∀ a,(f a).length=3):∀ (ts:List α) (cs:List Value),cs.length=3 * ts.length→(∀ i a,ts[i]?=some a→(cs.drop (i * 3)).take 3=f a)→cs=ts.flatMap f
 | [],cs,hl,_=>by simp at hl;simp [hl]
 | a :: ts,cs,hl,h=>by
  have h0:=h 0 a rfl
  simp only [Nat.zero_mul,List.drop_zero] at h0
  have ih:=chunks f hf ts (cs.drop 3) (by simp at hl ⊢;omega) (fun i b hb=>by
   have:=h (i+1) b (by simpa using hb)
   rw [List.drop_drop,show 3+i * 3=(i+1) * 3 by omega]
   exact this)
  rw [List.flatMap_cons,← h0,← ih,List.take_append_drop]
def ES {H:Type}:List (DataW H):=Sy.table.map fun p=>.agg [.lit (.int .i64 p.1),.lit (.string p.2.1.data.toList),.lit (.int .i64 p.2.2)]
theorem ad5 {H:Type}:(Rows.laid_yieldshape_syn_pairs:DataW H)=.agg ES:=rfl
theorem ad6 {H:Type}{enc:TypeId × Value→H}{w:World}{base:Nat}{spare:Nat→Bool}{held:Bool}{fuel:Nat}{cs:List Value}{p:List MemPlace}
  (h:DataW.trod enc Tryz.prog w base spare held fuel 76 cs=some (.agg ES,p)):cs=um:=by
 obtain ⟨xs,n,rfl,hx,hl,hxl,hel⟩:=DataW.trod_array Tryz.underlying76 h
 rw [ad4] at hl
 have hx1:xs.map (·.1)=ES:=by
  have:=congrArg Prod.fst hx
  simpa using this.symm
 refine chunks (fun p=>[.int .i64 p.1,.string p.2.1,.int .i64 p.2.2]) (fun _=>rfl) Sy.table cs (by rw [hl];rfl) (fun i q hq=>?_)
 have hi:i<13:=by have:=(List.getElem?_eq_some_iff.1 hq).1;simpa [Sy.table] using this
 have he:=hel i hi
 rw [T9] at he
 obtain ⟨x,hxi⟩:∃ x,xs[i]?=some x:=⟨_,List.getElem?_eq_getElem (by omega)⟩
 rw [hxi] at he
 have hd:x.1=.agg [.lit (.int .i64 q.1),.lit (.string q.2.1.data.toList),.lit (.int .i64 q.2.2)]:=by
  have h1:(xs.map (·.1))[i]?=some x.1:=by rw [List.getElem?_map,hxi];rfl
  rw [hx1] at h1
  unfold ES at h1
  rw [List.getElem?_map,hq] at h1
  simpa using h1.symm
 have h3:=pair_cells (cs:=(cs.drop (i * 3)).take 3) (p:=x.2) (by rw [← hd];exact he)
 exact h3
theorem Ua:Tryz.prog.globalNamed "yieldshape/syn.pairs" = some 0:=by kernel_rfl
theorem ad7:(Tryz.prog.globals[0]?).map (·.type)=some 76:=by kernel_rfl
theorem ad8:(Tryz.prog.globals[2]?).map (·.type)=some 185:=by kernel_rfl
theorem ad9:Tryz.prog.cellsOf 185=20:=by kernel_rfl
theorem aea:Tryz.prog.cellsOf 162=1:=by kernel_rfl
theorem aeb {W:World}(h:laidMetH Tryz.prog Rows.semaWrittenRow.laid W):jl W 0∧wR W:=by
 constructor
 ·have h1:=h.filter (fun x=>x.1 == "yieldshape/syn.pairs")
  have e:Rows.semaWrittenRow.laid.filter (fun x=>x.1 == "yieldshape/syn.pairs")=[("yieldshape/syn.pairs",Rows.laid_yieldshape_syn_pairs)]:=by rfl
  rw [e,MakeChecks.laidMetH_plain _ _ _ (by kernel_rfl)] at h1
  obtain ⟨ps,⟨g',t',cs,fuel,p,q,hg',ht',hvar,hd,_,_⟩,_⟩:=h1
  obtain rfl:=Option.some.inj (Ua.symm.trans hg')
  obtain rfl:=Option.some.inj (ad7.symm.trans ht')
  rw [ad5] at hd
  have hc:=ad6 hd
  simp only [World.var?,Ua,Option.bind_some] at hvar
  split at hvar
  ·rename_i c t fr hh
   simp only [Option.some.injEq] at hvar
   subst hvar
   refine ⟨t,fr,?_⟩
   rw [hh,← hc]
  ·simp at hvar
 ·have h1:=h.filter (fun x=>x.1 == "internal/strconv.uint64pow10")
  have e:Rows.semaWrittenRow.laid.filter (fun x=>x.1 == "internal/strconv.uint64pow10")=[("internal/strconv.uint64pow10",Rows.laid_internal_strconv_uint64pow10)]:=by rfl
  rw [e,MakeChecks.laidMetH_plain _ _ _ (by kernel_rfl)] at h1
  exact Lib.tabIs_of_head (rest:=[]) IU ad8 Tryz.underlying185 Tryz.underlying162 aea ad9 h1
theorem Ub {H:Type}{enc:TypeId × Value→H}{w:World}{base:Nat}{spare:Nat→Bool}{held:Bool}{fuel:Nat}{cs:List Value}{p:List MemPlace}{k:Int}{s:List UInt8}(h:DataW.trod enc Tryz.prog w base spare held fuel 46 cs=some (.agg [.lit (.int .i64 k),.lit (.string s)],p)) :
  cs=[.int .i64 k,.string ⟨s.toArray⟩]:=by
 obtain ⟨xs,n,rfl,hx,hl,hxl,hf⟩:=DataW.trod_struct Tryz.underlying46 h
 rw [ER] at hl
 obtain ⟨a,b,rfl⟩:=TU hl
 have e:xs.map (·.1)=[.lit (.int .i64 k),.lit (.string s)]:=by
  have:=congrArg Prod.fst hx
  simpa using this.symm
 match xs,e with
 | [x0,x1],e =>
  simp only [List.map_cons,List.map_nil,List.cons.injEq,and_true] at e
  have h0:DataW.trod enc Tryz.prog w base spare held n 3 (([a,b].drop 0).take (Tryz.prog.cellsOf 3))=some x0:=hf 0 _ rfl
  have h1:DataW.trod enc Tryz.prog w base spare held n 9 (([a,b].drop 1).take (Tryz.prog.cellsOf 9))=some x1:=hf 1 _ rfl
  rw [zg] at h0
  rw [xz] at h1
  obtain ⟨k',hk,rfl,_⟩:=DataW.trod_int Tryz.underlying3 h0
  obtain ⟨s',hs,rfl,_⟩:=DataW.trod_string Tryz.underlying9 h1
  simp at hk hs
  simp at e
  obtain ⟨e1,e2⟩:=e
  rw [hk,hs,e1,← e2]
theorem Uc:Tryz.prog.globalNamed "yieldshape/sema.truth" = some 1:=by kernel_rfl
theorem aec:(Tryz.prog.globals[1]?).map (·.type)=some 46:=by kernel_rfl
theorem aed {W:World}(h:laidMetH Tryz.prog Rows.semaWrittenRow.laid W):∃ t fr,W.heap[1]?=some (.cells #[.int .i64 2,.string ⟨#[]⟩] t fr):=by
 have h1:=h.filter (fun x=>x.1 == "yieldshape/sema.truth")
 have e:Rows.semaWrittenRow.laid.filter (fun x=>x.1 == "yieldshape/sema.truth")=[("yieldshape/sema.truth",Rows.laid_yieldshape_sema_truth)]:=by rfl
 rw [e,MakeChecks.laidMetH_plain _ _ _ (by kernel_rfl)] at h1
 obtain ⟨ps,⟨g',t',cs,fuel,p,q,hg',ht',hvar,hd,_,_⟩,_⟩:=h1
 obtain rfl:=Option.some.inj (Uc.symm.trans hg')
 obtain rfl:=Option.some.inj (aec.symm.trans ht')
 have hc:=Ub hd
 simp only [World.var?,Uc,Option.bind_some] at hvar
 split at hvar
 ·rename_i c t fr hh
  simp only [Option.some.injEq] at hvar
  subst hvar
  refine ⟨t,fr,?_⟩
  rw [hh]
  have:c=#[.int .i64 2,.string ⟨#[]⟩]:=Array.toList_inj.1 hc
  rw [this]
 ·simp at hvar
theorem Ud:Tryz.prog.globalNamed "yieldshape/sema.number" = some 4:=by kernel_rfl
theorem aee:(Tryz.prog.globals[4]?).map (·.type)=some 46:=by kernel_rfl
theorem aef {W:World}(h:laidMetH Tryz.prog Rows.semaWrittenRow.laid W):∃ t fr,W.heap[4]?=some (.cells #[.int .i64 1,.string ⟨#[]⟩] t fr):=by
 have h1:=h.filter (fun x=>x.1 == "yieldshape/sema.number")
 have e:Rows.semaWrittenRow.laid.filter (fun x=>x.1 == "yieldshape/sema.number")=[("yieldshape/sema.number",Rows.laid_yieldshape_sema_number)]:=by rfl
 rw [e,MakeChecks.laidMetH_plain _ _ _ (by kernel_rfl)] at h1
 obtain ⟨ps,⟨g',t',cs,fuel,p,q,hg',ht',hvar,hd,_,_⟩,_⟩:=h1
 obtain rfl:=Option.some.inj (Ud.symm.trans hg')
 obtain rfl:=Option.some.inj (aee.symm.trans ht')
 have hc:=Ub hd
 simp only [World.var?,Ud,Option.bind_some] at hvar
 split at hvar
 ·rename_i c t fr hh
  simp only [Option.some.injEq] at hvar
  subst hvar
  refine ⟨t,fr,?_⟩
  rw [hh]
  have:c=#[.int .i64 1,.string ⟨#[]⟩]:=Array.toList_inj.1 hc
  rw [this]
 ·simp at hvar
theorem aeg {W:World}(h:laidMetH Tryz.prog Rows.semaWrittenRow.laid W):Sm.Gl W.heap.size W:=by
 obtain ⟨_,_,h1⟩:=aed h
 obtain ⟨_,_,h2⟩:=aef h
 refine ⟨⟨lt_of_block h2,lt_of_block h1⟩,?_,?_,?_,?_⟩ <;> simp [World.cell?,h1,h2]
end Go.Proofs.YtolfleeidpeomaaGreatDoor
