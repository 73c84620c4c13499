/- The map of what is known where;a row that is taken at its front. -/
import Derived.Test.YtbdpdjcdhclbfaaGreatM1
import Derived.MapKept
import Derived.ArgAppend
import Derived.Test.YtbdpdjcdhclbfaaGreatM7
import Derived.Test.YtbdpdjcdhclbfaaGreatM6
set_option maxRecDepth 100000
set_option maxHeartbeats 1000000
namespace Go.Proofs.YtbdpdjcdhclbfaaGreat
open Go.RowKit
theorem Tryz.info3:(Tryz.prog.info? 3).map (fun i=>(i.zero,i.size,i.bytes))=some (some (.int .i64 0),1,8):=by kernel_rfl
abbrev um (l:List MapEntry) (k:Nat) (i:Nat):Option (Option (Nat × Value)):=Instr.findNow (.int .i64) (.int .i64 (k:Int)) l i
def Keyed' (l:List MapEntry):Prop:=∀ e ∈ l,∃ j:Nat,e.key=.int .i64 (j:Int)
theorem BN {e:MapEntry}{l:List MapEntry}{j k i:Nat}(he:e.key=.int .i64 (j:Int)):um (e :: l) k i=if k=j then some (some (i,e.val)) else um l k (i+1):=by
 unfold um;rw[Instr.findNow,he];by_cases h:k=j
 ·subst h;simp[Instr.sameNow]
 ·have:((k:Int)==(j:Int))=false:=by simp;omega
  simp[Instr.sameNow,this,h]
theorem FX {e:MapEntry}{j k:Nat}(he:e.key=.int .i64 (j:Int)):∀ (l:List MapEntry) (i:Nat),Keyed' l→um (l++[e]) k i=match um l k i with | some none=>if k=j then some (some (i+l.length,e.val)) else some none | x=>x
 | [],i,_=>by
  rw[List.nil_append,BN he];rfl
 | a :: l,i,h=>by
  obtain⟨ja,ha⟩:=h a List.mem_cons_self;rw[List.cons_append,BN ha,BN ha];by_cases hk:k=ja
  ·rw[if_pos hk,if_pos hk]
  ·rw[if_neg hk,if_neg hk,FX he l (i+1) (fun x hx=>h x (List.mem_cons_of_mem _ hx))]
   rw[show i+1+l.length=i+(a :: l).length by simp;omega]
theorem G7 {k:Nat}:∀ (l:List MapEntry) (i p:Nat) (v:Value),Keyed' l→um l k i=some (some (p,v))→∃ j e,p=i+j∧l[j]?=some e∧e.key=.int .i64 (k:Int)∧e.val=v
 | [],i,p,v,_,h=>by cases h
 | a :: l,i,p,v,hK,h=>by
  obtain⟨ja,ha⟩:=hK a List.mem_cons_self;rw[BN ha] at h;by_cases hk:k=ja
  ·rw[if_pos hk] at h
   cases h;exact⟨0,a,rfl,rfl,by rw[ha,hk],rfl⟩
  ·rw[if_neg hk] at h
   obtain⟨j,e,h1,h2,h3,h4⟩:=G7 l (i+1) p v (fun x hx=>hK x (List.mem_cons_of_mem _ hx)) h;exact⟨j+1,e,by omega,h2,h3,h4⟩
theorem Jz {k:Nat}{v:Value}:∀ (l:List MapEntry) (i j:Nat) (v0:Value),Keyed' l→um l k i=some (some (i+j,v0))→∀ k',um (l.modify j (fun e=>{ e with key:=.int .i64 (k:Int),val:=v })) k' i=if k'=k then some (some (i+j,v)) else um l k' i
 | [],i,j,v0,_,h,_=>by cases h
 | a :: l,i,j,v0,hK,h,k'=>by
  obtain⟨ja,ha⟩:=hK a List.mem_cons_self;rw[BN ha] at h;by_cases hk:k=ja
  ·rw[if_pos hk] at h
   obtain rfl:j=0:=by simp at h;omega
   rw[List.modify_cons,if_pos rfl,BN (j:=k) rfl,BN ha];subst hk;by_cases h':k'=k
   ·rw[if_pos h',if_pos h'];rfl
   ·rw[if_neg h',if_neg h',if_neg h']
  ·rw[if_neg hk] at h
   obtain⟨j',e,h1,h2,h3,h4⟩:=G7 l (i+1) _ v0 (fun x hx=>hK x (List.mem_cons_of_mem _ hx)) h;obtain⟨q,rfl⟩:∃ q,j=q+1:=⟨j - 1,by omega⟩;rw[List.modify_cons,if_neg (by omega),BN ha,BN ha];have:=Jz (v:=v) l (i+1) q v0 (fun x hx=>hK x (List.mem_cons_of_mem _ hx)) (by rw[h];congr 3;omega) k';rw[show q+1 - 1=q by omega,this];by_cases h':k'=ja
   ·rw[if_pos h',if_neg (by omega),if_pos h']
   ·rw[if_neg h',if_neg h',show i+1+q=i+(q+1) by omega]
theorem Keyed'.push {l:List MapEntry}(h:Keyed' l)(e:MapEntry){j:Nat}(he:e.key=.int .i64 (j:Int)):Keyed' (l++[e]):=fun x hx=>by
 rcases List.mem_append.1 hx with h1 | h1
 ·exact h x h1
 ·simp at h1;subst h1;exact⟨j,he⟩
theorem Keyed'.modify {k:Nat}{v:Value}:∀ {l:List MapEntry} (_:Keyed' l) (j:Nat),Keyed' (l.modify j (fun e=>{ e with key:=.int .i64 (k:Int),val:=v }))
 | [],_,j=>by intro x hx;cases j<;>simp at hx
 | a :: l,h,0=>by
  intro x hx;rw[List.modify_cons,if_pos rfl] at hx;rcases List.mem_cons.1 hx with rfl | h1
  ·exact⟨k,rfl⟩
  ·exact h x (List.mem_cons_of_mem _ h1)
 | a :: l,h,j+1=>by
  intro x hx;rw[List.modify_cons,if_neg (by omega)] at hx;rcases List.mem_cons.1 hx with rfl | h1
  ·exact h _ List.mem_cons_self
  ·exact Keyed'.modify (fun y hy=>h y (List.mem_cons_of_mem _ hy)) j x h1
abbrev zV (k:Vf.Kn) (top:Option Addr):Value:=.agg #[.pointer top,.int .i64 (k.st.length:Int),ah k.fl.a,ah k.fl.b,ah k.fl.c,ah k.fl.d]
def uo (w:World)(M:Nat)(come:Nat→Option Vf.Kn):Prop :=
 ∃ es cl,w.heap[M]?=some (.map es cl)∧Keyed' es.toList∧∀ k:Nat,(come k=none→um es.toList k 0=some none)∧∀ kn,come k=some kn→∃ i top,um es.toList k 0=some (some (i,zV kn top))∧uf w top kn.st
theorem uo.keep {w w':World}{M:Nat}{come:Nat→Option Vf.Kn}(h:uo w M come)(hM:w'.heap[M]?=w.heap[M]?)(hk:∀ (b:Nat) (cs:Array Value),w.heap[b]?=some (Obj.cells cs 148 (0,0))→w'.heap[b]?=some (Obj.cells cs 148 (0,0))):uo w' M come:=by
 obtain⟨es,cl,h1,h2,h3⟩:=h;refine⟨es,cl,hM.trans h1,h2,fun k=>⟨(h3 k).1,fun kn hkn=>?_⟩⟩;obtain⟨i,top,h4,h5⟩:=(h3 k).2 kn hkn;exact⟨i,top,h4,h5.keep hk⟩
theorem uo.lt {w:World}{M:Nat}{come:Nat→Option Vf.Kn}(h:uo w M come):M<w.heap.size:=by
 obtain⟨es,cl,h1,_⟩:=h;exact lt_of_block h1
theorem uo.new (w:World):uo (w.alloc (.map #[] 0)) w.heap.size (fun _=>none) :=
 ⟨#[],0,heap_alloc_new w _,fun _ h=>(by cases h),fun _=>⟨fun _=>rfl,fun _ h=>(by cases h)⟩⟩
theorem yK {w:World}{k:Nat}(b:Bool):(Instr.checkKey b 10000 3 (.int .i64 (k:Int))).run Tryz.prog w=.ok () w:=MapKept.run_checkKey (n:=9999) Tryz.underlying3 (by simp[MapKept.IsKey]) b
theorem PZ {w:World}{M k:Nat}{come:Nat→Option Vf.Kn}{kn:Vf.Kn}(h:uo w M come)(hk:come k=some kn):∃ top,uf w top kn.st∧(Instr.lookup 69 (.map (some M)) (.int .i64 (k:Int)) false).run Tryz.prog w=.ok (zV kn top) w∧(Instr.lookup 69 (.map (some M)) (.int .i64 (k:Int)) true).run Tryz.prog w=.ok (.tuple #[zV kn top,.bool true]) w:=by
 obtain⟨es,cl,h1,h2,h3⟩:=h;obtain⟨i,top,hf,hs⟩:=(h3 k).2 kn hk;have hg:(getObj M).run Tryz.prog w=.ok (.map es cl) w:=MapKept.run_getObj_map h1;have hu:=run_underlying (w:=w) Tryz.underlying69;have hkk:=MapKept.run_findKey (P:=Tryz.prog) (w:=w) (kt:=3) Tryz.underlying3 hf;refine⟨top,hs,?_,?_⟩
 ·simp[Instr.lookup,hu,hg,yK,hkk]
 ·simp[Instr.lookup,hu,hg,yK,hkk]
theorem WB {w:World}{M k:Nat}{come:Nat→Option Vf.Kn}(h:uo w M come)(hk:come k=none):(Instr.lookup 69 (.map (some M)) (.int .i64 (k:Int)) true).run Tryz.prog w=.ok (.tuple #[zV ⟨[],Vf.Fl.none⟩ none,.bool false]) w:=by
 obtain⟨es,cl,h1,h2,h3⟩:=h;have hf:=(h3 k).1 hk;have hg:(getObj M).run Tryz.prog w=.ok (.map es cl) w:=MapKept.run_getObj_map h1;have hu:=run_underlying (w:=w) Tryz.underlying69;have hkk:=MapKept.run_findKey (P:=Tryz.prog) (w:=w) (kt:=3) Tryz.underlying3 hf;have hzv:(zeroValue 77).run Tryz.prog w=.ok (zV ⟨[],Vf.Fl.none⟩ none) w:=by kernel_rfl
 simp[Instr.lookup,hu,hg,yK,hkk,hzv]
theorem WC {w:World}{M k:Nat}{come:Nat→Option Vf.Kn}{kn:Vf.Kn}{top:Option Addr}(h:uo w M come)(hs:uf w top kn.st) :
  ∃ w',(Instr.mapUpdate 69 (.map (some M)) (.int .i64 (k:Int)) (zV kn top)).run Tryz.prog w=.ok () w'∧uo w' M (fun i=>if i=k then some kn else come i)∧w.grownBy w' (some M):=by
 have hM:=h.lt;obtain⟨es,cl,h1,h2,h3⟩:=h;have hg:(getObj M).run Tryz.prog w=.ok (.map es cl) w:=MapKept.run_getObj_map h1;have hu:=run_underlying (w:=w) Tryz.underlying69;have fin:∀ es' cl',Keyed' es'.toList→(∀ j:Nat,um es'.toList j 0=if j=k then some (some ((um es.toList k 0 |>.getD none).map (·.1) |>.getD es.size,zV kn top)) else um es.toList j 0) →
   uo { w with heap:=w.heap.setIfInBounds M (.map es' cl') } M (fun i=>if i=k then some kn else come i)∧w.grownBy { w with heap:=w.heap.setIfInBounds M (.map es' cl') } (some M):=by
  intro es' cl' hK hF;obtain⟨m1,m2⟩:=MapKept.heap_set (o':=.map es' cl') h1;have kp:∀ (b:Nat) (cs:Array Value),w.heap[b]?=some (Obj.cells cs 148 (0,0))→(w.heap.setIfInBounds M (.map es' cl'))[b]?=some (Obj.cells cs 148 (0,0)):=fun b cs hb=>(m2 b (fun e=>by subst e;rw[h1] at hb;cases hb)).trans hb;refine⟨⟨es',cl',m1,hK,fun j=>⟨fun hj=>?_,fun kj hj=>?_⟩⟩,⟨rfl,rfl,rfl,by simp,fun b _ hne=>m2 b (fun e=>hne (by rw[e]))⟩⟩
  ·dsimp only at hj
   by_cases hjk:j=k
   ·rw[if_pos hjk] at hj;cases hj
   ·rw[if_neg hjk] at hj
    rw[hF j,if_neg hjk];exact (h3 j).1 hj
  ·dsimp only at hj
   by_cases hjk:j=k
   ·rw[if_pos hjk] at hj
    cases hj;exact⟨_,top,by rw[hF j,if_pos hjk],hs.keep kp⟩
   ·rw[if_neg hjk] at hj
    obtain⟨i,rU,h4,h5⟩:=(h3 j).2 kj hj;exact⟨i,rU,by rw[hF j,if_neg hjk];exact h4,h5.keep kp⟩
 cases hc:come k with
 | none =>
  have hf:=(h3 k).1 hc;have hkk:=MapKept.run_findKey (P:=Tryz.prog) (w:=w) (kt:=3) Tryz.underlying3 hf;have hset:=MapKept.run_setObj_map (P:=Tryz.prog) (.map (es.push { key:=.int .i64 (k:Int),val:=zV kn top,born:=cl }) (cl+1)) h1;refine⟨_,by simp[Instr.mapUpdate,hu,hg,yK,hkk,hset];rfl,fin _ _ (by rw[Array.toList_push];exact h2.push _ (j:=k) rfl) (fun j=>?_)⟩;rw[Array.toList_push,FX (j:=k) rfl _ _ h2];by_cases hjk:j=k
  ·subst hjk
   rw[hf];simp
  ·rw[if_neg hjk]
   cases hfj:um es.toList j 0 with
   | none=>simp[hjk]
   | some x=>cases x with
    | none=>simp[hjk]
    | some y=>simp[hjk]
 | some P5 =>
  obtain⟨i,P7,hf,_⟩:=(h3 k).2 P5 hc;have hkk:=MapKept.run_findKey (P:=Tryz.prog) (w:=w) (kt:=3) Tryz.underlying3 hf;obtain⟨j0,e0,hj0,he0,G8,hev⟩:=G7 es.toList 0 i _ h2 hf;obtain rfl:i=j0:=by omega
  have hes:es[i]?=some e0:=by simpa using he0
  have hst:=MapKept.run_keyThatStays (P:=Tryz.prog) (w:=w) (d:=.int .i64) (k:=.int .i64 (k:Int)) (by simp[MapKept.IsKey]);have hset:=MapKept.run_setObj_map (P:=Tryz.prog) (.map (es.modify i fun e=>{ e with key:=.int .i64 (k:Int),val:=zV kn top }) cl) h1;refine⟨_,by simp[Instr.mapUpdate,hu,hg,yK,hkk,hes,G8,hst,hset];rfl,fin _ _ (by rw[Array.toList_modify];exact h2.modify i) (fun j=>?_)⟩;rw[Array.toList_modify,Jz es.toList 0 i (zV P5 P7) h2 (by rw[hf];simp) j,hf];simp
end Go.Proofs.YtbdpdjcdhclbfaaGreat
namespace Go.Proofs.YtbdpdjcdhclbfaaGreat.Ow
open Go.RowKit Vf Vm Ot
abbrev mt:TypeId:=56
abbrev BO:Value:=.agg #[]
def xx (w:World)(M:Nat)(jw:Nat→Bool):Prop :=
 ∃ es cl,w.heap[M]?=some (.map es cl)∧Keyed' es.toList∧∀ k:Nat,(jw k=false→um es.toList k 0=some none)∧(jw k=true→∃ i,um es.toList k 0=some (some (i,BO)))
theorem xx.lt {w:World}{M:Nat}{jw:Nat→Bool}(h:xx w M jw):M<w.heap.size:=by
 obtain⟨es,cl,h1,_⟩:=h;exact lt_of_block h1
theorem xx.keep {w w':World}{M:Nat}{jw:Nat→Bool}(h:xx w M jw)(hM:w'.heap[M]?=w.heap[M]?):xx w' M jw:=by
 obtain⟨es,cl,h1,h2⟩:=h;exact⟨es,cl,hM.trans h1,h2⟩
theorem xx.new (w:World):xx (w.alloc (.map #[] 0)) w.heap.size (fun _=>false) :=
 ⟨#[],0,heap_alloc_new w _,fun _ h=>(by cases h),fun _=>⟨fun _=>rfl,fun h=>(by cases h)⟩⟩
theorem WE {w:World}{M:Nat}{jw:Nat→Bool}(h:xx w M jw)(k:Nat):(Instr.lookup mt (.map (some M)) (.int .i64 (k:Int)) true).run Tryz.prog w=.ok (.tuple #[BO,.bool (jw k)]) w:=by
 obtain⟨es,cl,h1,h2,h3⟩:=h;have hg:(getObj M).run Tryz.prog w=.ok (.map es cl) w:=MapKept.run_getObj_map h1;have hu:=run_underlying (w:=w) Tryz.underlying56;have hzv:(zeroValue 125).run Tryz.prog w=.ok BO w:=by kernel_rfl
 cases hk:jw k with
 | false =>
  have hkk:=MapKept.run_findKey (P:=Tryz.prog) (w:=w) (kt:=3) Tryz.underlying3 ((h3 k).1 hk);simp[Instr.lookup,hu,hg,yK,hkk,hzv]
 | true =>
  obtain⟨i,hf⟩:=(h3 k).2 hk;have hkk:=MapKept.run_findKey (P:=Tryz.prog) (w:=w) (kt:=3) Tryz.underlying3 hf;simp[Instr.lookup,hu,hg,yK,hkk]
theorem WG {w:World}{M k:Nat}{jw:Nat→Bool}(h:xx w M jw) :
  ∃ w',(Instr.mapUpdate mt (.map (some M)) (.int .i64 (k:Int)) BO).run Tryz.prog w=.ok () w'∧xx w' M (fun i=>decide (i=k) || jw i)∧w.grownBy w' (some M):=by
 obtain⟨es,cl,h1,h2,h3⟩:=h;have hg:(getObj M).run Tryz.prog w=.ok (.map es cl) w:=MapKept.run_getObj_map h1;have hu:=run_underlying (w:=w) Tryz.underlying56;have fin:∀ es' cl',Keyed' es'.toList→(∀ j:Nat,j≠k→um es'.toList j 0=um es.toList j 0)→(∃ i,um es'.toList k 0=some (some (i,BO))) →
   xx { w with heap:=w.heap.setIfInBounds M (.map es' cl') } M (fun i=>decide (i=k) || jw i)∧w.grownBy { w with heap:=w.heap.setIfInBounds M (.map es' cl') } (some M):=by
  intro es' cl' hK hF hk;obtain⟨m1,m2⟩:=MapKept.heap_set (o':=.map es' cl') h1;refine⟨⟨es',cl',m1,hK,fun j=>?_⟩,⟨rfl,rfl,rfl,by simp,fun b _ hne=>m2 b (fun e=>hne (by rw[e]))⟩⟩;by_cases hjk:j=k
  ·subst hjk
   exact⟨fun h=>(by simp at h),fun _=>hk⟩
  ·rw[hF j hjk]
   have e:(fun i=>decide (i=k) || jw i) j=jw j:=by simp[hjk]
   rw[e];exact h3 j
 cases hc:jw k with
 | false =>
  have hf:=(h3 k).1 hc;have hkk:=MapKept.run_findKey (P:=Tryz.prog) (w:=w) (kt:=3) Tryz.underlying3 hf;have hset:=MapKept.run_setObj_map (P:=Tryz.prog) (.map (es.push { key:=.int .i64 (k:Int),val:=BO,born:=cl }) (cl+1)) h1;refine⟨_,by simp[Instr.mapUpdate,hu,hg,yK,hkk,hset];rfl,fin _ _ (by rw[Array.toList_push];exact h2.push _ (j:=k) rfl) (fun j hj=>?_) ?_⟩
  ·rw[Array.toList_push,FX (j:=k) rfl _ _ h2]
   cases hx:um es.toList j 0 with
   | none=>rfl
   | some x =>
    cases x with
    | none=>simp[hj]
    | some y=>rfl
  ·rw[Array.toList_push,FX (j:=k) rfl _ _ h2,hf]
   simp
 | true =>
  obtain⟨i,hf⟩:=(h3 k).2 hc;have hkk:=MapKept.run_findKey (P:=Tryz.prog) (w:=w) (kt:=3) Tryz.underlying3 hf;obtain⟨j0,e0,hj0,he0,G8,hev⟩:=G7 es.toList 0 i _ h2 hf;obtain rfl:i=j0:=by omega
  have hes:es[i]?=some e0:=by simpa using he0
  have hst:=MapKept.run_keyThatStays (P:=Tryz.prog) (w:=w) (d:=.int .i64) (k:=.int .i64 (k:Int)) (by simp[MapKept.IsKey]);have hset:=MapKept.run_setObj_map (P:=Tryz.prog) (.map (es.modify i fun e=>{ e with key:=.int .i64 (k:Int),val:=BO }) cl) h1;have hm:=fun k'=>Jz (k:=k) (v:=BO) es.toList 0 i BO h2 (by rw[Nat.zero_add];exact hf) k';refine⟨_,by simp[Instr.mapUpdate,hu,hg,yK,hkk,hes,G8,hst,hset];rfl,fin _ _ (by rw[Array.toList_modify];exact h2.modify i) (fun j hj=>?_) ?_⟩
  ·rw[Array.toList_modify,hm j,if_neg hj]
  ·rw[Array.toList_modify,hm k,if_pos rfl]
   exact⟨_,rfl⟩
theorem WH {w:World}{M:Nat}{jw:Nat→Bool}(h:xx w M jw)(ty:TypeId):∃ w',(Builtin.clear_ #[mt] ty #[.map (some M)]).run Tryz.prog w=.ok (.tuple #[]) w'∧xx w' M (fun _=>false)∧w.grownBy w' (some M):=by
 obtain⟨es,cl,h1,h2,h3⟩:=h;have hg:(getObj M).run Tryz.prog w=.ok (.map es cl) w:=MapKept.run_getObj_map h1;have hu:=run_underlying (w:=w) Tryz.underlying56;have hset:=MapKept.run_setObj_map (P:=Tryz.prog) (.map #[] cl) h1;obtain⟨m1,m2⟩:=MapKept.heap_set (o':=.map #[] cl) h1;exact⟨{ w with heap:=w.heap.setIfInBounds M (.map #[] cl) },by simp[Builtin.clear_,hu,hg,hset,Result.andThen],⟨#[],cl,m1,fun _ h=>(by cases h),fun _=>⟨fun _=>rfl,fun h=>(by cases h)⟩⟩,⟨rfl,rfl,rfl,by simp,fun b _ hne=>m2 b (fun e=>hne (by rw[e]))⟩⟩
abbrev BP (g n cap R M W n0:Nat):Obj:=.cells #[.slice (some ⟨g,0,none⟩) n cap,.slice (some ⟨R,0,none⟩) 6 6,.map (some M),.slice (some ⟨W,0,none⟩) n0 n0] 58 (0,0)
theorem yL {w:World}{P g n cap R M W n0:Nat}(h:w.heap[P]?=some (BP g n cap R M W n0)):w.cell? ⟨P,0,none⟩=some (.slice (some ⟨g,0,none⟩) n cap)∧w.cell? ⟨P,1,none⟩=some (.slice (some ⟨R,0,none⟩) 6 6)∧w.cell? ⟨P,2,none⟩=some (.map (some M))∧w.cell? ⟨P,3,none⟩=some (.slice (some ⟨W,0,none⟩) n0 n0):=by simp[World.cell?,h]
def lone (jw:Nat→Bool)(x:Nat)(k:Nat):Bool:=(List.range k).all fun i=>!jw (x+1+i)
theorem P8 (jw:Nat→Bool)(x k:Nat):lone jw x (k+1)=(lone jw x k && !jw (x+1+k)):=by
 unfold lone;rw[List.range_succ,List.all_append];simp
theorem P9 {jw:Nat→Bool}{x k n:Nat}(h:jw (x+1+k)=true)(hk:k<n):lone jw x n=false:=by
 unfold lone;rw[List.all_eq_false];exact⟨k,List.mem_range.2 hk,by simp[h]⟩
theorem WI (P g n cap R M W n0 x k:Nat)(jw:Nat→Bool)(w:World)(hP:Hid (w.heap[P]?=some (BP g n cap R M W n0)))(hM:Hid (xx w M jw))(hn:n≤4000)(hx:x≤4000)(hk:k≤3)(hk0:0<k)(r:Bool)(hr:Hid (r=(decide (x+k<n) && lone jw x (k - 1)))) :
  Calls Tryz.prog 76 #[.pointer (some ⟨P,0,none⟩),.int .i64 x,.int .i64 k] w fun e w'=>e=.returned (.bool r)∧Below w.heap.size w w':=by
 have x1:(x:Int)≤4000:=by omega
 have k1:(k:Int)≤3:=by omega
 have n1:(n:Int)≤4000:=by omega
 go_enter Tryz.func76,Tryz.ntmps76
 go_wp2
 go_loopw [7] (fun i wr=>∃ j:Nat,j≤k - 1∧i=.int .i64 ((x:Int)+1+(j:Int))∧lone jw x j=true∧Below w.heap.size w wr) (fun i _=>(x+k+1 - (intOf i).toNat))
 case atStart=>exact⟨0,Nat.zero_le _,by simp,rfl,Below.refl _ _⟩
 case round =>
  obtain⟨j,hj,rfl,hl,hB⟩:=hrel;have HL:=hide hl;have HB:=hide hB;have hP':=(hB.block P (lt_of_block hP.out)).trans hP.out;have hM':=hM.out.keep (hB.block M hM.out.lt);obtain⟨p0,_,p2,_⟩:=yL hP';have hlk:=WE hM' (x+1+j);rw[show ((x+1+j:Nat):Int)=(x:Int)+1+(j:Int) by omega] at hlk;have j0:(0:Int)≤(x:Int)+1+(j:Int):=by omega
  have j1:(x:Int)+1+(j:Int)≤4010:=by omega
  clear hl hB hP' hM';by_cases hlt:j<k - 1
  ·have t1:(x:Int)+1+(j:Int)<(x:Int)+(k:Int):=by omega
   cases ha:jw (x+1+j) with
   | true =>
    rw[ha] at hlk;have HR:Hid (r=false):=by unfold Hid;rw[hr.out,P9 ha hlt];simp
    go_wp2
    go_ret
    exact⟨by rw[HR.out];rfl,HB.out.alloc HB.out.size _⟩
   | false =>
    rw[ha] at hlk;go_wp2
    go_roundw
    case rel=>exact⟨j+1,by omega,by go_num,by rw[P8,HL.out,ha];rfl,HB.out.alloc HB.out.size _⟩
    case measure=>simp[intOf];omega
  ·have t1:¬ (x:Int)+1+(j:Int)<(x:Int)+(k:Int):=by omega
   obtain rfl:j=k - 1:=by omega
   have HR:Hid (r=decide ((x:Int)+(k:Int)<(n:Int))):=by
    unfold Hid;rw[hr.out,HL.out];simp;omega
   clear hlt;go_wp2
   go_ret
   exact⟨by rw[HR.out];rfl,HB.out⟩
end Go.Proofs.YtbdpdjcdhclbfaaGreat.Ow
namespace Go.Proofs.YtbdpdjcdhclbfaaGreat.Ow
open Go.RowKit Vf Vm Ot Od
theorem Qa (B P Q cap x k:Nat)(a:Option Addr)(l:List Ins)(w:World)(hC:Hid (aV B w l a))(hB:B≤w.heap.size)(hP:Hid (w.cell? ⟨P,0,none⟩=some (.int .i64 x)))(hQ:Hid (w.cell? ⟨Q,0,none⟩=some (.slice a l.length cap)))(hn:l.length≤4000)(hx:x≤4000)(hk:k≤3)(hk0:0<k) :
  Calls Tryz.prog 48 #[.int .i64 k,.pointer (some ⟨P,0,none⟩),.pointer (some ⟨Q,0,none⟩)] w fun e w'=>e=.returned (.bool (may l x k))∧Below w.heap.size w w':=by
 obtain⟨n,hl⟩:∃ n,n=l.length:=⟨_,rfl⟩;have HL:=hide hl;rw[← hl] at hn hQ;have JA:=World.block_lt_of_cell? w _ hP.out;have WJ:=World.block_lt_of_cell? w _ hQ.out;have hr:Hid (may l x k=(decide (x+k<n) && lone (lg l) x (k - 1))):=by unfold Hid;rw[hl];rfl
 have x1:(x:Int)≤4000:=by omega
 have k1:(k:Int)≤3:=by omega
 have n1:(n:Int)≤4000:=by omega
 clear hl;go_enter Tryz.func48,Tryz.ntmps48
 have p0:=hP.out;have q0:=hQ.out;go_wp2
 clear p0 q0;go_loopw [5] (fun i wr=>∃ j:Nat,j≤k - 1∧i=.int .i64 ((x:Int)+1+(j:Int))∧lone (lg l) x j=true∧Below w.heap.size w wr) (fun i _=>(x+k+1 - (intOf i).toNat))
 case atStart=>exact⟨0,Nat.zero_le _,by simp,rfl,Below.refl _ _⟩
 case round =>
  obtain⟨j,hj,rfl,hl,hB1⟩:=hrel;have Qb:=hide hl;have HB:=hide hB1;have p0:=(HB.out.cell (p:=⟨P,0,none⟩) JA).trans hP.out;have q0:=(HB.out.cell (p:=⟨Q,0,none⟩) WJ).trans hQ.out;have j0:(0:Int)≤(x:Int)+1+(j:Int):=by omega
  have j1:(x:Int)+1+(j:Int)≤4010:=by omega
  have G9:Hid (aV B wr l a):=hC.out.low (fun q hq=>HB.out.block q (by omega));clear hl hB1;by_cases hlt:j<k - 1
  ·have t1:(x:Int)+1+(j:Int)<(x:Int)+(k:Int):=by omega
   have hj:=Wi B l a cap (x+1+j) wr G9 (by have:=HB.out.size;omega) (by rw[← HL.out];exact hn);rw[← HL.out,show ((x+1+j:Nat):Int)=(x:Int)+1+(j:Int) by omega] at hj;have HJ:=hide hj;clear hj;go_wp2_with fail
   refine HJ.out.mono ?_;rintro e w1 ⟨rfl,hb1⟩;have HB1:Hid (Below w.heap.size w w1):=HB.out.trans (hb1.mono HB.out.size);clear hb1;cases ha:lg l (x+1+j) with
   | true =>
    have HR:Hid (may l x k=false):=by unfold Hid;rw[hr.out,P9 ha hlt];simp
    go_wp2
    go_ret
    exact⟨by rw[HR.out];rfl,HB1.out⟩
   | false =>
    go_wp2
    go_roundw
    case rel=>exact⟨j+1,by omega,by go_num,by rw[P8,Qb.out,ha];rfl,HB1.out⟩
    case measure=>simp[intOf];omega
  ·have t1:¬ (x:Int)+1+(j:Int)<(x:Int)+(k:Int):=by omega
   obtain rfl:j=k - 1:=by omega
   have HR:Hid (may l x k=decide ((x:Int)+(k:Int)<(n:Int))):=by
    unfold Hid;rw[hr.out,Qb.out];simp;omega
   clear hlt;go_wp2
   go_ret
   exact⟨by rw[HR.out];rfl,HB.out⟩
end Go.Proofs.YtbdpdjcdhclbfaaGreat.Ow
