/- The map of what is known where;a row that is taken at its front. -/
import Derived.Test.YtfcpglhpolpdcaaGreatDoorM1
import Derived.MapKept
import Derived.ArgAppend
import Derived.Test.YtfcpglhpolpdcaaGreatDoorM3
import Derived.Maps.RangeWalk
import Derived.LaidEql
set_option maxRecDepth 100000
set_option maxHeartbeats 2000000
namespace Go.Proofs.YtfcpglhpolpdcaaGreatDoor
open Go.RowKit
theorem Tryz.info3:(Tryz.prog.info? 3).map (fun i=>(i.zero,i.size,i.bytes))=some (some (.int .i64 0),1,8):=by kernel_rfl
abbrev il (l:List MapEntry) (k:Nat) (i:Nat):Option (Option (Nat × Value)):=Instr.findNow (.int .i64) (.int .i64 (k:Int)) l i
def Keyed' (l:List MapEntry):Prop:=∀ e ∈ l,∃ j:Nat,e.key=.int .i64 (j:Int)
theorem qK {e:MapEntry}{l:List MapEntry}{j k i:Nat}(he:e.key=.int .i64 (j:Int)):il (e :: l) k i=if k=j then some (some (i,e.val)) else il l k (i+1):=by
 unfold il;rw[Instr.findNow,he];by_cases h:k=j
 ·subst h;simp[Instr.sameNow]
 ·have:((k:Int)==(j:Int))=false:=by simp;omega
  simp[Instr.sameNow,this,h]
theorem DN {e:MapEntry}{j k:Nat}(he:e.key=.int .i64 (j:Int)):∀ (l:List MapEntry) (i:Nat),Keyed' l→il (l++[e]) k i=match il l k i with | some none=>if k=j then some (some (i+l.length,e.val)) else some none | x=>x
 | [],i,_=>by
  rw[List.nil_append,qK he];rfl
 | a :: l,i,h=>by
  obtain⟨ja,ha⟩:=h a List.mem_cons_self;rw[List.cons_append,qK ha,qK ha];by_cases hk:k=ja
  ·rw[if_pos hk,if_pos hk]
  ·rw[if_neg hk,if_neg hk,DN he l (i+1) (fun x hx=>h x (List.mem_cons_of_mem _ hx))]
   rw[show i+1+l.length=i+(a :: l).length by simp;omega]
theorem DT {k:Nat}:∀ (l:List MapEntry) (i p:Nat) (v:Value),Keyed' l→il l k i=some (some (p,v))→∃ j e,p=i+j∧l[j]?=some e∧e.key=.int .i64 (k:Int)∧e.val=v
 | [],i,p,v,_,h=>by cases h
 | a :: l,i,p,v,hK,h=>by
  obtain⟨ja,ha⟩:=hK a List.mem_cons_self;rw[qK ha] at h;by_cases hk:k=ja
  ·rw[if_pos hk] at h
   cases h;exact⟨0,a,rfl,rfl,by rw[ha,hk],rfl⟩
  ·rw[if_neg hk] at h
   obtain⟨j,e,h1,h2,h3,h4⟩:=DT l (i+1) p v (fun x hx=>hK x (List.mem_cons_of_mem _ hx)) h;exact⟨j+1,e,by omega,h2,h3,h4⟩
theorem Ik {k:Nat}{v:Value}:∀ (l:List MapEntry) (i j:Nat) (v0:Value),Keyed' l→il l k i=some (some (i+j,v0))→∀ k',il (l.modify j (fun e=>{ e with key:=.int .i64 (k:Int),val:=v })) k' i=if k'=k then some (some (i+j,v)) else il l k' i
 | [],i,j,v0,_,h,_=>by cases h
 | a :: l,i,j,v0,hK,h,k'=>by
  obtain⟨ja,ha⟩:=hK a List.mem_cons_self;rw[qK ha] at h;by_cases hk:k=ja
  ·rw[if_pos hk] at h
   obtain rfl:j=0:=by simp at h;omega
   rw[List.modify_cons,if_pos rfl,qK (j:=k) rfl,qK ha];subst hk;by_cases h':k'=k
   ·rw[if_pos h',if_pos h'];rfl
   ·rw[if_neg h',if_neg h',if_neg h']
  ·rw[if_neg hk] at h
   obtain⟨j',e,h1,h2,h3,h4⟩:=DT l (i+1) _ v0 (fun x hx=>hK x (List.mem_cons_of_mem _ hx)) h;obtain⟨q,rfl⟩:∃ q,j=q+1:=⟨j - 1,by omega⟩;rw[List.modify_cons,if_neg (by omega),qK ha,qK ha];have:=Ik (v:=v) l (i+1) q v0 (fun x hx=>hK x (List.mem_cons_of_mem _ hx)) (by rw[h];congr 3;omega) k';rw[show q+1 - 1=q by omega,this];by_cases h':k'=ja
   ·rw[if_pos h',if_neg (by omega),if_pos h']
   ·rw[if_neg h',if_neg h',show i+1+q=i+(q+1) by omega]
theorem Keyed'.push {l:List MapEntry}(h:Keyed' l)(e:MapEntry){j:Nat}(he:e.key=.int .i64 (j:Int)):Keyed' (l++[e]):=fun x hx=>by
 rcases List.mem_append.1 hx with h1 | h1
 ·exact h x h1
 ·simp at h1;subst h1;exact⟨j,he⟩
theorem Keyed'.modify {k:Nat}{v:Value}:∀ {l:List MapEntry} (_:Keyed' l) (j:Nat),Keyed' (l.modify j (fun e=>{ e with key:=.int .i64 (k:Int),val:=v }))
 | [],_,j=>by intro x hx;cases j<;>simp at hx
 | a :: l,h,0=>by
  intro x hx;rw[List.modify_cons,if_pos rfl] at hx;rcases List.mem_cons.1 hx with rfl | h1
  ·exact⟨k,rfl⟩
  ·exact h x (List.mem_cons_of_mem _ h1)
 | a :: l,h,j+1=>by
  intro x hx;rw[List.modify_cons,if_neg (by omega)] at hx;rcases List.mem_cons.1 hx with rfl | h1
  ·exact h _ List.mem_cons_self
  ·exact Keyed'.modify (fun y hy=>h y (List.mem_cons_of_mem _ hy)) j x h1
abbrev oF (k:Vf.Kn) (top:Option Addr):Value:=.agg #[.pointer top,.int .i64 (k.st.length:Int),ah k.fl.a,ah k.fl.b,ah k.fl.c,ah k.fl.d]
def fB (w:World)(M:Nat)(come:Nat→Option Vf.Kn):Prop :=
 ∃ es cl,w.heap[M]?=some (.map es cl)∧Keyed' es.toList∧∀ k:Nat,(come k=none→il es.toList k 0=some none)∧∀ kn,come k=some kn→∃ i top,il es.toList k 0=some (some (i,oF kn top))∧eP w top kn.st
theorem fB.keep {w w':World}{M:Nat}{come:Nat→Option Vf.Kn}(h:fB w M come)(hM:w'.heap[M]?=w.heap[M]?)(hk:∀ (b:Nat) (cs:Array Value),w.heap[b]?=some (Obj.cells cs 303 (0,0))→w'.heap[b]?=some (Obj.cells cs 303 (0,0))):fB w' M come:=by
 obtain⟨es,cl,h1,h2,h3⟩:=h;refine⟨es,cl,hM.trans h1,h2,fun k=>⟨(h3 k).1,fun kn hkn=>?_⟩⟩;obtain⟨i,top,h4,h5⟩:=(h3 k).2 kn hkn;exact⟨i,top,h4,h5.keep hk⟩
theorem fB.lt {w:World}{M:Nat}{come:Nat→Option Vf.Kn}(h:fB w M come):M<w.heap.size:=by
 obtain⟨es,cl,h1,_⟩:=h;exact lt_of_block h1
theorem fB.new (w:World):fB (w.alloc (.map #[] 0)) w.heap.size (fun _=>none) :=
 ⟨#[],0,heap_alloc_new w _,fun _ h=>(by cases h),fun _=>⟨fun _=>rfl,fun _ h=>(by cases h)⟩⟩
theorem qL {w:World}{k:Nat}(b:Bool):(Instr.checkKey b 10000 3 (.int .i64 (k:Int))).run Tryz.prog w=.ok () w:=MapKept.run_checkKey (n:=9999) Tryz.underlying3 (by simp[MapKept.IsKey]) b
theorem Pj {w:World}{M k:Nat}{come:Nat→Option Vf.Kn}{kn:Vf.Kn}(h:fB w M come)(hk:come k=some kn):∃ top,eP w top kn.st∧(Instr.lookup 192 (.map (some M)) (.int .i64 (k:Int)) false).run Tryz.prog w=.ok (oF kn top) w∧(Instr.lookup 192 (.map (some M)) (.int .i64 (k:Int)) true).run Tryz.prog w=.ok (.tuple #[oF kn top,.bool true]) w:=by
 obtain⟨es,cl,h1,h2,h3⟩:=h;obtain⟨i,top,hf,hs⟩:=(h3 k).2 kn hk;have hg:(getObj M).run Tryz.prog w=.ok (.map es cl) w:=MapKept.run_getObj_map h1;have hu:=run_underlying (w:=w) Tryz.underlying192;have hkk:=MapKept.run_findKey (P:=Tryz.prog) (w:=w) (kt:=3) Tryz.underlying3 hf;refine⟨top,hs,?_,?_⟩
 ·simp[Instr.lookup,hu,hg,qL,hkk]
 ·simp[Instr.lookup,hu,hg,qL,hkk]
theorem ZR {w:World}{M k:Nat}{come:Nat→Option Vf.Kn}(h:fB w M come)(hk:come k=none):(Instr.lookup 192 (.map (some M)) (.int .i64 (k:Int)) true).run Tryz.prog w=.ok (.tuple #[oF ⟨[],Vf.Fl.none⟩ none,.bool false]) w:=by
 obtain⟨es,cl,h1,h2,h3⟩:=h;have hf:=(h3 k).1 hk;have hg:(getObj M).run Tryz.prog w=.ok (.map es cl) w:=MapKept.run_getObj_map h1;have hu:=run_underlying (w:=w) Tryz.underlying192;have hkk:=MapKept.run_findKey (P:=Tryz.prog) (w:=w) (kt:=3) Tryz.underlying3 hf;have hzv:(zeroValue 200).run Tryz.prog w=.ok (oF ⟨[],Vf.Fl.none⟩ none) w:=by kernel_rfl
 simp[Instr.lookup,hu,hg,qL,hkk,hzv]
theorem ZT {w:World}{M k:Nat}{come:Nat→Option Vf.Kn}{kn:Vf.Kn}{top:Option Addr}(h:fB w M come)(hs:eP w top kn.st) :
  ∃ w',(Instr.mapUpdate 192 (.map (some M)) (.int .i64 (k:Int)) (oF kn top)).run Tryz.prog w=.ok () w'∧fB w' M (fun i=>if i=k then some kn else come i)∧w.grownBy w' (some M):=by
 have hM:=h.lt;obtain⟨es,cl,h1,h2,h3⟩:=h;have hg:(getObj M).run Tryz.prog w=.ok (.map es cl) w:=MapKept.run_getObj_map h1;have hu:=run_underlying (w:=w) Tryz.underlying192;have fin:∀ es' cl',Keyed' es'.toList→(∀ j:Nat,il es'.toList j 0=if j=k then some (some ((il es.toList k 0 |>.getD none).map (·.1) |>.getD es.size,oF kn top)) else il es.toList j 0) →
   fB { w with heap:=w.heap.setIfInBounds M (.map es' cl') } M (fun i=>if i=k then some kn else come i)∧w.grownBy { w with heap:=w.heap.setIfInBounds M (.map es' cl') } (some M):=by
  intro es' cl' hK hF;obtain⟨m1,m2⟩:=MapKept.heap_set (o':=.map es' cl') h1;have kp:∀ (b:Nat) (cs:Array Value),w.heap[b]?=some (Obj.cells cs 303 (0,0))→(w.heap.setIfInBounds M (.map es' cl'))[b]?=some (Obj.cells cs 303 (0,0)):=fun b cs hb=>(m2 b (fun e=>by subst e;rw[h1] at hb;cases hb)).trans hb;refine⟨⟨es',cl',m1,hK,fun j=>⟨fun hj=>?_,fun kj hj=>?_⟩⟩,⟨rfl,rfl,rfl,by simp,fun b _ hne=>m2 b (fun e=>hne (by rw[e]))⟩⟩
  ·dsimp only at hj
   by_cases hjk:j=k
   ·rw[if_pos hjk] at hj;cases hj
   ·rw[if_neg hjk] at hj
    rw[hF j,if_neg hjk];exact (h3 j).1 hj
  ·dsimp only at hj
   by_cases hjk:j=k
   ·rw[if_pos hjk] at hj
    cases hj;exact⟨_,top,by rw[hF j,if_pos hjk],hs.keep kp⟩
   ·rw[if_neg hjk] at hj
    obtain⟨i,dm,h4,h5⟩:=(h3 j).2 kj hj;exact⟨i,dm,by rw[hF j,if_neg hjk];exact h4,h5.keep kp⟩
 cases hc:come k with
 | none =>
  have hf:=(h3 k).1 hc;have hkk:=MapKept.run_findKey (P:=Tryz.prog) (w:=w) (kt:=3) Tryz.underlying3 hf;have hset:=MapKept.run_setObj_map (P:=Tryz.prog) (.map (es.push { key:=.int .i64 (k:Int),val:=oF kn top,born:=cl }) (cl+1)) h1;refine⟨_,by simp[Instr.mapUpdate,hu,hg,qL,hkk,hset];rfl,fin _ _ (by rw[Array.toList_push];exact h2.push _ (j:=k) rfl) (fun j=>?_)⟩;rw[Array.toList_push,DN (j:=k) rfl _ _ h2];by_cases hjk:j=k
  ·subst hjk
   rw[hf];simp
  ·rw[if_neg hjk]
   cases hfj:il es.toList j 0 with
   | none=>simp[hjk]
   | some x=>cases x with
    | none=>simp[hjk]
    | some y=>simp[hjk]
 | some Pm =>
  obtain⟨i,Pn,hf,_⟩:=(h3 k).2 Pm hc;have hkk:=MapKept.run_findKey (P:=Tryz.prog) (w:=w) (kt:=3) Tryz.underlying3 hf;obtain⟨j0,e0,hj0,he0,Ao,hev⟩:=DT es.toList 0 i _ h2 hf;obtain rfl:i=j0:=by omega
  have hes:es[i]?=some e0:=by simpa using he0
  have hst:=MapKept.run_keyThatStays (P:=Tryz.prog) (w:=w) (d:=.int .i64) (k:=.int .i64 (k:Int)) (by simp[MapKept.IsKey]);have hset:=MapKept.run_setObj_map (P:=Tryz.prog) (.map (es.modify i fun e=>{ e with key:=.int .i64 (k:Int),val:=oF kn top }) cl) h1;refine⟨_,by simp[Instr.mapUpdate,hu,hg,qL,hkk,hes,Ao,hst,hset];rfl,fin _ _ (by rw[Array.toList_modify];exact h2.modify i) (fun j=>?_)⟩;rw[Array.toList_modify,Ik es.toList 0 i (oF Pm Pn) h2 (by rw[hf];simp) j,hf];simp
abbrev qM (l:List Nat):List Value:=l.map (fun (x:Nat)=>Value.int .i64 (x:Int))
def QR (w:World)(B:Nat)(v:Value)(ws:List Nat):Prop :=
 (v=.slice none 0 0∧ws=[])∨∃ g off cap cs,v=.slice (some ⟨g,off,none⟩) ws.length cap∧B≤g∧w.heap[g]?=some (.cells (List.toArray cs) 3 (0,0))∧off+cap≤cs.length∧ws.length≤cap∧∀ (i x:Nat),ws[i]?=some x→cs[off+i]?=some (Value.int .i64 (x:Int))
theorem QR.nil (w:World)(B:Nat):QR w B (.slice none 0 0) []:=.inl ⟨rfl,rfl⟩
theorem Po {w:World}{B n:Nat}{v:Value}{ws:List Nat}(h:w.ownsRow B 3 1 v n (qM ws)):QR w B v ws:=by
 have hl:ws.length=n:=by have:=h.1;simpa using this
 subst hl;rcases h.2 with⟨rfl,h0⟩ | ⟨g,cap,cur,rfl,hg,hh,h1,h2,h3,h4⟩
 ·exact .inl ⟨rfl,List.eq_nil_of_length_eq_zero h0⟩
 ·refine .inr ⟨g,0,cap,cur.toList,rfl,hg,hh,by simp;omega,h1,fun i x hx=>?_⟩
  have:(qM ws)[i]?=some (.int .i64 (x:Int)):=by simp[hx]
  rw[← h4,List.getElem?_take] at this;split at this
  ·simpa using this
  ·simp at this
theorem QR.keep {w w':World}{B:Nat}{v:Value}{ws:List Nat}(h:QR w B v ws)(hk:∀ k,v.ownBlock=some k→w'.heap[k]?=w.heap[k]?):QR w' B v ws:=by
 rcases h with h | ⟨g,off,cap,cs,rfl,hB,hh,r⟩
 ·exact .inl h
 ·exact .inr ⟨g,off,cap,cs,rfl,hB,(hk g rfl).trans hh,r⟩
theorem QR.lt {w:World}{B:Nat}{v:Value}{ws:List Nat}(h:QR w B v ws)(k:Nat)(hk:v.ownBlock=some k):B≤k∧k<w.heap.size:=by
 rcases h with⟨rfl,_⟩ | ⟨g,off,cap,cs,rfl,hB,hh,r⟩
 ·simp[Value.ownBlock] at hk
 ·simp only[Value.ownBlock,Option.some.injEq] at hk
  subst hk;exact⟨hB,lt_of_block hh⟩
theorem QR.alloc {w:World}{B:Nat}{v:Value}{ws:List Nat}(h:QR w B v ws)(o:Obj):QR (w.alloc o) B v ws:=h.keep (fun k hk=>Below.heap_alloc _ _ _ (h.lt k hk).2)
theorem QR.ty {w:World}{B k:Nat}{v:Value}{ws:List Nat}{o:Obj}(h:QR w B v ws)(hk:w.heap[k]?=some o)(ht:∀ cs fr,o≠.cells cs 3 fr):v.ownBlock≠some k:=by
 rcases h with⟨rfl,_⟩ | ⟨g,off,cap,cs',rfl,hB,hh,r⟩
 ·simp[Value.ownBlock]
 ·intro e1
  simp only[Value.ownBlock,Option.some.injEq] at e1;subst e1;rw[hh] at hk;simp at hk;exact ht _ _ hk.symm
theorem QR.form {w:World}{B:Nat}{v:Value}{ws:List Nat}(h:QR w B v ws):∃ a c,v=.slice a ws.length c:=by
 rcases h with⟨rfl,rfl⟩ | ⟨g,off,cap,cs,rfl,_⟩
 ·exact⟨_,_,rfl⟩
 ·exact⟨_,_,rfl⟩
theorem QR.pop {w:World}{B:Nat}{v:Value}{x:Nat}{ws:List Nat}(h:QR w B v (x :: ws)) :
  ∃ g off cap,v=.slice (some ⟨g,off,none⟩) (ws.length+1) cap∧ws.length+1≤cap∧w.cell? ⟨g,off,none⟩=some (.int .i64 (x:Int)) ∧
   (cap=1→QR w B (.slice (some ⟨g,off,none⟩) 0 0) ws)∧(cap≠1→QR w B (.slice (some ⟨g,off+1,none⟩) ws.length (cap - 1)) ws):=by
 rcases h with⟨_,h⟩ | ⟨g,off,cap,cs,rfl,hB,hh,h1,h2,h3⟩
 ·simp at h
 ·simp only[List.length_cons] at h2
  refine⟨g,off,cap,rfl,h2,?_,fun hc=>?_,fun hc=>?_⟩
  ·have:=h3 0 x rfl
   simp[World.cell?,hh];simpa using this
  ·have hw:ws=[]:=List.eq_nil_of_length_eq_zero (by omega)
   subst hw;exact .inr ⟨g,off,0,cs,rfl,hB,hh,by omega,Nat.le_refl _,fun i x hx=>by simp at hx⟩
  ·refine .inr ⟨g,off+1,cap - 1,cs,rfl,hB,hh,by omega,by omega,fun i y hy=>?_⟩
   have:=h3 (i+1) y (by simpa using hy);rw[show off+1+i=off+(i+1) by omega];exact this
theorem ZU {w w':World}{r:Option Nat}(h:w.grownBy w' none):w.grownBy w' r:=⟨h.os,h.tape,h.output,h.size,fun k hk _=>h.block k hk (by simp)⟩
theorem lL {w:World}{B C e size n:Nat}{v:Value}{xs:List Value}(h:w.ownsRow C e size v n xs)(hB:B≤C):w.ownsRow B e size v n xs:=by
 refine⟨h.1,?_⟩;rcases h.2 with h2 | ⟨g,cap,cur,hv,hg,r⟩
 ·exact .inl h2
 ·exact .inr ⟨g,cap,cur,hv,Nat.le_trans hB hg,r⟩
theorem o6 (g off j:Nat):(⟨g,off,none⟩:Addr).add j=⟨g,off+j,none⟩:=by
 unfold Addr.add;split
 ·subst_vars;rfl
 ·rfl
theorem DD (x:Nat):∀ u ∈ [Value.int .i64 (x:Int)],u.oneCell'=true:=by intro u hu;simp at hu;subst hu;rfl
theorem wY {w:World}{g:Nat}{cs:List Value}{t:TypeId}{fr:Nat × Nat}(h:w.heap[g]?=some (.cells (List.toArray cs) t fr))(i:Nat)(v:Value):(w.setCell ⟨g,i,none⟩ v).heap[g]?=some (.cells (List.toArray (cs.set i v)) t fr):=by
 simp only[World.setCell,Array.getElem?_modify,if_true,h,Option.map_some];simp
theorem ZV (w:World)(B:Nat)(ty:TypeId)(v:Value)(ws:List Nat)(x:Nat)(h:QR w B v ws)(a:Addr)(hnews:∀ j u,[Value.int .i64 (x:Int)][j]?=some u→w.cell? (a.add j)=some u)(hn:ws.length≤100000000)(hB:B≤w.heap.size) :
  ∃ v' w',(Builtin.append_ #[28,28] ty #[v,.slice (some a) 1 1]).run Tryz.prog w=.ok v' w'∧QR w' B v' (ws++[x])∧w.grownBy w' v.ownBlock:=by
 obtain⟨i0,hi,hz0,hz1,hz2⟩:=info_parts Tryz.info3;rcases h with⟨rfl,rfl⟩ | ⟨g,off,cap,cs,rfl,hBg,hh,h1,h2,h3⟩
 ·obtain⟨v',w',hr,ho,hg,_⟩:=run_append_own (P:=Tryz.prog) w B 28 ty 3 i0 _ 1 8 Tryz.underlying28 hi hz0 hz1 hz2 rfl (by decide) (.slice none 0 0) 0 [] (World.ownsRow_nil _ _ _ _) a 1 1 [.int .i64 (x:Int)] rfl hnews (DD x) (by unfold maxLen;omega) (by omega) hB
  exact⟨v',w',hr,Po (ws:=[x]) ho,hg⟩
 ·by_cases hroom:ws.length+1≤cap
  ·have hlt:off+ws.length<cs.length:=by omega
   have hr:=run_append_room_cells (P:=Tryz.prog) w 28 ty 3 i0 Tryz.underlying28 hi g off ws.length cap a 1 1 [.int .i64 (x:Int)] (by rw[hz1];rfl) hnews (DD x) hroom
    (fun j hj=>by
     have hj0:j=0:=by simpa using hj
     subst hj0;rw[hz1];simp[World.cell?,hh,hlt])
    (fun j hj=>by simp[World.frozen?,hh])
   rw[hz1,Nat.mul_one] at hr;refine⟨_,_,hr,.inr ⟨g,off,cap,cs.set (off+ws.length) (.int .i64 (x:Int)),by simp,hBg,wY hh _ _,by simpa using h1,by simpa using hroom,fun i y hy=>?_⟩,⟨rfl,rfl,rfl,by simp[World.setCells,World.setCell],fun k hk hne=>?_⟩⟩
   ·by_cases hi':i<ws.length
    ·rw[List.getElem?_append_left hi'] at hy
     rw[List.getElem?_set_ne (by omega)];exact h3 i y hy
    ·have hi2:i=ws.length:=by
      have:=(List.getElem?_eq_some_iff.1 hy).1;simp at this;omega
     subst hi2;simp at hy;subst hy;rw[List.getElem?_set_self hlt]
   ·exact Below.heap_setCell w ⟨g,off+ws.length,none⟩ _ k (fun e=>hne (by rw[e];rfl))
  ·obtain⟨v',w',hr,ho,hg⟩:=run_append_arg_grows (P:=Tryz.prog) w 28 ty 3 i0 _ 1 8 Tryz.underlying28 hi hz0 hz1 hz2 rfl (by decide) ⟨g,off,none⟩ ws.length cap (qM ws) (by simp) (fun j u hu=>by
     rw[o6];rw[List.getElem?_map] at hu;obtain⟨y,hy,rfl⟩:=Option.map_eq_some_iff.1 hu;simp[World.cell?,hh,h3 j y hy]) a 1 1 [.int .i64 (x:Int)] rfl hnews (by omega) (by unfold maxLen;omega) (by omega)
   exact⟨v',w',hr,Po (ws:=ws++[x]) (lL (by simpa using ho) hB),ZU hg⟩
theorem Il {w:World}{ops:Array Oper}{rest:List Oper}{o:Oper}{a:Act}{Q:Exit→Act→World→Prop}(hgd:o.guard=none)(s x:Operand)
  (ho:o.op=.call { callee:=.builtin .append,args:=#[s,x],argTypes:=#[28,28] })
  (B:Nat) (v:Value) (ws:List Nat) (y:Nat) (hs:a.eval s=v) (h:QR w B v ws) (ad:Addr) (hx:a.eval x=.slice (some ad) 1 1) (hnews:∀ j u,[Value.int .i64 (y:Int)][j]?=some u→w.cell? (ad.add j)=some u)
  (hn:ws.length≤100000000) (hB:B≤w.heap.size)
  (hK:∀ v' w',QR w' B v' (ws++[y])→w.grownBy w' v.ownBlock→wpList Tryz.prog ops Q rest (a.put o.dst v') w'):wpList Tryz.prog ops Q (o :: rest) a w:=by
 refine wpList_plain hgd fun K hK2=>?_;obtain⟨v',w',hr,h2,h3⟩:=ZV w B o.type v ws y h ad hnews hn hB;unfold Oper.wp;simp[execOp,ho,resolve,invoke,builtin,hs,hx,hr,Result.andThen];exact hK2 _ _ (hK v' w' h2 h3)
abbrev Pp (st:List Int) (top:Option Addr):Value:=.agg #[.pointer top,.int .i64 (st.length:Int)]
theorem Pq {w:World}:∀ {s t:List Int} {a:Option Addr},eP w a s→eP w a t→s=t
 | [],[],_,_,_=>rfl
 | [],_ :: _,_,h1,⟨b,_,e,_⟩=>by rw[show _=none from h1] at e;cases e
 | _ :: _,[],_,⟨b,_,e,_⟩,h2=>by rw[show _=none from h2] at e;cases e
 | x :: s,y :: t,_,⟨b,p,e,hb,hr⟩,⟨b',p',e',hb',hr'⟩=>by
  rw[e] at e';cases e';rw[hb] at hb';simp at hb';obtain⟨rfl,rfl⟩:=hb';rw[Pq hr hr']
def ZW (b:Bool)(w:World)(k:Nat)(v v':Value)(W:World):Prop :=
 w.grownBy W none∧∃ p q s t,v=.pointer p∧v'=.pointer q∧eP W p s∧eP W q t∧s.length=k∧t.length=k∧b=decide (s=t)
theorem eP.Im {w w':World}{a:Option Addr}{st:List Int}(h:eP w a st)(hg:w.grownBy w' none):eP w' a st:=h.keep fun b _ hb=>(hg.block b (lt_of_block hb) (by simp)).trans hb
theorem uK {w w':World}(h:w.grownBy w' none):w.grownBy w'.drew none:=⟨h.os,h.tape,h.output,h.size,h.block⟩
theorem mF {w w':World}(h:w.grownBy w' none)(o:Obj):w.grownBy (w'.alloc o) none :=
 ⟨h.os,h.tape,h.output,by have:=h.size;simp;omega,fun k hk hne=>(Below.heap_alloc _ _ _ (by have:=h.size;omega)).trans (h.block k hk hne)⟩
theorem Ps {w:World}{b:Nat}{t:Int}{below:Option Addr}(h:w.heap[b]?=some (.cells #[.int .i64 t,.pointer below] 303 (0,0))):w.cell? ⟨b,0,none⟩=some (.int .i64 t)∧w.cell? ⟨b,1,none⟩=some (.pointer below):=by simp[World.cell?,h]
theorem Tryz.Pt:(Tryz.prog.info? 303).map (·.size)=some 2:=by kernel_rfl
theorem ZX (p:Option Addr)(w:World):(binOp .neq 193 (.pointer p) (.pointer p)).run Tryz.prog w=.ok (.bool false) w:=by
 obtain⟨j,hj,hj2⟩:=Option.map_eq_some_iff.1 Tryz.Pt;have h:∀ d:Nat,(Op.equalIn (d+1) 193 (.pointer p) (.pointer p)).run Tryz.prog w=.ok true w:=fun d=>by
  cases p with
  | none=>simp[Op.equalIn,run_underlying Tryz.underlying193]
  | some a=>simp[Op.equalIn,run_underlying Tryz.underlying193,sizeOf,typeInfo,hj,run_sameAddr_same]
 simp only[binOp];simp[Op.equal,Op.maxDepth,h 9999]
theorem ZY {b c:Nat}{cb cc:Array Value}{tb tc:TypeId}(w:World)(hne:b≠c)(hb:w.heap[b]?=some (.cells cb tb (0,0)))(hc:w.heap[c]?=some (.cells cc tc (0,0))):(binOp .neq 193 (.pointer (some ⟨b,0,none⟩)) (.pointer (some ⟨c,0,none⟩))).run Tryz.prog w=.ok (.bool true) w:=by
 obtain⟨j,hj,hj2⟩:=Option.map_eq_some_iff.1 Tryz.Pt;have h1:=run_sameAddr_other (P:=Tryz.prog) w (a:=⟨b,0,none⟩) (b:=⟨c,0,none⟩) (by intro e;cases e;exact hne rfl) hb hc;have h:∀ d:Nat,(Op.equalIn (d+1) 193 (.pointer (some ⟨b,0,none⟩)) (.pointer (some ⟨c,0,none⟩))).run Tryz.prog w=.ok false w:=fun d=>by
  simp[Op.equalIn,run_underlying Tryz.underlying193,sizeOf,typeInfo,hj,hj2,h1]
 simp only[binOp];simp[Op.equal,Op.maxDepth,h 9999]
theorem ZZ (s t:List Int)(p q:Option Addr)(w:World)(hs:Hid (eP w p s))(ht:Hid (eP w q t))(b:Bool)(hb:Hid (b=decide (s=t))) :
  Calls Tryz.prog 204 #[Pp s p,Pp t q] w fun e w'=>e=.returned (.bool b)∧w.grownBy w' none:=by
 by_cases hlen:s.length=t.length
 ·have e0:((s.length:Int) != (t.length:Int))=false:=by simp;omega
  have HL:=hide hlen;clear hlen;go_enter Tryz.func204,Tryz.ntmps204
  go_wp2
  go_quiet (fail)
  go_wp2
  go_loopg [5,6] s.length (fun k v v' wr=>ZW b w k v v' wr)
  case atStart =>
   have hg:w.grownBy ((w.alloc (.cells #[.pointer p,.int .i64 (s.length:Int)] 195)).alloc (.cells #[.pointer q,.int .i64 (t.length:Int)] 195)) none:=mF (mF (World.grownBy.refl _ _) _) _;refine⟨?_,p,q,s,t,rfl,rfl,?_,?_,rfl,HL.out.symm,hb.out⟩
   ·exact⟨rfl,rfl,rfl,hg.size,hg.block⟩
   ·exact hs.out.keep fun b _ hb=>(hg.block b (lt_of_block hb) (by simp)).trans hb
   ·exact ht.out.keep fun b _ hb=>(hg.block b (lt_of_block hb) (by simp)).trans hb
  case round =>
   obtain⟨hg,p1,q1,s1,t1,rfl,rfl,hs1,ht1,hl1,hl2,hb1⟩:=hrel;have HG:=hide hg;have HB1:=hide hb1;clear hg hb1 e0;by_cases hpq:p1=q1
   ·subst hpq
    have HT:Hid (b=true):=by unfold Hid;rw[HB1.out,Pq hs1 ht1];simp
    have hnq:=ZX p1 wr;clear hs1 ht1 hl1 hl2;go_wp2
    go_ret
    rw[HT.out];exact⟨rfl,HG.out⟩
   ·cases s1 with
    | nil =>
     exfalso;obtain rfl:t1=[]:=List.eq_nil_of_length_eq_zero (by rw[hl2,← hl1];rfl);exact hpq ((show p1=none from hs1).trans (show q1=none from ht1).symm)
    | cons x s2 =>
     cases t1 with
     | nil=>exfalso;simp at hl1 hl2;omega
     | cons y t2 =>
      obtain⟨bp,lp,rfl,hbp,hsp⟩:=hs1;obtain⟨bq,lq,rfl,hbq,xG⟩:=ht1;have hnq:=ZY wr (fun e=>hpq (by rw[e])) hbp hbq;obtain⟨p0,p1⟩:=Ps hbp;obtain⟨q0,q1⟩:=Ps hbq;have Z0:=hide hsp;have uz:=hide xG;have bW:Hid (s2.length+1=gk∧t2.length+1=gk):=⟨by simpa using hl1,by simpa using hl2⟩;clear hbp hbq hsp xG hpq hl1 hl2;by_cases hxy:x=y
      ·have e1:(x != y)=false:=by simpa using hxy
       have HB2:Hid (b=decide (s2=t2)):=by unfold Hid;rw[HB1.out,hxy];simp
       clear hxy HB1;go_wp2
       go_quiet (fail)
       go_wp2
       go_quiet (fail)
       go_wp2
       go_roundg s2.length
       case measure=>have:=bW.out;omega
       case rel =>
        refine⟨⟨HG.out.os,HG.out.tape,HG.out.output,HG.out.size,HG.out.block⟩,lp,lq,s2,t2,rfl,rfl,Z0.out.keep fun _ _ h=>h,uz.out.keep fun _ _ h=>h,rfl,by have:=bW.out;omega,HB2.out⟩
      ·have e1:(x != y)=true:=by simpa using hxy
       have HB2:Hid (b=false):=by unfold Hid;rw[HB1.out];simp[hxy]
       clear hxy HB1;go_wp2
       go_quiet (fail)
       go_wp2
       go_ret
       rw[HB2.out];exact⟨rfl,⟨HG.out.os,HG.out.tape,HG.out.output,HG.out.size,HG.out.block⟩⟩
 ·have e0:((s.length:Int) != (t.length:Int))=true:=by simp;omega
  have HB:Hid (b=false):=by unfold Hid;rw[hb.out];simp;intro e;exact hlen (by rw[e])
  go_enter Tryz.func204,Tryz.ntmps204
  go_wp2
  go_ret
  rw[HB.out];exact⟨rfl,⟨rfl,rfl,rfl,by simp;omega,fun k hk _=>(Below.heap_alloc _ _ _ (by simp;omega)).trans (Below.heap_alloc _ _ _ hk)⟩⟩
abbrev rX (f:Vf.Fl):Value:=.agg #[ah f.a,ah f.b,ah f.c,ah f.d]
abbrev oG (f:Vf.Fl):Obj:=.cells #[ah f.a,ah f.b,ah f.c,ah f.d] 198 (0,0)
def mix (f g:Vf.Fl)(k:Nat):Vf.Fl:=⟨if 0<k then f.a &&& g.a else f.a,if 1<k then f.b &&& g.b else f.b,if 2<k then f.c &&& g.c else f.c,if 3<k then f.d &&& g.d else f.d⟩
structure Z4 (f g:Vf.Fl) (w:World) (k:Nat) (W:World):Prop where
 le:k≤4
 l:W.heap[w.heap.size]?=some (oG (mix f g k))
 o:W.heap[w.heap.size+1]?=some (oG g)
 z:W.heap[w.heap.size+2]?=some (oG Vf.Fl.none)
 grown:w.grownBy W none
theorem kC {w:World}{N:Nat}{f:Vf.Fl}(h:w.heap[N]?=some (oG f)):w.cell? ⟨N,0,none⟩=some (ah f.a)∧w.cell? ⟨N,1,none⟩=some (ah f.b)∧w.cell? ⟨N,2,none⟩=some (ah f.c)∧w.cell? ⟨N,3,none⟩=some (ah f.d)∧w.frozen? ⟨N,0,none⟩=false∧w.frozen? ⟨N,1,none⟩=false∧w.frozen? ⟨N,2,none⟩=false∧w.frozen? ⟨N,3,none⟩=false:=by
 simp[World.cell?,World.frozen?,h]
theorem DU (x y:BitVec 64):bits .and .u64 (x.toNat:Int) (y.toNat:Int)=((x &&& y).toNat:Int):=by
 have h1:=x.isLt;have h2:=y.isLt;rw[u64_and_nat x.toNat y.toNat (by omega) (by omega),BitVec.toNat_and]
theorem nC {w w':World}{N:Nat}(h:w.grownBy w' none)(hN:w.heap.size≤N)(o:Nat)(v:Value):w.grownBy (w'.setCell ⟨N,o,none⟩ v) none :=
 ⟨h.os,h.tape,h.output,by have:=h.size;simp[World.setCell];omega,fun k hk hne=>by
  rw[Below.heap_setCell _ ⟨N,o,none⟩ _ _ (by show k≠N;omega)];exact h.block k hk hne⟩
theorem Z5 (w:World)(a b c:Obj):(((w.alloc a).alloc b).alloc c).heap[w.heap.size+2]?=some c:=by
 have e:((w.alloc a).alloc b).heap.size=w.heap.size+2:=by simp
 rw[← e];exact heap_alloc_new _ _
theorem Pv (f g:Vf.Fl)(w:World) :
  Calls Tryz.prog 205 #[rX f,rX g] w fun e w'=>e=.returned (rX (f.both g))∧w.grownBy w' none:=by
 go_enter Tryz.func205,Tryz.ntmps205
 go_wp2
 go_loopw [6] (fun v wr=>∃ k:Nat,v=.int .i64 k∧Z4 f g w k wr) (fun v _=>4 - (intOf v).toNat)
 case atStart=>exact⟨0,rfl,by omega,(Below.heap_alloc _ _ _ (by simp;omega)).trans ((Below.heap_alloc _ _ _ (by simp)).trans (heap_alloc_new _ _)),(Below.heap_alloc _ _ _ (by simp)).trans (by have:=heap_alloc_new (w.alloc (oG f)) (oG g);simpa using this),Z5 _ _ _ _,mF (mF (mF (World.grownBy.refl _ _) _) _) _⟩
 case round =>
  obtain⟨k,rfl,hA⟩:=hrel;have HA:=hide hA;have hk:=hA.le;clear hA;rcases (by omega:k=0∨k=1∨k=2∨k=3∨k=4) with rfl | rfl | rfl | rfl | rfl
  ·skip
   have c0:wr.cell? ⟨w.heap.size,0,none⟩=some (ah f.a):=(kC HA.out.l).1;have c1:wr.cell? ⟨w.heap.size+1,0,none⟩=some (ah g.a):=(kC HA.out.o).1;have z0:wr.frozen? ⟨w.heap.size,0,none⟩=false:=(kC HA.out.l).2.2.2.2.1;have eb:=DU f.a g.a;go_wp2
   go_region
   all_goals
    go_wp2
    go_roundw
    case rel =>
     refine⟨0+1,rfl,by omega,?_,?_,?_,uK (nC HA.out.grown (Nat.le_refl _) _ _)⟩
     ·show (wr.setCell ⟨w.heap.size,0,none⟩ (ah (f.a &&& g.a))).heap[w.heap.size]?=_
      simp only[World.setCell,Array.getElem?_modify,if_true,HA.out.l,Option.map_some];rfl
     ·show (wr.setCell ⟨w.heap.size,0,none⟩ (ah (f.a &&& g.a))).heap[w.heap.size+1]?=_
      rw[Below.heap_setCell _ ⟨w.heap.size,0,none⟩ _ _ (by show w.heap.size+1≠w.heap.size;omega)];exact HA.out.o
     ·show (wr.setCell ⟨w.heap.size,0,none⟩ (ah (f.a &&& g.a))).heap[w.heap.size+2]?=_
      rw[Below.heap_setCell _ ⟨w.heap.size,0,none⟩ _ _ (by show w.heap.size+2≠w.heap.size;omega)];exact HA.out.z
    case measure=>simp[intOf]
  ·skip
   have c0:wr.cell? ⟨w.heap.size,1,none⟩=some (ah f.b):=(kC HA.out.l).2.1;have c1:wr.cell? ⟨w.heap.size+1,1,none⟩=some (ah g.b):=(kC HA.out.o).2.1;have z0:wr.frozen? ⟨w.heap.size,1,none⟩=false:=(kC HA.out.l).2.2.2.2.2.1;have eb:=DU f.b g.b;go_wp2
   go_region
   all_goals
    go_wp2
    go_roundw
    case rel =>
     refine⟨1+1,rfl,by omega,?_,?_,?_,uK (nC HA.out.grown (Nat.le_refl _) _ _)⟩
     ·show (wr.setCell ⟨w.heap.size,1,none⟩ (ah (f.b &&& g.b))).heap[w.heap.size]?=_
      simp only[World.setCell,Array.getElem?_modify,if_true,HA.out.l,Option.map_some];rfl
     ·show (wr.setCell ⟨w.heap.size,1,none⟩ (ah (f.b &&& g.b))).heap[w.heap.size+1]?=_
      rw[Below.heap_setCell _ ⟨w.heap.size,1,none⟩ _ _ (by show w.heap.size+1≠w.heap.size;omega)];exact HA.out.o
     ·show (wr.setCell ⟨w.heap.size,1,none⟩ (ah (f.b &&& g.b))).heap[w.heap.size+2]?=_
      rw[Below.heap_setCell _ ⟨w.heap.size,1,none⟩ _ _ (by show w.heap.size+2≠w.heap.size;omega)];exact HA.out.z
    case measure=>simp[intOf]
  ·skip
   have c0:wr.cell? ⟨w.heap.size,2,none⟩=some (ah f.c):=(kC HA.out.l).2.2.1;have c1:wr.cell? ⟨w.heap.size+1,2,none⟩=some (ah g.c):=(kC HA.out.o).2.2.1;have z0:wr.frozen? ⟨w.heap.size,2,none⟩=false:=(kC HA.out.l).2.2.2.2.2.2.1;have eb:=DU f.c g.c;go_wp2
   go_region
   all_goals
    go_wp2
    go_roundw
    case rel =>
     refine⟨2+1,rfl,by omega,?_,?_,?_,uK (nC HA.out.grown (Nat.le_refl _) _ _)⟩
     ·show (wr.setCell ⟨w.heap.size,2,none⟩ (ah (f.c &&& g.c))).heap[w.heap.size]?=_
      simp only[World.setCell,Array.getElem?_modify,if_true,HA.out.l,Option.map_some];rfl
     ·show (wr.setCell ⟨w.heap.size,2,none⟩ (ah (f.c &&& g.c))).heap[w.heap.size+1]?=_
      rw[Below.heap_setCell _ ⟨w.heap.size,2,none⟩ _ _ (by show w.heap.size+1≠w.heap.size;omega)];exact HA.out.o
     ·show (wr.setCell ⟨w.heap.size,2,none⟩ (ah (f.c &&& g.c))).heap[w.heap.size+2]?=_
      rw[Below.heap_setCell _ ⟨w.heap.size,2,none⟩ _ _ (by show w.heap.size+2≠w.heap.size;omega)];exact HA.out.z
    case measure=>simp[intOf]
  ·skip
   have c0:wr.cell? ⟨w.heap.size,3,none⟩=some (ah f.d):=(kC HA.out.l).2.2.2.1;have c1:wr.cell? ⟨w.heap.size+1,3,none⟩=some (ah g.d):=(kC HA.out.o).2.2.2.1;have z0:wr.frozen? ⟨w.heap.size,3,none⟩=false:=(kC HA.out.l).2.2.2.2.2.2.2;have eb:=DU f.d g.d;go_wp2
   go_region
   all_goals
    go_wp2
    go_roundw
    case rel =>
     refine⟨3+1,rfl,by omega,?_,?_,?_,uK (nC HA.out.grown (Nat.le_refl _) _ _)⟩
     ·show (wr.setCell ⟨w.heap.size,3,none⟩ (ah (f.d &&& g.d))).heap[w.heap.size]?=_
      simp only[World.setCell,Array.getElem?_modify,if_true,HA.out.l,Option.map_some];rfl
     ·show (wr.setCell ⟨w.heap.size,3,none⟩ (ah (f.d &&& g.d))).heap[w.heap.size+1]?=_
      rw[Below.heap_setCell _ ⟨w.heap.size,3,none⟩ _ _ (by show w.heap.size+1≠w.heap.size;omega)];exact HA.out.o
     ·show (wr.setCell ⟨w.heap.size,3,none⟩ (ah (f.d &&& g.d))).heap[w.heap.size+2]?=_
      rw[Below.heap_setCell _ ⟨w.heap.size,3,none⟩ _ _ (by show w.heap.size+2≠w.heap.size;omega)];exact HA.out.z
    case measure=>simp[intOf]
  ·obtain⟨a0,a1,a2,a3,_⟩:=kC HA.out.l
   obtain⟨z0,z1,z2,z3,y0,y1,y2,y3⟩:=kC HA.out.z;go_wp2
   refine bodyPost_ret (v:=rX (f.both g)) (by simp[results,Tryz.results205,go_sem,z0,z1,z2,z3];exact⟨rfl,rfl,rfl,rfl⟩) rfl ?_;exact⟨rfl,nC (nC (nC (nC HA.out.grown (by omega) _ _) (by omega) _ _) (by omega) _ _) (by omega) _ _⟩
def KC (w w':World):Prop:=∀ (b:Nat) (cs:Array Value),w.heap[b]?=some (Obj.cells cs 303 (0,0))→w'.heap[b]?=some (Obj.cells cs 303 (0,0))
theorem KC.trans {a b c:World}(h:KC a b)(k:KC b c):KC a c:=fun x cs hx=>k x cs (h x cs hx)
theorem KC.refl (w:World):KC w w:=fun _ _ h=>h
theorem Io {w w':World}{r:Option Nat}(hg:w.grownBy w' r)(hne:∀ (b:Nat) (cs:Array Value),w.heap[b]?=some (Obj.cells cs 303 (0,0))→r≠some b):KC w w':=fun b cs hb=>(hg.block b (lt_of_block hb) (fun e=>hne b cs hb e.symm)).trans hb
theorem Ip (w:World)(o:Obj):KC w (w.alloc o):=fun _ _ hb=>(Below.heap_alloc _ _ _ (lt_of_block hb)).trans hb
theorem Iq {w w':World}{F:Nat}{o:Obj}(hg:w.grownBy w' (some F))(ho:w.heap[F]?=some o)(ht:∀ cs,o≠Obj.cells cs 303 (0,0)):KC w w':=Io hg fun b cs hb e=>by
 simp at e;subst e;rw[ho] at hb;simp at hb;exact ht _ hb
structure WF (c:FC) (B F:Nat) (w:World) (k:Vf.Kn) (n:Int) (s:Vf.S):Prop where
 env:Env c B F w
 mB:B≤c.M
 fl:∃ top rv,ay c w F top k.st k.fl n rv∧QR w B rv s.row
 come:fB w c.M s.come
theorem Z7 {c:FC}{w:World}{F:Nat}{top:Option Addr}{st:List Int}{f:Vf.Fl}{n:Int}{row row':Value}(h:w.heap[F]?=some (gZ c top st f n row)) :
  (w.setCell ⟨F,15,none⟩ row').heap[F]?=some (gZ c top st f n row'):=by
 simp only[World.setCell,Array.getElem?_modify,if_true,h,Option.map_some];rfl
theorem fB.ne {c:FC}{w:World}{M F:Nat}{come:Nat→Option Vf.Kn}{top:Option Addr}{st:List Int}{f:Vf.Fl}{n:Int}{row:Value}(h:fB w M come)(hF:w.heap[F]?=some (gZ c top st f n row)):M≠F:=by
 obtain⟨es,cl,h1,_⟩:=h;intro e;subst e;rw[h1] at hF;cases hF
theorem WF.own {c:FC}{B F:Nat}{w w':World}{k k':Vf.Kn}{n n':Int}{s:Vf.S}{top:Option Addr}{rv:Value}(h:WF c B F w k n s)(hg:w.grownBy w' (some F))(hF:ay c w' F top k'.st k'.fl n' rv)(jm:∀ top rv',ay c w F top k.st k.fl n rv'→rv=rv'):WF c B F w' k' n' s:=by
 obtain⟨env,mB,⟨Pn,rv0,jP,hq⟩,come⟩:=h;obtain rfl:=jm _ _ jP;have hne:=come.ne jP.blk;have kc:=Iq hg jP.blk (fun cs e=>by cases e);exact⟨env.grown hg,mB,⟨top,rv,hF,hq.keep fun j hj=>hg.block j (hq.lt j hj).2 (fun e=>hq.ty jP.blk (fun cs fr e2=>by cases e2) (by rw[hj,← e]))⟩,come.keep (hg.block _ come.lt (by simp;omega)) kc⟩
abbrev iL (k:Vf.Kn) (top:Option Addr):Obj:=.cells #[.pointer top,.int .i64 (k.st.length:Int),ah k.fl.a,ah k.fl.b,ah k.fl.c,ah k.fl.d] 200 (0,0)
theorem below_grown {B:Nat}{w w':World}{r:Option Nat}(h:w.grownBy w' r)(hB:B≤w.heap.size)(hr:∀ k,r=some k→B≤k):Below B w w':=(Below.refl B w).grown h hB hr
theorem fB.drew {w:World}{M:Nat}{come:Nat→Option Vf.Kn}(h:fB w M come):fB w.drew M come:=h.keep rfl (fun _ _ hb=>hb)
theorem fB.alloc {w:World}{M:Nat}{come:Nat→Option Vf.Kn}(h:fB w M come)(o:Obj):fB (w.alloc o) M come:=h.keep (Below.heap_alloc _ _ _ h.lt) (Ip _ _)
theorem eP.drew {w:World}{a:Option Addr}{st:List Int}(h:eP w a st):eP w.drew a st:=h.keep fun _ _ hb=>hb
theorem Z8 {c:FC}{B F:Nat}{w w2:World}{k:Vf.Kn}{n:Int}{s:Vf.S}{top:Option Addr}{rv:Value}{o:Obj}(hF:ay c w F top k.st k.fl n rv)(hq:QR w B rv s.row)(hC:fB w c.M s.come)(hg:(w.alloc o).drew.grownBy w2 (some c.M)):ay c w2 F top k.st k.fl n rv∧QR w2 B rv s.row∧KC w w2:=by
 have hne:=hC.ne hF.blk;have hkc:KC w w2:=KC.trans (Ip w o) (Io (iQ hg) fun b cs hb e=>by
  simp at e;subst e;obtain⟨es,cl,h1,_⟩:=hC.alloc o;have h2:(w.alloc o).heap[c.M]?=some (Obj.cells cs 303 (0,0)):=hb;rw[h1] at h2;cases h2)
 have blk:∀ j,j<w.heap.size→j≠c.M→w2.heap[j]?=w.heap[j]?:=fun j hj hjm=>(hg.block j (by show j<(w.alloc o).heap.size;simp;omega) (by simp;omega)).trans (Below.heap_alloc _ _ _ hj);refine⟨⟨(blk F (lt_of_block hF.blk) (by omega)).trans hF.blk,hF.sk.keep hkc⟩,hq.keep fun j hj=>blk j (hq.lt j hj).2 (fun e=>?_),hkc⟩;obtain⟨es,cl,h1,_⟩:=hC;subst e;exact hq.ty h1 (fun cs fr e=>by cases e) hj
theorem Z9 {c:FC}{B F:Nat}{w w2 w4:World}{k kn:Vf.Kn}{n:Int}{s:Vf.S}{top:Option Addr}{rv v':Value}{o2 o:Obj}{tz:Nat}(h:WF c B F w k n s)(jP:ay c w F top k.st k.fl n rv)
  (hF:ay c w2 F top k.st k.fl n rv) (hq:QR w2 B rv s.row) (hC:fB w2 c.M (s.note tz kn).come) (hg2:(w.alloc o2).drew.grownBy w2 (some c.M)) (hg:(w2.alloc o).grownBy w4 rv.ownBlock) (hq4:QR w4 B v' (s.row++[tz])) :
  WF c B F (w4.setCell ⟨F,15,none⟩ v') k n (s.note tz kn)∧Below B w (w4.setCell ⟨F,15,none⟩ v'):=by
 have hlt:=lt_of_block hF.blk;have ho:rv.ownBlock≠some F:=hq.ty hF.blk (fun cs fr e=>by cases e);have blk:∀ j,j<w2.heap.size→rv.ownBlock≠some j→w4.heap[j]?=w2.heap[j]?:=fun j hj h1=>(hg.block j (by simp;omega) (fun e=>h1 e.symm)).trans (Below.heap_alloc _ _ _ hj);have Pw:KC w2 w4:=fun b cs hb=>(blk b (lt_of_block hb) (hq.ty hb (fun cs' fr e=>by cases e))).trans hb;have nU:w4.heap[F]?=some (gZ c top k.st k.fl n rv):=(blk F hlt ho).trans hF.blk;have Px:KC w4 (w4.setCell ⟨F,15,none⟩ v'):=fun b cs hb=>(Below.heap_setCell _ ⟨F,15,none⟩ _ _ (fun e=>by
  have e1:b=F:=e;subst e1;rw[nU] at hb;cases hb)).trans hb
 have hMF:=hC.ne hF.blk;have hM4:w4.heap[c.M]?=w2.heap[c.M]?:=blk c.M hC.lt (by
  obtain⟨es,cl,h1,_⟩:=hC;exact hq.ty h1 (fun cs fr e=>by cases e))
 have hsz:=h.env.lt;have hB:B≤w.heap.size:=by have:=h.env.base;omega
 have hb2:Below B w w2:=((Below.refl B w).alloc hB o2).trans (by have:=below_grown hg2 (by show B≤(w.alloc o2).heap.size;simp;omega) (fun j e=>by cases e;exact h.mB);exact⟨this.os,this.tape,this.output,this.size,this.block⟩);have hb4:Below B w2 w4:=((Below.refl B w2).alloc (by have:=hb2.size;omega) o).trans (below_grown hg (by have:=hb2.size;simp;omega) (fun j e=>(hq.lt j e).1));have hb5:Below B w4 (w4.setCell ⟨F,15,none⟩ v'):=(Below.refl B w4).setCell (p:=⟨F,15,none⟩) h.env.base _;have hall:=(hb2.trans hb4).trans hb5;refine⟨⟨⟨h.env.md.low (fun j hj=>hall.block j hj),h.env.un.low (fun j hj=>hall.block j hj),h.env.base,?_⟩,h.mB,⟨top,v',⟨Z7 nU,hF.sk.keep (Pw.trans Px)⟩,hq4.keep fun j hj=>Below.heap_setCell _ ⟨F,15,none⟩ _ _ (fun e=>?_)⟩,hC.keep ((Below.heap_setCell _ ⟨F,15,none⟩ _ _ (by show c.M≠F;omega)).trans hM4) (Pw.trans Px)⟩,hall⟩
 ·have:=lt_of_block nU
  simp[World.setCell];omega
 ·have e1:j=F:=e
  subst e1;exact hq4.ty nU (fun cs fr e=>by cases e) hj
theorem DC (W:World)(u:Value)(t:TypeId):∀ j u',[u][j]?=some u'→(W.alloc (.cells #[u] t)).cell? ((⟨W.heap.size,0,none⟩:Addr).add j)=some u'
 | 0,u',h=>by simp at h;subst h;simp[Addr.add]
 | j+1,u',h=>by simp at h
theorem Ir (c:FC)(B F:Nat)(k kn:Vf.Kn)(n:Int)(s:Vf.S)(tz:Nat)(dm:Option Addr)(w:World)(h:Hid (WF c B F w k n s))(hs:Hid (eP w dm kn.st))(hn:s.row.length≤100000000) :
  Calls Tryz.prog 138 #[.pointer (some ⟨F,0,none⟩),.int .i64 (tz:Int),oF kn dm] w fun e w'=>e=.returned (.tuple #[])∧WF c B F w' k n (s.note tz kn)∧Below B w w':=by
 obtain⟨top,rv,hF,hq⟩:=h.out.fl;have hlt:=h.out.env.lt;have hB0:=h.out.env.base;have gT:fB (w.alloc (iL kn dm)).drew c.M s.come:=(h.out.come.alloc _).drew;obtain⟨w2,hup,hC2,hg2⟩:=ZT (k:=tz) gT ((hs.out.keep (Ip w (iL kn dm))).drew);obtain⟨hF2,hq2,hk2⟩:=Z8 hF hq h.out.come hg2;have c16:=(fD (hF.alloc (iL kn dm)).blk).2.2.1;obtain⟨d14,d15,d16,Iu,Py⟩:=fD hF2.blk;have hz2:=hg2.size;have hz2':w.heap.size+1≤w2.heap.size:=by simpa using hz2
 have ho:rv.ownBlock≠some F:=hq2.ty hF2.blk (fun cs fr e=>by cases e);have HO:=hide ho;have HF:=hide hF;have bQ:=hide hF2;have Ap:=hide hq2;have zG:=hide hC2;have HG2:=hide hg2;obtain⟨ar,cr,jm⟩:=hq2.form;subst jm;clear hF hq gT hF2 hq2 hk2 hC2 hg2 hz2 d14 d16 Iu ho;go_enter Tryz.func138,Tryz.ntmps138
 go_wp2
 go_region
 all_goals
  go_wp2_with (at_builtin;refine Il rfl _ _ rfl B _ s.row tz rfl (Ap.out.alloc _) ⟨w2.heap.size,0,none⟩ rfl (DC _ _ _) hn (by simp;omega) ?_;intro v' w4 hq4 hg4;obtain⟨a4,c4,hv4⟩:=hq4.form;obtain⟨L4,hL4⟩:∃ L4,L4=(s.row++[tz]).length:=⟨_,rfl⟩;rw[← hL4] at hv4;subst hv4;have HE:=hide (Z9 (kn:=kn) h.out HF.out bQ.out Ap.out zG.out HG2.out hg4 hq4);have hb4:w4.heap[F]?=some (gZ c top k.st k.fl n (.slice ar s.row.length cr)):=((hg4.block F (by simp;omega) (fun e=>HO.out e.symm)).trans (Below.heap_alloc _ _ _ (by omega))).trans bQ.out.blk;have b15:=(fD hb4).2.1;have Pz:=(fD hb4).2.2.2.2;clear hq4 hg4 hb4 hL4)
  go_wp2
  go_end0
  exact⟨rfl,HE.out⟩
end Go.Proofs.YtfcpglhpolpdcaaGreatDoor
