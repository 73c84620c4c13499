/- What the row's list gives: the table of signs,the two types;a world that holds them. -/
import Derived.Test.YthffafaoobpedaaGreatDoorRows
import Derived.Test.YthffafaoobpedaaGreatDoorM42
import Derived.Lib.LaidTab
import Derived.LaidSub
import Derived.OpenShut
import Derived.MakeChecks
import Derived.SizedLaws
import Derived.LaidLaws
namespace Go.Proofs.YthffafaoobpedaaGreatDoor
open Go.RowKit
namespace Xe
def xe:List (String × DataW Unit):=[("yieldshape/syn.pairs",Rows.laid_yieldshape_syn_pairs),("yieldshape/sema.number",Rows.laid_yieldshape_sema_number),("yieldshape/sema.truth",Rows.laid_yieldshape_sema_truth)]
theorem Qr:Tryz.prog.cellsOf 170=3:=by kernel_rfl
theorem acb:Tryz.prog.cellsOf 171=39:=by kernel_rfl
theorem acd:Tryz.prog.cellsOf 116=2:=by kernel_rfl
theorem Qs:Tryz.prog.cellsOf 9=1:=by kernel_rfl
section
variable {H:Type} {enc:TypeId × Value→H} {w:World} {base:Nat} {spare:Nat→Bool} {held:Bool} {fuel:Nat} {cs:List Value} {p:List MemPlace}
theorem pair_cells {k l:Int}{s:List UInt8}(h:DataW.trod enc Tryz.prog w base spare held fuel 170 cs=some (.agg [.lit (.int .i64 k),.lit (.string s),.lit (.int .i64 l)],p)) :
  cs=[iv k,sv s,iv l]:=by
 obtain ⟨xs,n,rfl,hx,hl,hxl,hf⟩:=DataW.trod_struct Tryz.underlying170 h
 rw [Qr] at hl
 obtain ⟨a,b,c,rfl⟩:=three hl
 have e:xs.map (·.1)=[.lit (.int .i64 k),.lit (.string s),.lit (.int .i64 l)]:=by
  have:=congrArg Prod.fst hx
  simpa using this.symm
 match xs,e with
 | [x0,x1,x2],e =>
  simp only [List.map_cons,List.map_nil,List.cons.injEq,and_true] at e
  have h0:DataW.trod enc Tryz.prog w base spare held n 3 (([a,b,c].drop 0).take (Tryz.prog.cellsOf 3))=some x0:=hf 0 _ rfl
  have h1:DataW.trod enc Tryz.prog w base spare held n 9 (([a,b,c].drop 1).take (Tryz.prog.cellsOf 9))=some x1:=hf 1 _ rfl
  have h2:DataW.trod enc Tryz.prog w base spare held n 3 (([a,b,c].drop 2).take (Tryz.prog.cellsOf 3))=some x2:=hf 2 _ rfl
  rw [Qq] at h0 h2
  rw [Qs] at h1
  obtain ⟨k',hk,rfl,_⟩:=DataW.trod_int Tryz.underlying3 h0
  obtain ⟨s',hs,rfl,_⟩:=DataW.trod_string Tryz.underlying9 h1
  obtain ⟨l',hl',rfl,_⟩:=DataW.trod_int Tryz.underlying3 h2
  simp at hk hs hl'
  simp at e
  obtain ⟨e1,e2,e3⟩:=e
  rw [hk,hs,hl',e1,e3,← e2]
  rfl
theorem Qt {k:Int}{s:List UInt8}(h:DataW.trod enc Tryz.prog w base spare held fuel 116 cs=some (.agg [.lit (.int .i64 k),.lit (.string s)],p)) :
  cs=[iv k,sv s]:=by
 obtain ⟨xs,n,rfl,hx,hl,hxl,hf⟩:=DataW.trod_struct Tryz.underlying116 h
 rw [acd] at hl
 obtain ⟨a,b,rfl⟩:=two hl
 have e:xs.map (·.1)=[.lit (.int .i64 k),.lit (.string s)]:=by
  have:=congrArg Prod.fst hx
  simpa using this.symm
 match xs,e with
 | [x0,x1],e =>
  simp only [List.map_cons,List.map_nil,List.cons.injEq,and_true] at e
  have h0:DataW.trod enc Tryz.prog w base spare held n 3 (([a,b].drop 0).take (Tryz.prog.cellsOf 3))=some x0:=hf 0 _ rfl
  have h1:DataW.trod enc Tryz.prog w base spare held n 9 (([a,b].drop 1).take (Tryz.prog.cellsOf 9))=some x1:=hf 1 _ rfl
  rw [Qq] at h0
  rw [Qs] at h1
  obtain ⟨k',hk,rfl,_⟩:=DataW.trod_int Tryz.underlying3 h0
  obtain ⟨s',hs,rfl,_⟩:=DataW.trod_string Tryz.underlying9 h1
  simp at hk hs
  simp at e
  obtain ⟨e1,e2⟩:=e
  rw [hk,hs,e1,← e2]
  rfl
theorem chunks {α:Type}(f:α→List Value)(hf:∀ a,(f a).length=3):∀ (ts:List α) (cs:List Value),cs.length=3 * ts.length→(∀ i a,ts[i]?=some a→(cs.drop (i * 3)).take 3=f a)→cs=ts.flatMap f
 | [],cs,hl,_=>by simp at hl;simp [hl]
 | a :: ts,cs,hl,h=>by
  have h0:=h 0 a rfl
  simp only [Nat.zero_mul,List.drop_zero] at h0
  have ih:=chunks f hf ts (cs.drop 3) (by simp at hl ⊢;omega) (fun i b hb=>by
   have:=h (i+1) b (by simpa using hb)
   rw [List.drop_drop,show 3+i * 3=(i+1) * 3 by omega]
   exact this)
  rw [List.flatMap_cons,← h0,← ih,List.take_append_drop]
def signs:List (Int × List UInt8 × Int):=[(18,[111,114],1),(17,[97,110,100],2),(11,[61,61],3),(12,[33,61],3),(13,[60],3),(14,[60,61],3),(15,[62],3),(16,[62,61],3),(6,[43],4),(7,[45],4),(8,[42],5),(9,[47],5),(10,[37],5)]
def CX {H:Type}:List (DataW H):=signs.map fun p=>.agg [.lit (.int .i64 p.1),.lit (.string p.2.1),.lit (.int .i64 p.2.2)]
theorem ace {H:Type}:(Rows.laid_yieldshape_syn_pairs:DataW H)=.agg CX:=rfl
theorem acg (h:DataW.trod enc Tryz.prog w base spare held fuel 171 cs=some (.agg CX,p)):cs=rD:=by
 obtain ⟨xs,n,rfl,hx,hl,hxl,hel⟩:=DataW.trod_array Tryz.underlying171 h
 rw [acb] at hl
 have hx1:xs.map (·.1)=CX:=by
  have:=congrArg Prod.fst hx
  simpa using this.symm
 refine (chunks (fun p=>[iv p.1,sv p.2.1,iv p.2.2]) (fun _=>rfl) signs cs (by rw [hl];rfl) (fun i q hq=>?_)).trans rfl
 have hi:i < 13:=by have:=(List.getElem?_eq_some_iff.1 hq).1;simpa [signs] using this
 have he:=hel i hi
 rw [Qr] at he
 obtain ⟨x,hxi⟩:∃ x,xs[i]?=some x:=⟨_,List.getElem?_eq_getElem (by omega)⟩
 rw [hxi] at he
 have hd:x.1=.agg [.lit (.int .i64 q.1),.lit (.string q.2.1),.lit (.int .i64 q.2.2)]:=by
  have h1:(xs.map (·.1))[i]?=some x.1:=by rw [List.getElem?_map,hxi];rfl
  rw [hx1] at h1
  unfold CX at h1
  rw [List.getElem?_map,hq] at h1
  simpa using h1.symm
 exact pair_cells (cs:=(cs.drop (i * 3)).take 3) (p:=x.2) (by rw [← hd];exact he)
end
theorem Qu:Tryz.prog.globalNamed "yieldshape/syn.pairs" = some 0:=by kernel_rfl
theorem Qv:Tryz.prog.globalNamed "yieldshape/sema.truth" = some 1:=by kernel_rfl
theorem Qw:Tryz.prog.globalNamed "yieldshape/sema.number" = some 2:=by kernel_rfl
theorem ach:(Tryz.prog.globals[0]?).map (·.type)=some 171:=by kernel_rfl
theorem aci:(Tryz.prog.globals[1]?).map (·.type)=some 116:=by kernel_rfl
theorem acj:(Tryz.prog.globals[2]?).map (·.type)=some 116:=by kernel_rfl
theorem IE {c:Array Value}{l:List Value}(h:c.toList=l):c=⟨l⟩:=by cases c;simp at h;rw [h]
theorem ack {W:World}(h:laidMetH Tryz.prog xe W):oP W:=by
 refine ⟨?_,?_,?_⟩
 ·have h1:=h.filter (fun x=>x.1 == "yieldshape/syn.pairs")
  have e:xe.filter (fun x=>x.1 == "yieldshape/syn.pairs")=[("yieldshape/syn.pairs",Rows.laid_yieldshape_syn_pairs)]:=by rfl
  rw [e,MakeChecks.laidMetH_plain _ _ _ (by kernel_rfl)] at h1
  obtain ⟨ps,⟨g',t',cs,fuel,p,q,hg',ht',hvar,hd,_,_⟩,_⟩:=h1
  obtain rfl:=Option.some.inj (Qu.symm.trans hg')
  obtain rfl:=Option.some.inj (ach.symm.trans ht')
  rw [ace] at hd
  have hc:=acg hd
  simp only [World.var?,Qu,Option.bind_some] at hvar
  split at hvar
  ·rename_i c t fr hh
   simp only [Option.some.injEq] at hvar
   subst hvar
   exact ⟨t,fr,by rw [hh,IE hc]⟩
  ·simp at hvar
 ·have h1:=h.filter (fun x=>x.1 == "yieldshape/sema.truth")
  have e:xe.filter (fun x=>x.1 == "yieldshape/sema.truth")=[("yieldshape/sema.truth",Rows.laid_yieldshape_sema_truth)]:=by rfl
  rw [e,MakeChecks.laidMetH_plain _ _ _ (by kernel_rfl)] at h1
  obtain ⟨ps,⟨g',t',cs,fuel,p,q,hg',ht',hvar,hd,_,_⟩,_⟩:=h1
  obtain rfl:=Option.some.inj (Qv.symm.trans hg')
  obtain rfl:=Option.some.inj (aci.symm.trans ht')
  have hc:=Qt hd
  simp only [World.var?,Qv,Option.bind_some] at hvar
  split at hvar
  ·rename_i c t fr hh
   simp only [Option.some.injEq] at hvar
   subst hvar
   exact ⟨t,fr,by rw [hh,IE hc];rfl⟩
  ·simp at hvar
 ·have h1:=h.filter (fun x=>x.1 == "yieldshape/sema.number")
  have e:xe.filter (fun x=>x.1 == "yieldshape/sema.number")=[("yieldshape/sema.number",Rows.laid_yieldshape_sema_number)]:=by rfl
  rw [e,MakeChecks.laidMetH_plain _ _ _ (by kernel_rfl)] at h1
  obtain ⟨ps,⟨g',t',cs,fuel,p,q,hg',ht',hvar,hd,_,_⟩,_⟩:=h1
  obtain rfl:=Option.some.inj (Qw.symm.trans hg')
  obtain rfl:=Option.some.inj (acj.symm.trans ht')
  have hc:=Qt hd
  simp only [World.var?,Qw,Option.bind_some] at hvar
  split at hvar
  ·rename_i c t fr hh
   simp only [Option.some.injEq] at hvar
   subst hvar
   exact ⟨t,fr,by rw [hh,IE hc];rfl⟩
  ·simp at hvar
def putCells (cs:Array Value)(o:Obj):Obj :=
 match o with
 | .cells _ t frozen=>.cells cs t frozen
 | o=>o
noncomputable def IG (os:Os):World :=
 { World.holding Tryz.prog os ⟨#[],#[],[]⟩ with heap:=(((World.holding Tryz.prog os ⟨#[],#[],[]⟩).heap.modify 0 (putCells ⟨rD⟩)).modify 1 (putCells ⟨uP⟩)).modify 2 (putCells ⟨uQ⟩) }
theorem acm (os:Os)(args:Array Value):laidMet Tryz.prog xe ((IG os).forCall (fun _ _=>0) ⟨#[],args,[]⟩).memory :=
 laidMet_of_run' 8 (by kernel_rfl) (by kernel_rfl)
theorem acn {H:Type}{enc:TypeId × Value→H}{w:World}{base:Nat}{spare:Nat→Bool}{held:Bool}{fuel:Nat}{cs:List Value}{x:DataW H × List MemPlace}(h:DataW.trod enc Tryz.prog w base spare held fuel 22 cs=some x) :
  ∃ (l:List Int) (a:Option Addr) (c:Nat),cs=[.slice a l.length c]∧l.length≤9223372036854775807∧l.length≤c∧∀ (i:Nat) x,l[i]?=some x→∃ b off,a=some ⟨b,off,none⟩∧b < w.heap.size∧w.cell? ⟨b,off+i,none⟩=some (.int .i64 x):=by
 obtain ⟨L,a,c,hcs,hm,hcap,hall⟩:=ab8 (n:=1) (fun _ cs' (y:Int)=>cB y∧cs'=[.int .i64 y]) Tryz.underlying22 ab9 (by decide) (fun f cs' x' _ hx'=>aca hx') h
 refine ⟨L,a,c,hcs,by unfold maxLen at hm;omega,hcap,fun i o ho=>?_⟩
 obtain ⟨b,off,cs',f,he,hb,_,_,⟨_,rfl⟩,hc⟩:=hall i o ho
 have:=hc 0 (by decide)
 exact ⟨b,off,he,hb,by simpa using this⟩
end Xe
end Go.Proofs.YthffafaoobpedaaGreatDoor
namespace Go.Proofs.YthffafaoobpedaaGreatDoor.Vw
open Go.RowKit Vf Vm
theorem aco {β:Type}{X:fQ β}{m:Md}{n:Nat}{t:Tk}{x:β}(h:(stat X m t x).1=1):(go X m (n+1) t x).2=(go X m n (one X m t x).1 (one X m t x).2).2:=by
 show (if (stat X m t x).1=1 then ((go X m n (one X m t x).1 (one X m t x).2).1+1,(go X m n (one X m t x).1 (one X m t x).2).2) else (0,t,x)).2=_
 rw [if_pos h]
theorem acp {β:Type}{X:fQ β}{m:Md}{n:Nat}{t:Tk}{x:β}(h:(stat X m t x).1≠1):(go X m n t x).2=(t,x):=by
 cases n with
 | zero=>rfl
 | succ n =>
  show (if (stat X m t x).1=1 then ((go X m n (one X m t x).1 (one X m t x).2).1+1,(go X m n (one X m t x).1 (one X m t x).2).2) else (0,t,x)).2=_
  rw [if_neg h]
abbrev tk (u:Nat) (ws:List Int) (pc:Nat) (out:List Int) (log:List Ev):Tk:=⟨[⟨ws,[⟨u,pc,0⟩],2,none⟩],0,out,0,0,log⟩
theorem Qx {m:Md}{t:Tk}{l:List Int}{k:Nat}{s:List Int}{r:List aV}(h0:t.over=0)(bE:(t.ins m).op=27)(ha:(t.ins m).a=0)(h:k < l.length):(stat aD m t (⟨l,k,s⟩ :: r)).1=1:=by
 unfold stat
 rw [if_neg (by rw [h0];simp),if_neg (by rw [bE];simp),if_neg (by rw [ha];simp [aD];omega)]
theorem acr {m:Md}{t:Tk}{l:List Int}{s:List Int}{r:List aV}(h0:t.over=0)(bE:(t.ins m).op=27)(ha:(t.ins m).a=0):(stat aD m t (⟨l,l.length,s⟩ :: r)).1=3:=by
 unfold stat
 rw [if_neg (by rw [h0];simp),if_neg (by rw [bE];simp),if_pos (by rw [ha];simp [aD,bE])]
theorem acs {t:Tk}{op:Int}(h1:op≠11)(h2:op≠12):t.reckon op=t.cut.cut.put (Vm.two op t.cut.last t.last):=by
 unfold Tk.reckon
 rw [if_neg]
 rintro ⟨_,h | h⟩
 ·exact h1 h
 ·exact h2 h
def In64 (w:World)(B:Nat)(a:Option Addr)(l:List Int):Prop:=∀ (i:Nat) x,l[i]?=some x→∃ b off,a=some ⟨b,off,none⟩∧b < B∧w.cell? ⟨b,off+i,none⟩=some (.int .i64 x)
theorem In64.below {w w':World}{a:Option Addr}{l:List Int}(h:In64 w w.heap.size a l)(hb:Below w.heap.size w w'):In64 w' w.heap.size a l:=fun i x hx=>by
 obtain ⟨b,off,e,hlt,hc⟩:=h i x hx
 exact ⟨b,off,e,hlt,(aS (hb.block b hlt) _).trans hc⟩
theorem Qy {w w':World}{a:Option Addr}{c:Nat}{l:List Int}(h:In64 w w.heap.size a l)(hl:l.length≤100)(hb:Below w.heap.size w w') :
  jB (w'.alloc (.cells #[.slice a l.length c] 22)).heap.size (w'.alloc (.cells #[.slice a l.length c] 22)) [l] (some ⟨w'.heap.size,0,none⟩) (fun _=>a) (fun _=>c):=by
 have hz:=hb.size
 refine ⟨by simp,fun i f hf=>?_,fun i f hf=>?_⟩
 ·obtain ⟨rfl,rfl⟩:i=0∧f=l:=by
   cases i with
   | zero=>simp at hf;exact ⟨rfl,hf.symm⟩
   | succ i=>simp at hf
  refine ⟨w'.heap.size,0,rfl,by simp,?_⟩
  exact one_cell (heap_alloc_new w' (.cells #[.slice a f.length c] 22))
 ·obtain ⟨rfl,rfl⟩:i=0∧f=l:=by
   cases i with
   | zero=>simp at hf;exact ⟨rfl,hf.symm⟩
   | succ i=>simp at hf
  refine ⟨by omega,fun j v hv=>?_⟩
  obtain ⟨b,off,e,hlt,hc⟩:=(h.below hb) j v hv
  exact ⟨b,off,e,by simp;omega,(aS (Below.heap_alloc _ _ _ (by omega)) _).trans hc⟩
theorem acu:(Tryz.prog.info? 2).map (fun i=>(i.zero,i.size,i.bytes))=some (some (.int .i64 0),1,8):=by kernel_rfl
structure Cf where
 ae:List Th
 hand:Nat
 out:List Int
 x:List aV
abbrev Cf.tk (a:Cf) (log:List Ev):Tk:=⟨a.ae,a.hand,a.out,0,0,log⟩
abbrev cf (u:Nat) (ws:List Int) (pc:Nat) (out:List Int) (x:List aV):Cf:=⟨[⟨ws,[⟨u,pc,0⟩],2,none⟩],0,out,x⟩
def Goes (m:Md)(c:Nat)(a b:Cf):Prop:=∀ n log,c≤n→∃ n' Qz,n≤n'+c∧(go aD m n (a.tk log) a.x).2=(go aD m n' (b.tk Qz) b.x).2
theorem Goes.refl (m:Md)(a:Cf):Goes m 0 a a:=fun n log _=>⟨n,log,Nat.le_refl _,rfl⟩
theorem Goes.trans {m:Md}{c d:Nat}{a b e:Cf}(h:Goes m c a b)(k:Goes m d b e):Goes m (c+d) a e:=fun n log hn=>by
 obtain ⟨n1,l1,h1,e1⟩:=h n log (by omega)
 obtain ⟨n2,l2,h2,e2⟩:=k n1 l1 (by omega)
 exact ⟨n2,l2,by omega,e1.trans e2⟩
theorem Goes.mono {m:Md}{c d:Nat}{a b:Cf}(h:Goes m c a b)(hd:c≤d):Goes m d a b:=fun n log hn=>by
 obtain ⟨n1,l1,h1,e1⟩:=h n log (by omega)
 exact ⟨n1,l1,by omega,e1⟩
theorem Goes.run {m:Md}{a b:Cf}(k:Nat)(h:∀ n log,(go aD m (n+k) (a.tk log) a.x).2=(go aD m n (b.tk log) b.x).2):Goes m k a b:=fun n log hn=>by
 obtain ⟨q,rfl⟩:∃ q,n=q+k:=⟨n - k,by omega⟩
 exact ⟨q,log,Nat.le_refl _,h q log⟩
theorem Goes.run' {m:Md}{a b:Cf}(k:Nat)(e:List Ev)(h:∀ n log,(go aD m (n+k) (a.tk log) a.x).2=(go aD m n (b.tk (log ++ e)) b.x).2):Goes m k a b:=fun n log hn=>by
 obtain ⟨q,rfl⟩:∃ q,n=q+k:=⟨n - k,by omega⟩
 exact ⟨q,log ++ e,Nat.le_refl _,h q log⟩
theorem Goes.step {m:Md}{a b:Cf}{e:List Ev}(hs:∀ log,(stat aD m (a.tk log) a.x).1=1)(h:∀ log,one aD m (a.tk log) a.x=(b.tk (log ++ e),b.x)):Goes m 1 a b:=fun n log hn=>by
 obtain ⟨q,rfl⟩:∃ q,n=q+1:=⟨n - 1,by omega⟩
 refine ⟨q,log ++ e,Nat.le_refl _,?_⟩
 have g:=aco (X:=aD) (m:=m) (n:=q) (t:=a.tk log) (x:=a.x) (hs log)
 rw [h] at g
 exact g
theorem Goes.recv {m:Md}{a:Cf}{l:List Int}{k:Nat}{v:Int}{q:Int}(B:Int→Cf)(hv:l[k]?=some v)(hs:∀ log,(stat aD m (a.tk log) a.x).1=1)
  (h:∀ log,one aD m (a.tk log) a.x=((B ((l[k]?).getD 0)).tk (log ++ [⟨3,q,(l[k]?).getD 0⟩]),(B ((l[k]?).getD 0)).x)):Goes m 1 a (B v):=by
 rw [hv] at h
 exact Goes.step hs h
theorem Goes.eB {m:Md}{a b:Cf}(op:Int)(a':Cf)(h1:op≠11)(h2:op≠12)(hs:∀ log,(stat aD m (a.tk log) a.x).1=1)(h:∀ log,one aD m (a.tk log) a.x=((a'.tk log).reckon op,b.x))
  (h3:∀ log,(a'.tk log).cut.cut.put (Vm.two op (a'.tk log).cut.last (a'.tk log).last)=b.tk log):Goes m 1 a b :=
 Goes.step (e:=[]) hs (fun log=>by rw [h,acs h1 h2,h3,List.append_nil])
theorem Goes.ends {m:Md}{c:Nat}{a b:Cf}{s:Nat}(h:Goes m c a b)(hs:∀ log,(stat aD m (b.tk log) b.x).1=s)(h1:s≠1){n:Nat}(hc:c≤n) :
  (go aD m n (a.tk []) a.x).2.1.out=b.out∧(stat aD m (go aD m n (a.tk []) a.x).2.1 (go aD m n (a.tk []) a.x).2.2).1=s∧(go aD m n (a.tk []) a.x).2.2=b.x:=by
 obtain ⟨n',Qz,h2,e⟩:=h n [] hc
 rw [e,acp (by rw [hs];exact h1)]
 exact ⟨rfl,hs _,rfl⟩
theorem Goes.says {m:Md}{c:Nat}{a b:Cf}(h:Goes m c a b)(hs:∀ log,(stat aD m (b.tk log) b.x).1=3)(hc:c≤5000){R:Nat × Tk × List aV}(hR:R=go aD m 5000 (a.tk []) a.x){o:List Int}(ho:b.out=o):R.2.1.out=o∧(stat aD m R.2.1 R.2.2).1=3:=by
 subst hR
 obtain ⟨h1,h2,_⟩:=h.ends hs (by decide) hc
 exact ⟨h1.trans ho,h2⟩
theorem acv {t:Tk}{op:Int}(h:t.last≠0):t.reckon op=t.cut.cut.put (Vm.two op t.cut.last t.last):=if_neg fun h'=>h h'.1
theorem Goes.QA {m:Md}{a b:Cf}(op:Int)(a':Cf)(hz:∀ log,(a'.tk log).last≠0)(hs:∀ log,(stat aD m (a.tk log) a.x).1=1)(h:∀ log,one aD m (a.tk log) a.x=((a'.tk log).reckon op,b.x))
  (h3:∀ log,(a'.tk log).cut.cut.put (Vm.two op (a'.tk log).cut.last (a'.tk log).last)=b.tk log):Goes m 1 a b :=
 Goes.step (e:=[]) hs (fun log=>by rw [h,acv (hz log),h3,List.append_nil])
end Go.Proofs.YthffafaoobpedaaGreatDoor.Vw
