/- The walks of caught and of Wrong. -/
import Derived.Test.YtolfleeidpeomaaGreatDoorM8
import Derived.MapKept
import Derived.Lib.Itoa
import Derived.Deep.LoopGhost
set_option maxRecDepth 100000
set_option maxHeartbeats 1000000
namespace Go.Proofs.YtolfleeidpeomaaGreatDoor
open Go.RowKit
abbrev bR:Obj:=.cells #[.int .i64 0,.int .i64 0] 26 (0,0)
theorem CB (g:FuncId)(cap:Array Value)(er num:Int)(X:World→Prop)(w:World)(hz:er=0→num=0)(hcf:∀ w:World,(callFunc g cap).run Tryz.prog w=.ok (.enter g cap) w)
  (hw:Calls Tryz.prog g cap (w.alloc bR) fun e w'=>X w'∧w'.heap[w.heap.size]?=some bR∧qJ er num e) :
  Calls Tryz.prog 15 #[.func (.func g) #[] cap] w fun e w'=>e=.returned (.agg #[.int .i64 er,.int .i64 num])∧∃ wx,X wx∧wx.heap[w.heap.size]?=some bR∧w'=(wx.setCell ⟨w.heap.size,0,none⟩ (.int .i64 er)).setCell ⟨w.heap.size,1,none⟩ (.int .i64 num):=by
 have CE:∀ (fn:Fn) (first cap:Array Value) (w:World),(Instr.makeFunc fn first cap).run Tryz.prog w=.ok (.func fn first cap) w:=fun _ _ _ _=>rfl
 go_enter_defers Tryz.func15,Tryz.ntmps15
 go_wp2_with fail
 refine hw.mono ?_
 rintro e w1 ⟨hX,hF,ht⟩
 obtain ⟨c0,c1,f0,f1⟩:=bE hF
 have HX:Hid (X w1):=hX
 have HF:Hid (w1.heap[w.heap.size]?=some bR):=hF
 clear hX hF
 by_cases h0:er=0
 ·have hn:=hz h0
  subst h0
  subst hn
  obtain rfl:e=.returned (.tuple #[]):=ht
  clear hw hz
  go_wp2
  refine leaves_cons (f:=33) (args:=#[.pointer (some ⟨w.heap.size,0,none⟩)]) (by simp) (by simp [go_sem]) ?_
  refine (Wm w.heap.size _).mono ?_
  rintro e u' w'' ⟨rfl,rfl,rfl⟩
  show Leaves _ _ _ _ [] .returning _
  exact ⟨.agg #[.int .i64 0,.int .i64 0],by simp [results,Tryz.results15,go_sem,c0,c1],rfl,w1,HX.out,HF.out,rfl⟩
 ·obtain rfl:e=.panicked [aH er num]:=by unfold qJ at ht;rw [if_neg h0] at ht;exact ht
  clear ht hw hz h0
  go_wp2
  refine leaves_cons (f:=33) (args:=#[.pointer (some ⟨w.heap.size,0,none⟩)]) (by simp) (by simp [go_sem]) ?_
  refine (Wj w.heap.size er num [] _ HF.out).mono ?_
  rintro e u' w'' ⟨rfl,rfl,rfl⟩
  show Leaves _ _ _ _ [] .returning _
  exact ⟨.agg #[.int .i64 er,.int .i64 num],by simp [results,Tryz.results15,go_sem,c0,c1],rfl,w1,HX.out,HF.out,rfl⟩
theorem Mg (l:List Sy.Df):(Sy.dx l).1=0→(Sy.dx l).2=0:=by
 have hd:∀ (l:List Sy.Df) (i n:Nat),(Sy.iB l i n).1=0→(Sy.iB l i n).2=0:=by
  intro l
  induction l with
  | nil=>intro i n _;rfl
  | cons d l ih =>
   intro i n h
   unfold Sy.iB at h ⊢
   cases hw:Sy.dX d n with
   | error e=>rw [hw] at h;exact absurd h (zz hw)
   | ok m=>rw [hw] at h;exact ih _ _ h
 unfold Sy.dx
 split
 ·intro h;simp at h
 ·exact hd _ _ _
theorem CF (l:List Sy.Df)(a:Option Addr)(c:Nat)(w:World)(hX:dS w.heap.size w l a) :
  Calls Tryz.prog 9 #[.slice a l.length c] w fun e w'=>e=.returned (.agg #[.int .i64 (Sy.dx l).1,.int .i64 (Sy.dx l).2])∧Below w.heap.size w w':=by
 obtain ⟨er,her⟩:∃ er,er=(Sy.dx l).1:=⟨_,rfl⟩
 obtain ⟨num,kW⟩:∃ num,num=(Sy.dx l).2:=⟨_,rfl⟩
 have HZ:Hid (er=0→((num:Nat):Int)=0):=by intro h;have:=Mg l (by rw [← her];exact h);rw [← kW] at this;omega
 have HR:Hid ((er,num)=Sy.dx l):=by rw [her,kW];rfl
 rw [← her,← kW]
 clear her kW
 have HX:Hid (dS w.heap.size w l a):=hX
 clear hX
 have CE:∀ (fn:Fn) (first cap:Array Value) (w:World),(Instr.makeFunc fn first cap).run Tryz.prog w=.ok (.func fn first cap) w:=fun _ _ _ _=>rfl
 go_enter Tryz.func9,Tryz.ntmps9
 go_wp2_with fail
 have HG:Hid (w.grownBy (((w.alloc (.cells #[.slice a l.length c] 22)).alloc bR).alloc bR) none):=aB (aB (World.grownBy_alloc _ _ _) (World.grownBy_alloc _ _ _)) (World.grownBy_alloc _ _ _)
 refine (CB 23 #[.pointer (some ⟨w.heap.size,0,none⟩)] er num (fun w'=>w.grownBy w' none∧w'.heap[w.heap.size+1]?=some bR) _ HZ.out ?_ ?_).mono ?_
 ·intro w'
  first | rfl | kernel_rfl | simp [go_sem]
 ·refine (V9 w.heap.size w.heap.size l a c er num _ ?_ (HX.out.same (dK HG.out (by simp) (Nat.le_refl _))) (by simp;omega) HR).mono ?_
  ·rw [Below.heap_alloc _ _ _ (by simp;omega),Below.heap_alloc _ _ _ (by simp)]
   exact heap_alloc_new w _
  ·rintro e w' ⟨hg,ht⟩
   refine ⟨⟨aB HG.out hg,?_⟩,?_,ht⟩
   ·refine (hg.block _ (by simp) (by simp)).trans ?_
    rw [Below.heap_alloc _ _ _ (by simp)]
    have:=heap_alloc_new (w.alloc (.cells #[.slice a l.length c] 22)) bR
    simpa using this
   ·exact (hg.block _ (by simp) (by simp)).trans (heap_alloc_new _ _)
 rintro e w1 ⟨rfl,wx,⟨hg,h2⟩,hF,rfl⟩
 obtain ⟨c0,c1,f0,f1⟩:=bE h2
 have HB:Hid (Below w.heap.size w wx):=⟨hg.os,hg.tape,hg.output,hg.size,fun k hk=>hg.block k hk (by simp)⟩
 clear hg h2 hF
 go_wp2
 refine bodyPost_ret (v:=.agg #[.int .i64 er,.int .i64 num]) (by simp [results,Tryz.results9,go_sem,c0,c1]) rfl ⟨rfl,?_⟩
 exact (((HB.out.setCell (p:=⟨w.heap.size+1+1,0,none⟩) (by simp;omega) _).setCell (p:=⟨w.heap.size+1+1,1,none⟩) (by simp;omega) _).setCell (p:=⟨w.heap.size+1,0,none⟩) (by simp) _).setCell (p:=⟨w.heap.size+1,1,none⟩) (by simp) _
def Mh (o:Obj):Prop:=∃ cur fr,o=.cells cur 9 fr
def PR (w:World)(P Bs:Nat)(ws:List ByteArray)(mv:Value):Prop :=
 ∃ v,w.heap[P]?=some (.cells #[v,mv] 44 (0,0))∧w.ownsRow Bs 9 1 v ws.length (ws.map Value.string)
structure Fr (P Bs:Nat) (w w':World):Prop where
 os:w'.os=w.os
 tape:w'.tape=w.tape
 output:w'.output=w.output
 size:w.heap.size≤w'.heap.size
 block:∀ k o,k≠P→w.heap[k]?=some o→(k<Bs∨¬ Mh o)→w'.heap[k]?=some o
theorem Fr.refl (P Bs:Nat)(w:World):Fr P Bs w w:=⟨rfl,rfl,rfl,Nat.le_refl _,fun _ _ _ h _=>h⟩
theorem Fr.trans {P Bs:Nat}{a b c:World}(h:Fr P Bs a b)(k:Fr P Bs b c):Fr P Bs a c :=
 ⟨k.os.trans h.os,k.tape.trans h.tape,k.output.trans h.output,Nat.le_trans h.size k.size,fun i o hi ho hs=>k.block i o hi (h.block i o hi ho hs) hs⟩
theorem Fr.alloc (P Bs:Nat)(w:World)(o:Obj):Fr P Bs w (w.alloc o) :=
 ⟨rfl,rfl,rfl,by simp,fun k _ _ h _=>(Below.heap_alloc _ _ _ (lt_of_block h)).trans h⟩
theorem Fr.below {P Bs:Nat}{w w':World}(h:Below w.heap.size w w'):Fr P Bs w w' :=
 ⟨h.os,h.tape,h.output,h.size,fun k _ _ ho _=>(h.block k (lt_of_block ho)).trans ho⟩
theorem Fr.same {P Bs B:Nat}{w w':World}(h:Fr P Bs w w')(hB:B≤P)(hP:P<Bs)(hs:B≤w.heap.size):Go.Proofs.YtolfleeidpeomaaGreatDoor.Same B w w':=fun b o hb=>by
 obtain ⟨x,hx⟩:∃ x,w.heap[b]?=some x:=⟨_,Array.getElem?_eq_getElem (by omega)⟩
 exact World.cell?_of_block (w:=w) ((h.block b x (by omega) hx (.inl (by omega))).trans hx.symm)
theorem PR.lt {w:World}{P Bs:Nat}{ws:List ByteArray}{mv:Value}(h:PR w P Bs ws mv):P<w.heap.size:=by
 obtain ⟨v,hv,_⟩:=h;exact lt_of_block hv
theorem PR.alloc {w:World}{P Bs:Nat}{ws:List ByteArray}{mv:Value}(h:PR w P Bs ws mv)(o:Obj):PR (w.alloc o) P Bs ws mv:=by
 obtain ⟨v,hv,ho⟩:=h
 exact ⟨v,(Below.heap_alloc _ _ _ (lt_of_block hv)).trans hv,ho.alloc o⟩
theorem Wn {w:World}{b:Nat}{v0 v1 u0:Value}{t:TypeId}(h:w.heap[b]?=some (.cells #[v0,v1] t (0,0))) :
  (w.setCell ⟨b,0,none⟩ u0).heap[b]?=some (.cells #[u0,v1] t (0,0)):=by
 simp only [World.setCell,Array.getElem?_modify,if_true,h,Option.map_some]
 rfl
theorem Tryz.Wo:(Tryz.prog.info? 9).map (fun i=>(i.zero,i.size,i.bytes))=some (some (.string ByteArray.empty),1,16):=by kernel_rfl
theorem FO (xs:List ByteArray):∀ u ∈ xs.map Value.string,u.oneCell'=true:=by
 intro u hu
 obtain ⟨x,_,rfl⟩:=List.mem_map.1 hu
 rfl
theorem Wp {w:World}{P Bs:Nat}{v:Value}{n:Nat}{xs:List Value}(h:w.ownsRow Bs 9 1 v n xs)(hP:P<Bs)(u:Value):(w.setCell ⟨P,0,none⟩ u).ownsRow Bs 9 1 v n xs:=ownsRow_setCell_below h (a:=⟨P,0,none⟩) hP u
theorem Wq {P Bs:Nat}{w w1:World}{v:Value}{n:Nat}{xs:List Value}(ho:w.ownsRow Bs 9 1 v n xs)(hg:w.grownBy w1 v.ownBlock)(u:Value):Fr P Bs w (w1.setCell ⟨P,0,none⟩ u):=by
 refine ⟨hg.os,hg.tape,hg.output,by simpa [World.setCell] using hg.size,fun k o hk ho2 hs=>?_⟩
 rw [Below.heap_setCell _ _ _ _ (by exact hk)]
 refine (hg.block k (lt_of_block ho2) (fun e=>?_)).trans ho2
 rcases hs with hs | hs
 ·have:=(ho.lt k e.symm).1;omega
 ·apply hs
  rcases ho.2 with ⟨rfl,_⟩ | ⟨g,cap,cur,rfl,_,hh,_⟩
  ·simp [Value.ownBlock] at e
  ·simp only [Value.ownBlock,Option.some.injEq] at e
   subst e
   rw [ho2] at hh
   simp only [Option.some.injEq] at hh
   exact ⟨cur,(0,0),hh⟩
theorem CG (P Bs:Nat)(ws xs:List ByteArray)(mv:Value)(ad:Addr)(c:Nat)(w:World)(cz:Hid (PR w P Bs ws mv))(pQ:P<Bs)(jW:Bs≤w.heap.size)
  (hx:Hid (∀ j x,xs[j]?=some x→w.cell? (ad.add j)=some (.string x))) (hn:ws.length+xs.length≤1000000) :
  Calls Tryz.prog 26 #[.pointer (some ⟨P,0,none⟩),.slice (some ad) xs.length c] w fun e w'=>e=.returned (.tuple #[])∧PR w' P Bs (ws++xs) mv∧Fr P Bs w w':=by
 obtain ⟨v,hP,hown⟩:=cz.out
 obtain ⟨c0,c1,f0,f1⟩:=bE hP
 obtain ⟨i0,hi,hz0,hz1,hz2⟩:=info_parts Tryz.Wo
 have HP:Hid (w.heap[P]?=some (.cells #[v,mv] 44 (0,0))):=hP
 have HO:Hid (w.ownsRow Bs 9 1 v ws.length (ws.map Value.string)):=hown
 have HX:Hid (∀ j u,(xs.map Value.string)[j]?=some u→w.cell? (ad.add j)=some u):=by
  intro j u hu
  rw [List.getElem?_map] at hu
  obtain ⟨x,hx2,rfl⟩:=Option.map_eq_some_iff.1 hu
  exact hx.out j x hx2
 clear hP hown hx cz
 go_enter Tryz.func26,Tryz.ntmps26
 go_wp2_with (at_builtin;refine wpList_append_own _ rfl _ _ 40 rfl Bs 9 i0 (.string ByteArray.empty) 1 16 Tryz.underlying40 hi hz0 hz1 hz2 rfl (by decide) _ _ _ rfl HO.out ad xs.length c (xs.map Value.string) rfl (by simp) HX.out (FO xs) (by unfold maxLen;omega) (by omega) jW ?_)
 intro v' w1 hown' hgrow _
 have HG:Hid (w.grownBy w1 v.ownBlock):=hgrow
 have hP1:w1.heap[P]?=some (.cells #[v,mv] 44 (0,0)):=(hgrow.block P (lt_of_block HP.out) (fun e=>by have:=(HO.out.lt P e.symm).1;omega)).trans HP.out
 have eG:Hid (w1.heap[P]?=some (.cells #[v,mv] 44 (0,0))):=hP1
 have vF:Hid (w1.ownsRow Bs 9 1 v' (ws++xs).length ((ws++xs).map Value.string)):=by rw [List.length_append,List.map_append];exact hown'
 have HF:Hid (Fr P Bs w (w1.setCell ⟨P,0,none⟩ v')):=Wq HO.out hgrow v'
 clear c0 c1 f0 f1
 obtain ⟨c0,c1,f0,f1⟩:=bE hP1
 have hv:(∃ n cap,v'=.slice none n cap)∨∃ g n cap,v'=.slice (some ⟨g,0,none⟩) n cap:=by
  rcases hown'.2 with ⟨h,_⟩ | ⟨g,cap,cur,h,_⟩
  ·exact .inl ⟨0,0,h⟩
  ·exact .inr ⟨g,_,cap,h⟩
 clear hP1 hown' hgrow
 rcases hv with ⟨n,cap,rfl⟩ | ⟨g,n,cap,rfl⟩
 all_goals
  go_wp2
  go_end0
  exact ⟨rfl,⟨_,Wn eG.out,Wp vF.out pQ _⟩,HF.out⟩
namespace Sy
def aW (k:Int):Int:=if k=18 then 1 else if k=17 then 2 else if 11≤k∧k≤16 then 3 else if k=6∨k=7 then 4 else if 8≤k∧k≤10 then 5 else 0
def iT (k:Int):Int:=if 0<aW k then aW k else 6
def table:List (Int × ByteArray × Int):=[(18,⟨#[111,114]⟩,1),(17,⟨#[97,110,100]⟩,2),(11,⟨#[61,61]⟩,3),(12,⟨#[33,61]⟩,3),(13,⟨#[60]⟩,3),(14,⟨#[60,61]⟩,3),(15,⟨#[62]⟩,3),(16,⟨#[62,61]⟩,3),(6,⟨#[43]⟩,4),(7,⟨#[45]⟩,4),(8,⟨#[42]⟩,5),(9,⟨#[47]⟩,5),(10,⟨#[37]⟩,5)]
def sign (k:Int):ByteArray:=((table.find? (fun p=>p.1==k)).map (fun p=>p.2.1)).getD ⟨#[]⟩
end Sy
abbrev nP (p:Int × ByteArray × Int):Value:=.agg #[.int .i64 p.1,.string p.2.1,.int .i64 p.2.2]
def entries:List MapEntry:=(Sy.table.zipIdx).map fun (p,i)=>{ key:=.int .i64 p.1,val:=nP p,born:=i }
def mM (w:World)(M:Nat):Prop:=w.heap[M]?=some (.map entries.toArray 13)
def uj (k:Int):Value:=.agg #[.int .i64 (if 0<Sy.aW k then k else 0),.string (Sy.sign k),.int .i64 (Sy.aW k)]
theorem Ws (k:Int):(∃ i,Instr.findNow (.int .i64) (.int .i64 k) entries 0=some (some (i,uj k)))∨(Instr.findNow (.int .i64) (.int .i64 k) entries 0=some none∧uj k=.agg #[.int .i64 0,.string ⟨#[]⟩,.int .i64 0]):=by
 by_cases h18:k=18
 ·subst h18;exact .inl ⟨0,rfl⟩
 by_cases FP:k=17
 ·subst FP;exact .inl ⟨1,rfl⟩
 by_cases h11:k=11
 ·subst h11;exact .inl ⟨2,rfl⟩
 by_cases h12:k=12
 ·subst h12;exact .inl ⟨3,rfl⟩
 by_cases FQ:k=13
 ·subst FQ;exact .inl ⟨4,rfl⟩
 by_cases FR:k=14
 ·subst FR;exact .inl ⟨5,rfl⟩
 by_cases nI:k=15
 ·subst nI;exact .inl ⟨6,rfl⟩
 by_cases h16:k=16
 ·subst h16;exact .inl ⟨7,rfl⟩
 by_cases h6:k=6
 ·subst h6;exact .inl ⟨8,rfl⟩
 by_cases h7:k=7
 ·subst h7;exact .inl ⟨9,rfl⟩
 by_cases h8:k=8
 ·subst h8;exact .inl ⟨10,rfl⟩
 by_cases h9:k=9
 ·subst h9;exact .inl ⟨11,rfl⟩
 by_cases h10:k=10
 ·subst h10;exact .inl ⟨12,rfl⟩
 right
 constructor
 ·have e:∀ n:Int,k≠n→(k==n)=false:=fun n h=>by simp;omega
  simp [entries,Sy.table,Instr.findNow,Instr.sameNow,e _ h18,e _ FP,e _ h11,e _ h12,e _ FQ,e _ FR,e _ nI,e _ h16,e _ h6,e _ h7,e _ h8,e _ h9,e _ h10]
 ·have hl:Sy.aW k=0:=by
   unfold Sy.aW
   repeat' split
   all_goals omega
  have hs:Sy.sign k=⟨#[]⟩:=by
   unfold Sy.sign Sy.table
   simp only [List.find?_cons,List.find?_nil]
   have e:∀ n:Int,k≠n→(n==k)=false:=fun n h=>by simp;omega
   simp only [e _ h18,e _ FP,e _ h11,e _ h12,e _ FQ,e _ FR,e _ nI,e _ h16,e _ h6,e _ h7,e _ h8,e _ h9,e _ h10]
   rfl
  unfold uj
  rw [hl,hs];rfl
theorem FT (M:Nat)(k:Int)(w:World)(h:mM w M):(Instr.lookup 38 (.map (some M)) (.int .i64 k) false).run Tryz.prog w=.ok (uj k) w:=by
 unfold mM at h
 have hg:(getObj M).run Tryz.prog w=.ok (.map entries.toArray 13) w:=by simp [getObj,Sem.run,h]
 have hc:∀ b,(Instr.checkKey b 10000 3 (.int .i64 k)).run Tryz.prog w=.ok () w:=fun b=>MapKept.run_checkKey (n:=9999) Tryz.underlying3 (by simp [MapKept.IsKey]) b
 have hu:=run_underlying (w:=w) Tryz.underlying38
 rcases Ws k with ⟨i,hf⟩ | ⟨hf,hz⟩
 ·have hk:=MapKept.run_findKey (P:=Tryz.prog) (w:=w) (kt:=3) Tryz.underlying3 hf
  simp [Instr.lookup,hu,hg,hc,hk]
 ·have hk:=MapKept.run_findKey (P:=Tryz.prog) (w:=w) (kt:=3) Tryz.underlying3 hf
  have hzv:(zeroValue 75).run Tryz.prog w=.ok (uj k) w:=by rw [hz];kernel_rfl
  simp [Instr.lookup,hu,hg,hc,hk,hzv]
def um:List Value:=Sy.table.flatMap fun p=>[.int .i64 p.1,.string p.2.1,.int .i64 p.2.2]
def zA (w:World)(G:Nat):Prop:=∃ fr,w.heap[G]?=some (.cells um.toArray 76 fr)
theorem Wt (M k:Nat)(w:World)(p:Int × ByteArray × Int)(hp:Sy.table[k]?=some p)(h:w.heap[M]?=some (.map (entries.take k).toArray k)) :
  (Instr.mapUpdate 38 (.map (some M)) (.int .i64 p.1) (nP p)).run Tryz.prog w=.ok () { w with heap:=w.heap.setIfInBounds M (.map (entries.take (k+1)).toArray (k+1)) }:=by
 have hg:(getObj M).run Tryz.prog w=.ok (.map (entries.take k).toArray k) w:=by simp [getObj,Sem.run,h]
 have hc:∀ b,(Instr.checkKey b 10000 3 (.int .i64 p.1)).run Tryz.prog w=.ok () w:=fun b=>MapKept.run_checkKey (n:=9999) Tryz.underlying3 (by simp [MapKept.IsKey]) b
 have hu:=run_underlying (w:=w) Tryz.underlying38
 have xM:k<13:=by have:=(List.getElem?_eq_some_iff.1 hp).1;simpa [Sy.table] using this
 have hf:Instr.findNow (.int .i64) (.int .i64 p.1) (entries.take k) 0=some none:=by
  rcases (show k=0∨k=1∨k=2∨k=3∨k=4∨k=5∨k=6∨k=7∨k=8∨k=9∨k=10∨k=11∨k=12 by omega) with rfl | rfl | rfl | rfl | rfl | rfl | rfl | rfl | rfl | rfl | rfl | rfl | rfl <;>
   (simp only [Sy.table,List.getElem?_cons_zero,List.getElem?_cons_succ,Option.some.injEq] at hp;subst hp;rfl)
 have he:(entries.take (k+1))=entries.take k++[{ key:=.int .i64 p.1,val:=nP p,born:=k }]:=by
  rcases (show k=0∨k=1∨k=2∨k=3∨k=4∨k=5∨k=6∨k=7∨k=8∨k=9∨k=10∨k=11∨k=12 by omega) with rfl | rfl | rfl | rfl | rfl | rfl | rfl | rfl | rfl | rfl | rfl | rfl | rfl <;>
   (simp only [Sy.table,List.getElem?_cons_zero,List.getElem?_cons_succ,Option.some.injEq] at hp;subst hp;rfl)
 have hk:=MapKept.run_findKey (P:=Tryz.prog) (w:=w) (kt:=3) Tryz.underlying3 hf
 have hs:=MapKept.run_setObj_map (P:=Tryz.prog) (.map (entries.take (k+1)).toArray (k+1)) h
 rw [he] at hs
 simp [Instr.mapUpdate,hu,hg,hc,hk,hs,he]
theorem zA.keep {w w':World}{G B:Nat}(h:zA w G)(hb:Below B w w')(hG:G<B):zA w' G:=h.elim fun fr h=>⟨fr,(hb.block G hG).trans h⟩
theorem zA.lt {w:World}{G:Nat}(h:zA w G):G<w.heap.size:=h.elim fun _ h=>lt_of_block h
theorem Mi (k:Nat)(p:Int × ByteArray × Int)(hp:Sy.table[k]?=some p)(w:World):(Instr.index 76 (.agg um.toArray) (.int .i64 (k:Int))).run Tryz.prog w=.ok (nP p) w:=by
 have xM:k<13:=by have:=(List.getElem?_eq_some_iff.1 hp).1;simpa [Sy.table] using this
 rcases (show k=0∨k=1∨k=2∨k=3∨k=4∨k=5∨k=6∨k=7∨k=8∨k=9∨k=10∨k=11∨k=12 by omega) with rfl | rfl | rfl | rfl | rfl | rfl | rfl | rfl | rfl | rfl | rfl | rfl | rfl <;>
  (simp only [Sy.table,List.getElem?_cons_zero,List.getElem?_cons_succ,Option.some.injEq] at hp;subst hp;simp [Instr.index,go_sem,um,Sy.table,part])
theorem map_set {w:World}{M:Nat}{o o':Obj}(h:w.heap[M]?=some o)(B:Nat)(hB:B≤M):({ w with heap:=w.heap.setIfInBounds M o' }:World).heap[M]?=some o'∧Below B w { w with heap:=w.heap.setIfInBounds M o' }:=by
 obtain ⟨h1,h2⟩:=MapKept.heap_set (o':=o') h
 exact ⟨h1,rfl,rfl,rfl,by simp,fun k hk=>h2 k (by omega)⟩
end Go.Proofs.YtolfleeidpeomaaGreatDoor
