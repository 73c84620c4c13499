/- A task,plainly: its threads,and a step of it. -/
import Derived.Test.YtfcpglhpolpdcaaGreatDoorM3
import Derived.Test.YtfcpglhpolpdcaaGreatDoorRows
import Derived.WalkKit
import Derived.WalkSpells
import Derived.WalkLawsBesides
import Derived.Deep.QuietTactic
import Derived.BigQuiet
import Derived.Deep.RegionHeld3
import Derived.Laws.CopyOwn
set_option maxHeartbeats 400000
namespace Go.Proofs.YtfcpglhpolpdcaaGreatDoor
namespace Vm
open Vf
structure Wk where
 u:Nat
 pc:Nat
 base:Nat
structure Th where
 ws:List Int
 fs:List Wk
 stands:Nat
 up:Option Nat
structure Ev where
 kind:Int
 box:Int
 v:Int
structure Tk where
 ae:List Th
 hand:Nat
 out:List Int
 over:Nat
 trap:Nat
 log:List Ev
def wrap (x:Int):Int:=Go.RowKit.wrap64 x
def Wq:Th:=⟨[],[],0,none⟩
def Tk.th (t:Tk)(i:Nat):Th:=(t.ae[i]?).getD Wq
def Tk.top (t:Tk):Th:=t.th t.hand
def Tk.set (t:Tk)(i:Nat)(h:Th):Tk:={ t with ae:=t.ae.set i h }
def Tk.note (t:Tk)(e:Ev):Tk:={ t with log:=t.log++[e] }
def Tk.fall (t:Tk)(n:Nat):Tk:={ t with over:=5,trap:=n,log:=t.log++[⟨5,0,n⟩] }
def Tk.words (t:Tk)(ws:List Int):Tk:=t.set t.hand { t.top with ws:=ws }
def Tk.put (t:Tk)(v:Int):Tk:=if t.top.ws.length=400 then t.fall 4 else t.words (t.top.ws++[v])
def Tk.last (t:Tk):Int:=(t.top.ws.getLast?).getD 0
def Tk.cut (t:Tk):Tk:=t.words t.top.ws.dropLast
def Tk.frame (t:Tk):Wk:=(t.top.fs.head?).getD ⟨0,0,0⟩
def Tk.ins (m:Md)(t:Tk):Ins:=((unit m t.frame.u).code[t.frame.pc]?).getD ⟨0,0,0⟩
def Tk.goto (t:Tk)(n:Nat):Tk:=t.set t.hand { t.top with fs:={ t.frame with pc:=n } :: t.top.fs.tail }
def yes (b:Bool):Int:=if b then 1 else 0
def holds (op a b:Int):Bool :=
 if op=13 then a==b else if op=14 then a != b else if op=15 then decide (a<b) else if op=16 then decide (a≤b)
 else if op=17 then decide (b<a) else if op=18 then decide (b≤a) else if op=19 then a != 0 && b != 0 else a != 0 || b != 0
def two (op a b:Int):Int :=
 if op=8 then wrap (a+b) else if op=9 then wrap (a - b) else if op=10 then wrap (a * b)
 else if op=11 then wrap (a.tdiv b) else if op=12 then a.tmod b else yes (holds op a b)
def gQ (u:Un)(n:Nat)(ps:List Int):Th:=⟨ps++List.replicate (u.locals.length - u.params.toNat) 0,[⟨n,0,0⟩],0,none⟩
def Tk.call (m:Md)(t:Tk)(n:Nat):Tk :=
 if t.top.fs.length=40 then t.fall 4
 else if t.top.ws.length+((unit m n).locals.length - (unit m n).params.toNat)≤400 then
  t.set t.hand { t.top with ws:=t.top.ws++List.replicate ((unit m n).locals.length - (unit m n).params.toNat) 0,fs:=⟨n,0,t.top.ws.length - (unit m n).params.toNat⟩ :: t.top.fs }
 else (t.words (t.top.ws++List.replicate (400 - t.top.ws.length) 0)).fall 4
def Tk.leave (t:Tk):Tk:=t.set t.hand { t.top with ws:=t.top.ws.take t.frame.base,fs:=t.top.fs.tail }
def Tk.ret (t:Tk):Tk:=t.cut.leave.put t.last
def Tk.less (t:Tk)(n:Nat):Tk:=t.words (t.top.ws.take (t.top.ws.length - n))
def Tk.start (m:Md)(t:Tk)(n:Nat):Tk :=
 let t1:=t.less (unit m n).params.toNat
 if t.ae.length=31 then t1.fall 5
 else (({ t1 with ae:=t1.ae++[gQ (unit m n) n (t.top.ws.drop (t.top.ws.length - (unit m n).params.toNat))] }:Tk).note ⟨6,0,n⟩).put t.ae.length
def Tk.give (t:Tk)(stands:Nat)(v:Int):Tk :=
 let t1:=t.set t.hand { t.top with stands:=stands }
 ({ t1 with hand:=t.top.up.getD 0 }:Tk).put v
def Tk.fin (t:Tk):Tk:=if t.hand=0 then ({ t with over:=4 }:Tk).note ⟨4,0,0⟩ else t.give 3 0
def Tk.resume (t:Tk):Tk :=
 let t1:=t.cut
 let j:=t1.last.toNat
 let t2:=t1.cut
 if (t2.th j).stands=3 then t2.fall 2
 else if (t2.th j).stands=2 then t2.fall 3
 else
  let t3:Tk:={ t2.set j { t2.th j with stands:=2,up:=some t2.hand } with hand:=j }
  if (t2.th j).stands=1 then t3.put t.last else t3
def Tk.alive (t:Tk):Tk:=t.cut.put (yes ((t.cut.th t.last.toNat).stands != 3))
def Tk.reckon (t:Tk)(op:Int):Tk :=
 if t.last=0∧(op=11∨op=12) then t.cut.cut.fall 1 else t.cut.cut.put (two op t.cut.last t.last)
def Tk.act (m:Md)(c:Ins)(t:Tk)(rv:Int):Tk :=
 if c.op=1 then t.put c.n
 else if c.op=2 then t.put c.a
 else if c.op=3 then t.put ((t.top.ws[t.frame.base+c.a.toNat]?).getD 0)
 else if c.op=4 then t.words (t.top.ws.dropLast.set (t.frame.base+c.a.toNat) t.last)
 else if c.op=5 then t.cut
 else if c.op=6 then t.cut.put (wrap (-t.last))
 else if c.op=7 then t.cut.put (wrap (1 - t.last))
 else if c.op=21 then t.goto c.a.toNat
 else if c.op=22 then if t.last=0 then t.cut.goto c.a.toNat else t.cut
 else if c.op=26 then t.cut.note ⟨2,c.a,t.last⟩
 else if c.op=27 then (t.note ⟨3,c.a,rv⟩).put rv
 else if c.op=28 then ({ t.cut with out:=t.out++[t.last] }:Tk).note ⟨1,0,t.last⟩
 else if c.op=23 then t.call m c.a.toNat
 else if c.op=24 then t.ret
 else if c.op=29 then t.start m c.a.toNat
 else if c.op=30 then t.resume
 else if c.op=31 then t.cut.give 1 t.last
 else if c.op=25 then t.fin
 else if c.op=32 then t.alive
 else t.reckon c.op
def Tk.step (m:Md)(t:Tk)(rv:Int):Tk:=(t.goto (t.frame.pc+1)).act m (t.ins m) rv
def zw (u:Un)(n:Nat):Tk:=⟨[{ gQ u n [] with stands:=2 }],0,[],0,0,[]⟩
structure Safe (m:Md) (t:Tk):Prop where
 hand:t.hand<t.ae.length
 some:∃ f r,t.top.fs=f :: r∧∃ u c,m.units[f.u]?=some u∧u.code[f.pc]?=some c ∧
  (c.op=23∨c.op=29→(unit m c.a).params≤t.top.ws.length)∧f.base≤t.top.ws.length∧(c.op=3∨c.op=4→0≤c.a∧c.a<200) ∧
  (c.op=24→r≠[]∧f.base<t.top.ws.length)∧(c.op=30→0≤t.cut.last∧t.cut.last.toNat<t.ae.length)∧(c.op=32→0≤t.last∧t.last.toNat<t.ae.length) ∧
  (c.op=31∨c.op=25∧t.hand≠0→∃ j,t.top.up=some j∧j<t.ae.length) ∧
  (∀ (i:Nat) h k,t.ae[i]?=some h→h.up=some k→k<t.ae.length)
end Vm
namespace Sk
structure Op where
 kind:Int
 n:Int
 v:Int
def err (most c:Nat)(o:Op):Nat :=
 if o.kind=1 then (if c=most then 4 else 0)
 else if o.kind=2 then (if o.n<0∨(c:Int)<o.n then 3 else 0)
 else if o.kind=3 then (if o.n<0∨(c:Int)≤o.n then 3 else 0)
 else 1
def qo (ws:List Int)(o:Op):List Int :=
 if o.kind=1 then ws++[o.v]
 else if o.kind=2 then ws.take (ws.length - o.n.toNat)
 else if o.kind=3 then ws.set o.n.toNat o.v
 else ws
def rm (mn most r c:Nat)(o:Op):Nat :=
 if o.kind=1 then (if c=r then min (2 * r) most else r)
 else if o.kind=2 then (if c - o.n.toNat≤r / 4∧mn<r then max (r / 2) mn else r)
 else r
def go (mn most:Nat):List Op→Nat→List Int→Nat→List Nat→List Int × List Nat × Nat × Nat
 | [],_,ws,_,rs=>(ws,rs,0,0)
 | o :: l,i,ws,r,rs=>if err most ws.length o=0 then go mn most l (i+1) (qo ws o) (rm mn most r ws.length o) (rs++[rm mn most r ws.length o]) else ([],[],err most ws.length o,i)
def Fits (mn most:Nat)(c r:Nat):Prop:=c≤r∧r≤most∧mn≤r∧1≤mn∧most≤400
theorem Ws {mn most r:Nat}{ws:List Int}{o:Op}(h:Fits mn most ws.length r)(he:err most ws.length o=0):Fits mn most (qo ws o).length (rm mn most r ws.length o):=by
 obtain⟨h1,h2,h3,h4,h5⟩:=h;unfold err at he;unfold Fits qo rm;by_cases k1:o.kind=1
 ·simp only[if_pos k1] at he ⊢
  by_cases hm:ws.length=most
  ·rw[if_pos hm] at he;omega
  ·rw[if_neg hm] at he
   have e1:(ws++[o.v]).length=ws.length+1:=by simp
   rw[e1];by_cases hr:ws.length=r
   ·rw[if_pos hr];omega
   ·rw[if_neg hr];omega
 ·simp only[if_neg k1] at he ⊢
  by_cases k2:o.kind=2
  ·simp only[if_pos k2] at he ⊢
   have e1:(ws.take (ws.length - o.n.toNat)).length=ws.length - o.n.toNat:=by simp
   rw[e1];by_cases hc:ws.length - o.n.toNat≤r / 4∧mn<r
   ·rw[if_pos hc];omega
   ·rw[if_neg hc];omega
  ·simp only[if_neg k2] at he ⊢
   by_cases k3:o.kind=3
   ·simp only[if_pos k3] at he ⊢
    have e1:(ws.set o.n.toNat o.v).length=ws.length:=by simp
    rw[e1];omega
   ·simp only[if_neg k3] at he ⊢;omega
theorem Gq {mn most:Nat}:∀ (l:List Op) (i:Nat) (ws:List Int) (r:Nat) (rs:List Nat),(go mn most l i ws r rs).2.2.1≠0→(go mn most l i ws r rs).1=[]∧(go mn most l i ws r rs).2.1=[]
 | [],_,_,_,_,h=>by simp[go] at h
 | o :: l,i,ws,r,rs,h=>by
  rw[go] at h ⊢;by_cases he:err most ws.length o=0
  ·rw[if_pos he] at h ⊢;exact Gq l _ _ _ _ h
  ·rw[if_neg he];exact⟨rfl,rfl⟩
end Sk
end Go.Proofs.YtfcpglhpolpdcaaGreatDoor
namespace Go.Proofs.YtfcpglhpolpdcaaGreatDoor.Sb
open Go.RowKit
theorem Tryz.qp:(Tryz.prog.info? 2).map (fun i=>(i.zero,i.size,i.bytes))=some (some (.int .i64 0),1,8):=by kernel_rfl
theorem Tryz.info3:(Tryz.prog.info? 3).map (fun i=>(i.zero,i.size,i.bytes))=some (some (.int .i64 0),1,8):=by kernel_rfl
abbrev mg (g:Nat) (c r mn most:Nat):Obj:=.cells #[.slice (some ⟨g,0,none⟩) r r,.int .i64 c,.int .i64 mn,.int .i64 most] 277 (0,0)
abbrev ints (l:List Int):List Value:=l.map (.int .i64)
def CK (w:World)(g:Nat)(ws:List Int)(r:Nat):Prop:=∃ cs:List Value,w.heap[g]?=some (.cells cs.toArray 2 (0,0))∧cs.length=r∧cs.take ws.length=ints ws
def SK (w:World)(S g:Nat)(ws:List Int)(r mn most:Nat):Prop:=w.heap[S]?=some (mg g ws.length r mn most)∧CK w g ws r∧Sk.Fits mn most ws.length r
theorem SK.cells {w:World}{S g:Nat}{ws:List Int}{r mn most:Nat}(h:SK w S g ws r mn most) :
  w.cell? ⟨S,0,none⟩=some (.slice (some ⟨g,0,none⟩) r r)∧w.cell? ⟨S,1,none⟩=some (.int .i64 ws.length)∧w.cell? ⟨S,2,none⟩=some (.int .i64 mn)∧w.cell? ⟨S,3,none⟩=some (.int .i64 most):=by
 have h:=h.1;simp[World.cell?,h]
theorem SK.free {w:World}{S g:Nat}{ws:List Int}{r mn most:Nat}(h:SK w S g ws r mn most):w.frozen? ⟨S,0,none⟩=false∧w.frozen? ⟨S,1,none⟩=false:=by
 have h:=h.1;simp[World.frozen?,h]
theorem SK.ne {w:World}{S g:Nat}{ws:List Int}{r mn most:Nat}(h:SK w S g ws r mn most):S≠g:=by
 rintro rfl;obtain⟨cs,hc,_⟩:=h.2.1;have h1:=h.1;rw[hc] at h1;simp at h1
structure Mv (w w':World) (S g:Nat):Prop where
 os:w'.os=w.os
 tape:w'.tape=w.tape
 output:w'.output=w.output
 size:w.heap.size≤w'.heap.size
 block:∀ k,k<w.heap.size→k≠S→k≠g→w'.heap[k]?=w.heap[k]?
theorem Mv.refl (w:World)(S g:Nat):Mv w w S g:=⟨rfl,rfl,rfl,Nat.le_refl _,fun _ _ _ _=>rfl⟩
theorem Mv.drew {w w':World}{S g:Nat}(h:Mv w w' S g):Mv w w'.drew S g:=⟨h.os,h.tape,h.output,h.size,h.block⟩
theorem Mv.set {w w':World}{S g:Nat}(h:Mv w w' S g){a:Addr}(ha:a.block=S∨a.block=g∨w.heap.size≤a.block)(u:Value):Mv w (w'.setCell a u) S g :=
 ⟨h.os,h.tape,h.output,by simpa[World.setCell] using h.size,fun k hk h1 h2=>(Below.heap_setCell _ _ _ _ (by omega)).trans (h.block k hk h1 h2)⟩
theorem Mv.alloc {w w':World}{S g:Nat}(h:Mv w w' S g)(o:Obj):Mv w (w'.alloc o) S g :=
 ⟨h.os,h.tape,h.output,by have:=h.size;simp;omega,fun k hk h1 h2=>(Below.heap_alloc _ _ _ (by have:=h.size;omega)).trans (h.block k hk h1 h2)⟩
theorem Mv.of_below {w w':World}(S g:Nat)(h:Below w.heap.size w w'):Mv w w' S g:=⟨h.os,h.tape,h.output,h.size,fun k hk _ _=>h.block k hk⟩
theorem ug (S g:Nat)(ws:List Int)(r mn most:Nat)(w:World)(h:Hid (SK w S g ws r mn most)) :
  Calls Tryz.prog 180 #[.pointer (some ⟨S,0,none⟩)] w fun e w'=>e=.returned (.int .i64 r)∧w'=w:=by
 obtain⟨c0,c1,c2,c3⟩:=h.out.cells;go_enter Tryz.func180,Tryz.ntmps180
 go_wp2
 go_ret
 exact⟨rfl,rfl⟩
theorem Db (ws:List Int):∀ v ∈ ints ws,v.oneCell'=true:=by
 intro v hv;obtain⟨x,_,rfl⟩:=List.mem_map.1 hv;rfl
theorem CK.cellAt {w:World}{g:Nat}{ws:List Int}{r:Nat}(h:CK w g ws r):∀ j v,(ints ws)[j]?=some v→w.cell? ((⟨g,0,none⟩:Addr).add j)=some v:=by
 obtain⟨cs,hc,hl,ht⟩:=h;intro j v hv;have hadd:(⟨g,0,none⟩:Addr).add j=⟨g,j,none⟩:=by unfold Addr.add;split<;>simp_all
 rw[hadd];rw[← ht,List.getElem?_take] at hv;split at hv
 ·simp[World.cell?,hc,hv]
 ·simp at hv
theorem Wt {w:World}{S g c r mn most:Nat}(h:w.heap[S]?=some (mg g c r mn most))(g' q:Nat):(w.setCell ⟨S,0,none⟩ (.slice (some ⟨g',0,none⟩) q q)).heap[S]?=some (mg g' c q mn most):=by
 simp only[World.setCell,Array.getElem?_modify,if_true,h,Option.map_some];rfl
theorem Gs {w:World}{S g c c' r mn most:Nat}(h:w.heap[S]?=some (mg g c r mn most)){v:Int}(hv:v=c'):(w.setCell ⟨S,1,none⟩ (.int .i64 v)).heap[S]?=some (mg g c' r mn most):=by
 subst hv;simp only[World.setCell,Array.getElem?_modify,if_true,h,Option.map_some];rfl
theorem CK.far {w w':World}{g:Nat}{ws:List Int}{r:Nat}(e:w'.heap[g]?=w.heap[g]?)(h:CK w g ws r):CK w' g ws r:=by
 obtain⟨cs,hc,hr⟩:=h;exact⟨cs,e.trans hc,hr⟩
theorem Wu {w:World}{g q:Nat}{ws:List Int}{cs0:List Value}(h:w.heap[g]?=some (.cells (splice cs0 0 (ints ws)).toArray 2 (0,0)))(hl:ws.length≤q)(h0:cs0.length=q):CK w g ws q:=by
 refine⟨_,h,?_,?_⟩
 ·rw[length_splice _ _ _ (by simp;omega),h0]
 ·simp[splice]
theorem MN (S g:Nat)(ws:List Int)(r q mn most:Nat)(w:World)(h:Hid (SK w S g ws r mn most))(h1:ws.length≤q)(h2:q≤400) :
  Calls Tryz.prog 181 #[.pointer (some ⟨S,0,none⟩),.int .i64 q] w fun e w'=>e=.returned (.tuple #[])∧w'.heap[S]?=some (mg w.heap.size ws.length q mn most)∧CK w' w.heap.size ws q∧Mv w w' S g:=by
 obtain⟨c0,c1,c2,c3⟩:=h.out.cells;obtain⟨f0,f1⟩:=h.out.free;have hS:=lt_of_block h.out.1;have hfit:=h.out.2.2;unfold Sk.Fits at hfit;obtain⟨h3,h4,h5,h6,h7⟩:=hfit;obtain⟨i0,hi,hz0,hz1,hz2⟩:=info_parts Tryz.qp;go_enter Tryz.func181,Tryz.ntmps181
 go_wp2_with (at_make;refine wpList_make_full _ rfl _ _ 38 rfl w.heap.size 2 i0 (.int .i64 0) 1 Tryz.underlying38 hi hz0 hz1 _ _ _ _ q rfl rfl rfl rfl (by rw[hz2];omega) (by unfold maxLen;omega) (Nat.le_refl _) ?_;intro w1 hown hgrow)
 have hb1:Below w.heap.size w w1:=⟨hgrow.os,hgrow.tape,hgrow.output,hgrow.size,fun k hk=>hgrow.block k hk (by simp)⟩;obtain⟨cs0,Wv,HG⟩:∃ cs0:List Value,cs0.length=q∧Hid (w1.heap[w.heap.size]?=some (.cells cs0.toArray 2 (0,0))):=by
  rcases hown.2 with⟨hv,_⟩ | ⟨g',cap,cur,hv,_,hh,_,_,hc,_⟩
  ·simp at hv
  ·simp at hv
   obtain⟨rfl,rfl⟩:=hv;refine⟨cur.toList,by simpa using hc,?_⟩;exact hh
 have d0:w1.cell? ⟨S,0,none⟩=some (.slice (some ⟨g,0,none⟩) r r):=(hb1.cell (p:=⟨S,0,none⟩) hS).trans c0;have d1:w1.cell? ⟨S,1,none⟩=some (.int .i64 ws.length):=(hb1.cell (p:=⟨S,1,none⟩) hS).trans c1;have Ww:Hid (CK w1 g ws r):=by
  obtain⟨cs,hc,r1⟩:=h.out.2.1;exact⟨cs,(hb1.block g (lt_of_block hc)).trans hc,r1⟩
 have dM:Hid (w1.heap[S]?=some (mg g ws.length r mn most)):=(hb1.block S hS).trans h.out.1;have HB1:Hid (Below w.heap.size w w1):=hb1;have n0:(0:Int)≤(ws.length:Int):=by omega
 have n1:(ws.length:Int)≤(r:Int):=by omega
 have C0:Hid (w.cell? ⟨S,0,none⟩=some (.slice (some ⟨g,0,none⟩) r r)):=c0;have C1:Hid (w.cell? ⟨S,1,none⟩=some (.int .i64 ws.length)):=c1;have F0:Hid (w.frozen? ⟨S,0,none⟩=false):=f0;clear hown hgrow hb1 c0 c1 c2 c3 f0 f1;go_region_held3 (fun w'=>w'.cell? ⟨S,0,none⟩=some (.slice (some ⟨g,0,none⟩) r r)∧w'.cell? ⟨S,1,none⟩=some (.int .i64 ws.length)) (go_keep)
  ((refine step_copy_splice rfl (.tmp 7) (.tmp 16) 38 38 rfl 2 Tryz.underlying38 (by rw[hi];simp[hz1]) _ _ q q ws.length r (by simp[Act.eval]) (by simp[Act.eval]) w.heap.size 0 cs0 2 HG.out (ints ws) (by simp[Nat.min_def];omega) (fun _=>⟨rfl,_,rfl,Ww.out.cellAt⟩) (by simp;omega) (Db ws) w.heap.size w HB1.out.drew (Nat.le_refl _) ?_;intro w2 hG2 hB2;have d0:w2.cell? ⟨S,0,none⟩=some (.slice (some ⟨g,0,none⟩) r r):=(hB2.cell (p:=⟨S,0,none⟩) hS).trans C0.out;have d1:w2.cell? ⟨S,1,none⟩=some (.int .i64 ws.length):=(hB2.cell (p:=⟨S,1,none⟩) hS).trans C1.out;have f0:w2.frozen? ⟨S,0,none⟩=false:=(hB2.frozen (p:=⟨S,0,none⟩) hS).trans F0.out;have HB2:Hid (Below w.heap.size w w2):=hB2;clear hB2))
 go_wp2
 go_end0
 refine⟨rfl,Wt ((HB2.out.block S hS).trans h.out.1) _ _,CK.far ?_ (Wu hG2.out (by omega) Wv),(Mv.of_below S g HB2.out).set (.inl rfl) _⟩;exact Below.heap_setCell _ _ _ _ (by show w.heap.size≠S;omega)
end Go.Proofs.YtfcpglhpolpdcaaGreatDoor.Sb
