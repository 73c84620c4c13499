/- The reader in memory;the walks of the cursor. -/
import Derived.Test.YtolfleeidpeomaaGreatDoorM4
import Derived.Deep.RegionHeld3
set_option maxRecDepth 100000
set_option maxHeartbeats 1000000
namespace Go.Proofs.YtolfleeidpeomaaGreatDoor
open Go.RowKit
def RD (w:World)(R:Nat)(ta:Option Addr)(tc:Nat)(l:List Lx.Tk)(p en:Nat)(mv:Value)(op:Int):Prop :=
 w.heap[R]?=some (.cells #[.slice ta l.length tc,.int .i64 p,.int .i64 en,mv,.int .i64 op] 61 (0,0))
def gq (B:Nat)(w:World)(l:List Lx.Tk)(ta:Option Addr):Prop :=
 l.length≤6000∧∀ i t,l[i]?=some t→∃ b off,ta=some ⟨b,off,none⟩∧b<B∧w.cell? ⟨b,off+i * 4,none⟩=some (.int .i64 t.kind)∧w.cell? ⟨b,off+i * 4+1,none⟩=some (.string t.text) ∧
  w.cell? ⟨b,off+i * 4+2,none⟩=some (.int .i64 t.num)∧w.cell? ⟨b,off+i * 4+3,none⟩=some (.int .i64 t.pos)∧t.text.size≤maxLen
abbrev tT (t:Lx.Tk):Value:=.agg #[.int .i64 t.kind,.string t.text,.int .i64 t.num,.int .i64 t.pos]
def pk (l:List Lx.Tk)(p en:Nat):Lx.Tk:=(l[p]?).getD ⟨0,⟨#[]⟩,0,en⟩
theorem RD.cells {w:World}{R:Nat}{ta:Option Addr}{tc:Nat}{l:List Lx.Tk}{p en:Nat}{mv:Value}{op:Int}(h:RD w R ta tc l p en mv op) :
  w.cell? ⟨R,0,none⟩=some (.slice ta l.length tc)∧w.cell? ⟨R,1,none⟩=some (.int .i64 p)∧w.cell? ⟨R,2,none⟩=some (.int .i64 en)∧w.frozen? ⟨R,1,none⟩=false:=by
 unfold RD at h
 simp [World.cell?,World.frozen?,h]
theorem zt (R:Nat)(ta:Option Addr)(tc:Nat)(l:List Lx.Tk)(p en:Nat)(mv:Value)(op:Int)(b:Bool)(w:World)(hR:Hid (RD w R ta tc l p en mv op))(hb:Hid (b=decide (p=l.length))) :
  Calls Tryz.prog 34 #[.pointer (some ⟨R,0,none⟩)] w fun e w'=>e=.returned (.bool b)∧Below w.heap.size w w':=by
 obtain ⟨c0,c1,c2,f1⟩:=hR.out.cells
 have e1:((p:Int)==(l.length:Int))=b:=by
  rw [hb.out,Bool.eq_iff_iff]
  simp
  omega
 go_enter Tryz.func34,Tryz.ntmps34
 go_wp2
 go_region
 all_goals
  go_wp2
  go_ret
  exact ⟨rfl,(Below.refl _ w).drew⟩
theorem RD.on {w w':World}{R:Nat}{ta:Option Addr}{tc:Nat}{l:List Lx.Tk}{p en:Nat}{mv:Value}{op:Int}(h:RD w R ta tc l p en mv op)(hb:Below w.heap.size w w'):RD w' R ta tc l p en mv op:=(hb.block R (lt_of_block h)).trans h
theorem RD.lt {w:World}{R:Nat}{ta:Option Addr}{tc:Nat}{l:List Lx.Tk}{p en:Nat}{mv:Value}{op:Int}(h:RD w R ta tc l p en mv op):R<w.heap.size:=lt_of_block h
theorem RD.set1 {w:World}{R:Nat}{ta:Option Addr}{tc:Nat}{l:List Lx.Tk}{p q en:Nat}{mv:Value}{op:Int}(h:RD w R ta tc l p en mv op){v:Int}(hv:v=q):RD (w.setCell ⟨R,1,none⟩ (.int .i64 v)) R ta tc l q en mv op:=by
 subst hv
 unfold RD at *
 simp only [World.setCell,Array.getElem?_modify,if_true,h,Option.map_some]
 rfl
theorem gq.on {B:Nat}{w w':World}{l:List Lx.Tk}{ta:Option Addr}(h:gq B w l ta)(hs:Go.Proofs.YtolfleeidpeomaaGreatDoor.Same B w w'):gq B w' l ta :=
 ⟨h.1,fun i t hi=>by
  obtain ⟨b,off,e,hb,c0,c1,c2,c3,hz⟩:=h.2 i t hi
  exact ⟨b,off,e,hb,(hs _ _ hb).trans c0,(hs _ _ hb).trans c1,(hs _ _ hb).trans c2,(hs _ _ hb).trans c3,hz⟩⟩
theorem qH {B:Nat}{w w':World}(h:Below w.heap.size w w')(hB:B≤w.heap.size):Go.Proofs.YtolfleeidpeomaaGreatDoor.Same B w w':=fun b o hb=>h.cell (p:=⟨b,o,none⟩) (Nat.lt_of_lt_of_le hb hB)
theorem xG (B R:Nat)(ta:Option Addr)(tc:Nat)(l:List Lx.Tk)(p en:Nat)(mv:Value)(op:Int)(t:Lx.Tk)(w:World)(hR:Hid (RD w R ta tc l p en mv op))(hT:Hid (gq B w l ta))(hB:B≤R)(hp:p≤l.length)(ht:Hid (t=pk l p en)) :
  Calls Tryz.prog 63 #[.pointer (some ⟨R,0,none⟩)] w fun e w'=>e=.returned (.agg #[.int .i64 t.kind,.string t.text,.int .i64 t.num,.int .i64 t.pos])∧Below w.heap.size w w':=by
 have hRl:=hR.out.lt
 have rO:=hT.out.1
 by_cases he:p=l.length
 ·have HT:Hid (t=⟨0,⟨#[]⟩,0,en⟩):=by
   have:=ht.out
   unfold pk at this
   rw [List.getElem?_eq_none (by omega)] at this
   exact this
  go_enter Tryz.func63,Tryz.ntmps63
  go_wp2_with fail
  refine (zt R ta tc l p en mv op true _ (hR.out.on ((Below.refl _ w).alloc (Nat.le_refl _) _)) (by rw [decide_eq_true he];rfl)).mono ?_
  rintro e w1 ⟨rfl,hb1⟩
  have HB1:Hid (Below w.heap.size w w1):=((Below.refl _ w).alloc (Nat.le_refl _) _).trans (hb1.mono (by simp))
  have hZ:w1.heap[w.heap.size]?=some Z4:=(hb1.block _ (by simp)).trans (heap_alloc_new w Z4)
  obtain ⟨z0,z1,z2,z3⟩:=jc hZ
  obtain ⟨y0,y1,y2,y3⟩:=vg hZ
  obtain ⟨c0,c1,c2,f1⟩:=(hR.out.on HB1.out).cells
  clear hb1 hZ
  go_wp2
  refine bodyPost_ret (v:=.agg #[.int .i64 0,.string ⟨#[]⟩,.int .i64 0,.int .i64 en]) (by simp [results,Tryz.results63,go_sem,z0,z1,z2,z3]) rfl ⟨by rw [HT.out];rfl,?_⟩
  exact ((((HB1.out.setCell (p:=⟨w.heap.size,0,none⟩) (Nat.le_refl _) _).setCell (p:=⟨w.heap.size,1,none⟩) (Nat.le_refl _) _).setCell (p:=⟨w.heap.size,2,none⟩) (Nat.le_refl _) _).setCell (p:=⟨w.heap.size,3,none⟩) (Nat.le_refl _) _)
 ·obtain ⟨x,hx⟩:∃ x,l[p]?=some x:=⟨_,List.getElem?_eq_getElem (by omega)⟩
  have HT:Hid (t=x):=by
   have:=ht.out
   unfold pk at this
   rw [hx] at this
   exact this
  obtain ⟨b,off,rfl,hb,q0,q1,q2,q3,hz⟩:=hT.out.2 p x hx
  clear hx
  go_enter Tryz.func63,Tryz.ntmps63
  go_wp2_with fail
  refine (zt R _ tc l p en mv op false _ (hR.out.on ((Below.refl _ w).alloc (Nat.le_refl _) _)) (by rw [decide_eq_false he];rfl)).mono ?_
  rintro e w1 ⟨rfl,hb1⟩
  have HB1:Hid (Below w.heap.size w w1):=((Below.refl _ w).alloc (Nat.le_refl _) _).trans (hb1.mono (by simp))
  have hZ:w1.heap[w.heap.size]?=some Z4:=(hb1.block _ (by simp)).trans (heap_alloc_new w Z4)
  obtain ⟨z0,z1,z2,z3⟩:=jc hZ
  obtain ⟨y0,y1,y2,y3⟩:=vg hZ
  obtain ⟨c0,c1,c2,f1⟩:=(hR.out.on HB1.out).cells
  clear hb1 hZ
  rw [← HB1.out.cell (p:=⟨b,off+p * 4,none⟩) (by show b<_;omega)] at q0
  rw [← HB1.out.cell (p:=⟨b,off+p * 4+1,none⟩) (by show b<_;omega)] at q1
  rw [← HB1.out.cell (p:=⟨b,off+p * 4+2,none⟩) (by show b<_;omega)] at q2
  rw [← HB1.out.cell (p:=⟨b,off+p * 4+3,none⟩) (by show b<_;omega)] at q3
  have hp0:(0:Int)≤(p:Int):=by omega
  have hp1:(p:Int)<(l.length:Int):=by omega
  have hne:¬ w.heap.size=R:=by omega
  have hne2:¬ w.heap.size=b:=by omega
  clear he
  go_upto_region 3 with fail
  go_region_held3 (fun w'=>w'.cell? ⟨R,0,none⟩=some (.slice (some ⟨b,off,none⟩) l.length tc)∧w'.cell? ⟨R,1,none⟩=some (.int .i64 p)∧w'.cell? ⟨b,off+p * 4,none⟩=some (.int .i64 x.kind)∧w'.cell? ⟨b,off+p * 4+1,none⟩=some (.string x.text)∧w'.cell? ⟨b,off+p * 4+2,none⟩=some (.int .i64 x.num)∧w'.cell? ⟨b,off+p * 4+3,none⟩=some (.int .i64 x.pos)) (go_keep) (fail)
  all_goals go_wp2
  all_goals refine bodyPost_ret (v:=tT x) (by simp [results,Tryz.results63,go_sem,z0,z1,z2,z3]) rfl ⟨by rw [HT.out],?_⟩
  all_goals exact ((((HB1.out.setCell (p:=⟨w.heap.size,0,none⟩) (Nat.le_refl _) _).setCell (p:=⟨w.heap.size,1,none⟩) (Nat.le_refl _) _).setCell (p:=⟨w.heap.size,2,none⟩) (Nat.le_refl _) _).setCell (p:=⟨w.heap.size,3,none⟩) (Nat.le_refl _) _).drew
theorem Vt (k n p:Int)(s:ByteArray)(w:World):(Instr.field 88 (.agg #[.int .i64 k,.string s,.int .i64 n,.int .i64 p]) 3).run Tryz.prog w=.ok (.int .i64 p) w:=by kernel_rfl
theorem Cs (k n p:Int)(s:ByteArray)(w:World):(Instr.field 88 (.agg #[.int .i64 k,.string s,.int .i64 n,.int .i64 p]) 1).run Tryz.prog w=.ok (.string s) w:=by kernel_rfl
theorem Ct (R:Nat)(ta:Option Addr)(tc:Nat)(l:List Lx.Tk)(p en:Nat)(mv:Value)(op:Int)(w:World)(hR:Hid (RD w R ta tc l p en mv op))(hp:p≤6000) :
  Calls Tryz.prog 102 #[.pointer (some ⟨R,0,none⟩)] w fun e w'=>e=.returned (.tuple #[])∧RD w' R ta tc l (p+1) en mv op∧w.grownBy w' (some R):=by
 obtain ⟨c0,c1,c2,f1⟩:=hR.out.cells
 go_enter Tryz.func102,Tryz.ntmps102
 go_wp2
 go_end0
 exact ⟨rfl,hR.out.set1 (by go_num),gQ _ _ _ _⟩
theorem tV (B R:Nat)(ta:Option Addr)(tc:Nat)(l:List Lx.Tk)(p en:Nat)(mv:Value)(op er:Int)(t:Lx.Tk)(w:World)(hR:Hid (RD w R ta tc l p en mv op))(hT:Hid (gq B w l ta))(hB:B≤R)(hp:p≤l.length)(ht:Hid (t=pk l p en)) :
  Calls Tryz.prog 64 #[.pointer (some ⟨R,0,none⟩),.int .i64 er] w fun e w'=>e=.panicked [aH er t.pos]∧Below w.heap.size w w':=by
 have hf:=Vt t.kind t.num t.pos t.text
 go_enter Tryz.func64,Tryz.ntmps64
 go_wp2_with fail
 refine (xG B R ta tc l p en mv op t _ hR hT hB hp ht).mono ?_
 rintro e w1 ⟨rfl,hb1⟩
 have HB1:Hid (Below w.heap.size w w1):=hb1
 clear hb1
 go_wp2_with fail
 refine (zo t.pos er _).mono ?_
 rintro e w2 ⟨rfl,_,rfl⟩
 go_wp2
 exact ⟨rfl,rfl,HB1.out⟩
def tk (l:List Lx.Tk)(p:Nat)(s:ByteArray):Bool:=match l[p]? with
 | some t=>decide (t.text=s)
 | none=>false
theorem Vu {l:List Lx.Tk}{p:Nat}{s:ByteArray}(h:p=l.length):tk l p s=false:=by
 unfold tk
 rw [List.getElem?_eq_none (by omega)]
theorem Vv {l:List Lx.Tk}{p:Nat}{s:ByteArray}{t:Lx.Tk}(h:l[p]?=some t):tk l p s=decide (t.text=s):=by
 unfold tk
 rw [h]
theorem vw {a b:ByteArray}{d:Bool}(h:d=decide (a=b)):(a.toList==b.toList)=d:=by
 rw [h,toList_eq,toList_eq,Bool.eq_iff_iff]
 simp only [beq_iff_eq,decide_eq_true_eq]
 constructor
 ·intro e
  cases a;cases b
  simp only [ByteArray.mk.injEq] at *
  exact Array.toList_inj.1 e
 ·intro e;rw [e]
theorem tX (B R:Nat)(ta:Option Addr)(tc:Nat)(l:List Lx.Tk)(p en:Nat)(mv:Value)(op:Int)(s:ByteArray)(b:Bool)(q:Nat)(w:World)(hR:Hid (RD w R ta tc l p en mv op))(hT:Hid (gq B w l ta))(hB:B≤R)(hp:p≤l.length)(hb:Hid (b=tk l p s))(hq:Hid (q=if b then p+1 else p)) :
  Calls Tryz.prog 101 #[.pointer (some ⟨R,0,none⟩),.string s] w fun e w'=>e=.returned (.bool b)∧RD w' R ta tc l q en mv op∧w.grownBy w' (some R):=by
 have rO:=hT.out.1
 have hRl:=hR.out.lt
 by_cases he:p=l.length
 ·have LP:Hid (b=false):=by rw [hb.out];exact Vu he
  go_enter Tryz.func101,Tryz.ntmps101
  go_wp2_with fail
  refine (zt R ta tc l p en mv op true _ hR (by rw [decide_eq_true he];rfl)).mono ?_
  rintro e w1 ⟨rfl,hb1⟩
  have HB1:Hid (Below w.heap.size w w1):=hb1
  clear hb1
  go_wp2
  go_ret
  refine ⟨by rw [LP.out];rfl,?_,⟨HB1.out.os,HB1.out.tape,HB1.out.output,HB1.out.size,fun k hk _=>HB1.out.block k hk⟩⟩
  have e:q=p:=by rw [hq.out,LP.out];rfl
  rw [e]
  exact hR.out.on HB1.out
 ·obtain ⟨x,hx⟩:∃ x,l[p]?=some x:=⟨_,List.getElem?_eq_getElem (by omega)⟩
  have jT:Hid (b=decide (x.text=s)):=by rw [hb.out];exact Vv hx
  have Vw:Hid (x=pk l p en):=by unfold Hid pk;rw [hx];rfl
  have e1:(x.text.toList==s.toList)=b:=vw jT.out
  clear hx
  go_enter Tryz.func101,Tryz.ntmps101
  go_wp2_with fail
  refine (zt R ta tc l p en mv op false _ hR (by rw [decide_eq_false he];rfl)).mono ?_
  rintro e w1 ⟨rfl,hb1⟩
  have HB1:Hid (Below w.heap.size w w1):=hb1
  have HR1:Hid (RD w1 R ta tc l p en mv op):=hR.out.on hb1
  have HT1:Hid (gq B w1 l ta):=hT.out.on (qH hb1 (by omega))
  clear hb1
  go_wp2_with fail
  refine (xG B R ta tc l p en mv op x _ HR1 HT1 hB hp Vw).mono ?_
  rintro e w2 ⟨rfl,hb2⟩
  have HB2:Hid (Below w.heap.size w w2):=HB1.out.trans (hb2.mono HB1.out.size)
  have HR2:Hid (RD w2 R ta tc l p en mv op):=HR1.out.on hb2
  have hf:=Cs x.kind x.num x.pos x.text
  clear hb2
  cases b with
  | false =>
   go_wp2
   go_ret
   refine ⟨rfl,?_,⟨HB2.out.os,HB2.out.tape,HB2.out.output,HB2.out.size,fun k hk _=>HB2.out.block k hk⟩⟩
   have e:q=p:=hq.out
   rw [e]
   exact HR2.out
  | true =>
   go_wp2_with fail
   refine (Ct R ta tc l p en mv op _ HR2 (by omega)).mono ?_
   rintro e w3 ⟨rfl,hr3,hg3⟩
   have HR3:Hid (RD w3 R ta tc l (p+1) en mv op):=hr3
   have aK:Hid (w.grownBy w3 (some R)):=⟨hg3.os.trans HB2.out.os,hg3.tape.trans HB2.out.tape,hg3.output.trans HB2.out.output,Nat.le_trans HB2.out.size hg3.size,fun k hk hn=>(hg3.block k (by have:=HB2.out.size;omega) hn).trans (HB2.out.block k hk)⟩
   clear hr3 hg3
   go_wp2
   go_ret
   have e:q=p+1:=hq.out
   rw [e]
   exact ⟨rfl,HR3.out,aK.out⟩
def vz (R:Nat)(ta:Option Addr)(tc:Nat)(l:List Lx.Tk)(en:Nat)(mv:Value)(op:Int)(w:World)(v:Value)(r:Except (Int × Nat) Nat)(e:Ending)(w':World):Prop :=
 w.grownBy w' (some R)∧match r with
  | .ok q=>e=.returned v∧RD w' R ta tc l q en mv op
  | .error (er,at')=>e=.panicked [aH er at']∧∃ (q:Nat) (o:Int),RD w' R ta tc l q en mv o∧op≤o∧o≤op+1
def pz (l:List Lx.Tk)(p en:Nat)(s:ByteArray):Except (Int × Nat) Nat:=if tk l p s then .ok (p+1) else .error (2,(pk l p en).pos)
def lK (l:List Lx.Tk)(p en:Nat):Except (Int × Nat) Nat :=
 if (pk l p en).kind≠1 then .error (2,(pk l p en).pos) else if Lx.named (pk l p en).text.toList=false then .error (7,(pk l p en).pos) else .ok (p+1)
theorem rP {w w1 w2:World}{R:Nat}(h:w.grownBy w1 (some R))(k:Below w1.heap.size w1 w2):w.grownBy w2 (some R) :=
 ⟨k.os.trans h.os,k.tape.trans h.tape,k.output.trans h.output,Nat.le_trans h.size k.size,fun i hi hn=>(k.block i (Nat.lt_of_lt_of_le hi h.size)).trans (h.block i hi hn)⟩
theorem eD {w w1:World}{R:Nat}(k:Below w.heap.size w w1):w.grownBy w1 (some R):=⟨k.os,k.tape,k.output,k.size,fun i hi _=>k.block i hi⟩
theorem gq.grown {B R:Nat}{w w':World}{l:List Lx.Tk}{ta:Option Addr}(h:gq B w l ta)(hg:w.grownBy w' (some R))(hB:B≤R)(hR:R<w.heap.size):gq B w' l ta :=
 h.on (fun b o hb=>World.cell?_of_block (w:=w) (hg.block b (by omega) (by simp;omega)))
theorem tY (B R:Nat)(ta:Option Addr)(tc:Nat)(l:List Lx.Tk)(p en:Nat)(mv:Value)(op:Int)(s:ByteArray)(r:Except (Int × Nat) Nat)(w:World)(hR:Hid (RD w R ta tc l p en mv op))(hT:Hid (gq B w l ta))(hB:B≤R)(hp:p≤l.length)(hr:Hid (r=pz l p en s)) :
  Calls Tryz.prog 69 #[.pointer (some ⟨R,0,none⟩),.string s] w fun e w'=>vz R ta tc l en mv op w (.tuple #[]) r e w':=by
 have hRl:=hR.out.lt
 cases hb:tk l p s with
 | true =>
  have HR2:Hid (r=.ok (p+1)):=by rw [hr.out];unfold pz;rw [hb];rfl
  go_enter Tryz.func69,Tryz.ntmps69
  go_wp2_with fail
  refine (tX B R ta tc l p en mv op s true (p+1) _ hR hT hB hp hb.symm rfl).mono ?_
  rintro e w1 ⟨rfl,hr1,hg1⟩
  have H1:Hid (RD w1 R ta tc l (p+1) en mv op):=hr1
  have ax:Hid (w.grownBy w1 (some R)):=hg1
  clear hr1 hg1
  go_wp2
  go_end0
  exact ⟨ax.out,by rw [HR2.out];exact ⟨rfl,H1.out⟩⟩
 | false =>
  have HR2:Hid (r=.error (2,(pk l p en).pos)):=by rw [hr.out];unfold pz;rw [hb];rfl
  obtain ⟨t,ht⟩:∃ t,t=pk l p en:=⟨_,rfl⟩
  have HT:Hid (t=pk l p en):=ht
  clear ht
  go_enter Tryz.func69,Tryz.ntmps69
  go_wp2_with fail
  refine (tX B R ta tc l p en mv op s false p _ hR hT hB hp hb.symm rfl).mono ?_
  rintro e w1 ⟨rfl,hr1,hg1⟩
  have H1:Hid (RD w1 R ta tc l p en mv op):=hr1
  have ax:Hid (w.grownBy w1 (some R)):=hg1
  have HT1:Hid (gq B w1 l ta):=hT.out.grown hg1 hB hRl
  clear hr1 hg1
  go_wp2_with fail
  refine (tV B R ta tc l p en mv op 2 t _ H1 HT1 hB hp HT).mono ?_
  rintro e w2 ⟨rfl,hb2⟩
  have HG2:Hid (w.grownBy w2 (some R)):=rP ax.out hb2
  have HD:Hid (RD w2 R ta tc l p en mv op):=H1.out.on hb2
  clear hb2
  go_wp2
  exact ⟨rfl,HG2.out,by rw [HR2.out,← HT.out];exact ⟨rfl,_,_,HD.out,Int.le_refl _,by omega⟩⟩
theorem LQ (B R:Nat)(ta:Option Addr)(tc:Nat)(l:List Lx.Tk)(p en:Nat)(mv:Value)(op:Int)(r:Except (Int × Nat) Nat)(t:Lx.Tk)(w:World)(hR:Hid (RD w R ta tc l p en mv op))(hT:Hid (gq B w l ta))(hB:B≤R)(hp:p≤l.length)(ht:Hid (t=pk l p en))(hz:t.text.size≤maxLen)(hr:Hid (r=lK l p en)) :
  Calls Tryz.prog 70 #[.pointer (some ⟨R,0,none⟩)] w fun e w'=>vz R ta tc l en mv op w (.string t.text) r e w':=by
 have hRl:=hR.out.lt
 have rO:=hT.out.1
 go_enter Tryz.func70,Tryz.ntmps70
 go_wp2_with fail
 refine (xG B R ta tc l p en mv op t _ hR hT hB hp ht).mono ?_
 rintro e w1 ⟨rfl,hb1⟩
 have HB1:Hid (Below w.heap.size w w1):=hb1
 have HR1:Hid (RD w1 R ta tc l p en mv op):=hR.out.on hb1
 have HT1:Hid (gq B w1 l ta):=hT.out.on (qH hb1 (by omega))
 obtain ⟨V,hV⟩:∃ V,V=w1.alloc (.cells #[.int .i64 t.kind,.string t.text,.int .i64 t.num,.int .i64 t.pos] 88):=⟨_,rfl⟩
 have Fy:V.heap.size=w1.heap.size+1:=by rw [hV];simp
 have rQ:Hid (Below w1.heap.size w1 V):=by rw [hV];exact (Below.refl _ w1).alloc (Nat.le_refl _) _
 have v0:V.cell? ⟨w1.heap.size,0,none⟩=some (.int .i64 t.kind):=by rw [hV,World.cell?_alloc_mark];rfl
 have v1:V.cell? ⟨w1.heap.size,1,none⟩=some (.string t.text):=by rw [hV,World.cell?_alloc_mark];rfl
 have vC:Hid (w1.alloc (.cells #[.int .i64 t.kind,.string t.text,.int .i64 t.num,.int .i64 t.pos] 88)=V):=hV.symm
 have dV:Hid (RD V R ta tc l p en mv op):=HR1.out.on rQ.out
 have xH:Hid (gq B V l ta):=HT1.out.on (qH rQ.out (by have:=hb1.size;omega))
 have kJ:Hid (Below w.heap.size w V):=hb1.trans (rQ.out.mono hb1.size)
 have hz1:=hb1.size
 clear hb1 hV
 go_upto_region 2 with fail
 rw [vC.out]
 by_cases hk:t.kind=1
 ·have e0:((t.kind:Int) != 1)=false:=by simp;omega
  by_cases hn:Lx.named t.text.toList=false
  ·have HR2:Hid (r=.error (7,t.pos)):=by rw [hr.out];unfold lK;rw [← ht.out,if_neg (by omega),if_pos hn];rfl
   have HN:Hid (Lx.named t.text.toList=false):=hn
   clear hn hk
   go_wp2_with fail
   refine (rH t.text _ hz).mono ?_
   rintro e w2 ⟨he,rfl⟩
   rw [HN.out] at he
   subst he
   go_wp2_with fail
   refine (tV B R ta tc l p en mv op 7 t _ dV xH hB hp ht).mono ?_
   rintro e w3 ⟨rfl,hb3⟩
   have aK:Hid (w.grownBy w3 (some R)):=rP (eD kJ.out) hb3
   have HD:Hid (RD w3 R ta tc l p en mv op):=dV.out.on hb3
   clear hb3
   go_wp2
   exact ⟨rfl,aK.out,by rw [HR2.out];exact ⟨rfl,_,_,HD.out,Int.le_refl _,by omega⟩⟩
  ·have HR2:Hid (r=.ok (p+1)):=by rw [hr.out];unfold lK;rw [← ht.out,if_neg (by omega),if_neg hn];rfl
   have HN:Hid (Lx.named t.text.toList=true):=by unfold Hid;simpa using hn
   clear hn hk
   go_wp2_with fail
   refine (rH t.text _ hz).mono ?_
   rintro e w2 ⟨he,rfl⟩
   rw [HN.out] at he
   subst he
   go_wp2_with fail
   refine (Ct R ta tc l p en mv op _ dV (by omega)).mono ?_
   rintro e w3 ⟨rfl,hr3,hg3⟩
   have HR3:Hid (RD w3 R ta tc l (p+1) en mv op):=hr3
   have aK:Hid (w.grownBy w3 (some R)):=⟨hg3.os.trans kJ.out.os,hg3.tape.trans kJ.out.tape,hg3.output.trans kJ.out.output,Nat.le_trans kJ.out.size hg3.size,fun k hk hn=>(hg3.block k (by have:=kJ.out.size;omega) hn).trans (kJ.out.block k hk)⟩
   have k1:w3.cell? ⟨w1.heap.size,1,none⟩=some (.string t.text):=(World.cell?_of_block (w:=w2) (hg3.block w1.heap.size (by omega) (by simp;omega))).trans v1
   clear hr3 hg3 v0 v1
   go_wp2
   go_ret
   exact ⟨aK.out,by rw [HR2.out];exact ⟨rfl,HR3.out⟩⟩
 ·have HR2:Hid (r=.error (2,t.pos)):=by rw [hr.out];unfold lK;rw [← ht.out,if_pos hk];rfl
  have e0:((t.kind:Int) != 1)=true:=by simp;omega
  clear hk
  go_wp2_with fail
  refine (tV B R ta tc l p en mv op 2 t _ dV xH hB hp ht).mono ?_
  rintro e w3 ⟨rfl,hb3⟩
  have aK:Hid (w.grownBy w3 (some R)):=rP (eD kJ.out) hb3
  have HD:Hid (RD w3 R ta tc l p en mv op):=dV.out.on hb3
  clear hb3
  go_wp2
  exact ⟨rfl,aK.out,by rw [HR2.out];exact ⟨rfl,_,_,HD.out,Int.le_refl _,by omega⟩⟩
theorem aa {p:Prop}(h:p):Hid p:=h
def qI (l:List Lx.Tk)(p en:Nat):Sy.Ty:=if tk l p ⟨#[110,117,109]⟩ then ⟨1,⟨#[]⟩⟩ else if tk l p ⟨#[98,111,111,108]⟩ then ⟨2,⟨#[]⟩⟩ else ⟨3,(pk l p en).text⟩
def oM (l:List Lx.Tk)(p en:Nat):Except (Int × Nat) Nat:=if tk l p ⟨#[110,117,109]⟩ then .ok (p+1) else if tk l p ⟨#[98,111,111,108]⟩ then .ok (p+1) else lK l p en
abbrev ZT:Obj:=.cells #[.int .i64 0,.string ⟨#[]⟩] 46 (0,0)
theorem aA {W u:World}{N R:Nat}{o:Obj}(hg:W.grownBy u (some R))(hne:N≠R)(h:W.heap[N]?=some o):u.heap[N]?=some o:=(hg.block N (lt_of_block h) (by simp;omega)).trans h
theorem ay {a b c:World}{R:Nat}(h:a.grownBy b (some R))(k:b.grownBy c (some R)):a.grownBy c (some R) :=
 ⟨k.os.trans h.os,k.tape.trans h.tape,k.output.trans h.output,Nat.le_trans h.size k.size,fun i hi hn=>(k.block i (Nat.lt_of_lt_of_le hi h.size) hn).trans (h.block i hi hn)⟩
theorem Fz {w u:World}{R N:Nat}(h:w.grownBy u (some R))(hN:w.heap.size≤N)(x y:Value):w.grownBy ((u.setCell ⟨N,0,none⟩ x).setCell ⟨N,1,none⟩ y) (some R) :=
 ⟨h.os,h.tape,h.output,by simpa [World.setCell] using h.size,fun i hi hn=>by
  rw [Below.heap_setCell _ _ _ _ (by show i≠N;omega),Below.heap_setCell _ _ _ _ (by show i≠N;omega)]
  exact h.block i hi hn⟩
theorem RD.two {w:World}{R N:Nat}{ta:Option Addr}{tc:Nat}{l:List Lx.Tk}{p en:Nat}{mv:Value}{op:Int}(h:RD w R ta tc l p en mv op)(hN:R≠N)(x y:Value):RD ((w.setCell ⟨N,0,none⟩ x).setCell ⟨N,1,none⟩ y) R ta tc l p en mv op:=by
 unfold RD
 rw [Below.heap_setCell _ _ _ _ (by exact hN),Below.heap_setCell _ _ _ _ (by exact hN)]
 exact h
theorem Vx (B R:Nat)(ta:Option Addr)(tc:Nat)(l:List Lx.Tk)(p en:Nat)(mv:Value)(op:Int)(r:Except (Int × Nat) Nat)(t:Sy.Ty)(w:World)(hR:Hid (RD w R ta tc l p en mv op))(hT:Hid (gq B w l ta))(hB:B≤R)(hp:p≤l.length)(ht:Hid (t=qI l p en))(hz:(pk l p en).text.size≤maxLen)(hr:Hid (r=oM l p en)) :
  Calls Tryz.prog 98 #[.pointer (some ⟨R,0,none⟩)] w fun e w'=>vz R ta tc l en mv op w (.agg #[.int .i64 t.kind,.string t.gen]) r e w':=by
 have hRl:=hR.out.lt
 cases h1:tk l p ⟨#[110,117,109]⟩ with
 | true =>
  have HR2:Hid (r=.ok (p+1)):=by rw [hr.out];unfold oM;rw [h1];rfl
  have HT2:Hid (t=⟨1,⟨#[]⟩⟩):=by rw [ht.out];unfold qI;rw [h1];rfl
  go_enter Tryz.func98,Tryz.ntmps98
  have HW0:Hid (Below w.heap.size w (w.alloc ZT)):=(Below.refl _ w).alloc (Nat.le_refl _) _
  have H0:Hid (RD (w.alloc ZT) R ta tc l p en mv op):=hR.out.on HW0.out
  have HT0:Hid (gq B (w.alloc ZT) l ta):=hT.out.on (qH HW0.out (by omega))
  go_wp2_with fail
  refine (tX B R ta tc l p en mv op _ true (p+1) _ H0 HT0 hB hp h1.symm rfl).mono ?_
  rintro e w1 ⟨rfl,hr1,hg1⟩
  have H1:Hid (RD w1 R ta tc l (p+1) en mv op):=hr1
  have ax:Hid (w.grownBy w1 (some R)):=ay (eD HW0.out) hg1
  obtain ⟨c0,c1,f0,f1⟩:=bE (aA hg1 (by omega) (heap_alloc_new w ZT))
  clear hr1 hg1 h1
  go_wp2
  refine bodyPost_ret (v:=.agg #[.int .i64 1,.string ⟨#[]⟩]) (by simp [results,Tryz.results98,go_sem,c0,c1]) rfl ?_
  exact ⟨Fz ax.out (Nat.le_refl _) _ _,by rw [HR2.out,HT2.out];exact ⟨rfl,H1.out.two (by omega) _ _⟩⟩
 | false =>
  have HW0:Hid (Below w.heap.size w (w.alloc ZT)):=(Below.refl _ w).alloc (Nat.le_refl _) _
  have H0:Hid (RD (w.alloc ZT) R ta tc l p en mv op):=hR.out.on HW0.out
  have HT0:Hid (gq B (w.alloc ZT) l ta):=hT.out.on (qH HW0.out (by omega))
  cases h2:tk l p ⟨#[98,111,111,108]⟩ with
  | true =>
   have HR2:Hid (r=.ok (p+1)):=by rw [hr.out];unfold oM;rw [h1,h2];rfl
   have HT2:Hid (t=⟨2,⟨#[]⟩⟩):=by rw [ht.out];unfold qI;rw [h1,h2];rfl
   go_enter Tryz.func98,Tryz.ntmps98
   go_wp2_with fail
   refine (tX B R ta tc l p en mv op _ false p _ H0 HT0 hB hp h1.symm rfl).mono ?_
   rintro e w1 ⟨rfl,hr1,hg1⟩
   have H1:Hid (RD w1 R ta tc l p en mv op):=hr1
   have ax:Hid (w.grownBy w1 (some R)):=ay (eD HW0.out) hg1
   have HT1:Hid (gq B w1 l ta):=HT0.out.grown hg1 hB H0.out.lt
   have HZ1:Hid (w1.heap[w.heap.size]?=some ZT):=aA hg1 (by omega) (heap_alloc_new w ZT)
   clear hr1 hg1 h1
   go_wp2_with fail
   refine (tX B R ta tc l p en mv op _ true (p+1) _ H1 HT1 hB hp h2.symm rfl).mono ?_
   rintro e w2 ⟨rfl,hr2,hg2⟩
   have H2:Hid (RD w2 R ta tc l (p+1) en mv op):=hr2
   have HG2:Hid (w.grownBy w2 (some R)):=ay ax.out hg2
   obtain ⟨c0,c1,f0,f1⟩:=bE (aA hg2 (by omega) HZ1.out)
   clear hr2 hg2 h2
   go_wp2
   refine bodyPost_ret (v:=.agg #[.int .i64 2,.string ⟨#[]⟩]) (by simp [results,Tryz.results98,go_sem,c0,c1]) rfl ?_
   exact ⟨Fz HG2.out (Nat.le_refl _) _ _,by rw [HR2.out,HT2.out];exact ⟨rfl,H2.out.two (by omega) _ _⟩⟩
  | false =>
   have HR2:Hid (r=lK l p en):=by rw [hr.out];unfold oM;rw [h1,h2];rfl
   obtain ⟨x,hx⟩:∃ x,x=pk l p en:=⟨_,rfl⟩
   have HX:Hid (x=pk l p en):=hx
   rw [← hx] at hz
   have HT2:Hid (t=⟨3,x.text⟩):=by rw [ht.out,hx];unfold qI;rw [h1,h2];rfl
   clear hx
   go_enter Tryz.func98,Tryz.ntmps98
   go_wp2_with fail
   refine (tX B R ta tc l p en mv op _ false p _ H0 HT0 hB hp h1.symm rfl).mono ?_
   rintro e w1 ⟨rfl,hr1,hg1⟩
   have H1:Hid (RD w1 R ta tc l p en mv op):=hr1
   have ax:Hid (w.grownBy w1 (some R)):=ay (eD HW0.out) hg1
   have HT1:Hid (gq B w1 l ta):=HT0.out.grown hg1 hB H0.out.lt
   have HZ1:Hid (w1.heap[w.heap.size]?=some ZT):=aA hg1 (by omega) (heap_alloc_new w ZT)
   clear hr1 hg1 h1
   go_wp2_with fail
   refine (tX B R ta tc l p en mv op _ false p _ H1 HT1 hB hp h2.symm rfl).mono ?_
   rintro e w2 ⟨rfl,hr2,hg2⟩
   have H2:Hid (RD w2 R ta tc l p en mv op):=hr2
   have HG2:Hid (w.grownBy w2 (some R)):=ay ax.out hg2
   have Vy:Hid (gq B w2 l ta):=HT1.out.grown hg2 hB H1.out.lt
   have HZ2:Hid (w2.heap[w.heap.size]?=some ZT):=aA hg2 (by omega) HZ1.out
   clear hr2 hg2 h2
   go_wp2_with fail
   refine (LQ B R ta tc l p en mv op r x _ H2 Vy hB hp HX hz HR2).mono ?_
   rintro e w3 ⟨hg3,hf3⟩
   have aK:Hid (w.grownBy w3 (some R)):=ay HG2.out hg3
   have HZ3:Hid (w3.heap[w.heap.size]?=some ZT):=aA hg3 (by omega) HZ2.out
   cases r with
   | ok q =>
    obtain ⟨rfl,hr3⟩:=hf3
    have H3:Hid (RD w3 R ta tc l q en mv op):=hr3
    obtain ⟨c0,c1,f0,f1⟩:=bE HZ3.out
    clear hg3 hr3
    go_wp2
    refine bodyPost_ret (v:=.agg #[.int .i64 3,.string x.text]) (by simp [results,Tryz.results98,go_sem,c0,c1]) rfl ?_
    exact ⟨Fz aK.out (Nat.le_refl _) _ _,by rw [HT2.out];exact ⟨rfl,H3.out.two (by omega) _ _⟩⟩
   | error er =>
    obtain ⟨e1,e2⟩:=er
    obtain ⟨rfl,hd3⟩:=hf3
    have HD:=aa hd3
    clear hg3 hd3
    go_wp2
    exact ⟨rfl,aK.out,rfl,HD.out⟩
def nL (l:List Lx.Tk)(p en:Nat):Except (Int × Nat) Nat :=
 if (pk l p en).kind≠2 then .error (2,(pk l p en).pos) else if (pk l p en).num<1∨20<(pk l p en).num then .error (3,(pk l p en).pos) else .ok (p+1)
theorem Vz (B R:Nat)(ta:Option Addr)(tc:Nat)(l:List Lx.Tk)(p en:Nat)(mv:Value)(op:Int)(r:Except (Int × Nat) Nat)(t:Lx.Tk)(w:World)(hR:Hid (RD w R ta tc l p en mv op))(hT:Hid (gq B w l ta))(hB:B≤R)(hp:p≤l.length)(ht:Hid (t=pk l p en))(hn:t.num≤1000000000000000)(hr:Hid (r=nL l p en)) :
  Calls Tryz.prog 99 #[.pointer (some ⟨R,0,none⟩)] w fun e w'=>vz R ta tc l en mv op w (.int .i64 t.num) r e w':=by
 have hRl:=hR.out.lt
 have rO:=hT.out.1
 go_enter Tryz.func99,Tryz.ntmps99
 go_wp2_with fail
 refine (xG B R ta tc l p en mv op t _ hR hT hB hp ht).mono ?_
 rintro e w1 ⟨rfl,hb1⟩
 have HB1:Hid (Below w.heap.size w w1):=hb1
 have HR1:Hid (RD w1 R ta tc l p en mv op):=hR.out.on hb1
 have HT1:Hid (gq B w1 l ta):=hT.out.on (qH hb1 (by omega))
 obtain ⟨V,hV⟩:∃ V,V=w1.alloc (.cells #[.int .i64 t.kind,.string t.text,.int .i64 t.num,.int .i64 t.pos] 88):=⟨_,rfl⟩
 have Fy:V.heap.size=w1.heap.size+1:=by rw [hV];simp
 have rQ:Hid (Below w1.heap.size w1 V):=by rw [hV];exact (Below.refl _ w1).alloc (Nat.le_refl _) _
 have v0:V.cell? ⟨w1.heap.size,0,none⟩=some (.int .i64 t.kind):=by rw [hV,World.cell?_alloc_mark];rfl
 have v2:V.cell? ⟨w1.heap.size,2,none⟩=some (.int .i64 t.num):=by rw [hV,World.cell?_alloc_mark];rfl
 have vC:Hid (w1.alloc (.cells #[.int .i64 t.kind,.string t.text,.int .i64 t.num,.int .i64 t.pos] 88)=V):=hV.symm
 have dV:Hid (RD V R ta tc l p en mv op):=HR1.out.on rQ.out
 have xH:Hid (gq B V l ta):=HT1.out.on (qH rQ.out (by have:=hb1.size;omega))
 have kJ:Hid (Below w.heap.size w V):=hb1.trans (rQ.out.mono hb1.size)
 have hz1:=hb1.size
 clear hb1 hV
 go_upto_region 2 with fail
 rw [vC.out]
 by_cases hk:t.kind=2
 ·have e0:((t.kind:Int) != 2)=false:=by simp;omega
  by_cases hn1:t.num<1
  ·have HR2:Hid (r=.error (3,t.pos)):=by rw [hr.out];unfold nL;rw [← ht.out,if_neg (by omega),if_pos (.inl hn1)];rfl
   have g1:(t.num:Int)<1:=by omega
   clear hk
   go_wp2_with fail
   refine (tV B R ta tc l p en mv op 3 t _ dV xH hB hp ht).mono ?_
   rintro e w3 ⟨rfl,hb3⟩
   have aK:Hid (w.grownBy w3 (some R)):=rP (eD kJ.out) hb3
   have HD:Hid (RD w3 R ta tc l p en mv op):=dV.out.on hb3
   clear hb3
   go_wp2
   exact ⟨rfl,aK.out,by rw [HR2.out];exact ⟨rfl,_,_,HD.out,Int.le_refl _,by omega⟩⟩
  ·by_cases hn2:20<t.num
   ·have HR2:Hid (r=.error (3,t.pos)):=by rw [hr.out];unfold nL;rw [← ht.out,if_neg (by omega),if_pos (.inr hn2)];rfl
    have g1:1≤(t.num:Int):=by omega
    have g2:20<(t.num:Int):=by omega
    clear hk
    go_wp2_with fail
    refine (tV B R ta tc l p en mv op 3 t _ dV xH hB hp ht).mono ?_
    rintro e w3 ⟨rfl,hb3⟩
    have aK:Hid (w.grownBy w3 (some R)):=rP (eD kJ.out) hb3
    have HD:Hid (RD w3 R ta tc l p en mv op):=dV.out.on hb3
    clear hb3
    go_wp2
    exact ⟨rfl,aK.out,by rw [HR2.out];exact ⟨rfl,_,_,HD.out,Int.le_refl _,by omega⟩⟩
   ·have HR2:Hid (r=.ok (p+1)):=by rw [hr.out];unfold nL;rw [← ht.out,if_neg (by omega),if_neg (by omega)];rfl
    have g1:1≤(t.num:Int):=by omega
    have g2:(t.num:Int)≤20:=by omega
    clear hk
    go_wp2_with fail
    refine (Ct R ta tc l p en mv op _ dV (by omega)).mono ?_
    rintro e w3 ⟨rfl,hr3,hg3⟩
    have HR3:Hid (RD w3 R ta tc l (p+1) en mv op):=hr3
    have aK:Hid (w.grownBy w3 (some R)):=ay (eD kJ.out) hg3
    have k2:w3.cell? ⟨w1.heap.size,2,none⟩=some (.int .i64 t.num):=(World.cell?_of_block (w:=V) (hg3.block w1.heap.size (by omega) (by simp;omega))).trans v2
    clear hr3 hg3 v0 v2
    go_wp2
    go_ret
    exact ⟨aK.out,by rw [HR2.out];exact ⟨rfl,HR3.out⟩⟩
 ·have HR2:Hid (r=.error (2,t.pos)):=by rw [hr.out];unfold nL;rw [← ht.out,if_pos hk];rfl
  have e0:((t.kind:Int) != 2)=true:=by simp;omega
  clear hk
  go_wp2_with fail
  refine (tV B R ta tc l p en mv op 2 t _ dV xH hB hp ht).mono ?_
  rintro e w3 ⟨rfl,hb3⟩
  have aK:Hid (w.grownBy w3 (some R)):=rP (eD kJ.out) hb3
  have HD:Hid (RD w3 R ta tc l p en mv op):=dV.out.on hb3
  clear hb3
  go_wp2
  exact ⟨rfl,aK.out,by rw [HR2.out];exact ⟨rfl,_,_,HD.out,Int.le_refl _,by omega⟩⟩
end Go.Proofs.YtolfleeidpeomaaGreatDoor
