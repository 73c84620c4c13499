/- Rows of one's own;the walks of Clone and End. -/
import Derived.Test.YtfcpglhpolpdcaaGreatDoorM17
import Derived.Test.YtfcpglhpolpdcaaGreatDoorM29
set_option maxRecDepth 100000
set_option maxHeartbeats 2000000
namespace Go.Proofs.YtfcpglhpolpdcaaGreatDoor.Vw
open Go.RowKit Vf Vm
theorem ic {w:World}{B e size n g:Nat}{v:Value}{xs:List Value}(h:w.ownsRow B e size v n xs)(hg:v.ownBlock=some g):∃ cur,w.heap[g]?=some (.cells cur e (0,0)):=by
 rcases h.2 with⟨rfl,_⟩ | ⟨g',cap,cur,rfl,_,hh,_⟩
 ·cases hg
 ·simp[Value.ownBlock] at hg
  subst hg;exact⟨cur,hh⟩
theorem qQ {w:World}{B e n:Nat}{va:Option Addr}{vc:Nat}{xs:List Value}(h:w.ownsRow B e 1 (.slice va n vc) n xs){k:Nat}{u:Value}(hk:xs[k]?=some u):∃ g,va=some ⟨g,0,none⟩∧w.cell? ⟨g,k,none⟩=some u:=by
 rcases h.2 with⟨e1,h0⟩ | ⟨g,cap,cur,e1,_⟩
 ·have hl:=h.1
  rw[h0] at hl;have hx:xs=[]:=List.eq_nil_of_length_eq_zero (by simpa using hl);rw[hx] at hk;cases hk
 ·have e2:=e1
  simp at e2;refine⟨g,e2.1,?_⟩;have:=h.cells (g:=g) (by rw[e1];rfl) k _ hk;rw[o6] at this;simpa using this
theorem abW (w:World):Sem.run Tryz.prog (binOp BinOp.eql 38 (.slice none 0 0) (.slice none 0 0)) w=.ok (.bool true) w:=by kernel_rfl
theorem lL {w:World}{B C e size n:Nat}{v:Value}{xs:List Value}(h:w.ownsRow C e size v n xs)(hB:B≤C):w.ownsRow B e size v n xs:=by
 refine⟨h.1,?_⟩;rcases h.2 with h2 | ⟨g,cap,cur,hv,hg,r⟩
 ·exact .inl h2
 ·exact .inr ⟨g,cap,cur,hv,by omega,r⟩
theorem dA {w:World}{B e size n:Nat}{v:Value}{xs:List Value}(h:w.ownsRow B e size v n xs):∃ a c,v=.slice a n c:=by
 rcases h.2 with⟨rfl,h0⟩ | ⟨g,cap,cur,rfl,_⟩
 ·rw[h0];exact⟨_,_,rfl⟩
 ·exact⟨_,_,rfl⟩
theorem Db (ws:List Int):∀ v ∈ ints ws,v.oneCell'=true:=by
 intro v hv;simp only[ints,List.mem_map] at hv;obtain⟨x,_,rfl⟩:=hv;rfl
theorem Dc (vO:Value)(l:List Int)(w:World)(h:Hid (w.ownsRow 0 2 1 vO l.length (ints l)))(hl:l.length≤1000000) :
  Calls Tryz.prog 64 #[vO] w fun e w'=>∃ v,e=.returned v∧w'.ownsRow w.heap.size 2 1 v l.length (ints l)∧Below w.heap.size w w':=by
 obtain⟨i0,hi,hz0,hz1,hz2⟩:=info_parts Sb.Tryz.qp;rcases h.out.2 with⟨rfl,h0⟩ | ⟨g,cap,cur,rfl,_,hh,h1,h2,h3,h4⟩
 ·have HL:=Sb.hide h0
  clear h0;have hnn:=abW w;go_enter Tryz.func64,Tryz.ntmps64
  go_wp2
  go_ret
  exact⟨_,rfl,⟨h.out.1,.inl ⟨rfl,HL.out⟩⟩,.refl _ _⟩
 ·have hnn:=Sb.not_nil g l.length cap w
  have HO:Hid ((w.alloc (.cells #[] 2)).ownsRow w.heap.size 2 1 (.slice (some ⟨w.heap.size,0,none⟩) 0 0) 0 []):=⟨rfl,.inr ⟨w.heap.size,0,#[],rfl,Nat.le_refl _,heap_alloc_new w _,Nat.le_refl _,Nat.zero_le _,rfl,rfl⟩⟩;have HN:Hid (∀ j u,(ints l)[j]?=some u→(w.alloc (.cells #[] 2)).cell? ((⟨g,0,none⟩:Addr).add j)=some u):=(h.out.alloc (.cells #[] 2)).cells (g:=g) rfl;have HL:Hid ((ints l).length=l.length * 1):=by unfold Hid;simp
  obtain⟨n,hn⟩:∃ n,n=l.length:=⟨_,rfl⟩;have AZ:=Sb.hide hn;rw[← hn] at hl hnn HL ⊢;clear hn hh h1 h2 h3 h4;go_enter Tryz.func64,Tryz.ntmps64
  go_wp2_with (at_builtin;refine wpList_append_own _ rfl _ _ 38 rfl w.heap.size 2 i0 (.int .i64 0) 1 8 Tryz.underlying38 hi hz0 hz1 hz2 rfl (by decide) _ _ _ rfl HO.out ⟨g,0,none⟩ n cap (ints l) rfl HL.out HN.out (Db l) (by unfold maxLen;omega) (by omega) (by simp) ?_;intro v' w3 hown hgrow hz)
  have HW:Hid (w3.ownsRow w.heap.size 2 1 v' n (ints l)):=by
   unfold Hid;simpa using hown
  have hg2:(w.alloc (.cells #[] 2)).grownBy w3 (some w.heap.size):=hgrow;have HB:Hid (Below w.heap.size w w3):=((Below.refl _ w).alloc (Nat.le_refl _) _).grown hg2 (by simp) (fun k hk=>by simp at hk;omega);clear hown hgrow hz hg2;go_wp2
  go_ret
  exact⟨v',rfl,HW.out,HB.out⟩
theorem QC {w:World}{b:Nat}(h:w.heap[b]?=some (.cells #[.int .i64 0,.int .i64 0,.int .i64 0,.slice none 0 0] 40)):(w.cell? ⟨b,0,none⟩=some (.int .i64 0)∧w.cell? ⟨b,1,none⟩=some (.int .i64 0)∧w.cell? ⟨b,2,none⟩=some (.int .i64 0)∧w.cell? ⟨b,3,none⟩=some (.slice none 0 0))∧∀ j,w.frozen? ⟨b,j,none⟩=false:=by simp[World.cell?,World.frozen?,h]
section
variable {β:Type} (E:Env β) (X:gN β) (c:Cx) (vB ev:Value) (o T:Nat) (L:av) (P:Nat→Nat) (w:World) (t:Tk) (x:β) (vR vO:Value) (H:Hid (St E c vB ev o T L P w t x vR vO))
include H
abbrev QD (s q tr:Nat) (v:Value):Value:=.agg #[.int .i64 s,.int .i64 q,.int .i64 tr,v]
theorem QE (hX:Hid (mq E X c vB))(hs:Hid (t.over=0→∃ f rs u i,nu c t f rs u i))(ho:t.out.length≤1000000) :
  Calls Tryz.prog 38 #[.pointer (some ⟨T,0,none⟩)] w fun e w'=>∃ v,e=.returned (QD (stat X c.m t x).1 (stat X c.m t x).2 t.trap v)∧w'.ownsRow w.heap.size 2 1 v t.out.length (ints t.out)∧Below w.heap.size w w':=by
 obtain⟨s,hs1⟩:∃ s,s=(stat X c.m t x).1:=⟨_,rfl⟩;obtain⟨q,hq1⟩:∃ s,s=(stat X c.m t x).2:=⟨_,rfl⟩;rw[← hs1,← hq1];have dM:=Sb.hide hs1;have xJ:=Sb.hide hq1;have jM:=lt_of_block H.out.tk.blk;clear hs1 hq1;go_enter Tryz.func38,Tryz.ntmps38
 go_wp2_with fail
 have hb0:Below w.heap.size w (w.alloc (.cells #[.int .i64 0,.int .i64 0,.int .i64 0,.slice none 0 0] 40)):=(Below.refl _ w).alloc (Nat.le_refl _) _;have hzb:(w.alloc (.cells #[.int .i64 0,.int .i64 0,.int .i64 0,.slice none 0 0] 40)).heap[w.heap.size]?=some (.cells #[.int .i64 0,.int .i64 0,.int .i64 0,.slice none 0 0] 40):=heap_alloc_new w _;have HB0:=Sb.hide hb0;have HZB:=Sb.hide hzb;have hz0:(w.alloc (.cells #[.int .i64 0,.int .i64 0,.int .i64 0,.slice none 0 0] 40)).heap.size=w.heap.size+1:=by simp
 clear hb0 hzb;generalize w.alloc (.cells #[.int .i64 0,.int .i64 0,.int .i64 0,.slice none 0 0] 40)=W0 at *;refine (Oh E X c vB ev o T L P _ t x vR vO (Sb.hide (H.out.below HB0.out)) hX hs).mono ?_;rw[← dM.out,← xJ.out];rintro e w1 ⟨rfl,hb1⟩;have HB1:Hid (Below w.heap.size w w1):=HB0.out.trans (hb1.mono (by omega));have HZ1:Hid (w1.heap[w.heap.size]?=some (.cells #[.int .i64 0,.int .i64 0,.int .i64 0,.slice none 0 0] 40)):=(hb1.block _ (by omega)).trans HZB.out;have HS:=Sb.hide (H.out.below HB1.out);have d:=bS HS.out.tk.blk;have d5:=d.2.2.2.2.2.1;have d7:=d.2.2.2.2.2.2.2.1;have hz1:=hb1.size;have hne1:¬ w.heap.size=T:=by omega
 have hne2:¬ T=w.heap.size:=by omega
 clear hb1 d;have fr1:w1.frozen? ⟨w.heap.size,0,none⟩=false∧w1.frozen? ⟨w.heap.size,1,none⟩=false∧w1.frozen? ⟨w.heap.size,2,none⟩=false∧w1.frozen? ⟨w.heap.size,3,none⟩=false:=by simp[World.frozen?,HZ1.out]
 go_wp2_with fail
 go_region_held3 (fun w'=>w'.cell? ⟨T,5,none⟩=some vO∧w'.cell? ⟨T,7,none⟩=some (.int .i64 t.trap)) (go_keep) ((go_at_call 64;refine (Dc vO t.out _ (Sb.hide (by exact HS.out.tk.out)) ho).mono ?_;rintro e w2 ⟨v,rfl,hown,hb2⟩;obtain⟨va,vc,rfl⟩:=dA hown;have HO:Hid (w2.ownsRow w1.heap.size 2 1 (.slice va t.out.length vc) t.out.length (ints t.out)):=hown;have HB2:Hid (Below w1.heap.size w1 w2):=⟨hb2.os,hb2.tape,hb2.output,hb2.size,hb2.block⟩;have d5:w2.cell? ⟨T,5,none⟩=some vO:=(hb2.cell (p:=⟨T,5,none⟩) (by show T<_;have:=HB1.out.size;simp;omega)).trans d5;have d7:w2.cell? ⟨T,7,none⟩=some (.int .i64 t.trap):=(hb2.cell (p:=⟨T,7,none⟩) (by show T<_;have:=HB1.out.size;simp;omega)).trans d7;have z2:w2.heap[w.heap.size]?=some (.cells #[.int .i64 0,.int .i64 0,.int .i64 0,.slice none 0 0] 40):=(hb2.block _ (by have:=HB0.out.size;simp;omega)).trans HZ1.out;have HZ2:=Sb.hide z2;have k2:=(QC z2).1;have f2:=(QC z2).2;clear hown hb2 z2))
 clear fr1;have oH:Hid (Below w.heap.size w ((((w2.setCell ⟨w.heap.size,0,none⟩ (.int .i64 s)).setCell ⟨w.heap.size,1,none⟩ (.int .i64 q)).setCell ⟨w.heap.size,2,none⟩ (.int .i64 t.trap)).setCell ⟨w.heap.size,3,none⟩ (.slice va t.out.length vc))):=by
  have hb:Below w.heap.size w w2:=HB1.out.trans (HB2.out.mono HB1.out.size);exact (((hb.setCell (p:=⟨w.heap.size,0,none⟩) (Nat.le_refl _) _).setCell (p:=⟨w.heap.size,1,none⟩) (Nat.le_refl _) _).setCell (p:=⟨w.heap.size,2,none⟩) (Nat.le_refl _) _).setCell (p:=⟨w.heap.size,3,none⟩) (Nat.le_refl _) _
 have sG:Hid (((((w2.setCell ⟨w.heap.size,0,none⟩ (.int .i64 s)).setCell ⟨w.heap.size,1,none⟩ (.int .i64 q)).setCell ⟨w.heap.size,2,none⟩ (.int .i64 t.trap)).setCell ⟨w.heap.size,3,none⟩ (.slice va t.out.length vc)).ownsRow w.heap.size 2 1 (.slice va t.out.length vc) t.out.length (ints t.out)):=by
  have h2:w2.ownsRow w.heap.size 2 1 (.slice va t.out.length vc) t.out.length (ints t.out):=lL HO.out HB1.out.size;refine bA h2 (fun b hb=>?_);have hbl:=(HO.out.lt b hb).1;have hne:b≠w.heap.size:=by have:=HB0.out.size;omega
  rw[Below.heap_setCell _ ⟨w.heap.size,3,none⟩ _ _ hne,Below.heap_setCell _ ⟨w.heap.size,2,none⟩ _ _ hne,Below.heap_setCell _ ⟨w.heap.size,1,none⟩ _ _ hne,Below.heap_setCell _ ⟨w.heap.size,0,none⟩ _ _ hne]
 go_wp2
 have hX:((((w2.setCell ⟨w.heap.size,0,none⟩ (.int .i64 s)).setCell ⟨w.heap.size,1,none⟩ (.int .i64 q)).setCell ⟨w.heap.size,2,none⟩ (.int .i64 t.trap)).setCell ⟨w.heap.size,3,none⟩ (.slice va t.out.length vc)).heap[w.heap.size]?=some (.cells #[.int .i64 s,.int .i64 q,.int .i64 t.trap,.slice va t.out.length vc] 40):=by
  simp only[World.setCell,Array.getElem?_modify,if_true,HZ2.out,Option.map_some];rfl
 refine bodyPost_ret (v:=QD s q t.trap (.slice va t.out.length vc)) ?_ rfl ⟨_,rfl,sG.out,oH.out⟩;generalize (((w2.setCell ⟨w.heap.size,0,none⟩ (.int .i64 s)).setCell ⟨w.heap.size,1,none⟩ (.int .i64 q)).setCell ⟨w.heap.size,2,none⟩ (.int .i64 t.trap)).setCell ⟨w.heap.size,3,none⟩ (.slice va t.out.length vc)=W4 at *;have g:(W4.cell? ⟨w.heap.size,0,none⟩=some (.int .i64 s)∧W4.cell? ⟨w.heap.size,1,none⟩=some (.int .i64 q)∧W4.cell? ⟨w.heap.size,2,none⟩=some (.int .i64 t.trap)∧W4.cell? ⟨w.heap.size,3,none⟩=some (.slice va t.out.length vc)):=by simp[World.cell?,hX]
 obtain⟨g0,g1,g2,g3⟩:=g;simp[results,Tryz.results38,go_sem,g0,g1,g2,g3]
end
structure kE where
 En:av→World→List (Nat × Ev)→Prop
 keep:∀ {L L':av} {w w':World} {l:List (Nat × Ev)},En L w l→Ext L L' w→w.heap.size≤w'.heap.size→(∀ b,b<w.heap.size→(L b).cls=3→w'.heap[b]?=w.heap[b]?)→En L' w' l
def deafW:kE:=⟨fun _ _ _=>True,fun _ _ _ _=>trivial⟩
def qR (B:kE)(o:Nat)(evs:List (Nat × Ev))(l0:Nat):Ag where
 En:=fun L w l=>l0≤l.length∧B.En L w (evs++(l.drop l0).map fun e=>(o,e))
 keep:=fun h hE hz hb=>⟨h.1,B.keep h.2 hE hz hb⟩
structure Sx where
 c:Cx
 Q:Nat→Nat
 rb:Nat
 vb:Value
 WB:Nat
 T:Nat→Nat
 N:Nat→Nat
 af:Nat→Array Value
def Sx.ev (s:Sx)(o:Nat):Value:=.func (.func (s.N o)) #[] (s.af o)
abbrev Sx.E (s:Sx) (A:Ag):Env (List Bq):=Ai s.Q s.c.m.boxes.length s.rb 0 A
structure sH (s:Sx) (B:kE):Prop where
 boxes:∀ A,mq (s.E A) aG s.c s.vb
 hears:∀ o evs l0,evs.length≤100000→jl (s.E (qR B o evs l0)) s.c (s.N o) (s.af o)
abbrev sI (vt vx:Value) (steps last:Int):Obj:=.cells #[vt,vx,.int .i64 steps,.int .i64 last] 100 (0,0)
structure dS (s:Sx) (B:kE) (L:av) (w:World) (W:Wd) (vt vx:Value):Prop where
 blk:w.heap[s.WB]?=some (sI vt vx W.steps W.last)
 lW:(L s.WB).cls=4
 kZ:w.ownsRow 0 115 1 vt W.ts.length (ptrs s.T W.ts.length)
 qU:w.ownsRow 0 104 1 vx s.c.m.boxes.length (ptrs s.Q s.c.m.boxes.length)
 lt:∀ b,vt.ownBlock=some b→(L b).cls=0
 lx:∀ b,vx.ownBlock=some b→(L b).cls=0
 low:∀ b,vt.ownBlock=some b∨vx.ownBlock=some b∨b=s.WB→s.c.B≤b
 tasks:∀ (o:Nat) t,W.ts[o]?=some t→∃ P vR vO,dN s.c s.vb (s.ev o) L o (s.T o) P w t vR vO
 boxes:pq s.Q s.c.m.boxes.length s.rb 0 L w W.x
 Jb:B.En L w W.evs
 ok:bF s.c.B L w
 cx:kR s.c w
structure WI (m:Md) (K:KM) (W:Wd):Prop where
 tasks:∀ (o:Nat) t,W.ts[o]?=some t→MI m K W.steps t W.x
 steps:W.steps≤20000
 last:-1≤W.last∧W.last<W.ts.length
 few:0<W.ts.length∧W.ts.length≤30
 evs:W.evs.length≤2 * W.steps
structure Kp (L:av) (w w':World):Prop where
 os:w'.os=w.os
 tape:w'.tape=w.tape
 output:w'.output=w.output
 size:w.heap.size≤w'.heap.size
 block:∀ b,b<w.heap.size→(L b).cls=0→w'.heap[b]?=w.heap[b]?
theorem Kp.refl (L:av)(w:World):Kp L w w:=⟨rfl,rfl,rfl,Nat.le_refl _,fun _ _ _=>rfl⟩
theorem Kp.trans {L L1:av}{w w1 w2:World}(h:Kp L w w1)(hE:Ext L L1 w)(k:Kp L1 w1 w2):Kp L w w2:=⟨k.os.trans h.os,k.tape.trans h.tape,k.output.trans h.output,Nat.le_trans h.size k.size,fun b hb h0=>(k.block b (by have:=h.size;omega) (by rw[hE b hb];exact h0)).trans (h.block b hb h0)⟩
theorem Kp.of_below {L:av}{w w1:World}(h:Below w.heap.size w w1):Kp L w w1:=⟨h.os,h.tape,h.output,h.size,fun b hb _=>h.block b hb⟩
section
variable {s:Sx} {B:kE} {L:av} {w w1:World} {W:Wd} {vt vx:Value}
theorem uZ {c:Cx}{vB ev:Value}{o T:Nat}{P:Nat→Nat}{t:Tk}{vR vO:Value}(H:dN c vB ev L o T P w t vR vO)(blk:∀ b,b<w.heap.size→(L b).cls=1→(L b).idx=o→w1.heap[b]?=w.heap[b]?){L1:av}(hE:Ext L L1 w)(hl:∀ b,(L1 b).cls=1→(L1 b).idx=o→(L1 b).th≤t.ae.length):dN c vB ev L1 o T P w1 t vR vO:=by
 have one:∀ {b i p:Nat},L b=⟨1,o,i,p⟩→(L b).cls=1∧(L b).idx=o:=fun e=>by rw[e];exact⟨rfl,rfl⟩
 refine⟨(blk _ (lt_of_block H.blk) (one H.lT).1 (one H.lT).2).trans H.blk,bA H.rows (fun b hb=>blk b (H.rows.lt b hb).2 (one (H.lR b hb)).1 (one (H.lR b hb)).2),bA H.out (fun b hb=>blk b (H.out.lt b hb).2 (one (H.lO b hb)).1 (one (H.lO b hb)).2),fun i h hh=>?_,H.few,H.hand,(hE _ (lt_of_block H.blk)).trans H.lT,fun b hb=>(hE _ (H.rows.lt b hb).2).trans (H.lR b hb),fun b hb=>(hE _ (H.out.lt b hb).2).trans (H.lO b hb),hl⟩;obtain⟨S,g,r,vU,hT⟩:=H.ae i h hh;exact⟨S,g,r,vU,hT.keep hE rfl rfl (fun b hb hx=>blk b hb hx.1 hx.2.1)⟩
theorem dS.below (H:dS s B L w W vt vx)(hb:Below w.heap.size w w1):dS s B L w1 W vt vx :=
 ⟨(hb.block _ (lt_of_block H.blk)).trans H.blk,H.lW,bA H.kZ (fun b hx=>hb.block b (H.kZ.lt b hx).2),bA H.qU (fun b hx=>hb.block b (H.qU.lt b hx).2),H.lt,H.lx,H.low,fun o t ht=>by
  obtain⟨P,vR,vO,h⟩:=H.tasks o t ht;exact⟨P,vR,vO,uZ h (fun b hs _ _=>hb.block b hs) (.refl _ _) h.kv⟩,H.boxes.keep (.refl _ _) hb.size (fun b hs _=>hb.block b hs),B.keep H.Jb (.refl _ _) hb.size (fun b hs _=>hb.block b hs),H.ok.on hb.size,H.cx.low (fun b hs=>hb.block b (by have:=H.ok.size;omega))⟩
theorem dS.cells (H:dS s B L w W vt vx):w.cell? ⟨s.WB,0,none⟩=some vt∧w.cell? ⟨s.WB,1,none⟩=some vx∧w.cell? ⟨s.WB,2,none⟩=some (.int .i64 W.steps)∧w.cell? ⟨s.WB,3,none⟩=some (.int .i64 W.last)∧∀ j,w.frozen? ⟨s.WB,j,none⟩=false:=by
 have h:=H.blk;simp[World.cell?,World.frozen?,h]
theorem dS.st (H:dS s B L w W vt vx){o:Nat}{t:Tk}(ht:W.ts[o]?=some t):∃ P vR vO,St (s.E (qR B o W.evs t.log.length)) s.c s.vb (s.ev o) o (s.T o) L P w t W.x vR vO:=by
 obtain⟨P,vR,vO,h⟩:=H.tasks o t ht;exact⟨P,vR,vO,h,⟨H.boxes,Nat.le_refl _,by rw[List.drop_length];simpa using H.Jb⟩,H.ok,H.cx⟩
theorem WI.at {m:Md}{K:KM}(h:WI m K W){c:Cx}(hc:c.m=m)(hK:ib m K){o:Nat}{t:Tk}(ht:W.ts[o]?=some t):t.over=0→∃ f rs u i,nu c t f rs u i:=by
 subst hc;exact (QA hK).at' _ _ _ (h.tasks o t ht)
end
abbrev QF (p:Pk):Value:=.agg #[.int .i64 p.task,.int .i64 p.q]
abbrev iq (p:Pk):Obj:=.cells #[.int .i64 p.task,.int .i64 p.q] 114
theorem QG (n:Int)(w:World)(b:Bool)(hb:Hid (b=decide (1≤n∧n≤10000))) :
  Calls Tryz.prog 13 #[.int .i64 n] w fun e w'=>e=.returned (.bool b)∧w'=w:=by
 by_cases h1:1≤n
 ·by_cases h2:n≤10000
  ·have HF:Hid (b=true):=by unfold Hid;rw[hb.out];simp[h1,h2]
   go_enter Tryz.func13,Tryz.ntmps13
   go_wp2
   go_ret
   exact⟨by rw[HF.out];rfl,rfl⟩
  ·have HF:Hid (b=false):=by unfold Hid;rw[hb.out];simp[h1,h2]
   go_enter Tryz.func13,Tryz.ntmps13
   go_wp2
   go_ret
   exact⟨by rw[HF.out];rfl,rfl⟩
 ·have HF:Hid (b=false):=by unfold Hid;rw[hb.out];simp[h1]
  go_enter Tryz.func13,Tryz.ntmps13
  go_wp2
  go_ret
  exact⟨by rw[HF.out];rfl,rfl⟩
theorem abZ (s:Sx)(B:kE)(hS:Hid (sH s B))(K:KM)(hK:Hid (ib s.c.m K))(L:av)(w:World)(W:Wd)(vt vx:Value)(H:Hid (dS s B L w W vt vx))(hI:Hid (WI s.c.m K W))(p:Pk)(r:Int)(hr:Hid (r=dI s.c.m W p)) :
  Calls Tryz.prog 61 #[.pointer (some ⟨s.WB,0,none⟩),QF p] w fun e w'=>e=.returned (.int .i64 r)∧Below w.heap.size w w':=by
 obtain⟨d0,d1,d2,d3,_⟩:=H.out.cells;obtain⟨ta,tc,u6⟩:∃ a c,vt=.slice a W.ts.length c:=dA H.out.kZ;subst u6;have fV:=lt_of_block H.out.blk;have hst:=hI.out.steps;have dx:=hI.out.few;have HB0:Hid (Below w.heap.size w (w.alloc (iq p))):=(Below.refl _ w).alloc (Nat.le_refl _) _;have p0:(w.alloc (iq p)).cell? ⟨w.heap.size,0,none⟩=some (.int .i64 p.task):=by simp[World.cell?_alloc_mark]
 have p1:(w.alloc (iq p)).cell? ⟨w.heap.size,1,none⟩=some (.int .i64 p.q):=by simp[World.cell?_alloc_mark]
 have hne1:¬ w.heap.size=s.WB:=by omega
 have hne2:¬ s.WB=w.heap.size:=by omega
 obtain⟨N,hN⟩:∃ N,N=W.ts.length:=⟨_,rfl⟩;have HN:=Sb.hide hN;rw[← hN] at dx d0;clear hN;have q0:(w.alloc (iq p)).cell? ⟨s.WB,0,none⟩=some (.slice ta N tc):=(aI (Below.heap_alloc _ _ _ fV) _).trans d0;have q2:(w.alloc (iq p)).cell? ⟨s.WB,2,none⟩=some (.int .i64 W.steps):=(aI (Below.heap_alloc _ _ _ fV) _).trans d2;have Jc:Hid (dI s.c.m W p=if p.task<0∨(N:Int)≤p.task then 3 else if 1≤p.q∧p.q≤10000 then (if (stat aG s.c.m (W.tk p.task) W.x).1=1 then (if 20000≤W.steps then 10 else 0) else 11) else 5):=by
  unfold Hid;rw[HN.out];rfl
 clear d0 d1 d2 d3;by_cases t1:p.task<0
 ·have HR:Hid (r=3):=by unfold Hid;rw[hr.out,Jc.out,if_pos (.inl t1)]
  go_enter Tryz.func61,Tryz.ntmps61
  go_wp2
  generalize w.alloc (iq p)=W1 at *;go_quiet (fail)
  go_wp2
  go_ret
  exact⟨by rw[HR.out];rfl,below_drewN HB0.out _⟩
 by_cases t2:(N:Int)≤p.task
 ·have HR:Hid (r=3):=by unfold Hid;rw[hr.out,Jc.out,if_pos (.inr t2)]
  go_enter Tryz.func61,Tryz.ntmps61
  go_wp2
  generalize w.alloc (iq p)=W1 at *;go_quiet (fail)
  go_wp2
  go_ret
  exact⟨by rw[HR.out];rfl,below_drewN HB0.out _⟩
 obtain⟨o,ho⟩:∃ o:Nat,p.task=o:=⟨p.task.toNat,by omega⟩;obtain⟨t,ht⟩:∃ t,W.ts[o]?=some t:=⟨_,List.getElem?_eq_getElem (by have:=HN.out;omega)⟩;have HO:=Sb.hide ho;have HT:=Sb.hide ht;have gM:Hid (W.tk p.task=t):=by unfold Hid Wd.tk;rw[ho];simp[ht]
 have QH:Hid (r=if 1≤p.q∧p.q≤10000 then (if (stat aG s.c.m t W.x).1=1 then (if 20000≤W.steps then 10 else 0) else 11) else 5):=by
  unfold Hid;rw[hr.out,Jc.out,if_neg (by omega),gM.out]
 have HAT:=Sb.hide (hI.out.at (c:=s.c) rfl hK.out ht);obtain⟨g,u7,htc⟩:=qQ H.out.kZ (xh s.T (by have:=HN.out;omega:o<W.ts.length));have hgz:=World.block_lt_of_cell? w _ htc;have q5:(w.alloc (iq p)).cell? ⟨g,o,none⟩=some (.pointer (some ⟨s.T o,0,none⟩)):=(aI (Below.heap_alloc _ _ _ hgz) _).trans htc;have d1:decide (p.task<0)=false:=by simpa using t1
 have d2:decide ((N:Int)≤p.task)=false:=by simpa using t2
 subst u7;rw[ho] at p0 d1 d2 t1 t2;have n0:(0:Int)≤(o:Int):=by omega
 have n1:(o:Int)<(N:Int):=by omega
 obtain⟨bq,hbq⟩:∃ b,b=decide (1≤p.q∧p.q≤10000):=⟨_,rfl⟩;have vg:=Sb.hide hbq;clear htc ht ho hbq;go_enter Tryz.func61,Tryz.ntmps61
 go_wp2
 generalize hWW:w.alloc (iq p)=W1 at *;go_quiet (fail)
 go_wp2_with fail
 refine (QG p.q _ bq vg).mono ?_;rintro e w2 ⟨rfl,rfl⟩;cases bq with
 | false =>
  have HR:Hid (r=5):=by unfold Hid;rw[QH.out,if_neg (by have:=vg.out;simpa using this.symm)]
  go_wp2
  go_ret
  exact⟨by rw[HR.out];rfl,below_drewN HB0.out _⟩
 | true =>
  have HQ:Hid (1≤p.q∧p.q≤10000):=by have:=vg.out;unfold Hid;simpa using this.symm
  have QI:Hid (r=if (stat aG s.c.m t W.x).1=1 then (if 20000≤W.steps then 10 else 0) else 11):=by unfold Hid;rw[QH.out,if_pos HQ.out]
  obtain⟨P,vR,vO,hSt⟩:=H.out.st HT.out;have HST:=Sb.hide hSt;obtain⟨br,hbr⟩:∃ b,b=((stat aG s.c.m t W.x).1==1):=⟨_,rfl⟩;have vk:=Sb.hide hbr;clear hSt hbr;obtain⟨W2,hW2⟩:∃ W2,W1.drewN nq=W2:=⟨_,rfl⟩;have HB2:Hid (Below w.heap.size w W2):=by rw[← hW2];exact below_drewN HB0.out _
  have k0:W2.cell? ⟨w.heap.size,0,none⟩=some (.int .i64 (o:Int)):=by rw[← hW2];exact p0
  have k2:W2.cell? ⟨s.WB,0,none⟩=some (.slice (some ⟨g,0,none⟩) N tc):=by rw[← hW2];exact q0
  have k3:W2.cell? ⟨s.WB,2,none⟩=some (.int .i64 W.steps):=by rw[← hW2];exact q2
  have k5:W2.cell? ⟨g,o,none⟩=some (.pointer (some ⟨s.T o,0,none⟩)):=by rw[← hW2];exact q5
  rw[hW2];have ahW:g<w.heap.size:=hgz;clear p0 p1 q0 q2 q5 hW2;go_wp2
  go_region_held3 (fun w'=>(w'.cell? ⟨w.heap.size,0,none⟩=some (.int .i64 (o:Int))∧w'.cell? ⟨s.WB,0,none⟩=some (.slice (some ⟨g,0,none⟩) N tc))∧w'.cell? ⟨g,o,none⟩=some (.pointer (some ⟨s.T o,0,none⟩))) (go_keep) ((go_at_call 60;refine (Dy (s.E (qR B o W.evs t.log.length)) aG s.c s.vb (s.ev o) o (s.T o) L P _ t W.x vR vO (Sb.hide (HST.out.below HB2.out.drew)) (Sb.hide (hS.out.boxes _)) HAT br vk).mono ?_;rintro e w3 ⟨rfl,hb3⟩;have HB3:Hid (Below w.heap.size w w3):=HB2.out.drew.trans (hb3.mono (by exact HB2.out.size));have hz2:=World.block_lt_of_cell? W2 _ k0;have k0:w3.cell? ⟨w.heap.size,0,none⟩=some (.int .i64 (o:Int)):=(aI (hb3.block w.heap.size hz2) _).trans k0;have k2:w3.cell? ⟨s.WB,0,none⟩=some (.slice (some ⟨g,0,none⟩) N tc):=(aI (hb3.block s.WB (by have:=HB2.out.size;show s.WB<W2.heap.size;omega)) _).trans k2;have k3:w3.cell? ⟨s.WB,2,none⟩=some (.int .i64 W.steps):=(aI (hb3.block s.WB (by have:=HB2.out.size;show s.WB<W2.heap.size;omega)) _).trans k3;have k5:w3.cell? ⟨g,o,none⟩=some (.pointer (some ⟨s.T o,0,none⟩)):=(aI (hb3.block g (by have:=HB2.out.size;show g<W2.heap.size;omega)) _).trans k5;clear hb3))
  cases br with
  | false =>
   have HR:Hid (r=11):=by unfold Hid;rw[QI.out,if_neg (by have:=vk.out;simpa using this.symm)]
   go_wp2
   go_ret
   exact⟨by rw[HR.out];rfl,HB3.out⟩
  | true =>
   have QJ:Hid (r=if 20000≤W.steps then 10 else 0):=by unfold Hid;rw[QI.out,if_pos (by have:=vk.out;simpa using this.symm)]
   by_cases h5:20000≤W.steps
   ·have HR:Hid (r=10):=by unfold Hid;rw[QJ.out,if_pos h5]
    have d5:(20000:Int)≤(W.steps:Int):=by omega
    go_wp2
    go_ret
    exact⟨by rw[HR.out];rfl,HB3.out⟩
   ·have HR:Hid (r=0):=by unfold Hid;rw[QJ.out,if_neg h5]
    have d5:¬ (20000:Int)≤(W.steps:Int):=by omega
    go_wp2
    go_ret
    exact⟨by rw[HR.out];rfl,HB3.out⟩
section
variable {β:Type} {X:gN β} {m:Md}
theorem x9 {n:Nat}{t:Tk}{x:β}(h:(stat X m t x).1=1):go X m (n+1) t x=((go X m n (one X m t x).1 (one X m t x).2).1+1,(go X m n (one X m t x).1 (one X m t x).2).2):=by
 show (if (stat X m t x).1=1 then _ else _:Nat × Tk × β)=_
 rw[if_pos h]
theorem yc {n:Nat}{t:Tk}{x:β}(h:¬ (stat X m t x).1=1):go X m n t x=(0,t,x):=by
 cases n with
 | zero=>rfl
 | succ n =>
  show (if (stat X m t x).1=1 then _ else _:Nat × Tk × β)=_
  rw[if_neg h]
theorem Ec:∀ (n:Nat) (t:Tk) (x:β),(go X m n t x).1≤n
 | 0,_,_=>Nat.le_refl _
 | n+1,t,x=>by
  by_cases h:(stat X m t x).1=1
  ·rw[x9 h];have:=Ec n (one X m t x).1 (one X m t x).2;simp;omega
  ·rw[yc h];simp
theorem go_pos {n:Nat}{t:Tk}{x:β}(h:(stat X m t x).1=1)(hn:0<n):1≤(go X m n t x).1:=by
 obtain⟨k,rfl⟩:∃ k,n=k+1:=⟨n - 1,by omega⟩;rw[x9 h];simp
theorem QK:∀ (n:Nat) (t:Tk) (x:β),(go X m n t x).1<n→¬ (stat X m (go X m n t x).2.1 (go X m n t x).2.2).1=1
 | 0,_,_,h=>by simp[go] at h
 | n+1,t,x,h=>by
  by_cases hs:(stat X m t x).1=1
  ·rw[x9 hs] at h ⊢
   exact QK n _ _ (by simp at h;omega)
  ·rw[yc hs];exact hs
theorem QL:∀ (a b:Nat) (t:Tk) (x:β),go X m (a+b) t x=if (go X m a t x).1=a then ((go X m b (go X m a t x).2.1 (go X m a t x).2.2).1+a,(go X m b (go X m a t x).2.1 (go X m a t x).2.2).2) else go X m a t x
 | 0,b,t,x=>by simp[go]
 | a+1,b,t,x=>by
  rw[show a+1+b=(a+b)+1 by omega];by_cases hs:(stat X m t x).1=1
  ·rw[x9 hs,x9 hs,QL a b]
   by_cases h:(go X m a (one X m t x).1 (one X m t x).2).1=a
   ·rw[if_pos h,if_pos (by simp[h])]
    simp;omega
   ·rw[if_neg h,if_neg (by simp;omega)]
  ·rw[yc hs,yc hs,if_neg (by simp)]
end
theorem yg {m:Md}{w:Wd}{p:Pk}(h:dI m w p=0):0≤p.task∧p.task<w.ts.length∧1≤p.q∧p.q≤10000∧(stat aG m (w.tk p.task) w.x).1=1∧w.steps<20000:=by
 unfold dI at h;split at h
 ·cases h
 ·split at h
  ·split at h
   ·split at h
    ·cases h
    ·exact⟨by omega,by omega,by omega,by omega,by assumption,by omega⟩
   ·cases h
  ·cases h
theorem Jd {m:Md}{w:Wd}{p:Pk}(h:dI m w p=0):1≤(ran m w p).1∧((ran m w p).1:Int)≤p.q∧(ran m w p).1≤20000 - w.steps:=by
 obtain⟨h1,h2,h3,h4,h5,h6⟩:=yg h;have a:=go_pos (X:=aG) (m:=m) (n:=min p.q.toNat (20000 - w.steps)) h5 (by omega);have b:=Ec (X:=aG) (m:=m) (min p.q.toNat (20000 - w.steps)) (w.tk p.task) w.x;unfold ran;omega
theorem Je (m:Md)(w:Wd)(p:Pk):(dC m w p).steps=w.steps+(iX m w p).steps∧(dC m w p).ts.length=w.ts.length∧(w.steps≤20000→(dC m w p).steps≤20000)∧((iX m w p).err=0→1≤(iX m w p).steps∧((iX m w p).steps:Int)≤p.q)∧((iX m w p).err≠0→(iX m w p).steps=0):=by
 unfold dC iX;by_cases h:dI m w p=0
 ·have:=Jd h
  rw[if_pos h,if_pos h];exact⟨rfl,by simp,fun _=>by show w.steps+_≤20000;omega,fun _=>⟨this.1,this.2.1⟩,fun e=>absurd rfl e⟩
 ·rw[if_neg h,if_neg h]
  exact⟨rfl,rfl,id,fun e=>absurd e h,fun _=>rfl⟩
def good (m:Md)(w:Wd):List Pk→List Pk
 | []=>[]
 | p :: ps=>if (iX m w p).err=0 then p :: good m (dC m w p) ps else good m w ps
def ab0 (a b:Wd):Prop:=a.ts=b.ts∧a.x=b.x∧a.steps=b.steps
theorem Ee {w:Wd}{o:Nat}{t:Tk}(h:o<w.ts.length)(x:List Bq)(s:Nat)(l:Int)(e:List (Nat × Ev)):(Wd.mk (w.ts.set o t) x s l e).tk (o:Int)=t:=by
 simp[Wd.tk,h]
theorem ahX (m:Md)(w:Wd)(task a b:Int)(ha:1≤a∧a≤1000)(hb:1≤b∧b≤1000):ab0 (dC m (dC m w ⟨task,a⟩) ⟨task,b⟩) (dC m w ⟨task,a+b⟩):=by
 by_cases h:dI m w ⟨task,a⟩=0
 ·have h2:dI m w ⟨task,a+b⟩=0:=by
   obtain⟨h1,h2,_,_,h5,h6⟩:=yg h;simp only at h1 h2 h5;unfold dI;rw[if_neg (by simp only;omega),if_pos (by simp only;omega),if_pos h5,if_neg (by omega)]
  obtain⟨h1,h2',_,_,h5,h6⟩:=yg h;simp only at h1 h2' h5;obtain⟨o,rfl⟩:=Int.eq_ofNat_of_zero_le h1;have hol:o<w.ts.length:=by omega
  have dx:=Jd h
  -- one turn
  obtain⟨R1,vw⟩:∃ R,R=ran m w ⟨(o:Int),a⟩:=⟨_,rfl⟩;have e1:dC m w ⟨(o:Int),a⟩=⟨w.ts.set o R1.2.1,R1.2.2,w.steps+R1.1,o,w.evs++(R1.2.1.log.drop (w.tk (o:Int)).log.length).map fun e=>(((o:Int)).toNat,e)⟩:=by
   unfold dC;rw[if_pos h,← vw];rfl
  have e2:dC m w ⟨(o:Int),a+b⟩=⟨w.ts.set o (ran m w ⟨(o:Int),a+b⟩).2.1,(ran m w ⟨(o:Int),a+b⟩).2.2,w.steps+(ran m w ⟨(o:Int),a+b⟩).1,o,w.evs++((ran m w ⟨(o:Int),a+b⟩).2.1.log.drop (w.tk (o:Int)).log.length).map fun e=>(((o:Int)).toNat,e)⟩:=by
   unfold dC;rw[if_pos h2];rfl
  rw[e1,e2];rw[← vw] at dx;have ab1:ran m w ⟨(o:Int),a⟩=go aG m (min a.toNat (20000 - w.steps)) (w.tk (o:Int)) w.x:=rfl;have ab2:ran m w ⟨(o:Int),a+b⟩=go aG m (min (a+b).toNat (20000 - w.steps)) (w.tk (o:Int)) w.x:=rfl;rw[ab1] at vw;have hsplit:min (a+b).toNat (20000 - w.steps)=min a.toNat (20000 - w.steps)+min b.toNat (20000 - (w.steps+min a.toNat (20000 - w.steps))):=by omega
  rw[ab2,hsplit,QL,← vw];by_cases hall:R1.1=min a.toNat (20000 - w.steps)
  ·rw[if_pos hall]
   by_cases h3:(stat aG m R1.2.1 R1.2.2).1=1
   ·by_cases h4:w.steps+R1.1<20000
    ·have hp:dI m ⟨w.ts.set o R1.2.1,R1.2.2,w.steps+R1.1,o,w.evs++(R1.2.1.log.drop (w.tk (o:Int)).log.length).map fun e=>(((o:Int)).toNat,e)⟩ ⟨(o:Int),b⟩=0:=by
      unfold dI;rw[if_neg (by simp;omega),if_pos (by simp only;omega)];simp only[Ee hol];rw[if_pos h3,if_neg (by omega)]
     unfold dC;rw[if_pos hp];have hr3:ran m ⟨w.ts.set o R1.2.1,R1.2.2,w.steps+R1.1,o,w.evs++(R1.2.1.log.drop (w.tk (o:Int)).log.length).map fun e=>(((o:Int)).toNat,e)⟩ ⟨(o:Int),b⟩=go aG m (min b.toNat (20000 - (w.steps+R1.1))) R1.2.1 R1.2.2:=by
      unfold ran;simp only[Ee hol]
     rw[hr3,← hall];refine⟨?_,rfl,?_⟩
     ·simp
     ·show w.steps+R1.1+_=w.steps+(_+R1.1);omega
    ·have hz:min b.toNat (20000 - (w.steps+min a.toNat (20000 - w.steps)))=0:=by omega
     have hp:dI m ⟨w.ts.set o R1.2.1,R1.2.2,w.steps+R1.1,o,w.evs++(R1.2.1.log.drop (w.tk (o:Int)).log.length).map fun e=>(((o:Int)).toNat,e)⟩ ⟨(o:Int),b⟩≠0:=fun e=>by
      have:=(yg e).2.2.2.2.2;simp only at this;omega
     unfold dC;rw[if_neg hp,hz];exact⟨rfl,rfl,by simp[go];omega⟩
   ·have hp:dI m ⟨w.ts.set o R1.2.1,R1.2.2,w.steps+R1.1,o,w.evs++(R1.2.1.log.drop (w.tk (o:Int)).log.length).map fun e=>(((o:Int)).toNat,e)⟩ ⟨(o:Int),b⟩≠0:=fun e=>by
     have:=(yg e).2.2.2.2.1;simp only[Ee hol] at this;exact h3 this
    unfold dC;rw[if_neg hp,yc h3];exact⟨rfl,rfl,by show w.steps+R1.1=w.steps+(0+_);omega⟩
  ·rw[if_neg hall]
   have hle:R1.1≤min a.toNat (20000 - w.steps):=by rw[vw];exact Ec _ _ _
   have h3:¬ (stat aG m R1.2.1 R1.2.2).1=1:=by rw[vw];exact QK _ _ _ (by rw[← vw];omega)
   have hp:dI m ⟨w.ts.set o R1.2.1,R1.2.2,w.steps+R1.1,o,w.evs++(R1.2.1.log.drop (w.tk (o:Int)).log.length).map fun e=>(((o:Int)).toNat,e)⟩ ⟨(o:Int),b⟩≠0:=fun e=>by
    have:=(yg e).2.2.2.2.1;simp only[Ee hol] at this;exact h3 this
   unfold dC;rw[if_neg hp];exact⟨rfl,rfl,rfl⟩
 ·have e:dC m w ⟨task,a⟩=w:=by unfold dC;rw[if_neg h]
  have key:∀ c:Int,1≤c∧c≤10000→dI m w ⟨task,c⟩=dI m w ⟨task,a⟩:=fun c hc=>by
   unfold dI;simp only;split
   ·rfl
   ·rw[if_pos (show 1≤a∧a≤10000 by omega)]
  have hb':¬ dI m w ⟨task,b⟩=0:=by rw[key b (by omega)];exact h
  have hab:¬ dI m w ⟨task,a+b⟩=0:=by rw[key (a+b) (by omega)];exact h
  rw[e];unfold dC;rw[if_neg hb',if_neg hab];exact⟨rfl,rfl,rfl⟩
end Go.Proofs.YtfcpglhpolpdcaaGreatDoor.Vw
