/- A flow whole in memory;the walk of note. -/
import Derived.Test.YtbdpdjcdhclbfaaGreatM13
set_option maxRecDepth 100000
set_option maxHeartbeats 2000000
namespace Go.Proofs.YtbdpdjcdhclbfaaGreat
open Go.RowKit
def KC (w w':World):Prop:=∀ (b:Nat) (cs:Array Value),w.heap[b]?=some (Obj.cells cs 148 (0,0))→w'.heap[b]?=some (Obj.cells cs 148 (0,0))
theorem KC.trans {a b c:World}(h:KC a b)(k:KC b c):KC a c:=fun x cs hx=>k x cs (h x cs hx)
theorem KC.refl (w:World):KC w w:=fun _ _ h=>h
theorem Mg {w w':World}{r:Option Nat}(hg:w.grownBy w' r)(hne:∀ (b:Nat) (cs:Array Value),w.heap[b]?=some (Obj.cells cs 148 (0,0))→r≠some b):KC w w':=fun b cs hb=>(hg.block b (lt_of_block hb) (fun e=>hne b cs hb e.symm)).trans hb
theorem Mh (w:World)(o:Obj):KC w (w.alloc o):=fun _ _ hb=>(Below.heap_alloc _ _ _ (lt_of_block hb)).trans hb
theorem Mi {w w':World}{F:Nat}{o:Obj}(hg:w.grownBy w' (some F))(ho:w.heap[F]?=some o)(ht:∀ cs,o≠Obj.cells cs 148 (0,0)):KC w w':=Mg hg fun b cs hb e=>by
 simp at e;subst e;rw[ho] at hb;simp at hb;exact ht _ hb
structure WF (c:FC) (B F:Nat) (w:World) (k:Vf.Kn) (n:Int) (s:Vf.S):Prop where
 env:Env c B F w
 mB:B≤c.M
 fl:∃ top rv,aB c w F top k.st k.fl n rv∧QR w B rv s.row
 come:uo w c.M s.come
theorem X3 {c:FC}{w:World}{F:Nat}{top:Option Addr}{st:List Int}{f:Vf.Fl}{n:Int}{row row':Value}(h:w.heap[F]?=some (vE c top st f n row)) :
  (w.setCell ⟨F,15,none⟩ row').heap[F]?=some (vE c top st f n row'):=by
 simp only[World.setCell,Array.getElem?_modify,if_true,h,Option.map_some];rfl
theorem uo.ne {c:FC}{w:World}{M F:Nat}{come:Nat→Option Vf.Kn}{top:Option Addr}{st:List Int}{f:Vf.Fl}{n:Int}{row:Value}(h:uo w M come)(hF:w.heap[F]?=some (vE c top st f n row)):M≠F:=by
 obtain⟨es,cl,h1,_⟩:=h;intro e;subst e;rw[h1] at hF;cases hF
theorem WF.own {c:FC}{B F:Nat}{w w':World}{k k':Vf.Kn}{n n':Int}{s:Vf.S}{top:Option Addr}{rv:Value}(h:WF c B F w k n s)(hg:w.grownBy w' (some F))(hF:aB c w' F top k'.st k'.fl n' rv)(lV:∀ top rv',aB c w F top k.st k.fl n rv'→rv=rv'):WF c B F w' k' n' s:=by
 obtain⟨env,mB,⟨P7,rv0,wX,hq⟩,come⟩:=h;obtain rfl:=lV _ _ wX;have hne:=come.ne wX.blk;have kc:=Mi hg wX.blk (fun cs e=>by cases e);exact⟨env.grown hg,mB,⟨top,rv,hF,hq.keep fun j hj=>hg.block j (hq.lt j hj).2 (fun e=>hq.ty wX.blk (fun cs fr e2=>by cases e2) (by rw[hj,← e]))⟩,come.keep (hg.block _ come.lt (by simp;omega)) kc⟩
abbrev vP (k:Vf.Kn) (top:Option Addr):Obj:=.cells #[.pointer top,.int .i64 (k.st.length:Int),ah k.fl.a,ah k.fl.b,ah k.fl.c,ah k.fl.d] 77 (0,0)
theorem below_grown {B:Nat}{w w':World}{r:Option Nat}(h:w.grownBy w' r)(hB:B≤w.heap.size)(hr:∀ k,r=some k→B≤k):Below B w w':=(Below.refl B w).grown h hB hr
theorem uo.drew {w:World}{M:Nat}{come:Nat→Option Vf.Kn}(h:uo w M come):uo w.drew M come:=h.keep rfl (fun _ _ hb=>hb)
theorem uo.alloc {w:World}{M:Nat}{come:Nat→Option Vf.Kn}(h:uo w M come)(o:Obj):uo (w.alloc o) M come:=h.keep (Below.heap_alloc _ _ _ h.lt) (Mh _ _)
theorem uf.drew {w:World}{a:Option Addr}{st:List Int}(h:uf w a st):uf w.drew a st:=h.keep fun _ _ hb=>hb
theorem X4 {c:FC}{B F:Nat}{w w2:World}{k:Vf.Kn}{n:Int}{s:Vf.S}{top:Option Addr}{rv:Value}{o:Obj}(hF:aB c w F top k.st k.fl n rv)(hq:QR w B rv s.row)(hC:uo w c.M s.come)(hg:(w.alloc o).drew.grownBy w2 (some c.M)):aB c w2 F top k.st k.fl n rv∧QR w2 B rv s.row∧KC w w2:=by
 have hne:=hC.ne hF.blk;have hkc:KC w w2:=KC.trans (Mh w o) (Mg (uT hg) fun b cs hb e=>by
  simp at e;subst e;obtain⟨es,cl,h1,_⟩:=hC.alloc o;have h2:(w.alloc o).heap[c.M]?=some (Obj.cells cs 148 (0,0)):=hb;rw[h1] at h2;cases h2)
 have blk:∀ j,j<w.heap.size→j≠c.M→w2.heap[j]?=w.heap[j]?:=fun j hj hjm=>(hg.block j (by show j<(w.alloc o).heap.size;simp;omega) (by simp;omega)).trans (Below.heap_alloc _ _ _ hj);refine⟨⟨(blk F (lt_of_block hF.blk) (by omega)).trans hF.blk,hF.sk.keep hkc⟩,hq.keep fun j hj=>blk j (hq.lt j hj).2 (fun e=>?_),hkc⟩;obtain⟨es,cl,h1,_⟩:=hC;subst e;exact hq.ty h1 (fun cs fr e=>by cases e) hj
theorem X5 {c:FC}{B F:Nat}{w w2 w4:World}{k kn:Vf.Kn}{n:Int}{s:Vf.S}{top:Option Addr}{rv v':Value}{o2 o:Obj}{tz:Nat}(h:WF c B F w k n s)(wX:aB c w F top k.st k.fl n rv)
  (hF:aB c w2 F top k.st k.fl n rv) (hq:QR w2 B rv s.row) (hC:uo w2 c.M (s.note tz kn).come) (hg2:(w.alloc o2).drew.grownBy w2 (some c.M)) (hg:(w2.alloc o).grownBy w4 rv.ownBlock) (hq4:QR w4 B v' (s.row++[tz])) :
  WF c B F (w4.setCell ⟨F,15,none⟩ v') k n (s.note tz kn)∧Below B w (w4.setCell ⟨F,15,none⟩ v'):=by
 have hlt:=lt_of_block hF.blk;have ho:rv.ownBlock≠some F:=hq.ty hF.blk (fun cs fr e=>by cases e);have blk:∀ j,j<w2.heap.size→rv.ownBlock≠some j→w4.heap[j]?=w2.heap[j]?:=fun j hj h1=>(hg.block j (by simp;omega) (fun e=>h1 e.symm)).trans (Below.heap_alloc _ _ _ hj);have QQ:KC w2 w4:=fun b cs hb=>(blk b (lt_of_block hb) (hq.ty hb (fun cs' fr e=>by cases e))).trans hb;have zP:w4.heap[F]?=some (vE c top k.st k.fl n rv):=(blk F hlt ho).trans hF.blk;have QS:KC w4 (w4.setCell ⟨F,15,none⟩ v'):=fun b cs hb=>(Below.heap_setCell _ ⟨F,15,none⟩ _ _ (fun e=>by
  have e1:b=F:=e;subst e1;rw[zP] at hb;cases hb)).trans hb
 have hMF:=hC.ne hF.blk;have X6:w4.heap[c.M]?=w2.heap[c.M]?:=blk c.M hC.lt (by
  obtain⟨es,cl,h1,_⟩:=hC;exact hq.ty h1 (fun cs fr e=>by cases e))
 have hsz:=h.env.lt;have hB:B≤w.heap.size:=by have:=h.env.base;omega
 have hb2:Below B w w2:=((Below.refl B w).alloc hB o2).trans (by have:=below_grown hg2 (by show B≤(w.alloc o2).heap.size;simp;omega) (fun j e=>by cases e;exact h.mB);exact⟨this.os,this.tape,this.output,this.size,this.block⟩);have hb4:Below B w2 w4:=((Below.refl B w2).alloc (by have:=hb2.size;omega) o).trans (below_grown hg (by have:=hb2.size;simp;omega) (fun j e=>(hq.lt j e).1));have hb5:Below B w4 (w4.setCell ⟨F,15,none⟩ v'):=(Below.refl B w4).setCell (p:=⟨F,15,none⟩) h.env.base _;have hall:=(hb2.trans hb4).trans hb5;refine⟨⟨⟨h.env.md.low (fun j hj=>hall.block j hj),h.env.un.low (fun j hj=>hall.block j hj),h.env.base,?_⟩,h.mB,⟨top,v',⟨X3 zP,hF.sk.keep (QQ.trans QS)⟩,hq4.keep fun j hj=>Below.heap_setCell _ ⟨F,15,none⟩ _ _ (fun e=>?_)⟩,hC.keep ((Below.heap_setCell _ ⟨F,15,none⟩ _ _ (by show c.M≠F;omega)).trans X6) (QQ.trans QS)⟩,hall⟩
 ·have:=lt_of_block zP
  simp[World.setCell];omega
 ·have e1:j=F:=e
  subst e1;exact hq4.ty zP (fun cs fr e=>by cases e) hj
theorem JU (W:World)(u:Value)(t:TypeId):∀ j u',[u][j]?=some u'→(W.alloc (.cells #[u] t)).cell? ((⟨W.heap.size,0,none⟩:Addr).add j)=some u'
 | 0,u',h=>by simp at h;subst h;simp[Addr.add]
 | j+1,u',h=>by simp at h
theorem Mj (c:FC)(B F:Nat)(k kn:Vf.Kn)(n:Int)(s:Vf.S)(tz:Nat)(rU:Option Addr)(w:World)(h:Hid (WF c B F w k n s))(hs:Hid (uf w rU kn.st))(hn:s.row.length≤100000000) :
  Calls Tryz.prog 63 #[.pointer (some ⟨F,0,none⟩),.int .i64 (tz:Int),zV kn rU] w fun e w'=>e=.returned (.tuple #[])∧WF c B F w' k n (s.note tz kn)∧Below B w w':=by
 obtain⟨top,rv,hF,hq⟩:=h.out.fl;have hlt:=h.out.env.lt;have hB0:=h.out.env.base;have QT:uo (w.alloc (vP kn rU)).drew c.M s.come:=(h.out.come.alloc _).drew;obtain⟨w2,hup,hC2,hg2⟩:=WC (k:=tz) QT ((hs.out.keep (Mh w (vP kn rU))).drew);obtain⟨hF2,hq2,hk2⟩:=X4 hF hq h.out.come hg2;have c16:=(uD (hF.alloc (vP kn rU)).blk).2.2.1;obtain⟨d14,d15,d16,Mk,QU⟩:=uD hF2.blk;have hz2:=hg2.size;have hz2':w.heap.size+1≤w2.heap.size:=by simpa using hz2
 have ho:rv.ownBlock≠some F:=hq2.ty hF2.blk (fun cs fr e=>by cases e);have HO:=hide ho;have HF:=hide hF;have sj:=hide hF2;have zA:=hide hq2;have zY:=hide hC2;have HG2:=hide hg2;obtain⟨ar,cr,lV⟩:=hq2.form;subst lV;clear hF hq QT hF2 hq2 hk2 hC2 hg2 hz2 d14 d16 Mk ho;go_enter Tryz.func63,Tryz.ntmps63
 go_wp2
 go_region
 all_goals
  go_wp2_with (at_builtin;refine Mc rfl _ _ rfl B _ s.row tz rfl (zA.out.alloc _) ⟨w2.heap.size,0,none⟩ rfl (JU _ _ _) hn (by simp;omega) ?_;intro v' w4 hq4 hg4;obtain⟨a4,c4,hv4⟩:=hq4.form;obtain⟨L4,hL4⟩:∃ L4,L4=(s.row++[tz]).length:=⟨_,rfl⟩;rw[← hL4] at hv4;subst hv4;have HE:=hide (X5 (kn:=kn) h.out HF.out sj.out zA.out zY.out HG2.out hg4 hq4);have hb4:w4.heap[F]?=some (vE c top k.st k.fl n (.slice ar s.row.length cr)):=((hg4.block F (by simp;omega) (fun e=>HO.out e.symm)).trans (Below.heap_alloc _ _ _ (by omega))).trans sj.out.blk;have b15:=(uD hb4).2.1;have QV:=(uD hb4).2.2.2.2;clear hq4 hg4 hb4 hL4)
  go_wp2
  go_end0
  exact⟨rfl,HE.out⟩
theorem Ml {a b:World}{M:Nat}(h:a.grownBy b none):a.grownBy b (some M):=⟨h.os,h.tape,h.output,h.size,fun k hk _=>h.block k hk (by simp)⟩
theorem Mm {B M:Nat}{w w':World}(h:w.grownBy w' (some M))(hM:B≤M)(hB:B≤w.heap.size):Low B w w':=fun k hk=>h.block k (by omega) (by simp;omega)
theorem EY {a b c:World}{T N:Nat}(h:a.grownBy b (some T))(k:b.grownBy c (some N))(hN:a.heap.size≤N∨N=T):a.grownBy c (some T):=h.andThen k (fun j e=>by cases e;rcases hN with h | h;exact .inl h;exact .inr (by rw[h]))
theorem EZ {a b c:World}{T:Nat}(h:a.grownBy b (some T))(k:b.grownBy c none):a.grownBy c (some T):=h.andThen k (fun j e=>by cases e)
theorem tL.keep {w w':World}{M:Nat}{l:LL}(h:tL w M l)(hk:w'.heap[M]?=w.heap[M]?):tL w' M l:=hk.trans h
theorem tL.alloc {w:World}{M:Nat}{l:LL}(h:tL w M l)(o:Obj):tL (w.alloc o) M l:=h.keep (Below.heap_alloc _ _ _ (lt_of_block h))
theorem tL.lt {w:World}{M:Nat}{l:LL}(h:tL w M l):M<w.heap.size:=lt_of_block h
abbrev Mo (k:Lk):Obj:=.cells #[.int .i64 k.1,.int .i64 k.2] 83 (0,0)
theorem X7 {w:World}{N:Nat}{k:Lk}(h:w.heap[N]?=some (Mo k)):w.cell? ⟨N,0,none⟩=some (.int .i64 k.1)∧w.cell? ⟨N,1,none⟩=some (.int .i64 k.2):=by simp[World.cell?,h]
theorem QR.at {w:World}{B i x:Nat}{v:Value}{ws:List Nat}(h:QR w B v ws)(hx:ws[i]?=some x):∃ g off cap,v=.slice (some ⟨g,off,none⟩) ws.length cap∧g<w.heap.size∧w.cell? ⟨g,off+i,none⟩=some (.int .i64 (x:Int)):=by
 rcases h with⟨_,rfl⟩ | ⟨g,off,cap,cs,rfl,_,hh,h1,h2,h3⟩
 ·simp at hx
 ·exact⟨g,off,cap,rfl,lt_of_block hh,by simp[World.cell?,hh,h3 i x hx]⟩
def wQ (w:World)(M:Nat)(f:Int→Int):Prop :=
 ∃ es cl,w.heap[M]?=some (.map es cl)∧Keyed' es.toList∧∀ k:Nat,(f k=0∧um es.toList k 0=some none)∨∃ i,um es.toList k 0=some (some (i,.int .i64 (f k)))
theorem wQ.lt {w:World}{M:Nat}{f:Int→Int}(h:wQ w M f):M<w.heap.size:=by
 obtain⟨es,cl,h1,_⟩:=h;exact lt_of_block h1
theorem wQ.keep {w w':World}{M:Nat}{f:Int→Int}(h:wQ w M f)(hM:w'.heap[M]?=w.heap[M]?):wQ w' M f:=by
 obtain⟨es,cl,h1,h2⟩:=h;exact⟨es,cl,hM.trans h1,h2⟩
theorem wQ.new (w:World):wQ (w.alloc (.map #[] 0)) w.heap.size (fun _=>0):=⟨#[],0,heap_alloc_new w _,fun _ h=>(by cases h),fun _=>.inl ⟨rfl,rfl⟩⟩
theorem wQ.obj {w:World}{M:Nat}{f:Int→Int}(h:wQ w M f):∃ o,w.heap[M]?=some o∧∀ cs fr,o≠.cells cs 3 fr:=by
 obtain⟨es,cl,h1,h2⟩:=h;exact⟨_,h1,fun _ _ e=>by cases e⟩
theorem QW {w:World}{M:Nat}{f:Int→Int}(h:wQ w M f)(k:Nat):(Instr.lookup 119 (.map (some M)) (.int .i64 (k:Int)) false).run Tryz.prog w=.ok (.int .i64 (f k)) w:=by
 obtain⟨es,cl,h1,h2,h3⟩:=h;have hg:(getObj M).run Tryz.prog w=.ok (.map es cl) w:=MapKept.run_getObj_map h1;have hu:=run_underlying (w:=w) Tryz.underlying119;have hzv:(zeroValue 3).run Tryz.prog w=.ok (.int .i64 0) w:=by kernel_rfl
 rcases h3 k with⟨h4,h5⟩ | ⟨i,h5⟩
 ·have hkk:=MapKept.run_findKey (P:=Tryz.prog) (w:=w) (kt:=3) Tryz.underlying3 h5
  simp[Instr.lookup,hu,hg,yK,hkk,hzv,h4]
 ·have hkk:=MapKept.run_findKey (P:=Tryz.prog) (w:=w) (kt:=3) Tryz.underlying3 h5
  simp[Instr.lookup,hu,hg,yK,hkk]
theorem QX {w:World}{M:Nat}{f:Int→Int}(h:wQ w M f)(k:Nat)(v:Int) :
  ∃ w',(Instr.mapUpdate 119 (.map (some M)) (.int .i64 (k:Int)) (.int .i64 v)).run Tryz.prog w=.ok () w'∧wQ w' M (fun q=>if q=(k:Int) then v else f q)∧w.grownBy w' (some M):=by
 obtain⟨es,cl,h1,h2,h3⟩:=h;have hg:(getObj M).run Tryz.prog w=.ok (.map es cl) w:=MapKept.run_getObj_map h1;have hu:=run_underlying (w:=w) Tryz.underlying119;have fin:∀ es' cl',Keyed' es'.toList→(∀ j:Nat,j≠k→um es'.toList j 0=um es.toList j 0)→(∃ i,um es'.toList k 0=some (some (i,.int .i64 v))) →
   wQ { w with heap:=w.heap.setIfInBounds M (.map es' cl') } M (fun q=>if q=(k:Int) then v else f q)∧w.grownBy { w with heap:=w.heap.setIfInBounds M (.map es' cl') } (some M):=by
  intro es' cl' hK hF hk;obtain⟨m1,m2⟩:=MapKept.heap_set (o':=.map es' cl') h1;refine⟨⟨es',cl',m1,hK,fun j=>?_⟩,⟨rfl,rfl,rfl,by simp,fun b _ hne=>m2 b (fun e=>hne (by rw[e]))⟩⟩;by_cases hjk:j=k
  ·subst hjk
   simp only[if_true];exact .inr hk
  ·have e:¬ (j:Int)=(k:Int):=by omega
   simp only[hF j hjk,if_neg e];exact h3 j
 rcases h3 k with⟨_,hf⟩ | ⟨i,hf⟩
 ·have hkk:=MapKept.run_findKey (P:=Tryz.prog) (w:=w) (kt:=3) Tryz.underlying3 hf
  have hset:=MapKept.run_setObj_map (P:=Tryz.prog) (.map (es.push { key:=.int .i64 (k:Int),val:=.int .i64 v,born:=cl }) (cl+1)) h1;refine⟨_,by simp[Instr.mapUpdate,hu,hg,yK,hkk,hset];rfl,fin _ _ (by rw[Array.toList_push];exact h2.push _ (j:=k) rfl) (fun j hj=>?_) ?_⟩
  ·rw[Array.toList_push,FX (j:=k) rfl _ _ h2]
   cases hx:um es.toList j 0 with
   | none=>rfl
   | some x =>
    cases x with
    | none=>simp[hj]
    | some y=>rfl
  ·rw[Array.toList_push,FX (j:=k) rfl _ _ h2,hf]
   simp
 ·have hkk:=MapKept.run_findKey (P:=Tryz.prog) (w:=w) (kt:=3) Tryz.underlying3 hf
  obtain⟨j0,e0,hj0,he0,G8,hev⟩:=G7 es.toList 0 i _ h2 hf;obtain rfl:i=j0:=by omega
  have hes:es[i]?=some e0:=by simpa using he0
  have hst:=MapKept.run_keyThatStays (P:=Tryz.prog) (w:=w) (d:=.int .i64) (k:=.int .i64 (k:Int)) (by simp[MapKept.IsKey]);have hset:=MapKept.run_setObj_map (P:=Tryz.prog) (.map (es.modify i fun e=>{ e with key:=.int .i64 (k:Int),val:=.int .i64 v }) cl) h1;have hm:=fun k'=>Jz (k:=k) (v:=.int .i64 v) es.toList 0 i (.int .i64 (f k)) h2 (by rw[Nat.zero_add];exact hf) k';refine⟨_,by simp[Instr.mapUpdate,hu,hg,yK,hkk,hes,G8,hst,hset];rfl,fin _ _ (by rw[Array.toList_modify];exact h2.modify i) (fun j hj=>?_) ?_⟩
  ·rw[Array.toList_modify,hm j,if_neg hj]
  ·rw[Array.toList_modify,hm k,if_pos rfl]
   exact⟨_,rfl⟩
abbrev Ga (m:Vf.Md) (ab au:Option Addr) (cb cu:Nat):Obj:=.cells #[.slice ab m.boxes.length cb,.slice au m.units.length cu] 25 (0,0)
structure Mq (g:FuncId) (uh:Array Value) (N M:Nat) (I:List Lk→World→Prop):Prop where
 keep:∀ ts w w',I ts w→(∀ k,k<N→w'.heap[k]?=w.heap[k]?)→I ts w'
 call:∀ (ts:List Lk) (op a:Int) (w:World),I ts w→ts.length≤130000→Calls Tryz.prog g (#[.int .i64 op,.int .i64 a]++uh) w fun e w'=>e=.returned (.tuple #[])∧I (ts++[(op,a)]) w'∧w.grownBy w' (some M)
structure xc (m:Vf.Md) (ab au:Option Addr) (cb cu n M:Nat) (w:World) (I:List Lk→World→Prop) (i j:Nat) (v:Value) (R:List Nat) (ts:List Lk) (f:Int→Int) (W:World):Prop where
 wk:Vf.uK m n i j R ts f
 row:QR W w.heap.size v R
 met:wQ W (w.heap.size+1+1) f
 tell:I ts W
 md:W.heap[w.heap.size]?=some (Ga m ab au cb cu)
 grown:w.grownBy W (some M)
theorem X8 {w:World}{N:Nat}{m:Vf.Md}{ab au:Option Addr}{cb cu:Nat}(h:w.heap[N]?=some (Ga m ab au cb cu)):w.cell? ⟨N,0,none⟩=some (.slice ab m.boxes.length cb)∧w.cell? ⟨N,1,none⟩=some (.slice au m.units.length cu):=by simp[World.cell?,h]
theorem xc.step {m:Vf.Md}{ab au:Option Addr}{cb cu n M i j i' j':Nat}{w W W2 W3:World}{I:List Lk→World→Prop}{v:Value}{R:List Nat}{ts ts':List Lk}{f f':Int→Int}{t:Option Nat}(h:xc m ab au cb cu n M w I i j v R ts f W)(h2:W.grownBy W2 none)(h3:W2.grownBy W3 t)(ht:t=some M∨t=some (w.heap.size+1+1))(hM:M<w.heap.size)
  (hw:Vf.uK m n i' j' R ts' f') (hm:wQ W3 (w.heap.size+1+1) f') (hI:I ts' W3):xc m ab au cb cu n M w I i' j' v R ts' f' W3:=by
 have hz:=h2.size;have hg2:=EZ h.grown h2;have hgz:=hg2.size;obtain⟨o,ho,hno⟩:=h.met.obj;have key:∀ k,w.heap.size≤k→k<W.heap.size→k≠w.heap.size+1+1→W3.heap[k]?=W.heap[k]?:=fun k hk hk2 hk3=>(h3.block k (by omega) (by rcases ht with rfl | rfl<;>simp<;>omega)).trans (h2.block k hk2 (by simp));refine⟨hw,h.row.keep fun k hk=>key k (h.row.lt k hk).1 (h.row.lt k hk).2 (fun e=>h.row.ty ho hno (e ▸ hk)),hm,hI,(key _ (Nat.le_refl _) (lt_of_block h.md) (by omega)).trans h.md,?_⟩;rcases ht with rfl | rfl
 ·exact EY hg2 h3 (.inr rfl)
 ·exact EY hg2 h3 (.inl (by omega))
theorem xc.more {m:Vf.Md}{ab au:Option Addr}{cb cu n M i j i' j':Nat}{w W W3 W4:World}{I:List Lk→World→Prop}{g:FuncId}{uh:Array Value}{v v':Value}{R R':List Nat}{ts:List Lk}{f f':Int→Int}(h:xc m ab au cb cu n M w I i j v R ts f W)(hT:Mq g uh w.heap.size M I)(h3:W.grownBy W3 (some (w.heap.size+1+1)))(h4:W3.grownBy W4 v.ownBlock)(hq3:QR W3 w.heap.size v R)
  (hw:Vf.uK m n i' j' R' ts f') (hm:wQ W3 (w.heap.size+1+1) f') (hq:QR W4 w.heap.size v' R'):xc m ab au cb cu n M w I i' j' v' R' ts f' W4:=by
 have hz:=h3.size;have hgz:=h.grown.size;obtain⟨o,ho,hno⟩:=hm.obj;have hb3:W3.heap[w.heap.size]?=some (Ga m ab au cb cu):=(h3.block _ (lt_of_block h.md) (by simp;omega)).trans h.md;have hn1:=hq3.ty ho hno;have hn2:=hq3.ty hb3 (fun cs fr e=>by cases e);refine⟨hw,hq,hm.keep (h4.block _ hm.lt (fun e=>hn1 e.symm)),hT.keep _ _ _ h.tell (fun k hk=>(h4.block k (by omega) (fun e=>?_)).trans (h3.block k (by omega) (by simp;omega))),(h4.block _ (lt_of_block hb3) (fun e=>hn2 e.symm)).trans hb3,?_⟩
 ·have:=(hq3.lt k e.symm).1
  omega
 ·exact (EY h.grown h3 (.inl (by omega))).andThen h4 (fun k e=>.inl (hq3.lt k e).1)
theorem Tryz.X9:(Tryz.prog.info? 73).map (fun i=>i.size)=some 1:=by kernel_rfl
theorem Ya (d:Nat)(x y:BitVec 64)(w:World):(Op.equalIn (d+1) 73 (ah x) (ah y)).run Tryz.prog w=.ok (x==y) w:=by
 have e:((x.toNat:Int)==(y.toNat:Int))=(x==y):=by
  by_cases h:x=y
  ·subst h;simp
  ·have h0:x.toNat≠y.toNat:=fun e=>h (BitVec.eq_of_toNat_eq e)
   have h1:(x==y)=false:=by simpa using h
   have h2:((x.toNat:Int)==(y.toNat:Int))=false:=by rw[beq_eq_false_iff_ne];omega
   rw[h1,h2]
 simp[Op.equalIn,run_underlying Tryz.underlying73,e]
theorem Yb (f g:Vf.Fl)(w:World):(Op.equalIn 10000 75 (Ea f) (Ea g)).run Tryz.prog w=.ok (Vf.Fl.eq f g) w:=by
 have hu:=run_underlying (P:=Tryz.prog) (w:=w) Tryz.underlying75;have h:∀ d:Nat,(Op.equalIn (d+2) 75 (Ea f) (Ea g)).run Tryz.prog w=.ok (Vf.Fl.eq f g) w:=fun d=>by
  obtain⟨j,hj,hj2⟩:=Option.map_eq_some_iff.1 Tryz.X9;have e4:List.range' 0 4=[0,1,2,3]:=rfl;have p0:∀ (a b c e:BitVec 64) (w:World),(part 73 #[ah a,ah b,ah c,ah e] 0).run Tryz.prog w=.ok (ah a) w:=fun _ _ _ _ _=>by simp[part,sizeOf,typeInfo,hj,hj2]
  have p1:∀ (a b c e:BitVec 64) (w:World),(part 73 #[ah a,ah b,ah c,ah e] 1).run Tryz.prog w=.ok (ah b) w:=fun _ _ _ _ _=>by simp[part,sizeOf,typeInfo,hj,hj2]
  have p2:∀ (a b c e:BitVec 64) (w:World),(part 73 #[ah a,ah b,ah c,ah e] 2).run Tryz.prog w=.ok (ah c) w:=fun _ _ _ _ _=>by simp[part,sizeOf,typeInfo,hj,hj2]
  have p3:∀ (a b c e:BitVec 64) (w:World),(part 73 #[ah a,ah b,ah c,ah e] 3).run Tryz.prog w=.ok (ah e) w:=fun _ _ _ _ _=>by simp[part,sizeOf,typeInfo,hj,hj2]
  rw[Op.equalIn];simp[hu,sizeOf,typeInfo,hj,hj2,e4,p0,p1,p2,p3,Ya];unfold Vf.Fl.eq;by_cases ha:f.a=g.a
  ·by_cases hb:f.b=g.b
   ·by_cases hc:f.c=g.c
    ·by_cases hd:f.d=g.d
     ·simp[ha,hb,hc,hd]
     ·simp[ha,hb,hc,hd]
    ·simp[ha,hb,hc]
   ·simp[ha,hb]
  ·simp[ha]
 exact h 9998
theorem QY {B:Nat}{w w':World}(h:w.grownBy w' none)(hB:B≤w.heap.size):Low B w w':=fun k hk=>h.block k (by omega) (by simp)
theorem QZ {w w':World}(h:w.grownBy w' none):KC w w':=Mg h (fun _ _ _ e=>by cases e)
theorem WF.quiet {c:FC}{B F:Nat}{w w':World}{k:Vf.Kn}{n:Int}{s:Vf.S}(h:WF c B F w k n s)(hg:w.grownBy w' none):WF c B F w' k n s:=by
 obtain⟨top,rv,hF,hq⟩:=h.fl;have hB:B≤w.heap.size:=by have:=h.env.base;have:=h.env.lt;omega
 exact⟨⟨h.env.md.low (QY hg hB),h.env.un.low (QY hg hB),h.env.base,by have:=hg.size;have:=h.env.lt;omega⟩,h.mB,⟨top,rv,⟨(hg.block F h.env.lt (by simp)).trans hF.blk,hF.sk.keep (QZ hg)⟩,hq.keep fun j hj=>hg.block j (hq.lt j hj).2 (by simp)⟩,h.come.keep (hg.block _ h.come.lt (by simp)) (QZ hg)⟩
theorem WF.set {c:FC}{B F N:Nat}{w:World}{k:Vf.Kn}{n:Int}{s:Vf.S}{cs:Array Value}{t:TypeId}{fr:Nat × Nat}(h:WF c B F w k n s)(hN:w.heap[N]?=some (.cells cs t fr))(h1:t≠148)(h2:t≠3)(h3:t≠79)(hB:B≤N)(o:Nat)(v:Value):WF c B F (w.setCell ⟨N,o,none⟩ v) k n s:=by
 obtain⟨top,rv,hF,hq⟩:=h.fl;have far:∀ j,j≠N→(w.setCell ⟨N,o,none⟩ v).heap[j]?=w.heap[j]?:=fun j hj=>Below.heap_setCell _ ⟨N,o,none⟩ _ _ hj;have kc:KC w (w.setCell ⟨N,o,none⟩ v):=fun b cs' hb=>(far b (fun e=>by subst e;rw[hN] at hb;cases hb;exact h1 rfl)).trans hb;have Yc:F≠N:=fun e=>by subst e;rw[hF.blk] at hN;cases hN;exact h3 rfl
 have hNM:c.M≠N:=fun e=>by
  obtain⟨es,cl,hm,_⟩:=h.come;subst e;rw[hm] at hN;cases hN
 have low:Low B w (w.setCell ⟨N,o,none⟩ v):=fun j hj=>far j (by omega);refine⟨⟨h.env.md.low low,h.env.un.low low,h.env.base,by have:=h.env.lt;simp[World.setCell];omega⟩,h.mB,⟨top,rv,⟨(far F Yc).trans hF.blk,hF.sk.keep kc⟩,hq.keep fun j hj=>far j (fun e=>?_)⟩,h.come.keep (far _ hNM) kc⟩;subst e;exact hq.ty hN (fun cs fr e=>by cases e;exact h2 rfl) hj
structure uW (c:FC) (B F:Nat) (k:Vf.Kn) (n:Int) (r:Except Int Vf.S) (w:World) (e:Ending) (w':World):Prop where
 below:Below B w w'
 no:∀ er,r=.error er→e=.panicked [lT er n]
 yes:∀ s,r=.ok s→e=.returned (.tuple #[])∧WF c B F w' k n s
theorem uW.bad {c:FC}{B F:Nat}{k:Vf.Kn}{n:Int}{r:Except Int Vf.S}{w w':World}{er:Int}(hb:Below B w w')(hr:r=.error er):uW c B F k n r w (.panicked [lT er n]) w' :=
 ⟨hb,fun u7 e=>(by rw[hr] at e;cases e;rfl),fun s e=>(by rw[hr] at e;cases e)⟩
theorem uW.good {c:FC}{B F:Nat}{k:Vf.Kn}{n:Int}{r:Except Int Vf.S}{w w':World}{s:Vf.S}(hb:Below B w w')(hr:r=.ok s)(hF:WF c B F w' k n s):uW c B F k n r w (.returned (.tuple #[])) w' :=
 ⟨hb,fun u7 e=>(by rw[hr] at e;cases e),fun s e=>(by rw[hr] at e;cases e;exact⟨rfl,hF⟩)⟩
theorem Mr {B:Nat}{w w':World}(h:w.grownBy w' none)(hB:B≤w.heap.size):Below B w w':=below_grown h hB (fun _ e=>by cases e)
theorem Gb {w:World}{N:Nat}{k:Vf.Kn}{top:Option Addr}(h:w.heap[N]?=some (vP k top)):w.cell? ⟨N,0,none⟩=some (.pointer top)∧w.cell? ⟨N,1,none⟩=some (.int .i64 (k.st.length:Int))∧w.cell? ⟨N,2,none⟩=some (ah k.fl.a)∧w.cell? ⟨N,3,none⟩=some (ah k.fl.b)∧w.cell? ⟨N,4,none⟩=some (ah k.fl.c)∧w.cell? ⟨N,5,none⟩=some (ah k.fl.d):=by
 simp[World.cell?,h]
theorem Yd {w:World}{N:Nat}{k:Vf.Kn}{top:Option Addr}(h:w.heap[N]?=some (vP k top)):w.frozen? ⟨N,2,none⟩=false∧w.frozen? ⟨N,3,none⟩=false∧w.frozen? ⟨N,4,none⟩=false∧w.frozen? ⟨N,5,none⟩=false:=by
 simp[World.frozen?,h]
theorem Ye {w:World}{N:Nat}{k:Vf.Kn}{top:Option Addr}(h:w.heap[N]?=some (vP k top))(f:Vf.Fl):((((w.setCell ⟨N,2,none⟩ (ah f.a)).setCell ⟨N,3,none⟩ (ah f.b)).setCell ⟨N,4,none⟩ (ah f.c)).setCell ⟨N,5,none⟩ (ah f.d)).heap[N]?=some (vP ⟨k.st,f⟩ top):=by
 simp only[World.setCell,Array.getElem?_modify,if_true,h,Option.map_some];rfl
theorem Yf {c:FC}{B F N:Nat}{w:World}{k t:Vf.Kn}{n:Int}{s:Vf.S}{top:Option Addr}(h:WF c B F w k n s)(hN:w.heap[N]?=some (vP t top))(hB:B≤N)(f:Vf.Fl):WF c B F ((((w.setCell ⟨N,2,none⟩ (ah f.a)).setCell ⟨N,3,none⟩ (ah f.b)).setCell ⟨N,4,none⟩ (ah f.c)).setCell ⟨N,5,none⟩ (ah f.d)) k n s∧Below B w ((((w.setCell ⟨N,2,none⟩ (ah f.a)).setCell ⟨N,3,none⟩ (ah f.b)).setCell ⟨N,4,none⟩ (ah f.c)).setCell ⟨N,5,none⟩ (ah f.d))∧KC w ((((w.setCell ⟨N,2,none⟩ (ah f.a)).setCell ⟨N,3,none⟩ (ah f.b)).setCell ⟨N,4,none⟩ (ah f.c)).setCell ⟨N,5,none⟩ (ah f.d)):=by
 have step:∀ {w:World} {cs:Array Value},w.heap[N]?=some (.cells cs 77 (0,0))→∀ (o:Nat) (v:Value),(w.setCell ⟨N,o,none⟩ v).heap[N]?=some (.cells (cs.setIfInBounds o v) 77 (0,0)):=fun hw o v=>by
  simp only[World.setCell,Array.getElem?_modify,if_true,hw,Option.map_some];rfl
 have kc:∀ {w:World} {cs:Array Value},w.heap[N]?=some (.cells cs 77 (0,0))→∀ (o:Nat) (v:Value),KC w (w.setCell ⟨N,o,none⟩ v):=fun {w cs} hw o v b cs' hb=>(Below.heap_setCell w ⟨N,o,none⟩ v b (fun e=>by
  have e1:b=N:=e;subst e1;rw[hw] at hb;cases hb)).trans hb
 have h1:=step hN 2 (ah f.a);have h2:=step h1 3 (ah f.b);have h3:=step h2 4 (ah f.c);refine⟨(((h.set hN (by decide) (by decide) (by decide) hB _ _).set h1 (by decide) (by decide) (by decide) hB _ _).set h2 (by decide) (by decide) (by decide) hB _ _).set h3 (by decide) (by decide) (by decide) hB _ _,((((Below.refl B w).setCell (p:=⟨N,2,none⟩) hB _).setCell (p:=⟨N,3,none⟩) hB _).setCell (p:=⟨N,4,none⟩) hB _).setCell (p:=⟨N,5,none⟩) hB _,((kc hN _ _).trans (kc h1 _ _)).trans ((kc h2 _ _).trans (kc h3 _ _))⟩
end Go.Proofs.YtbdpdjcdhclbfaaGreat
