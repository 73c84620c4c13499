/- The map of how often units are met;whoever is told. -/
import Derived.Test.YtfcpglhpolpdcaaGreatDoorM22
import Derived.Test.YtfcpglhpolpdcaaGreatDoorM23
import Derived.Deep.DeepCutAuto
set_option maxRecDepth 100000
set_option maxHeartbeats 2000000
namespace Go.Proofs.YtfcpglhpolpdcaaGreatDoor
open Go.RowKit
theorem Iw {a b:World}{M:Nat}(h:a.grownBy b none):a.grownBy b (some M):=⟨h.os,h.tape,h.output,h.size,fun k hk _=>h.block k hk (by simp)⟩
theorem Iy {B M:Nat}{w w':World}(h:w.grownBy w' (some M))(hM:B≤M)(hB:B≤w.heap.size):Low B w w':=fun k hk=>h.block k (by omega) (by simp;omega)
theorem uL {a b c:World}{T N:Nat}(h:a.grownBy b (some T))(k:b.grownBy c (some N))(hN:a.heap.size≤N∨N=T):a.grownBy c (some T):=h.andThen k (fun j e=>by cases e;rcases hN with h | h;exact .inl h;exact .inr (by rw[h]))
theorem uM {a b c:World}{T:Nat}(h:a.grownBy b (some T))(k:b.grownBy c none):a.grownBy c (some T):=h.andThen k (fun j e=>by cases e)
theorem eF.keep {w w':World}{M:Nat}{l:LL}(h:eF w M l)(hk:w'.heap[M]?=w.heap[M]?):eF w' M l:=hk.trans h
theorem eF.alloc {w:World}{M:Nat}{l:LL}(h:eF w M l)(o:Obj):eF (w.alloc o) M l:=h.keep (Below.heap_alloc _ _ _ (lt_of_block h))
theorem eF.lt {w:World}{M:Nat}{l:LL}(h:eF w M l):M<w.heap.size:=lt_of_block h
abbrev Iz (k:Lk):Obj:=.cells #[.int .i64 k.1,.int .i64 k.2] 205 (0,0)
theorem aab {w:World}{N:Nat}{k:Lk}(h:w.heap[N]?=some (Iz k)):w.cell? ⟨N,0,none⟩=some (.int .i64 k.1)∧w.cell? ⟨N,1,none⟩=some (.int .i64 k.2):=by simp[World.cell?,h]
theorem QR.at {w:World}{B i x:Nat}{v:Value}{ws:List Nat}(h:QR w B v ws)(hx:ws[i]?=some x):∃ g off cap,v=.slice (some ⟨g,off,none⟩) ws.length cap∧g<w.heap.size∧w.cell? ⟨g,off+i,none⟩=some (.int .i64 (x:Int)):=by
 rcases h with⟨_,rfl⟩ | ⟨g,off,cap,cs,rfl,_,hh,h1,h2,h3⟩
 ·simp at hx
 ·exact⟨g,off,cap,rfl,lt_of_block hh,by simp[World.cell?,hh,h3 i x hx]⟩
def jv (w:World)(M:Nat)(f:Int→Int):Prop :=
 ∃ es cl,w.heap[M]?=some (.map es cl)∧Keyed' es.toList∧∀ k:Nat,(f k=0∧il es.toList k 0=some none)∨∃ i,il es.toList k 0=some (some (i,.int .i64 (f k)))
theorem jv.lt {w:World}{M:Nat}{f:Int→Int}(h:jv w M f):M<w.heap.size:=by
 obtain⟨es,cl,h1,_⟩:=h;exact lt_of_block h1
theorem jv.keep {w w':World}{M:Nat}{f:Int→Int}(h:jv w M f)(hM:w'.heap[M]?=w.heap[M]?):jv w' M f:=by
 obtain⟨es,cl,h1,h2⟩:=h;exact⟨es,cl,hM.trans h1,h2⟩
theorem jv.new (w:World):jv (w.alloc (.map #[] 0)) w.heap.size (fun _=>0):=⟨#[],0,heap_alloc_new w _,fun _ h=>(by cases h),fun _=>.inl ⟨rfl,rfl⟩⟩
theorem jv.obj {w:World}{M:Nat}{f:Int→Int}(h:jv w M f):∃ o,w.heap[M]?=some o∧∀ cs fr,o≠.cells cs 3 fr:=by
 obtain⟨es,cl,h1,h2⟩:=h;exact⟨_,h1,fun _ _ e=>by cases e⟩
theorem PD {w:World}{M:Nat}{f:Int→Int}(h:jv w M f)(k:Nat):(Instr.lookup 145 (.map (some M)) (.int .i64 (k:Int)) false).run Tryz.prog w=.ok (.int .i64 (f k)) w:=by
 obtain⟨es,cl,h1,h2,h3⟩:=h;have hg:(getObj M).run Tryz.prog w=.ok (.map es cl) w:=MapKept.run_getObj_map h1;have hu:=run_underlying (w:=w) Tryz.underlying145;have hzv:(zeroValue 3).run Tryz.prog w=.ok (.int .i64 0) w:=by kernel_rfl
 rcases h3 k with⟨h4,h5⟩ | ⟨i,h5⟩
 ·have hkk:=MapKept.run_findKey (P:=Tryz.prog) (w:=w) (kt:=3) Tryz.underlying3 h5
  simp[Instr.lookup,hu,hg,qL,hkk,hzv,h4]
 ·have hkk:=MapKept.run_findKey (P:=Tryz.prog) (w:=w) (kt:=3) Tryz.underlying3 h5
  simp[Instr.lookup,hu,hg,qL,hkk]
theorem PE {w:World}{M:Nat}{f:Int→Int}(h:jv w M f)(k:Nat)(v:Int) :
  ∃ w',(Instr.mapUpdate 145 (.map (some M)) (.int .i64 (k:Int)) (.int .i64 v)).run Tryz.prog w=.ok () w'∧jv w' M (fun q=>if q=(k:Int) then v else f q)∧w.grownBy w' (some M):=by
 obtain⟨es,cl,h1,h2,h3⟩:=h;have hg:(getObj M).run Tryz.prog w=.ok (.map es cl) w:=MapKept.run_getObj_map h1;have hu:=run_underlying (w:=w) Tryz.underlying145;have fin:∀ es' cl',Keyed' es'.toList→(∀ j:Nat,j≠k→il es'.toList j 0=il es.toList j 0)→(∃ i,il es'.toList k 0=some (some (i,.int .i64 v))) →
   jv { w with heap:=w.heap.setIfInBounds M (.map es' cl') } M (fun q=>if q=(k:Int) then v else f q)∧w.grownBy { w with heap:=w.heap.setIfInBounds M (.map es' cl') } (some M):=by
  intro es' cl' hK hF hk;obtain⟨m1,m2⟩:=MapKept.heap_set (o':=.map es' cl') h1;refine⟨⟨es',cl',m1,hK,fun j=>?_⟩,⟨rfl,rfl,rfl,by simp,fun b _ hne=>m2 b (fun e=>hne (by rw[e]))⟩⟩;by_cases hjk:j=k
  ·subst hjk
   simp only[if_true];exact .inr hk
  ·have e:¬ (j:Int)=(k:Int):=by omega
   simp only[hF j hjk,if_neg e];exact h3 j
 rcases h3 k with⟨_,hf⟩ | ⟨i,hf⟩
 ·have hkk:=MapKept.run_findKey (P:=Tryz.prog) (w:=w) (kt:=3) Tryz.underlying3 hf
  have hset:=MapKept.run_setObj_map (P:=Tryz.prog) (.map (es.push { key:=.int .i64 (k:Int),val:=.int .i64 v,born:=cl }) (cl+1)) h1;refine⟨_,by simp[Instr.mapUpdate,hu,hg,qL,hkk,hset];rfl,fin _ _ (by rw[Array.toList_push];exact h2.push _ (j:=k) rfl) (fun j hj=>?_) ?_⟩
  ·rw[Array.toList_push,DN (j:=k) rfl _ _ h2]
   cases hx:il es.toList j 0 with
   | none=>rfl
   | some x =>
    cases x with
    | none=>simp[hj]
    | some y=>rfl
  ·rw[Array.toList_push,DN (j:=k) rfl _ _ h2,hf]
   simp
 ·have hkk:=MapKept.run_findKey (P:=Tryz.prog) (w:=w) (kt:=3) Tryz.underlying3 hf
  obtain⟨j0,e0,hj0,he0,Ao,hev⟩:=DT es.toList 0 i _ h2 hf;obtain rfl:i=j0:=by omega
  have hes:es[i]?=some e0:=by simpa using he0
  have hst:=MapKept.run_keyThatStays (P:=Tryz.prog) (w:=w) (d:=.int .i64) (k:=.int .i64 (k:Int)) (by simp[MapKept.IsKey]);have hset:=MapKept.run_setObj_map (P:=Tryz.prog) (.map (es.modify i fun e=>{ e with key:=.int .i64 (k:Int),val:=.int .i64 v }) cl) h1;have hm:=fun k'=>Ik (k:=k) (v:=.int .i64 v) es.toList 0 i (.int .i64 (f k)) h2 (by rw[Nat.zero_add];exact hf) k';refine⟨_,by simp[Instr.mapUpdate,hu,hg,qL,hkk,hes,Ao,hst,hset];rfl,fin _ _ (by rw[Array.toList_modify];exact h2.modify i) (fun j hj=>?_) ?_⟩
  ·rw[Array.toList_modify,hm j,if_neg hj]
  ·rw[Array.toList_modify,hm k,if_pos rfl]
   exact⟨_,rfl⟩
abbrev xN (m:Vf.Md) (ab au:Option Addr) (cb cu:Nat):Obj:=.cells #[.slice ab m.boxes.length cb,.slice au m.units.length cu] 25 (0,0)
structure DV (g:FuncId) (af:Array Value) (N M:Nat) (I:List Lk→World→Prop):Prop where
 keep:∀ ts w w',I ts w→(∀ k,k<N→w'.heap[k]?=w.heap[k]?)→I ts w'
 call:∀ (ts:List Lk) (op a:Int) (w:World),I ts w→ts.length≤130000→Calls Tryz.prog g (#[.int .i64 op,.int .i64 a]++af) w fun e w'=>e=.returned (.tuple #[])∧I (ts++[(op,a)]) w'∧w.grownBy w' (some M)
structure jR (m:Vf.Md) (ab au:Option Addr) (cb cu n M:Nat) (w:World) (I:List Lk→World→Prop) (i j:Nat) (v:Value) (R:List Nat) (ts:List Lk) (f:Int→Int) (W:World):Prop where
 wk:Vf.fQ m n i j R ts f
 row:QR W w.heap.size v R
 met:jv W (w.heap.size+1+1) f
 tell:I ts W
 md:W.heap[w.heap.size]?=some (xN m ab au cb cu)
 grown:w.grownBy W (some M)
theorem aac {w:World}{N:Nat}{m:Vf.Md}{ab au:Option Addr}{cb cu:Nat}(h:w.heap[N]?=some (xN m ab au cb cu)):w.cell? ⟨N,0,none⟩=some (.slice ab m.boxes.length cb)∧w.cell? ⟨N,1,none⟩=some (.slice au m.units.length cu):=by simp[World.cell?,h]
theorem jR.step {m:Vf.Md}{ab au:Option Addr}{cb cu n M i j i' j':Nat}{w W W2 W3:World}{I:List Lk→World→Prop}{v:Value}{R:List Nat}{ts ts':List Lk}{f f':Int→Int}{t:Option Nat}(h:jR m ab au cb cu n M w I i j v R ts f W)(h2:W.grownBy W2 none)(h3:W2.grownBy W3 t)(ht:t=some M∨t=some (w.heap.size+1+1))(hM:M<w.heap.size)
  (hw:Vf.fQ m n i' j' R ts' f') (hm:jv W3 (w.heap.size+1+1) f') (hI:I ts' W3):jR m ab au cb cu n M w I i' j' v R ts' f' W3:=by
 have hz:=h2.size;have hg2:=uM h.grown h2;have hgz:=hg2.size;obtain⟨o,ho,hno⟩:=h.met.obj;have key:∀ k,w.heap.size≤k→k<W.heap.size→k≠w.heap.size+1+1→W3.heap[k]?=W.heap[k]?:=fun k hk hk2 hk3=>(h3.block k (by omega) (by rcases ht with rfl | rfl<;>simp<;>omega)).trans (h2.block k hk2 (by simp));refine⟨hw,h.row.keep fun k hk=>key k (h.row.lt k hk).1 (h.row.lt k hk).2 (fun e=>h.row.ty ho hno (e ▸ hk)),hm,hI,(key _ (Nat.le_refl _) (lt_of_block h.md) (by omega)).trans h.md,?_⟩;rcases ht with rfl | rfl
 ·exact uL hg2 h3 (.inr rfl)
 ·exact uL hg2 h3 (.inl (by omega))
theorem jR.more {m:Vf.Md}{ab au:Option Addr}{cb cu n M i j i' j':Nat}{w W W3 W4:World}{I:List Lk→World→Prop}{g:FuncId}{af:Array Value}{v v':Value}{R R':List Nat}{ts:List Lk}{f f':Int→Int}(h:jR m ab au cb cu n M w I i j v R ts f W)(hT:DV g af w.heap.size M I)(h3:W.grownBy W3 (some (w.heap.size+1+1)))(h4:W3.grownBy W4 v.ownBlock)(hq3:QR W3 w.heap.size v R)
  (hw:Vf.fQ m n i' j' R' ts f') (hm:jv W3 (w.heap.size+1+1) f') (hq:QR W4 w.heap.size v' R'):jR m ab au cb cu n M w I i' j' v' R' ts f' W4:=by
 have hz:=h3.size;have hgz:=h.grown.size;obtain⟨o,ho,hno⟩:=hm.obj;have hb3:W3.heap[w.heap.size]?=some (xN m ab au cb cu):=(h3.block _ (lt_of_block h.md) (by simp;omega)).trans h.md;have hn1:=hq3.ty ho hno;have hn2:=hq3.ty hb3 (fun cs fr e=>by cases e);refine⟨hw,hq,hm.keep (h4.block _ hm.lt (fun e=>hn1 e.symm)),hT.keep _ _ _ h.tell (fun k hk=>(h4.block k (by omega) (fun e=>?_)).trans (h3.block k (by omega) (by simp;omega))),(h4.block _ (lt_of_block hb3) (fun e=>hn2 e.symm)).trans hb3,?_⟩
 ·have:=(hq3.lt k e.symm).1
  omega
 ·exact (uL h.grown h3 (.inl (by omega))).andThen h4 (fun k e=>.inl (hq3.lt k e).1)
theorem Tryz.aad:(Tryz.prog.info? 196).map (fun i=>i.size)=some 1:=by kernel_rfl
theorem aae (d:Nat)(x y:BitVec 64)(w:World):(Op.equalIn (d+1) 196 (ah x) (ah y)).run Tryz.prog w=.ok (x==y) w:=by
 have e:((x.toNat:Int)==(y.toNat:Int))=(x==y):=by
  by_cases h:x=y
  ·subst h;simp
  ·have h0:x.toNat≠y.toNat:=fun e=>h (BitVec.eq_of_toNat_eq e)
   have h1:(x==y)=false:=by simpa using h
   have h2:((x.toNat:Int)==(y.toNat:Int))=false:=by rw[beq_eq_false_iff_ne];omega
   rw[h1,h2]
 simp[Op.equalIn,run_underlying Tryz.underlying196,e]
theorem aaf (f g:Vf.Fl)(w:World):(Op.equalIn 10000 198 (rX f) (rX g)).run Tryz.prog w=.ok (Vf.Fl.eq f g) w:=by
 have hu:=run_underlying (P:=Tryz.prog) (w:=w) Tryz.underlying198;have h:∀ d:Nat,(Op.equalIn (d+2) 198 (rX f) (rX g)).run Tryz.prog w=.ok (Vf.Fl.eq f g) w:=fun d=>by
  obtain⟨j,hj,hj2⟩:=Option.map_eq_some_iff.1 Tryz.aad;have e4:List.range' 0 4=[0,1,2,3]:=rfl;have p0:∀ (a b c e:BitVec 64) (w:World),(part 196 #[ah a,ah b,ah c,ah e] 0).run Tryz.prog w=.ok (ah a) w:=fun _ _ _ _ _=>by simp[part,sizeOf,typeInfo,hj,hj2]
  have p1:∀ (a b c e:BitVec 64) (w:World),(part 196 #[ah a,ah b,ah c,ah e] 1).run Tryz.prog w=.ok (ah b) w:=fun _ _ _ _ _=>by simp[part,sizeOf,typeInfo,hj,hj2]
  have p2:∀ (a b c e:BitVec 64) (w:World),(part 196 #[ah a,ah b,ah c,ah e] 2).run Tryz.prog w=.ok (ah c) w:=fun _ _ _ _ _=>by simp[part,sizeOf,typeInfo,hj,hj2]
  have p3:∀ (a b c e:BitVec 64) (w:World),(part 196 #[ah a,ah b,ah c,ah e] 3).run Tryz.prog w=.ok (ah e) w:=fun _ _ _ _ _=>by simp[part,sizeOf,typeInfo,hj,hj2]
  rw[Op.equalIn];simp[hu,sizeOf,typeInfo,hj,hj2,e4,p0,p1,p2,p3,aae];unfold Vf.Fl.eq;by_cases ha:f.a=g.a
  ·by_cases hb:f.b=g.b
   ·by_cases hc:f.c=g.c
    ·by_cases hd:f.d=g.d
     ·simp[ha,hb,hc,hd]
     ·simp[ha,hb,hc,hd]
    ·simp[ha,hb,hc]
   ·simp[ha,hb]
  ·simp[ha]
 exact h 9998
theorem PG {B:Nat}{w w':World}(h:w.grownBy w' none)(hB:B≤w.heap.size):Low B w w':=fun k hk=>h.block k (by omega) (by simp)
theorem PH {w w':World}(h:w.grownBy w' none):KC w w':=Io h (fun _ _ _ e=>by cases e)
theorem WF.quiet {c:FC}{B F:Nat}{w w':World}{k:Vf.Kn}{n:Int}{s:Vf.S}(h:WF c B F w k n s)(hg:w.grownBy w' none):WF c B F w' k n s:=by
 obtain⟨top,rv,hF,hq⟩:=h.fl;have hB:B≤w.heap.size:=by have:=h.env.base;have:=h.env.lt;omega
 exact⟨⟨h.env.md.low (PG hg hB),h.env.un.low (PG hg hB),h.env.base,by have:=hg.size;have:=h.env.lt;omega⟩,h.mB,⟨top,rv,⟨(hg.block F h.env.lt (by simp)).trans hF.blk,hF.sk.keep (PH hg)⟩,hq.keep fun j hj=>hg.block j (hq.lt j hj).2 (by simp)⟩,h.come.keep (hg.block _ h.come.lt (by simp)) (PH hg)⟩
theorem WF.set {c:FC}{B F N:Nat}{w:World}{k:Vf.Kn}{n:Int}{s:Vf.S}{cs:Array Value}{t:TypeId}{fr:Nat × Nat}(h:WF c B F w k n s)(hN:w.heap[N]?=some (.cells cs t fr))(h1:t≠303)(h2:t≠3)(h3:t≠202)(hB:B≤N)(o:Nat)(v:Value):WF c B F (w.setCell ⟨N,o,none⟩ v) k n s:=by
 obtain⟨top,rv,hF,hq⟩:=h.fl;have far:∀ j,j≠N→(w.setCell ⟨N,o,none⟩ v).heap[j]?=w.heap[j]?:=fun j hj=>Below.heap_setCell _ ⟨N,o,none⟩ _ _ hj;have kc:KC w (w.setCell ⟨N,o,none⟩ v):=fun b cs' hb=>(far b (fun e=>by subst e;rw[hN] at hb;cases hb;exact h1 rfl)).trans hb;have hNF:F≠N:=fun e=>by subst e;rw[hF.blk] at hN;cases hN;exact h3 rfl
 have hNM:c.M≠N:=fun e=>by
  obtain⟨es,cl,hm,_⟩:=h.come;subst e;rw[hm] at hN;cases hN
 have low:Low B w (w.setCell ⟨N,o,none⟩ v):=fun j hj=>far j (by omega);refine⟨⟨h.env.md.low low,h.env.un.low low,h.env.base,by have:=h.env.lt;simp[World.setCell];omega⟩,h.mB,⟨top,rv,⟨(far F hNF).trans hF.blk,hF.sk.keep kc⟩,hq.keep fun j hj=>far j (fun e=>?_)⟩,h.come.keep (far _ hNM) kc⟩;subst e;exact hq.ty hN (fun cs fr e=>by cases e;exact h2 rfl) hj
structure gP (c:FC) (B F:Nat) (k:Vf.Kn) (n:Int) (r:Except Int Vf.S) (w:World) (e:Ending) (w':World):Prop where
 below:Below B w w'
 no:∀ er,r=.error er→e=.panicked [cz er n]
 yes:∀ s,r=.ok s→e=.returned (.tuple #[])∧WF c B F w' k n s
theorem gP.bad {c:FC}{B F:Nat}{k:Vf.Kn}{n:Int}{r:Except Int Vf.S}{w w':World}{er:Int}(hb:Below B w w')(hr:r=.error er):gP c B F k n r w (.panicked [cz er n]) w' :=
 ⟨hb,fun iE e=>(by rw[hr] at e;cases e;rfl),fun s e=>(by rw[hr] at e;cases e)⟩
theorem gP.good {c:FC}{B F:Nat}{k:Vf.Kn}{n:Int}{r:Except Int Vf.S}{w w':World}{s:Vf.S}(hb:Below B w w')(hr:r=.ok s)(hF:WF c B F w' k n s):gP c B F k n r w (.returned (.tuple #[])) w' :=
 ⟨hb,fun iE e=>(by rw[hr] at e;cases e),fun s e=>(by rw[hr] at e;cases e;exact⟨rfl,hF⟩)⟩
theorem IA {B:Nat}{w w':World}(h:w.grownBy w' none)(hB:B≤w.heap.size):Below B w w':=below_grown h hB (fun _ e=>by cases e)
theorem xO {w:World}{N:Nat}{k:Vf.Kn}{top:Option Addr}(h:w.heap[N]?=some (iL k top)):w.cell? ⟨N,0,none⟩=some (.pointer top)∧w.cell? ⟨N,1,none⟩=some (.int .i64 (k.st.length:Int))∧w.cell? ⟨N,2,none⟩=some (ah k.fl.a)∧w.cell? ⟨N,3,none⟩=some (ah k.fl.b)∧w.cell? ⟨N,4,none⟩=some (ah k.fl.c)∧w.cell? ⟨N,5,none⟩=some (ah k.fl.d):=by
 simp[World.cell?,h]
theorem aah {w:World}{N:Nat}{k:Vf.Kn}{top:Option Addr}(h:w.heap[N]?=some (iL k top)):w.frozen? ⟨N,2,none⟩=false∧w.frozen? ⟨N,3,none⟩=false∧w.frozen? ⟨N,4,none⟩=false∧w.frozen? ⟨N,5,none⟩=false:=by
 simp[World.frozen?,h]
theorem aai {w:World}{N:Nat}{k:Vf.Kn}{top:Option Addr}(h:w.heap[N]?=some (iL k top))(f:Vf.Fl):((((w.setCell ⟨N,2,none⟩ (ah f.a)).setCell ⟨N,3,none⟩ (ah f.b)).setCell ⟨N,4,none⟩ (ah f.c)).setCell ⟨N,5,none⟩ (ah f.d)).heap[N]?=some (iL ⟨k.st,f⟩ top):=by
 simp only[World.setCell,Array.getElem?_modify,if_true,h,Option.map_some];rfl
theorem aaj {c:FC}{B F N:Nat}{w:World}{k t:Vf.Kn}{n:Int}{s:Vf.S}{top:Option Addr}(h:WF c B F w k n s)(hN:w.heap[N]?=some (iL t top))(hB:B≤N)(f:Vf.Fl):WF c B F ((((w.setCell ⟨N,2,none⟩ (ah f.a)).setCell ⟨N,3,none⟩ (ah f.b)).setCell ⟨N,4,none⟩ (ah f.c)).setCell ⟨N,5,none⟩ (ah f.d)) k n s∧Below B w ((((w.setCell ⟨N,2,none⟩ (ah f.a)).setCell ⟨N,3,none⟩ (ah f.b)).setCell ⟨N,4,none⟩ (ah f.c)).setCell ⟨N,5,none⟩ (ah f.d))∧KC w ((((w.setCell ⟨N,2,none⟩ (ah f.a)).setCell ⟨N,3,none⟩ (ah f.b)).setCell ⟨N,4,none⟩ (ah f.c)).setCell ⟨N,5,none⟩ (ah f.d)):=by
 have step:∀ {w:World} {cs:Array Value},w.heap[N]?=some (.cells cs 200 (0,0))→∀ (o:Nat) (v:Value),(w.setCell ⟨N,o,none⟩ v).heap[N]?=some (.cells (cs.setIfInBounds o v) 200 (0,0)):=fun hw o v=>by
  simp only[World.setCell,Array.getElem?_modify,if_true,hw,Option.map_some];rfl
 have kc:∀ {w:World} {cs:Array Value},w.heap[N]?=some (.cells cs 200 (0,0))→∀ (o:Nat) (v:Value),KC w (w.setCell ⟨N,o,none⟩ v):=fun {w cs} hw o v b cs' hb=>(Below.heap_setCell w ⟨N,o,none⟩ v b (fun e=>by
  have e1:b=N:=e;subst e1;rw[hw] at hb;cases hb)).trans hb
 have h1:=step hN 2 (ah f.a);have h2:=step h1 3 (ah f.b);have h3:=step h2 4 (ah f.c);refine⟨(((h.set hN (by decide) (by decide) (by decide) hB _ _).set h1 (by decide) (by decide) (by decide) hB _ _).set h2 (by decide) (by decide) (by decide) hB _ _).set h3 (by decide) (by decide) (by decide) hB _ _,((((Below.refl B w).setCell (p:=⟨N,2,none⟩) hB _).setCell (p:=⟨N,3,none⟩) hB _).setCell (p:=⟨N,4,none⟩) hB _).setCell (p:=⟨N,5,none⟩) hB _,((kc hN _ _).trans (kc h1 _ _)).trans ((kc h2 _ _).trans (kc h3 _ _))⟩
def aak (f:Vf.Fl)(w w2:World)(pv:Value)(wx:World):Prop:=∃ L,pv=.pointer (some ⟨L,0,none⟩)∧w.heap.size<L∧wx.heap[L]?=some (oG f)∧w2.grownBy wx none
theorem aal {w:World}{N:Nat}{g:Vf.Fl}(h:w.heap[N]?=some (oG g))(f:Vf.Fl):((((w.setCell ⟨N,0,none⟩ (ah f.a)).setCell ⟨N,1,none⟩ (ah f.b)).setCell ⟨N,2,none⟩ (ah f.c)).setCell ⟨N,3,none⟩ (ah f.d)).heap[N]?=some (oG f):=by
 simp only[World.setCell,Array.getElem?_modify,if_true,h,Option.map_some];rfl
theorem aam {a b c:World}(h:a.grownBy b none)(k:b.grownBy c none):a.grownBy c none:=⟨k.os.trans h.os,k.tape.trans h.tape,k.output.trans h.output,Nat.le_trans h.size k.size,fun x hx hne=>(k.block x (by have:=h.size;omega) hne).trans (h.block x hx hne)⟩
theorem PI {w w':World}(h:w.drew.grownBy w' none):w.grownBy w' none:=⟨h.os,h.tape,h.output,h.size,h.block⟩
theorem xP {w w':World}{b:Nat}(hg:w.grownBy w' none)(hb:b<w.heap.size):w'.heap[b]?=w.heap[b]?:=hg.block b hb (by simp)
theorem IB (c:FC)(B F:Nat)(k:Vf.Kn)(n:Int)(s:Vf.S)(tg:Nat)(w:World)(h:Hid (WF c B F w k n s))(hn:s.row.length≤100000000)(r:Except Int Vf.S)(hr:Hid (r=Vf.eY c.u.code.length k (tg:Int) s)) :
  Calls Tryz.prog 179 #[.pointer (some ⟨F,0,none⟩),.int .i64 (tg:Int)] w fun e w'=>gP c B F k n r w e w':=by
 obtain⟨top,rv,hF,hq⟩:=h.out.fl;have hlt:=h.out.env.lt;have jJ:=h.out.env.base;have c14:=(fD hF.blk).1;have c16:=(fD hF.blk).2.2.1;have c7:=(dV hF.blk).2.2.2.2.2.2.2;have HF:=hide hF;clear hF hq;by_cases hto:tg<c.u.code.length
 ·have hd:decide (tg<c.u.code.length)=true:=by simpa using hto
  cases hcm:s.come tg with
  | none =>
   have HR:Hid (r=.ok (s.note tg k)):=by
    unfold Hid;rw[hr.out,Vf.eY,if_pos (by omega)];simp[hcm]
   have hlk:=ZR h.out.come hcm;have HW1:Hid (WF c B F (w.alloc (iL ⟨[],Vf.Fl.none⟩ none)) k n s):=h.out.quiet (mF (World.grownBy.refl _ _) _);have hF1:=HF.out.alloc (iL ⟨[],Vf.Fl.none⟩ none);have dM:=hide hF1.sk;obtain⟨d8,d9,_⟩:=mQ HF.out.blk;obtain⟨d10,d11,d12,d13,_⟩:=rG HF.out.blk;clear hr hcm hF1;go_enter Tryz.func179,Tryz.ntmps179
   go_wp2_with fail
   refine (eZ F true 3 n _ c14).mono ?_;rintro e w0 ⟨he,hw0⟩;subst hw0;obtain rfl:e=.returned (.tuple #[]):=he;go_wp2_with fail
   refine (Ir c B F k k n s tg top _ HW1 dM hn).mono ?_;rintro e w2 ⟨rfl,hW,hb⟩;have HE:Hid (gP c B F k n r w0 (.returned (.tuple #[])) w2):=gP.good (((Below.refl B w0).alloc (by omega) _).trans hb) HR.out hW;clear hW hb d8 d9 d10 d11 d12 d13 c14 c16 c7 hlk;go_wp2
   go_end0
   exact HE.out
  | some t =>
   have HR:Hid (r=if t.st=k.st then (if Vf.Fl.eq (t.fl.both k.fl) t.fl=true then .ok s else .ok (s.note tg ⟨t.st,t.fl.both k.fl⟩)) else .error 8):=by
    unfold Hid;rw[hr.out,Vf.eY,if_pos (by omega)];simp[hcm]
   obtain⟨bX,hs1,_,hlk⟩:=Pj h.out.come hcm;have HT1:Hid (w.grownBy (w.alloc (iL t bX)) none):=mF (World.grownBy.refl _ _) _;have HW1:Hid (WF c B F (w.alloc (iL t bX)) k n s):=h.out.quiet HT1.out;have aF:=hide (HF.out.alloc (iL t bX));have uC:Hid ((w.alloc (iL t bX)).heap[w.heap.size]?=some (iL t bX)):=heap_alloc_new w _;have dM:Hid (eP (w.alloc (iL t bX)) bX t.st):=hs1.Im HT1.out;obtain⟨d8,d9,_⟩:=mQ aF.out.blk;obtain⟨n0,n1,_⟩:=xO uC.out;clear hr hcm hs1;go_enter Tryz.func179,Tryz.ntmps179
   go_wp2_with fail
   refine (eZ F true 3 n _ c14).mono ?_;rintro e w0 ⟨he,hw0⟩;subst hw0;obtain rfl:e=.returned (.tuple #[]):=he;go_wp2_with fail
   obtain⟨W1,hW1⟩:∃ W1,W1=w0.alloc (iL t bX):=⟨_,rfl⟩;rw[← hW1] at HT1 HW1 aF uC dM d8 d9 n0 n1;have HEQ:=hide hW1.symm;clear hW1 hlk c14 c16 c7;rw[HEQ.out];refine wp_region_held_drew (S:=fun w'=>w'.cell? ⟨F,8,none⟩=some (.pointer top)∧w'.cell? ⟨F,9,none⟩=some (.int .i64 (k.st.length:Int))∧w'.cell? ⟨w0.heap.size,0,none⟩=some (.pointer bX)∧w'.cell? ⟨w0.heap.size,1,none⟩=some (.int .i64 (t.st.length:Int))) (by kernel_rfl) ⟨d8,d9,n0,n1⟩ (fun hHeld=>?_);refine wpAnyH_take (i:=0) (oi:=_) (v:=?_) rfl (by kernel_rfl) (by kernel_rfl) (by kernel_rfl) (fun _ _ _ h=>h) (Or.inl ⟨by rfl,?_⟩) (by assumption) ?_;rotate_left
   ·intro w hSw
    (try dsimp only at hSw)
    go_simp
    (try with_reducible rfl)
   (try go_frame)
   refine wpAnyH_take (i:=1) (oi:=_) (v:=?_) rfl (by kernel_rfl) (by kernel_rfl) (by kernel_rfl) (fun _ _ _ h=>h) (Or.inl ⟨by rfl,?_⟩) (by assumption) ?_;rotate_left
   ·intro w hSw
    (try dsimp only at hSw)
    go_simp
    (try with_reducible rfl)
   (try go_frame)
   refine wpAnyH_take (i:=2) (oi:=_) (v:=?_) rfl (by kernel_rfl) (by kernel_rfl) (by kernel_rfl) (fun _ _ _ h=>h) (Or.inl ⟨by rfl,?_⟩) (by assumption) ?_;rotate_left
   ·intro w hSw
    (try dsimp only at hSw)
    go_simp
    (try with_reducible rfl)
   (try go_frame)
   refine wpAnyH_take (i:=3) (oi:=_) (v:=?_) rfl (by kernel_rfl) (by kernel_rfl) (by kernel_rfl) (fun _ _ _ h=>h) (Or.inl ⟨by rfl,?_⟩) (by assumption) ?_;rotate_left
   ·intro w hSw
    (try dsimp only at hSw)
    go_simp
    (try with_reducible rfl)
   (try go_frame)
   refine wpAnyH_take (i:=4) (oi:=_) (v:=?_) rfl (by kernel_rfl) (by kernel_rfl) (by kernel_rfl) (fun _ _ _ h=>h) (Or.inl ⟨by rfl,?_⟩) (by assumption) ?_;rotate_left
   ·intro w hSw
    (try dsimp only at hSw)
    go_simp
    (try with_reducible rfl)
   (try go_frame)
   refine wpAnyH_take (i:=5) (oi:=_) (v:=?_) rfl (by kernel_rfl) (by kernel_rfl) (by kernel_rfl) (fun _ _ _ h=>h) (Or.inl ⟨by rfl,?_⟩) (by assumption) ?_;rotate_left
   ·intro w hSw
    (try dsimp only at hSw)
    go_simp
    (try with_reducible rfl)
   (try go_frame)
   refine wpAnyH_take (i:=6) (oi:=_) (v:=?_) rfl (by kernel_rfl) (by kernel_rfl) (by kernel_rfl) (fun _ _ _ h=>h) (Or.inl ⟨by rfl,?_⟩) (by assumption) ?_;rotate_left
   ·intro w hSw
    (try dsimp only at hSw)
    go_simp
    (try with_reducible rfl)
   (try go_frame)
   refine wpAnyH_take (i:=7) (oi:=_) (v:=?_) rfl (by kernel_rfl) (by kernel_rfl) (by kernel_rfl) (fun _ _ _ h=>h) (Or.inl ⟨by rfl,?_⟩) (by assumption) ?_;rotate_left
   ·intro w hSw
    (try dsimp only at hSw)
    go_simp
    (try with_reducible rfl)
   (try go_frame)
   refine wpAnyH_ready (rs:=[8]) (by kernel_rfl) (by simp) ?_;refine AllReadyH.cons (o:=_) rfl (fun K hK=>?_) AllReadyH.nil;go_simp
   refine (ZZ t.st k.st bX top _ (hide dM.out.drew) (hide aF.out.sk.drew) (decide (t.st=k.st)) (hide rfl)).mono ?_;rintro e w2 ⟨rfl,PK⟩;have hg2:W1.grownBy w2 none:=PI PK;have hzN:w0.heap.size<W1.heap.size:=lt_of_block uC.out;have HG2:=hide hg2;have HW2:Hid (WF c B F w2 k n s):=HW1.out.quiet hg2;have hF2:w2.heap[F]?=some (gZ c top k.st k.fl n rv):=(xP hg2 (lt_of_block aF.out.blk)).trans aF.out.blk;have DW:w2.heap[w0.heap.size]?=some (iL t bX):=(xP hg2 hzN).trans uC.out;have bQ:=hide hF2;have bK:=hide DW;have c14:=(fD hF2).1;have q2:w2.cell? ⟨F,8,none⟩=some (.pointer top)∧w2.cell? ⟨F,9,none⟩=some (.int .i64 (k.st.length:Int))∧w2.cell? ⟨w0.heap.size,0,none⟩=some (.pointer bX)∧w2.cell? ⟨w0.heap.size,1,none⟩=some (.int .i64 (t.st.length:Int)):=⟨(mQ hF2).1,(mQ hF2).2.1,(xO DW).1,(xO DW).2.1⟩;have HB2:Hid (Below B w0 w2):=(IA HT1.out (by omega)).trans (IA hg2 (by omega));have hz2:=hg2.size;refine hK.out _ _ q2 (fun hHeld=>?_);clear hK hg2 PK hF2 DW d8 d9 n0 n1;refine wpAnyH_ready (rs:=[9]) (by kernel_rfl) (by simp) ?_;refine AllReadyH.cons (o:=_) rfl (fun K hK=>?_) AllReadyH.nil;go_simp
   by_cases hst:t.st=k.st
   ·have e1:decide (t.st=k.st)=true:=by simpa using hst
    have HR2:Hid (r=if Vf.Fl.eq (t.fl.both k.fl) t.fl=true then .ok s else .ok (s.note tg ⟨t.st,t.fl.both k.fl⟩)):=by rw[HR.out,if_pos hst];rfl
    have HST:=hide hst;clear hst;rw[e1];refine (eZ F true 8 n _ c14).mono ?_;rintro e w3 ⟨he,hw3⟩;subst hw3;obtain rfl:e=.returned (.tuple #[]):=he;refine hK.out _ _ q2 (fun hHeld=>?_);clear hK hHeld q2 e1;refine wpAnyH_done (by kernel_rfl) ?_ _;obtain⟨_,_,n2,n3,n4,n5⟩:=xO bK.out;obtain⟨d10,d11,d12,d13,_⟩:=rG bQ.out;clear c14;go_upto_region 5 with fail
    go_cut [6] (fun pv wx=>aak (t.fl.both k.fl) w0 w3 pv wx)
    case first =>
     have qN:Hid (∀ w',w3.grownBy w' none→(w'.cell? ⟨F,10,none⟩=some (ah k.fl.a)∧w'.cell? ⟨F,11,none⟩=some (ah k.fl.b)∧w'.cell? ⟨F,12,none⟩=some (ah k.fl.c)∧w'.cell? ⟨F,13,none⟩=some (ah k.fl.d)∧w'.cell? ⟨w0.heap.size,2,none⟩=some (ah t.fl.a)∧w'.cell? ⟨w0.heap.size,3,none⟩=some (ah t.fl.b)∧w'.cell? ⟨w0.heap.size,4,none⟩=some (ah t.fl.c)∧w'.cell? ⟨w0.heap.size,5,none⟩=some (ah t.fl.d))):=fun w' hg=>by
      have hF':w'.heap[F]?=some (gZ c top k.st k.fl n rv):=(xP hg (lt_of_block bQ.out)).trans bQ.out;have hN':w'.heap[w0.heap.size]?=some (iL t bX):=(xP hg (lt_of_block bK.out)).trans bK.out;obtain⟨g10,g11,g12,g13,_⟩:=rG hF';obtain⟨_,_,g2,g3,g4,g5⟩:=xO hN';exact⟨g10,g11,g12,g13,g2,g3,g4,g5⟩
     have q5:=qN.out w3 (World.grownBy.refl _ _);clear n2 n3 n4 n5 d10 d11 d12 d13;refine wp_region_held_drew (S:=fun w'=>w'.cell? ⟨F,10,none⟩=some (ah k.fl.a)∧w'.cell? ⟨F,11,none⟩=some (ah k.fl.b)∧w'.cell? ⟨F,12,none⟩=some (ah k.fl.c)∧w'.cell? ⟨F,13,none⟩=some (ah k.fl.d)∧w'.cell? ⟨w0.heap.size,2,none⟩=some (ah t.fl.a)∧w'.cell? ⟨w0.heap.size,3,none⟩=some (ah t.fl.b)∧w'.cell? ⟨w0.heap.size,4,none⟩=some (ah t.fl.c)∧w'.cell? ⟨w0.heap.size,5,none⟩=some (ah t.fl.d)) (by kernel_rfl) q5 (fun hHeld=>?_);refine wpAnyH_take (i:=0) (oi:=_) (v:=?_) rfl (by kernel_rfl) (by kernel_rfl) (by kernel_rfl) (fun _ _ _ h=>h) (Or.inl ⟨by rfl,?_⟩) (by assumption) ?_;rotate_left
     ·intro w hSw
      (try dsimp only at hSw)
      go_simp
      (try with_reducible rfl)
     (try go_frame)
     refine wpAnyH_take (i:=1) (oi:=_) (v:=?_) rfl (by kernel_rfl) (by kernel_rfl) (by kernel_rfl) (fun _ _ _ h=>h) (Or.inl ⟨by rfl,?_⟩) (by assumption) ?_;rotate_left
     ·intro w hSw
      (try dsimp only at hSw)
      go_simp
      (try with_reducible rfl)
     (try go_frame)
     refine wpAnyH_take (i:=2) (oi:=_) (v:=?_) rfl (by kernel_rfl) (by kernel_rfl) (by kernel_rfl) (fun _ _ _ h=>h) (Or.inl ⟨by rfl,?_⟩) (by assumption) ?_;rotate_left
     ·intro w hSw
      (try dsimp only at hSw)
      go_simp
      (try with_reducible rfl)
     (try go_frame)
     refine wpAnyH_take (i:=3) (oi:=_) (v:=?_) rfl (by kernel_rfl) (by kernel_rfl) (by kernel_rfl) (fun _ _ _ h=>h) (Or.inl ⟨by rfl,?_⟩) (by assumption) ?_;rotate_left
     ·intro w hSw
      (try dsimp only at hSw)
      go_simp
      (try with_reducible rfl)
     (try go_frame)
     refine wpAnyH_take (i:=4) (oi:=_) (v:=?_) rfl (by kernel_rfl) (by kernel_rfl) (by kernel_rfl) (fun _ _ _ h=>h) (Or.inl ⟨by rfl,?_⟩) (by assumption) ?_;rotate_left
     ·intro w hSw
      (try dsimp only at hSw)
      go_simp
      (try with_reducible rfl)
     (try go_frame)
     refine wpAnyH_take (i:=5) (oi:=_) (v:=?_) rfl (by kernel_rfl) (by kernel_rfl) (by kernel_rfl) (fun _ _ _ h=>h) (Or.inl ⟨by rfl,?_⟩) (by assumption) ?_;rotate_left
     ·intro w hSw
      (try dsimp only at hSw)
      go_simp
      (try with_reducible rfl)
     (try go_frame)
     refine wpAnyH_take (i:=6) (oi:=_) (v:=?_) rfl (by kernel_rfl) (by kernel_rfl) (by kernel_rfl) (fun _ _ _ h=>h) (Or.inl ⟨by rfl,?_⟩) (by assumption) ?_;rotate_left
     ·intro w hSw
      (try dsimp only at hSw)
      go_simp
      (try with_reducible rfl)
     (try go_frame)
     refine wpAnyH_ready (rs:=[7,8]) (by kernel_rfl) (by simp) ?_;refine AllReadyH.cons (o:=_) rfl (fun K hK=>?_) (AllReadyH.cons (o:=_) rfl (fun K hK=>?_) AllReadyH.nil)
     ·go_simp
      refine (Pv t.fl k.fl _).mono ?_;rintro e w4 ⟨rfl,hg4⟩;have uN:w3.grownBy w4 none:=PI hg4;have gK:=hide uN;refine hK.out _ _ (qN.out w4 uN) (fun hHeld=>?_);clear hK hg4 uN;refine wpAnyH_ready (rs:=[8]) (by kernel_rfl) (by simp) ?_;refine AllReadyH.cons (o:=_) rfl (fun K hK=>?_) AllReadyH.nil;go_simp
      refine hK.out _ _ (qN.out _ (mF gK.out _)) (fun hHeld=>?_);clear hK;refine wpAnyH_ready (rs:=[9]) (by kernel_rfl) (by simp) ?_;refine AllReadyH.cons (o:=_) rfl (fun K hK=>?_) AllReadyH.nil;go_simp
      refine hK.out _ _ (qN.out _ (mF gK.out _)) (fun hHeld=>?_);clear hK;refine wpAnyH_done (by kernel_rfl) ?_ _;go_wp2_with fail
      go_meet
      exact⟨w4.heap.size,rfl,by have:=gK.out.size;omega,heap_alloc_new w4 _,mF gK.out _⟩
     ·go_simp
      refine hK.out _ _ (qN.out _ (mF (uK (World.grownBy.refl _ _)) _)) (fun hHeld=>?_);clear hK;refine wpAnyH_ready (rs:=[7]) (by kernel_rfl) (by simp) ?_;refine AllReadyH.cons (o:=_) rfl (fun K hK=>?_) AllReadyH.nil;go_simp
      refine (Pv t.fl k.fl _).mono ?_;rintro e w4 ⟨rfl,hg4⟩;have uN:w3.grownBy w4 none:=aam (mF (uK (World.grownBy.refl _ _)) _) hg4;have gK:=hide uN;have hL4:w4.heap[w3.heap.size]?=some (oG Vf.Fl.none):=(xP hg4 (by simp)).trans (by have:=heap_alloc_new w3.drew (oG Vf.Fl.none);exact this);have HL4:=hide hL4;obtain⟨l0,l1,l2,l3,m0,m1,m2,m3⟩:=kC hL4;refine hK.out _ _ (qN.out w4 uN) (fun hHeld=>?_);clear hK hg4 uN hL4;refine wpAnyH_ready (rs:=[9]) (by kernel_rfl) (by simp) ?_;refine AllReadyH.cons (o:=_) rfl (fun K hK=>?_) AllReadyH.nil;go_simp
      have PL:Hid (w3.grownBy ((((w4.setCell ⟨w3.heap.size,0,none⟩ (ah (t.fl.both k.fl).a)).setCell ⟨w3.heap.size,1,none⟩ (ah (t.fl.both k.fl).b)).setCell ⟨w3.heap.size,2,none⟩ (ah (t.fl.both k.fl).c)).setCell ⟨w3.heap.size,3,none⟩ (ah (t.fl.both k.fl).d)) none):=nC (nC (nC (nC gK.out (Nat.le_refl _) _ _) (Nat.le_refl _) _ _) (Nat.le_refl _) _ _) (Nat.le_refl _) _ _;refine hK.out _ _ (qN.out _ PL.out) (fun hHeld=>?_);clear hK;refine wpAnyH_done (by kernel_rfl) ?_ _;go_wp2_with fail
      go_meet
      exact⟨w3.heap.size,rfl,by omega,aal HL4.out _,PL.out⟩
    case rest =>
     obtain⟨L,rfl,hL,PM,hgx⟩:=hcut;have PN:Hid (WF c B F wc k n s):=HW2.out.quiet hgx;have Aq:Hid (wc.heap[w0.heap.size]?=some (iL t bX)):=(xP hgx (lt_of_block bK.out)).trans bK.out;have HSx:Hid (eP wc bX t.st):=(dM.out.Im HG2.out).Im hgx;have PO:Hid (Below B w0 wc):=HB2.out.trans (IA hgx (by omega));obtain⟨x0,x1,x2,x3,x4,x5⟩:=xO Aq.out;obtain⟨z2,z3,z4,z5⟩:=aah Aq.out;obtain⟨l0,l1,l2,l3,_⟩:=kC PM;have hnq:=aaf (t.fl.both k.fl) t.fl wc;have hne:L≠w0.heap.size:=by omega
     have hzx:w0.heap.size<wc.heap.size:=lt_of_block Aq.out;clear hgx PM n2 n3 n4 n5 d10 d11 d12 d13;obtain⟨g,hg⟩:∃ g,g=t.fl.both k.fl:=⟨_,rfl⟩;rw[← hg] at l0 l1 l2 l3 hnq HR2;clear hg;cases hq:Vf.Fl.eq g t.fl with
     | true =>
      have HR3:Hid (r=.ok s):=by rw[HR2.out,hq];rfl
      rw[hq] at hnq;clear hq;go_wp2
      go_end0
      exact gP.good PO.out HR3.out PN.out
     | false =>
      have HR3:Hid (r=.ok (s.note tg ⟨t.st,g⟩)):=by rw[HR2.out,hq];rfl
      rw[hq] at hnq;obtain⟨kw,kb,kk⟩:=aaj PN.out Aq.out (by omega) g;have PQ:=hide (aai Aq.out g);have Ar:=hide kw;have HKB:=hide (PO.out.trans kb);have Au:Hid (eP ((((wc.setCell ⟨w0.heap.size,2,none⟩ (ah g.a)).setCell ⟨w0.heap.size,3,none⟩ (ah g.b)).setCell ⟨w0.heap.size,4,none⟩ (ah g.c)).setCell ⟨w0.heap.size,5,none⟩ (ah g.d)) bX t.st):=HSx.out.keep kk;clear hq kw kb kk;go_wp2_with fail
      refine (Ir c B F k ⟨t.st,g⟩ n s tg bX _ Ar Au hn).mono ?_;rintro e w9 ⟨rfl,hW,hb⟩;have HE:Hid (gP c B F k n r w0 (.returned (.tuple #[])) w9):=gP.good (HKB.out.trans hb) HR3.out hW;clear hW hb x0 x1 x2 x3 x4 x5 z2 z3 z4 z5 l0 l1 l2 l3 hnq;go_wp2
      go_end0
      exact HE.out
   ·have e1:decide (t.st=k.st)=false:=by simpa using hst
    have HE:Hid (r=.error 8):=by rw[HR.out,if_neg hst];rfl
    clear hst;rw[e1];refine (eZ F false 8 n _ c14).mono ?_;rintro e w3 ⟨he,hw3⟩;subst hw3;obtain rfl:e=.panicked [cz 8 n]:=he;clear hK q2 e1 c14;go_wp2
    exact⟨rfl,gP.bad HB2.out HE.out⟩
 ·have hd:decide (tg<c.u.code.length)=false:=by simpa using hto
  have HE:Hid (r=.error 3):=by
   unfold Hid;rw[hr.out,Vf.eY,if_neg (by omega)]
  go_enter Tryz.func179,Tryz.ntmps179
  go_wp2_with fail
  refine (eZ F false 3 n _ c14).mono ?_;rintro e w0 ⟨he,hw0⟩;subst hw0;obtain rfl:e=.panicked [cz 3 n]:=he;clear c14 c16 c7;go_wp2
  exact⟨rfl,gP.bad (Below.refl _ _) HE.out⟩
end Go.Proofs.YtfcpglhpolpdcaaGreatDoor
