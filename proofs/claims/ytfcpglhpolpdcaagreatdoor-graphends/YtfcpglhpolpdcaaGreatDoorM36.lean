/- Worlds to be read. -/
import Derived.Test.YtfcpglhpolpdcaaGreatDoorM34
import Derived.WalkKit
import Derived.Test.YtfcpglhpolpdcaaGreatDoorRows
import Derived.MapKept
import Derived.ArgAppend
namespace Go.Proofs.YtfcpglhpolpdcaaGreatDoor.Vw
open Go.RowKit Vf Vm
theorem Bh {w:World}{B e size n:Nat}{va:Option Addr}{vc:Nat}{xs:List Value}(h:w.ownsRow B e size (.slice va n vc) n xs){k:Nat}{u:Value}(hk:xs[k]?=some u):∃ g,va=some ⟨g,0,none⟩∧w.cell? ⟨g,k,none⟩=some u:=by
 rcases h.2 with⟨e1,h0⟩ | ⟨g,cap,cur,e1,_⟩
 ·have hl:=h.1
  rw[h0] at hl;have hx:xs=[]:=List.eq_nil_of_length_eq_zero (by simpa using hl);rw[hx] at hk;cases hk
 ·have e2:=e1
  simp at e2;refine⟨g,e2.1,?_⟩;have:=h.cells (g:=g) (by rw[e1];rfl) k _ hk;rw[o6] at this;simpa using this
def RI (w:World)(v:Value)(l:List Int):Prop:=∃ a c,v=.slice a l.length c∧l.length≤c∧∀ (i:Nat) x,l[i]?=some x→∃ b off,a=some ⟨b,off,none⟩∧w.cell? ⟨b,off+i,none⟩=some (.int .i64 x)
def RS (w:World)(v:Value)(ls:List (List Int)):Prop:=∃ a c,v=.slice a ls.length c∧∀ (i:Nat) l,ls[i]?=some l→∃ b off u,a=some ⟨b,off,none⟩∧w.cell? ⟨b,off+i,none⟩=some u∧RI w u l
theorem RA {w:World}{B n:Nat}{e:TypeId}{v:Value}{ws:List Int}(h:w.ownsRow B e 1 v n (ints ws)):RI w v ws:=by
 have hl:ws.length=n:=by have:=h.1;simpa using this
 subst hl;rcases h.2 with⟨rfl,h0⟩ | ⟨g,cap,cur,rfl,_,_,hc,_⟩
 ·refine⟨none,0,by rw[h0],by omega,fun i x hx=>?_⟩
  have:=(List.getElem?_eq_some_iff.1 hx).1;omega
 ·refine⟨_,cap,rfl,hc,fun i x hx=>?_⟩
  obtain⟨g',e',hc'⟩:=qQ h (k:=i) (u:=.int .i64 x) (by rw[List.getElem?_map,hx];rfl);cases e';exact⟨g,0,rfl,by rw[Nat.zero_add];exact hc'⟩
theorem RI.below {w w':World}{v:Value}{l:List Int}(h:RI w v l)(hb:Below w.heap.size w w'):RI w' v l:=by
 obtain⟨a,c,e,hc,hr⟩:=h;refine⟨a,c,e,hc,fun i x hx=>?_⟩;obtain⟨b,off,e2,hcell⟩:=hr i x hx;exact⟨b,off,e2,(aI (hb.block b (World.block_lt_of_cell? w _ hcell)) _).trans hcell⟩
theorem RS.below {w w':World}{v:Value}{ls:List (List Int)}(h:RS w v ls)(hb:Below w.heap.size w w'):RS w' v ls:=by
 obtain⟨a,c,e,hr⟩:=h;refine⟨a,c,e,fun i x hx=>?_⟩;obtain⟨b,off,u,e2,hcell,hi⟩:=hr i x hx;exact⟨b,off,u,e2,(aI (hb.block b (World.block_lt_of_cell? w _ hcell)) _).trans hcell,hi.below hb⟩
structure Er (w:World) (m:Md) (ts:List Tk) (x:List Bq) (vE vB:Value):Prop where
 ends:∃ a c,vE=.slice a ts.length c∧∀ (i:Nat) t,ts[i]?=some t→∃ b off vo,a=some ⟨b,off,none⟩∧w.cell? ⟨b,off+i * 4,none⟩=some (.int .i64 (stat aG m t x).1)∧w.cell? ⟨b,off+i * 4+1,none⟩=some (.int .i64 (stat aG m t x).2)∧w.cell? ⟨b,off+i * 4+2,none⟩=some (.int .i64 t.trap)∧w.cell? ⟨b,off+i * 4+3,none⟩=some vo∧RI w vo t.out
 boxes:RS w vB (x.map (·.ws))
theorem Er.below {w w':World}{m:Md}{ts:List Tk}{x:List Bq}{vE vB:Value}(h:Er w m ts x vE vB)(hb:Below w.heap.size w w'):Er w' m ts x vE vB:=by
 obtain⟨a,c,e,hr⟩:=h.ends;refine⟨⟨a,c,e,fun i t ht=>?_⟩,h.boxes.below hb⟩;obtain⟨b,off,vo,e2,h0,h1,h2,h3,h4⟩:=hr i t ht;have hk:=aI (hb.block b (World.block_lt_of_cell? w _ h0));exact⟨b,off,vo,e2,(hk _).trans h0,(hk _).trans h1,(hk _).trans h2,(hk _).trans h3,h4.below hb⟩
theorem Es (m:Md)(W:Wd)(ov:Nat→Value):∀ n,(jy m W ov n).length=n * 4
 | 0=>rfl
 | n+1=>by rw[Ba,List.length_append,Es m W ov n];simp[enc];omega
theorem Bi (m:Md)(W:Wd)(ov:Nat→Value):∀ (n i j:Nat),i<n→j<4→(jy m W ov n)[i * 4+j]?=(enc m W ov i)[j]?
 | n+1,i,j,hi,hj=>by
  rw[Ba];by_cases e:i=n
  ·subst e
   rw[List.getElem?_append_right (by rw[Es];omega),Es];congr 1
   omega
  ·rw[List.getElem?_append_left (by rw[Es];omega)]
   exact Bi m W ov n i j (by omega) hj
theorem lX.reads {m:Md}{W:Wd}{C:Nat}{w:World}{vE vB:Value}{nb:Nat}{ov bv:Nat→Value}(h:lX m W C w vE vB W.ts.length nb ov bv)(hx:W.x.length=nb):Er w m W.ts W.x vE vB:=by
 obtain⟨ea,ec,rfl⟩:=dA h.ends;obtain⟨ba,bc,rfl⟩:=dA h.jA;refine⟨⟨ea,ec,rfl,fun i t ht=>?_⟩,⟨ba,bc,by simp[hx],fun i l hl=>?_⟩⟩
 ·have hi:=(List.getElem?_eq_some_iff.1 ht).1
  have RB:W.tk (i:Int)=t:=by simp[Wd.tk,ht]
  have ho:=h.outs i hi;rw[RB] at ho;obtain⟨g,rfl,c0⟩:=Bh h.ends (Bi m W ov W.ts.length i 0 hi (by omega));obtain⟨g1,e1,c1⟩:=Bh h.ends (Bi m W ov W.ts.length i 1 hi (by omega));cases e1;obtain⟨g1,e1,c2⟩:=Bh h.ends (Bi m W ov W.ts.length i 2 hi (by omega));cases e1;obtain⟨g1,e1,c3⟩:=Bh h.ends (Bi m W ov W.ts.length i 3 hi (by omega));cases e1;rw[RB] at c0 c1 c2;simp only[Nat.add_zero] at c0 c1 c2 c3 ⊢;exact⟨g,0,ov i,rfl,by simpa using c0,by simpa using c1,by simpa using c2,by simpa using c3,RA ho⟩
 ·rw[List.getElem?_map] at hl
  cases hq:W.x[i]? with
  | none=>rw[hq] at hl;cases hl
  | some q =>
   rw[hq] at hl;cases hl;have hi:=(List.getElem?_eq_some_iff.1 hq).1;obtain⟨g,e,hc⟩:=qQ h.jA (k:=i) (u:=bv i) (by simp[lV,show i<nb by omega]);exact⟨g,0,bv i,e,by rw[Nat.zero_add];exact hc,RA (h.words i q (by omega) hq)⟩
end Go.Proofs.YtfcpglhpolpdcaaGreatDoor.Vw
namespace Go.Proofs.YtfcpglhpolpdcaaGreatDoor
namespace Gr
abbrev Ed:=ByteArray × ByteArray × ByteArray
abbrev Lk:=ByteArray→Int
def bump (L:Lk)(k:ByteArray)(d:Int):Lk:=fun x=>if x=k then L x+d else L x
def adds (es:List Ed)(L:Lk):Lk:=es.foldl (fun L e=>bump L e.2.2 1) L
def iw (n:ByteArray)(es:List Ed)(L:Lk):Lk:=es.foldl (fun L e=>if e.2.1=n then bump L e.2.2 (-1) else L) L
def next (L:Lk)(left:List ByteArray):Option Nat:=left.findIdx? fun s=>decide (L s=0)
def nm (l:List ByteArray)(i:Nat):ByteArray:=l[i]?.getD ⟨#[]⟩
def go (es:List Ed):Nat→Lk→List ByteArray→List ByteArray→List ByteArray × List ByteArray
 | 0,_,o,r=>(o,r)
 | f+1,L,o,r=>match next L r with
  | none=>(o,r)
  | some i=>go es f (iw (nm r i) es L) (o++[nm r i]) (r.eraseIdx i)
def order (es:List Ed)(ts:List ByteArray):List ByteArray × List ByteArray:=go es ts.length (adds es fun _=>0) [] ts
def tasks (l:List (Int × ByteArray)):List ByteArray:=(l.filter fun d=>decide (d.1=4)).map (·.2)
theorem ac3 (es:List Ed)(j:Nat)(e:Ed)(h:es[j]?=some e)(L:Lk):adds (es.take (j+1)) L=bump (adds (es.take j) L) e.2.2 1:=by
 unfold adds;rw[List.take_add_one,h,List.foldl_append];rfl
theorem ac4 (n:ByteArray)(es:List Ed)(j:Nat)(e:Ed)(h:es[j]?=some e)(L:Lk):iw n (es.take (j+1)) L=if e.2.1=n then bump (iw n (es.take j) L) e.2.2 (-1) else iw n (es.take j) L:=by
 unfold iw;rw[List.take_add_one,h,List.foldl_append];rfl
def jC (m:Int)(L:Lk):Prop:=∀ x,-m≤L x∧L x≤m
theorem jC.wide {m m':Int}{L:Lk}(h:jC m L)(hm:m≤m'):jC m' L:=fun x=>by have:=h x;omega
theorem jC.bump {m:Int}{L:Lk}(h:jC m L)(k:ByteArray){d:Int}(hd:-1≤d∧d≤1):jC (m+1) (bump L k d):=fun x=>by
 have:=h x;unfold Gr.bump;split<;>omega
theorem jC.adds {m:Int}(es:List Ed):∀ {L:Lk},jC m L→jC (m+es.length) (adds es L):=by
 induction es generalizing m with
 | nil=>intro L h;simpa[Gr.adds] using h
 | cons e es ih =>
  intro L h;have:=ih (h.bump e.2.2 (d:=1) (by omega));refine this.wide ?_;simp;omega
theorem jC.iw {m:Int}(n:ByteArray)(es:List Ed):∀ {L:Lk},jC m L→jC (m+es.length) (iw n es L):=by
 induction es generalizing m with
 | nil=>intro L h;simpa[Gr.iw] using h
 | cons e es ih =>
  intro L h;have h1:jC (m+1) (if e.2.1=n then Gr.bump L e.2.2 (-1) else L):=by
   split
   ·exact h.bump _ (by omega)
   ·exact h.wide (by omega)
  refine (ih h1).wide ?_;simp;omega
theorem ac5 {L:Lk}{r:List ByteArray}{i:Nat}(h:next L r=some i):i<r.length∧L (nm r i)=0∧r[i]?=some (nm r i):=by
 unfold next at h;rw[List.findIdx?_eq_some_iff_getElem] at h;obtain⟨h1,h2,_⟩:=h;refine⟨h1,?_,by simp[nm,List.getElem?_eq_getElem h1]⟩;simpa[nm,List.getElem?_eq_getElem h1] using h2
theorem Gq {es:List Ed}{f:Nat}{L:Lk}{o r:List ByteArray}(h:next L r=none):go es f L o r=(o,r):=by
 cases f with
 | zero=>rfl
 | succ f=>rw[go,h]
theorem ac6 (L:Lk):next L []=none:=rfl
theorem ac7 (l:List (Int × ByteArray))(j:Nat)(d:Int × ByteArray)(h:l[j]?=some d):tasks (l.take (j+1))=if d.1=4 then tasks (l.take j)++[d.2] else tasks (l.take j):=by
 unfold tasks;rw[List.take_add_one,h];by_cases hd:d.1=4<;>simp[hd]
theorem RD (l:List (Int × ByteArray)):(tasks l).length≤l.length:=by
 unfold tasks;rw[List.length_map];exact List.length_filter_le _ _
end Gr
end Go.Proofs.YtfcpglhpolpdcaaGreatDoor
namespace Go.Proofs.YtfcpglhpolpdcaaGreatDoor
open Go.RowKit
namespace Ms
abbrev Row:=List (ByteArray × Value)
def at':Row→ByteArray→Nat→Option (Nat × Value)
 | [],_,_=>none
 | p :: l,k,i=>if k=p.1 then some (i,p.2) else at' l k (i+1)
def val (l:Row)(k:ByteArray):Option Value:=(at' l k 0).map (·.2)
def Is (es:List MapEntry)(l:Row):Prop:=es.map (fun e=>(e.key,e.val))=l.map (fun p=>(Value.string p.1,p.2))
def In (w:World)(M:Nat)(l:Row):Prop:=∃ es cl,w.heap[M]?=some (.map es cl)∧Is es.toList l
theorem Et {k:ByteArray}:∀ {es:List MapEntry} {l:Row} {i:Nat},Is es l→Instr.findNow .string (.string k) es i=some (at' l k i)
 | [],[],i,_=>rfl
 | [],_ :: _,i,h=>by simp[Is] at h
 | _ :: _,[],i,h=>by simp[Is] at h
 | e :: es,p :: l,i,h=>by
  simp only[Is,List.map_cons,List.cons.injEq,Prod.mk.injEq] at h;obtain⟨⟨h1,h2⟩,h3⟩:=h;rw[Instr.findNow,h1,at'];by_cases hk:k=p.1
  ·have:(k==p.1)=true:=(MapKept.bytes_beq _ _).2 hk
   simp only[Instr.sameNow,this,if_pos hk,h2]
  ·have:(k==p.1)=false:=by
    cases hb:(k==p.1) with
    | false=>rfl
    | true=>exact absurd ((MapKept.bytes_beq _ _).1 hb) hk
   simp only[Instr.sameNow,this,if_neg hk];exact Et (es:=es) (l:=l) h3
theorem Jz (k:ByteArray):∀ (l:Row) (i:Nat),at' l k i=(at' l k 0).map (fun p=>(p.1+i,p.2))
 | [],i=>rfl
 | p :: l,i=>by
  simp only[at'];by_cases hk:k=p.1
  ·simp[hk]
  ·rw[if_neg hk,if_neg hk,Jz k l (i+1),Jz k l 1]
   cases at' l k 0 with
   | none=>rfl
   | some x=>simp only[Option.map_some];rw[Nat.add_assoc,Nat.add_comm 1 i]
theorem RF (k:ByteArray):val [] k=none:=rfl
theorem vJ (p:ByteArray × Value)(l:Row)(k:ByteArray):val (p :: l) k=if k=p.1 then some p.2 else val l k:=by
 simp only[val,at'];by_cases hk:k=p.1
 ·simp[hk]
 ·rw[if_neg hk,if_neg hk,Jz]
  cases at' l k 0<;>rfl
theorem val_append (k:ByteArray)(m:Row):∀ l:Row,val (l++m) k=(val l k).or (val m k)
 | []=>by simp[RF]
 | p :: l=>by
  rw[List.cons_append,vJ,vJ,val_append k m l];by_cases hk:k=p.1<;>simp[hk]
theorem JA {l:Row}{k:ByteArray}:at' l k 0=none ↔ val l k=none:=by
 unfold val;cases at' l k 0<;>simp
theorem JB {k:ByteArray}{v:Value}:∀ {l:Row} {i j:Nat},at' l k i=some (j,v)→∃ q,j=i+q∧l[q]?=some (k,v)
 | [],i,j,h=>by cases h
 | p :: l,i,j,h=>by
  rw[at'] at h;by_cases hk:k=p.1
  ·rw[if_pos hk] at h
   simp only[Option.some.injEq,Prod.mk.injEq] at h;exact⟨0,by omega,by simp[← h.2,hk]⟩
  ·rw[if_neg hk] at h
   obtain⟨q,h1,h2⟩:=JB h;exact⟨q+1,by omega,by simpa using h2⟩
theorem In.new (w:World):In (w.alloc (.map #[] 0)) w.heap.size []:=⟨#[],0,heap_alloc_new w _,rfl⟩
theorem In.keep {w w':World}{M:Nat}{l:Row}(h:In w M l)(hM:w'.heap[M]?=w.heap[M]?):In w' M l:=by
 obtain⟨es,cl,h1,h2⟩:=h;exact⟨es,cl,hM.trans h1,h2⟩
theorem In.lt {w:World}{M:Nat}{l:Row}(h:In w M l):M<w.heap.size:=by
 obtain⟨es,cl,h1,_⟩:=h;exact (Array.getElem?_eq_some_iff.1 h1).1
theorem In.grow {w w':World}{M:Nat}{l:Row}(h:In w M l)(hg:w.grownBy w' none):In w' M l:=h.keep (hg.block _ h.lt (by simp))
variable {P:Program} {mt kt et:TypeId} (hm:P.underlying mt=some (.map kt et)) (hs:P.underlying kt=some .string)
include hm hs
theorem ac8 {w:World}{M:Nat}{l:Row}{k:ByteArray}{z:Value}(h:In w M l)(hz:(zeroValue et).run P w=.ok z w) :
  (Instr.lookup mt (.map (some M)) (.string k) false).run P w=.ok ((val l k).getD z) w ∧
  (Instr.lookup mt (.map (some M)) (.string k) true).run P w=.ok (.tuple #[(val l k).getD z,.bool (val l k).isSome]) w:=by
 obtain⟨es,cl,h1,h2⟩:=h;have hf:=Et (k:=k) (i:=0) h2;have hg:(getObj M).run P w=.ok (.map es cl) w:=MapKept.run_getObj_map h1;have hu:=run_underlying (w:=w) hm;have hkk:=MapKept.run_findKey (w:=w) hs hf;have hck:∀ b,(Instr.checkKey b 10000 kt (.string k)).run P w=.ok () w:=fun b=>MapKept.run_checkKey (n:=9999) hs (by simp[MapKept.IsKey]) b;unfold val;cases ha:at' l k 0 with
 | none =>
  rw[ha] at hkk;exact⟨by simp[Instr.lookup,hu,hg,hck,hkk,hz],by simp[Instr.lookup,hu,hg,hck,hkk,hz]⟩
 | some x =>
  rw[ha] at hkk;exact⟨by simp[Instr.lookup,hu,hg,hck,hkk],by simp[Instr.lookup,hu,hg,hck,hkk]⟩
theorem ac9 {w:World}{M:Nat}{l:Row}{k:ByteArray}{v:Value}(h:In w M l)(hk:val l k=none) :
  ∃ w',(Instr.mapUpdate mt (.map (some M)) (.string k) v).run P w=.ok () w'∧In w' M (l++[(k,v)])∧w.grownBy w' (some M):=by
 obtain⟨es,cl,h1,h2⟩:=h;have hf:=Et (k:=k) (i:=0) h2;rw[JA.2 hk] at hf;have hg:(getObj M).run P w=.ok (.map es cl) w:=MapKept.run_getObj_map h1;have hu:=run_underlying (w:=w) hm;have hkk:=MapKept.run_findKey (w:=w) hs hf;have hck:∀ b,(Instr.checkKey b 10000 kt (.string k)).run P w=.ok () w:=fun b=>MapKept.run_checkKey (n:=9999) hs (by simp[MapKept.IsKey]) b;have hset:=MapKept.run_setObj_map (P:=P) (.map (es.push { key:=.string k,val:=v,born:=cl }) (cl+1)) h1;obtain⟨m1,m2⟩:=MapKept.heap_set (o':=.map (es.push { key:=.string k,val:=v,born:=cl }) (cl+1)) h1;refine⟨{ w with heap:=w.heap.setIfInBounds M (.map (es.push { key:=.string k,val:=v,born:=cl }) (cl+1)) },by simp[Instr.mapUpdate,hu,hg,hck,hkk,hset],⟨_,_,m1,?_⟩,⟨rfl,rfl,rfl,by simp,fun b _ hne=>m2 b (fun e=>hne (by rw[e]))⟩⟩;unfold Is at h2 ⊢;simp[h2]
theorem run_set {w:World}{M:Nat}{l:Row}{k:ByteArray}{i:Nat}{v v0:Value}(h:In w M l)(hk:at' l k 0=some (i,v0)) :
  ∃ w',(Instr.mapUpdate mt (.map (some M)) (.string k) v).run P w=.ok () w'∧In w' M (l.set i (k,v))∧w.grownBy w' (some M):=by
 obtain⟨es,cl,h1,h2⟩:=h;have hf:=Et (k:=k) (i:=0) h2;rw[hk] at hf;have hg:(getObj M).run P w=.ok (.map es cl) w:=MapKept.run_getObj_map h1;have hu:=run_underlying (w:=w) hm;have hkk:=MapKept.run_findKey (w:=w) hs hf;have hck:∀ b,(Instr.checkKey b 10000 kt (.string k)).run P w=.ok () w:=fun b=>MapKept.run_checkKey (n:=9999) hs (by simp[MapKept.IsKey]) b;obtain⟨q,hq,hl⟩:=JB hk;obtain rfl:i=q:=by omega
 have hle:es.toList.length=l.length:=by simpa using congrArg List.length h2
 obtain⟨e0,he0,Ao⟩:∃ e0,es[i]?=some e0∧e0.key=.string k:=by
  have:=congrArg (fun x=>x[i]?) h2;simp only[List.getElem?_map,hl,Option.map_some] at this;cases he:es.toList[i]? with
  | none=>rw[he] at this;cases this
  | some e =>
   rw[he] at this;simp only[Option.map_some,Option.some.injEq,Prod.mk.injEq] at this;exact⟨e,by simpa using he,this.1⟩
 have hst:=MapKept.run_keyThatStays (P:=P) (w:=w) (d:=.string) (k:=.string k) (by simp[MapKept.IsKey]);have hset:=MapKept.run_setObj_map (P:=P) (.map (es.modify i fun e=>{ e with key:=.string k,val:=v }) cl) h1;obtain⟨m1,m2⟩:=MapKept.heap_set (o':=.map (es.modify i fun e=>{ e with key:=.string k,val:=v }) cl) h1;refine⟨{ w with heap:=w.heap.setIfInBounds M (.map (es.modify i fun e=>{ e with key:=.string k,val:=v }) cl) },by simp[Instr.mapUpdate,hu,hg,hck,hkk,he0,Ao,hst,hset],⟨_,_,m1,?_⟩,⟨rfl,rfl,rfl,by simp,fun b _ hne=>m2 b (fun e=>hne (by rw[e]))⟩⟩;unfold Is at h2 ⊢;apply List.ext_getElem?;intro j;have hj:=congrArg (fun x=>x[j]?) h2;simp only[List.getElem?_map] at hj ⊢;rw[Array.toList_modify,List.getElem?_modify,List.getElem?_set];by_cases hij:i=j
 ·subst hij
  have hlt:i<l.length:=(List.getElem?_eq_some_iff.1 hl).1;have:es.toList[i]?=some e0:=by simpa using he0
  simp[this,hlt]
 ·simpa[hij] using hj
end Ms
end Go.Proofs.YtfcpglhpolpdcaaGreatDoor
