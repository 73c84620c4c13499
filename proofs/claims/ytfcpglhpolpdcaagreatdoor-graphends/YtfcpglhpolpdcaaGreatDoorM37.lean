/-
 DERIVED: THE SHELF's CONTRACTS AT THIS DUMP,IN PLAIN WORDS (tools/lay-plain.mjs out of 'TryzShelf.lean',which tools/lay-shelf.mjs wrote): THE SAME DECLARATIONS UNDER THE SAME NAMES: 'import','namespace','open','def','theorem' AND NOTHING ELSE: no command of the shelf's: FOR A HAND-IN. Each laying: the table of numbers ('.._ren') and one theorem,a field a fact of the dump's own or the kernel's comparison;each contract: ONE APPLICATION.
-/
import Derived.Shelf.Small.Strs
import Derived.Shelf.LaysM
import Derived.Shelf.Strconv.Clone
import Derived.Shelf.Strings.Search1
import Derived.Shelf.Slices.Turned
import Derived.Ground.Names2Prog
import Derived.Shelf.Slices.Delete
import Derived.Shelf.Slices.Cells
import Derived.Shelf.Slices.Empties
import Derived.Test.YtfcpglhpolpdcaaGreatDoorProg
import Derived.Test.YtfcpglhpolpdcaaGreatDoorM36
import Derived.Laws.AppendOwnNone
import Derived.Laws.IdiomCopy
import Derived.OwnWalk
set_option maxRecDepth 100000
set_option maxHeartbeats 1000000
namespace Go.Proofs
open Go.Shelf
def Tryz.ada:Go.Shelf.Ren:=⟨fun | 137=>193 | 217=>210 | 266=>219 | n=>n,fun | 9=>9 | 5=>5 | 3=>3 | n=>n,fun | n=>n⟩
theorem Tryz.adb:Go.Proofs.Lays.n137 Tryz.prog Tryz.ada:={
 mixed:=by kernel_rfl
 f137:=Tryz.func193.trans (congrArg some (by kernel_rfl))
 f217:=Tryz.func210.trans (congrArg some (by kernel_rfl))
 f266:=Tryz.func219.trans (congrArg some (by kernel_rfl))
 t3:=Tryz.underlying3
 a3:=Tryz.isAgg3
 z3:=Tryz.sizeOf3
 v3:=Tryz.zeroValue3
 t5:=Tryz.underlying5
 a5:=Tryz.isAgg5
 z5:=Tryz.sizeOf5
 v5:=Tryz.zeroValue5
 t9:=Tryz.underlying9
 a9:=Tryz.isAgg9
 z9:=Tryz.sizeOf9
 v9:=Tryz.zeroValue9 }
open Go.RowKit in
theorem Tryz.strings_IndexByte (s:ByteArray)(c:Int)(w:World) :
  Calls Tryz.prog 193 #[.string s,.int .u8 c] w fun e w'=>e=.returned (.int .i64 (Lib.indexByte s.data.toList c.toNat.toUInt8))∧w'=w:=Any.strings_IndexByte Tryz.adb s c w
def Tryz.ade:Go.Shelf.Ren:=⟨fun | 316=>90 | n=>n,fun | 9=>9 | 3=>3 | 4=>4 | 37=>243 | 0=>0 | 127=>244 | 5=>5 | n=>n,fun | n=>n⟩
theorem Tryz.adf:Go.Proofs.LaysM.n316 Tryz.prog Tryz.ade:={
 mixed:=by kernel_rfl
 f316:=Tryz.func90.trans (congrArg some (by kernel_rfl))
 t0:=Tryz.underlying0
 a0:=Tryz.isAgg0
 z0:=Tryz.sizeOf0
 v0:=Tryz.zeroValue0
 t3:=Tryz.underlying3
 a3:=Tryz.isAgg3
 z3:=Tryz.sizeOf3
 v3:=Tryz.zeroValue3
 t4:=Tryz.underlying4
 a4:=Tryz.isAgg4
 z4:=Tryz.sizeOf4
 v4:=Tryz.zeroValue4
 t9:=Tryz.underlying9
 a9:=Tryz.isAgg9
 z9:=Tryz.sizeOf9
 v9:=Tryz.zeroValue9
 t37:=Tryz.underlying243
 a37:=Tryz.isAgg243
 z37:=Tryz.sizeOf243
 v37:=Tryz.zeroValue243
 t127:=Tryz.underlying244
 a127:=Tryz.isAgg244
 z127:=Tryz.sizeOf244
 v127:=Tryz.zeroValue244
 t5:=Tryz.underlying5
 a5:=Tryz.isAgg5
 z5:=Tryz.sizeOf5
 v5:=Tryz.zeroValue5
 i0:=by kernel_rfl
 i3:=by kernel_rfl
 i4:=by kernel_rfl
 i5:=by kernel_rfl
 i9:=by kernel_rfl
 i37:=by kernel_rfl
 i127:=by kernel_rfl }
open Go.RowKit in
theorem Tryz.stringslite_Clone (s:ByteArray)(w:World)(hlim:s.size≤281474976710656) :
  Calls Tryz.prog 90 #[.string s] w fun e w'=>e=.returned (.string s)∧Below w.heap.size w w':=Any.stringslite_Clone Tryz.adf s w hlim
def Tryz.adg:Go.Shelf.Ren:=⟨fun | 24=>28 | n=>n,fun | 24=>49 | 9=>9 | 3=>3 | 4=>4 | 0=>0 | n=>n,fun | n=>n⟩
theorem Tryz.adh:Go.Proofs.Lays2.n24 Tryz.prog Tryz.adg:={
 mixed:=by kernel_rfl
 f24:=Tryz.func28.trans (congrArg some (by kernel_rfl))
 t0:=Tryz.underlying0
 a0:=Tryz.isAgg0
 z0:=Tryz.sizeOf0
 v0:=Tryz.zeroValue0
 t3:=Tryz.underlying3
 a3:=Tryz.isAgg3
 z3:=Tryz.sizeOf3
 v3:=Tryz.zeroValue3
 t4:=Tryz.underlying4
 a4:=Tryz.isAgg4
 z4:=Tryz.sizeOf4
 v4:=Tryz.zeroValue4
 t9:=Tryz.underlying9
 a9:=Tryz.isAgg9
 z9:=Tryz.sizeOf9
 v9:=Tryz.zeroValue9
 t24:=Tryz.underlying49
 a24:=Tryz.isAgg49
 z24:=Tryz.sizeOf49
 v24:=Tryz.zeroValue49
 i9:=by kernel_rfl }
open Go.RowKit Go.Lib Go.Sort in
theorem Tryz.slices_Delete_string_cells (b off n c i j:Nat)(Sx:Nat→ByteArray)(w:World)(hcap:n≤c)(hm:c≤9223372036854775807)(hij:i≤j)(hj:j≤n)(hc:∀ i,i<n→w.cell? ⟨b,off+i,none⟩=some (.string (Sx i)))(hf:∀ j,j<n→w.frozen? ⟨b,off+j,none⟩=false) :
  Calls Tryz.prog 28 #[.slice (some ⟨b,off,none⟩) n c,.int .i64 i,.int .i64 j] w fun e w'=>e=.returned (.slice (some ⟨b,off,none⟩) (n - (j - i)) c)∧∃ q,w'=(w.drewN q).setCells b off (((Lib.strsOf Sx n).take i++(Lib.strsOf Sx n).drop j++List.replicate (j - i) []).map encStr):=Any.slices_Delete_string_cells Tryz.adh b off n c i j Sx w hcap hm hij hj hc hf
end Go.Proofs
/- Maps of numbers by names;rows of names;what slices.Delete does. -/
namespace Go.Proofs.YtfcpglhpolpdcaaGreatDoor
open Go.RowKit
namespace Gr
def Hd (p:Prop):Prop:=p
theorem Hd.out {p:Prop}(h:Hd p):p:=h
theorem hd {p:Prop}(h:p):Hd p:=h
theorem bU {w:World}{k:Nat}{o:Obj}(h:w.heap[k]?=some o):k<w.heap.size:=(Array.getElem?_eq_some_iff.1 h).1
theorem gtr {a b c:World}{r:Option Nat}(h:a.grownBy b r)(h2:b.grownBy c r):a.grownBy c r :=
 ⟨h2.os.trans h.os,h2.tape.trans h.tape,h2.output.trans h.output,Nat.le_trans h.size h2.size,fun k hk hn=>(h2.block k (by have:=h.size;omega) hn).trans (h.block k hk hn)⟩
theorem sO {a b c:World}{g:Nat}{r:Option Nat}(h:a.grownBy b r)(h2:b.grownBy c (some g))(hg:a.heap.size≤g):a.grownBy c r :=
 ⟨h2.os.trans h.os,h2.tape.trans h.tape,h2.output.trans h.output,Nat.le_trans h.size h2.size,fun k hk hn=>(h2.block k (by have:=h.size;omega) (by simp;omega)).trans (h.block k hk hn)⟩
theorem adi {a b:World}{r:Option Nat}(h:a.grownBy b none):a.grownBy b r:=⟨h.os,h.tape,h.output,h.size,fun k hk _=>h.block k hk (by simp)⟩
theorem adj {a b:World}(h:Below a.heap.size a b):a.grownBy b none:=⟨h.os,h.tape,h.output,h.size,fun k hk _=>h.block k hk⟩
theorem fJ (w:World)(o:Obj):w.grownBy (w.alloc o) none:=World.grownBy_alloc w o none
theorem vK (w:World)(r:Option Nat):w.grownBy w r:=⟨rfl,rfl,rfl,Nat.le_refl _,fun _ _ _=>rfl⟩
theorem mI (w:World)(g i:Nat)(v:Value):w.grownBy (w.setCell ⟨g,i,none⟩ v) (some g):=⟨rfl,rfl,rfl,by simp[World.setCell],fun k _ hn=>Below.heap_setCell w ⟨g,i,none⟩ v k (fun e=>hn (by rw[e]))⟩
abbrev strs (l:List ByteArray):List Value:=l.map Value.string
theorem RG {k:ByteArray}{v:Value}(x:ByteArray):∀ {l:Ms.Row} {i b:Nat} {v0:Value},Ms.at' l k b=some (b+i,v0)→Ms.val (l.set i (k,v)) x=if x=k then some v else Ms.val l x
 | [],i,b,v0,h=>by cases h
 | p :: l,i,b,v0,h=>by
  rw[Ms.at'] at h;by_cases hk:k=p.1
  ·rw[if_pos hk] at h
   simp only[Option.some.injEq,Prod.mk.injEq] at h;obtain rfl:i=0:=by omega
   rw[List.set_cons_zero,Ms.vJ,Ms.vJ];by_cases hx:x=k
   ·rw[if_pos hx,if_pos hx]
   ·rw[if_neg hx,if_neg hx,if_neg (by rw[← hk];exact hx)]
  ·rw[if_neg hk] at h
   obtain⟨q,h1,h2⟩:=Ms.JB h;obtain⟨i,rfl⟩:∃ j,i=j+1:=⟨q,by omega⟩;have ih:=RG x (v:=v) (i:=i) (b:=b+1) (v0:=v0) (by rw[h];congr 2;omega);rw[List.set_cons_succ,Ms.vJ,Ms.vJ,ih];by_cases hx:x=k
   ·subst hx;simp[hk]
   ·simp[hx]
def dE (w:World)(M:Nat)(L:Lk):Prop:=∃ l,Ms.In w M l∧∀ k,(Ms.val l k).getD (.int .i64 0)=.int .i64 (L k)
theorem dE.new (w:World):dE (w.alloc (.map #[] 0)) w.heap.size fun _=>0:=⟨[],Ms.In.new w,fun _=>rfl⟩
theorem dE.keep {w w':World}{M:Nat}{L:Lk}(h:dE w M L)(hM:w'.heap[M]?=w.heap[M]?):dE w' M L:=by
 obtain⟨l,h1,h2⟩:=h;exact⟨l,h1.keep hM,h2⟩
theorem dE.lt {w:World}{M:Nat}{L:Lk}(h:dE w M L):M<w.heap.size:=by
 obtain⟨l,h1,h2⟩:=h;exact h1.lt
theorem dE.grow {w w':World}{M:Nat}{L:Lk}{r:Option Nat}(h:dE w M L)(hg:w.grownBy w' r)(hr:some M≠r):dE w' M L:=h.keep (hg.block M h.lt hr)
section
variable {P:Program} {mt kt et:TypeId} (hm:P.underlying mt=some (.map kt et)) (hs:P.underlying kt=some .string)
include hm hs
theorem dE.look {w:World}{M:Nat}{L:Lk}(h:dE w M L)(k:ByteArray)(hz:(zeroValue et).run P w=.ok (.int .i64 0) w):(Instr.lookup mt (.map (some M)) (.string k) false).run P w=.ok (.int .i64 (L k)) w:=by
 obtain⟨l,h1,h2⟩:=h;rw[(Ms.ac8 hm hs h1 hz).1,h2]
theorem dE.up {w:World}{M:Nat}{L:Lk}(h:dE w M L)(k:ByteArray)(d:Int) :
  ∃ w',(Instr.mapUpdate mt (.map (some M)) (.string k) (.int .i64 (L k+d))).run P w=.ok () w'∧dE w' M (bump L k d)∧w.grownBy w' (some M):=by
 obtain⟨l,h1,h2⟩:=h;cases ha:Ms.at' l k 0 with
 | none =>
  obtain⟨w',h3,h4,h5⟩:=Ms.ac9 (v:=.int .i64 (L k+d)) hm hs h1 (Ms.JA.1 ha);refine⟨w',h3,⟨_,h4,fun x=>?_⟩,h5⟩;rw[Ms.val_append,Ms.vJ,Ms.RF];unfold bump;by_cases hx:x=k
  ·subst hx
   rw[Ms.JA.1 ha];simp
  ·rw[if_neg hx,if_neg hx,Option.or_none]
   exact h2 x
 | some p =>
  obtain⟨i,v0⟩:=p;obtain⟨w',h3,h4,h5⟩:=Ms.run_set (v:=.int .i64 (L k+d)) hm hs h1 ha;refine⟨w',h3,⟨_,h4,fun x=>?_⟩,h5⟩;rw[RG x (b:=0) (by rw[ha];congr 2;omega)];unfold bump;by_cases hx:x=k
  ·rw[if_pos hx,if_pos hx,hx]
   rfl
  ·rw[if_neg hx,if_neg hx]
   exact h2 x
end
theorem JC {w:World}{B e n:Nat}{v:Value}{l:List ByteArray}(h:w.ownsRow B e 1 v n (strs l))(hn:0<n) :
  ∃ g cap cur,v=.slice (some ⟨g,0,none⟩) n cap∧B≤g∧w.heap[g]?=some (.cells cur e (0,0))∧n≤cap∧cap≤maxLen∧cur.size=cap∧cur.toList.take n=strs l∧l.length=n ∧
   ∀ i,i<n→w.cell? ⟨g,i,none⟩=some (.string (nm l i))∧w.frozen? ⟨g,i,none⟩=false:=by
 obtain⟨h1,h2⟩:=h;rcases h2 with⟨_,h0⟩ | ⟨g,cap,cur,rfl,hB,hg,hc,hm,hs,ht⟩
 ·omega
 ·rw[Nat.mul_one] at *
  have hl:l.length=n:=by simpa using h1
  refine⟨g,cap,cur,rfl,hB,hg,hc,hm,hs,ht,hl,fun i hi=>⟨?_,by simp[World.frozen?,hg]⟩⟩;have hi2:i<cur.size:=by omega
  have h3:cur[i]?=(strs l)[i]?:=by
   rw[← ht,List.getElem?_take,if_pos hi];simp
  have h4:cur[i]?=some (.string (nm l i)):=by
   rw[h3];simp[nm,List.getElem?_eq_getElem (show i<l.length by omega)]
  simp[World.cell?,hg,h4]
def put:Array Value→Nat→List Value→Array Value
 | cur,_,[]=>cur
 | cur,o,v :: r=>put (cur.setIfInBounds o v) (o+1) r
theorem Bj:∀ (vs:List Value) (cur:Array Value) (o:Nat),(put cur o vs).size=cur.size
 | [],_,_=>rfl
 | v :: r,cur,o=>by rw[put,Bj r];simp
theorem RH:∀ (vs:List Value) (cur:Array Value) (o:Nat),o+vs.length≤cur.size→(put cur o vs).toList=cur.toList.take o++vs++cur.toList.drop (o+vs.length)
 | [],cur,o,_=>by simp[put]
 | v :: r,cur,o,h=>by
  have hl:o<cur.toList.length:=by simp at h ⊢;omega
  rw[put,RH r _ (o+1) (by simp at h ⊢;omega)];simp only[Array.toList_setIfInBounds,List.length_cons];rw[List.take_add_one,List.take_set_of_le (Nat.le_refl _),List.getElem?_set_self hl,List.drop_set_of_lt (by omega)];simp[Nat.add_assoc,Nat.add_comm 1]
theorem RJ {b e:Nat}{fr:Nat × Nat}:∀ (vs:List Value) (o:Nat) (w:World) (cur:Array Value),w.heap[b]?=some (.cells cur e fr)→(w.setCells b o vs).heap[b]?=some (.cells (put cur o vs) e fr)
 | [],_,_,_,h=>h
 | v :: r,o,w,cur,h=>by
  rw[World.setCells,put];refine RJ r (o+1) _ _ ?_;simp only[World.setCell,Array.getElem?_modify,if_true,h,Option.map_some];rfl
theorem RL {b:Nat}:∀ (vs:List Value) (o:Nat) (w:World),w.grownBy (w.setCells b o vs) (some b)
 | [],_,w=>vK w _
 | v :: r,o,w=>gtr (mI w b o v) (RL r (o+1) _)
theorem adk (l:List ByteArray)(i:Nat):((Lib.strsOf (nm l) l.length).take i++(Lib.strsOf (nm l) l.length).drop (i+1)).map encStr=strs (l.eraseIdx i):=by
 have h0:Lib.strsOf (nm l) l.length=l.map fun b=>b.data.toList:=by
  unfold Lib.strsOf;apply List.ext_getElem?;intro j;by_cases hj:j<l.length
  ·simp[nm,hj]
  ·simp[List.getElem?_eq_none (show l.length≤j by omega),List.getElem?_eq_none (show (List.range l.length).length≤j by simp;omega)]
 have h1:(Lib.strsOf (nm l) l.length).map encStr=strs l:=by
  rw[h0,List.map_map];rfl
 rw[List.map_append,List.map_take,List.map_drop,h1,List.eraseIdx_eq_take_drop_succ];simp[strs,List.map_append,List.map_take,List.map_drop]
theorem adl (B:Nat)(v:Value)(l:List ByteArray)(i:Nat)(w:World)(h:Hd (w.ownsRow B 9 1 v l.length (strs l)))(hi:i<l.length) :
  Calls Tryz.prog 28 #[v,.int .i64 (i:Int),.int .i64 ((i:Int)+1)] w fun e w'=>∃ v',e=.returned v'∧v'.ownBlock=v.ownBlock∧w'.ownsRow B 9 1 v' (l.eraseIdx i).length (strs (l.eraseIdx i))∧w.grownBy w' v.ownBlock:=by
 obtain⟨g,cap,cur,rfl,hB,hg,hc,hm,hs,ht,hl,hcell⟩:=JC h.out (by omega);refine (Tryz.slices_Delete_string_cells g 0 l.length cap i (i+1) (nm l) w hc (by unfold maxLen at hm;omega) (by omega) (by omega) (fun j hj=>by rw[Nat.zero_add];exact (hcell j hj).1) (fun j hj=>by rw[Nat.zero_add];exact (hcell j hj).2)).mono ?_;rintro e w' ⟨rfl,q,rfl⟩;rw[show i+1 - i=1 by omega];have he:(l.eraseIdx i).length=l.length - 1:=by rw[List.length_eraseIdx,if_pos hi]
 have hb:=adk l i;refine⟨_,rfl,rfl,⟨by simp,.inr ⟨g,cap,put cur 0 _,by rw[he],hB,RJ _ 0 _ cur hg,by omega,hm,by rw[Bj,hs,Nat.mul_one],?_⟩⟩,have h:=RL (b:=g) _ 0 (w.drewN q);⟨h.os,h.tape,h.output,h.size,h.block⟩⟩;rw[RH _ _ _ (by simp[Lib.strsOf_length];omega),List.map_append,hb];simp only[List.take_zero,List.nil_append,Nat.mul_one];rw[List.append_assoc,List.take_append_of_le_length (by simp),List.take_of_length_le (by simp)]
end Gr
namespace Gr
def pK (w:World)(ks:List (Int × ByteArray))(a:Option Addr):Prop:=∀ (j:Nat) (d:Int × ByteArray),ks[j]?=some d→d.2.size≤281474976710656∧∃ (b off:Nat) (k2 k4 k6:Int) (s3 s5:ByteArray) (a7 a8:Option Addr) (n7 c7 n8 c8:Nat),a=some ⟨b,off,none⟩∧b<w.heap.size ∧
 w.cell? ⟨b,off+j * 9,none⟩=some (.int .i64 d.1)∧w.cell? ⟨b,off+j * 9+1,none⟩=some (.string d.2)∧w.cell? ⟨b,off+j * 9+2,none⟩=some (.int .i64 k2)∧w.cell? ⟨b,off+j * 9+3,none⟩=some (.string s3) ∧
 w.cell? ⟨b,off+j * 9+4,none⟩=some (.int .i64 k4)∧w.cell? ⟨b,off+j * 9+5,none⟩=some (.string s5)∧w.cell? ⟨b,off+j * 9+6,none⟩=some (.int .i64 k6)∧w.cell? ⟨b,off+j * 9+7,none⟩=some (.slice a7 n7 c7)∧w.cell? ⟨b,off+j * 9+8,none⟩=some (.slice a8 n8 c8)
theorem pK.same {w w':World}{ks:List (Int × ByteArray)}{a:Option Addr}(h:pK w ks a)(hs:w.heap.size≤w'.heap.size)(hk:∀ (b:Nat),b<w.heap.size→w'.heap[b]?=w.heap[b]?∨∀ (o:Nat) (d:ByteArray),w.cell? ⟨b,o,none⟩≠some (.string d)):pK w' ks a:=by
 intro j d hd;obtain⟨h0,b,off,k2,k4,k6,s3,s5,a7,a8,n7,c7,n8,c8,ha,hb,h⟩:=h j d hd;have e:w'.heap[b]?=w.heap[b]?:=by
  rcases hk b hb with e | e
  ·exact e
  ·exact absurd h.2.1 (e _ _)
 refine⟨h0,b,off,k2,k4,k6,s3,s5,a7,a8,n7,c7,n8,c8,ha,by omega,?_⟩;have k:∀ o,w'.cell? ⟨b,o,none⟩=w.cell? ⟨b,o,none⟩:=fun o=>World.cell?_of_block e;rw[k,k,k,k,k,k,k,k,k];exact h
theorem pK.grow {w w':World}{ks:List (Int × ByteArray)}{a:Option Addr}(h:pK w ks a)(hg:w.grownBy w' none):pK w' ks a:=h.same hg.size fun b hb=>.inl (hg.block b hb (by simp))
def Bl (S:Nat→Prop)(w:World)(es:List Ed)(a:Option Addr):Prop:=∀ (j:Nat) (e:Ed),es[j]?=some e→∃ (b off:Nat),a=some ⟨b,off,none⟩∧S b ∧
 w.cell? ⟨b,off+j * 3,none⟩=some (.string e.1)∧w.cell? ⟨b,off+j * 3+1,none⟩=some (.string e.2.1)∧w.cell? ⟨b,off+j * 3+2,none⟩=some (.string e.2.2)
theorem Bl.keep {S S':Nat→Prop}{w w':World}{es:List Ed}{a:Option Addr}(h:Bl S w es a)(hk:∀ b,S b→(∃ (o:Nat) (d:ByteArray),w.cell? ⟨b,o,none⟩=some (.string d))→w'.heap[b]?=w.heap[b]?∧S' b):Bl S' w' es a:=by
 intro j d hd;obtain⟨b,off,ha,hb,h⟩:=h j d hd;obtain⟨e,hs⟩:=hk b hb ⟨_,_,h.1⟩;refine⟨b,off,ha,hs,?_⟩;have k:∀ o,w'.cell? ⟨b,o,none⟩=w.cell? ⟨b,o,none⟩:=fun o=>World.cell?_of_block e;rw[k,k,k];exact h
theorem Dc (s:ByteArray)(w:World)(hlim:s.size≤281474976710656) :
  Calls Tryz.prog 50 #[.string s] w fun e w'=>e=.returned (.string s)∧w.grownBy w' none:=by
 go_enter Tryz.func50,Tryz.ntmps50
 go_wp2_with (go_at_call 90;refine (Tryz.stringslite_Clone _ _ hlim).mono ?_;rintro e w1 ⟨rfl,hb⟩)
 go_ret
 exact⟨rfl,adj hb⟩
theorem Tryz.adm:(Tryz.prog.info? 9).map (fun i=>(i.zero,i.size,i.bytes))=some (some (.string ⟨#[]⟩),1,16):=by kernel_rfl
theorem parts {P:Program}{e:TypeId}{z:Value}{s b:Nat}(h:(P.info? e).map (fun i=>(i.zero,i.size,i.bytes))=some (some z,s,b)):∃ i,P.info? e=some i∧i.zero=some z∧i.size=s∧i.bytes=b:=by
 cases hi:P.info? e with
 | none=>rw[hi] at h;cases h
 | some i =>
  rw[hi] at h;simp only[Option.map_some,Option.some.injEq,Prod.mk.injEq] at h;exact⟨i,rfl,h.1,h.2.1,h.2.2⟩
theorem RN {w:World}{ops:Array Oper}{rest:List Oper}{o:Oper}{a:Act}{Q:Exit→Act→World→Prop}(hgd:o.guard=none)(s x:Operand)
  (ho:o.op=.call { callee:=.builtin .append,args:=#[s,x],argTypes:=#[49,49] }) (base:Nat) (v:Value) (l:List ByteArray) (hs:a.eval s=v) (hown:w.ownsRow base 9 1 v l.length (strs l)) (g:Nat) (y:ByteArray) (hx:a.eval x=.slice (some ⟨g,0,none⟩) 1 1) (hy:w.cell? ⟨g,0,none⟩=some (.string y)) (hn:l.length≤1000000) (hbase:base≤w.heap.size)
  (h:∀ v' w',w'.ownsRow base 9 1 v' (l++[y]).length (strs (l++[y]))→w.grownBy w' v.ownBlock→wpList Tryz.prog ops Q rest (a.put o.dst v') w'):wpList Tryz.prog ops Q (o :: rest) a w:=by
 refine wpList_plain hgd fun K hK=>?_;obtain⟨i,hi,hz0,hz1,hz2⟩:=parts Tryz.adm;have hnews:∀ j u,[Value.string y][j]?=some u→w.cell? ((⟨g,0,none⟩:Addr).add j)=some u:=fun j u hu=>by
  match j,hu with
  | 0,hu=>simp at hu;subst hu;simpa[Addr.add] using hy
  | j+1,hu=>simp at hu
 obtain⟨v',w',hr,h2,h3,_⟩:=run_append_own (P:=Tryz.prog) w base 49 o.type 9 i _ 1 16 Tryz.underlying49 hi hz0 hz1 hz2 rfl (by decide) v l.length (strs l) hown ⟨g,0,none⟩ 1 1 [.string y] rfl hnews (by intro u hu;simp at hu;subst hu;rfl) (by unfold maxLen;omega) (by omega) hbase;unfold Oper.wp;simp[execOp,ho,resolve,invoke,builtin,hs,hx,hr,Result.andThen];exact hK _ _ (h v' w' (by simpa using h2) h3)
theorem dA {w:World}{B e size n:Nat}{v:Value}{xs:List Value}(h:w.ownsRow B e size v n xs):∃ a c,v=.slice a n c:=by
 rcases h.2 with⟨rfl,h0⟩ | ⟨g,cp,cur,rfl,_⟩
 ·exact⟨_,_,by rw[h0]⟩
 ·exact⟨_,_,rfl⟩
theorem Eu {w:World}{B e n:Nat}{a:Option Addr}{c:Nat}{l:List ByteArray}(h:w.ownsRow B e 1 (.slice a n c) n (strs l)){i:Nat}(hi:i<n):∃ g,a=some ⟨g,0,none⟩∧w.cell? ⟨g,i,none⟩=some (.string (nm l i)):=by
 obtain⟨g,cap,cur,e1,_,_,_,_,_,_,_,hc⟩:=JC h (by omega);cases e1;exact⟨g,rfl,(hc i hi).1⟩
theorem yl {w w':World}{B e size n:Nat}{v:Value}{xs:List Value}(h:w.ownsRow B e size v n xs)(hg:w.grownBy w' none):w'.ownsRow B e size v n xs :=
 h.kept hg (by cases hv:v.ownBlock<;>simp)
theorem RO {a w w':World}{B e size n:Nat}{v:Value}{xs:List Value}(hg:a.grownBy w none)(h:w.ownsRow B e size v n xs)(hB:a.heap.size≤B)(hg2:w.grownBy w' v.ownBlock):a.grownBy w' none:=by
 cases hv:v.ownBlock with
 | none=>rw[hv] at hg2;exact gtr hg hg2
 | some g=>rw[hv] at hg2;exact sO hg hg2 (Nat.le_trans hB (h.lt g hv).1)
abbrev dO (d:Int × ByteArray) (k2 k4 k6:Int) (s3 s5:ByteArray) (a7 a8:Option Addr) (n7 c7 n8 c8:Nat):Obj:=.cells #[.int .i64 d.1,.string d.2,.int .i64 k2,.string s3,.int .i64 k4,.string s5,.int .i64 k6,.slice a7 n7 c7,.slice a8 n8 c8] 134
theorem AX (ks:List (Int × ByteArray))(a:Option Addr)(c:Nat)(w:World)(hD:Hd (pK w ks a))(hl:ks.length≤1000000) :
  Calls Tryz.prog 24 #[.slice a ks.length c] w fun e w'=>∃ v,e=.returned v∧w.grownBy w' none∧w'.ownsRow w.heap.size 9 1 v (tasks ks).length (strs (tasks ks)):=by
 obtain⟨L,hL⟩:∃ L,L=ks.length:=⟨_,rfl⟩;have HL:Hd (L=ks.length):=hL;rw[← hL] at hl ⊢;clear hL;go_enter Tryz.func24,Tryz.ntmps24
 go_wp2
 go_loopw [3,8] (fun s q wr=>∃ (j:Nat) (va:Option Addr) (vn vc:Nat),s=.slice va vn vc∧q=.int .i64 j∧j≤L∧Hd (w.grownBy wr none)∧Hd (wr.ownsRow w.heap.size 9 1 (.slice va vn vc) (tasks (ks.take j)).length (strs (tasks (ks.take j))))) (fun _ q _=>L - (intOf q).toNat)
 case atStart=>exact⟨0,none,0,0,rfl,rfl,Nat.zero_le _,vK w _,World.ownsRow_nil _ _ _ _⟩
 case round =>
  obtain⟨j,va,vn,vc,rfl,rfl,hj,HG,HO⟩:=hrel;by_cases hlt:j<L
  ·have hj1:j<ks.length:=by rw[← HL.out];exact hlt
   obtain⟨d,hd'⟩:∃ d,ks[j]?=some d:=⟨_,List.getElem?_eq_getElem hj1⟩;obtain⟨h0,b,off,k2,k4,k6,s3,s5,a7,a8,n7,c7,n8,c8,ha,hb,k0,k1,k2',k3,k4',k5,k6',k7,k8⟩:=(hD.out.grow HG.out) j d hd';have hjp:(j:Int)<(L:Int):=by omega
   have HJ:Hd (j+1≤L):=hlt;have HT:Hd (tasks (ks.take (j+1))=if d.1=4 then tasks (ks.take j)++[d.2] else tasks (ks.take j)):=ac7 ks j d hd';have aA:Hd (w.grownBy (wr.alloc (dO d k2 k4 k6 s3 s5 a7 a8 n7 c7 n8 c8)) none):=gtr HG.out (fJ _ _);have Ew:Hd ((wr.alloc (dO d k2 k4 k6 s3 s5 a7 a8 n7 c7 n8 c8)).ownsRow w.heap.size 9 1 (.slice va vn vc) (tasks (ks.take j)).length (strs (tasks (ks.take j)))):=HO.out.alloc _;have nI:Hd ((tasks (ks.take j)).length≤1000000):=by
    have h1:=RD (ks.take j);have h2:(ks.take j).length≤ks.length:=by simp;omega
    have:=HL.out;unfold Hd;omega
   subst ha;clear hd';by_cases h4:d.1=4
   ·have e4:(d.1==4)=true:=by simp[h4]
    have HT1:Hd (tasks (ks.take (j+1))=tasks (ks.take j)++[d.2]):=by unfold Hd;rw[HT.out,if_pos h4]
    clear HT h4;go_wp2_with (first
     | (go_at_call 50;refine (Dc d.2 _ h0).mono ?_;rintro e w1 ⟨rfl,hg1⟩;have HG2:=hd (gtr aA.out hg1);have Bn:=hd (yl Ew.out hg1);clear hg1)
     | (at_builtin;go_loud (refine RN rfl _ _ rfl w.heap.size _ (tasks (ks.take j)) rfl (Bn.out.alloc _) _ d.2 rfl (by simp) nI.out (gtr HG2.out (fJ _ _)).size ?_);intro v3 w3 ho3 hg3;have fe:=hd (RO (gtr HG2.out (fJ _ _)) (Bn.out.alloc _) (Nat.le_refl _) hg3);rw[← HT1.out] at ho3;have HO3:=hd ho3;obtain⟨va3,vc3,hv3⟩:=dA ho3;subst hv3;clear ho3 hg3))
    go_roundw
    case rel=>exact⟨j+1,va3,_,vc3,rfl,by go_num,HJ.out,fe,HO3⟩
    case measure=>have:=HJ.out;simp[intOf];omega
   ·have e4:(d.1==4)=false:=by simp[h4]
    have HT1:Hd (tasks (ks.take (j+1))=tasks (ks.take j)):=by unfold Hd;rw[HT.out,if_neg h4]
    clear HT h4;go_wp2
    go_roundw
    case rel=>exact⟨j+1,va,vn,vc,rfl,by go_num,HJ.out,aA,by rw[HT1.out];exact Ew⟩
    case measure=>have:=HJ.out;simp[intOf];omega
  ·have hjp:¬ (j:Int)<(L:Int):=by omega
   have Ew:Hd (wr.ownsRow w.heap.size 9 1 (.slice va vn vc) (tasks ks).length (strs (tasks ks))):=by
    have h1:=HO.out;rw[List.take_of_length_le (by have:=HL.out;omega)] at h1;exact h1
   go_wp2
   go_ret
   exact⟨_,rfl,HG.out,Ew.out⟩
theorem adq (s:ByteArray)(C M:Nat)(L:Lk)(w:World)(hC:w.cell? ⟨C,0,none⟩=some (.map (some M)))(hM:Hd (dE w M L)) :
  Calls Tryz.prog 27 #[.string s,.pointer (some ⟨C,0,none⟩)] w fun e w'=>e=.returned (.bool (decide (L s=0)))∧w'=w:=by
 have hz:(zeroValue 3).run Tryz.prog w=.ok (.int .i64 0) w:=by kernel_rfl
 have hl:=dE.look Tryz.underlying77 Tryz.underlying9 hM.out s hz;go_enter Tryz.func27,Tryz.ntmps27
 go_wp2
 go_ret
 exact⟨by congr 2,rfl⟩
def pos (o:Option Nat):Int:=match o with | some i=>i | none=>-1
theorem adr {L:Lk}{r:List ByteArray}{j:Nat}(h:next L (r.take j)=none)(hj:j<r.length):next L (r.take (j+1))=if L (nm r j)=0 then some j else none:=by
 unfold next at h ⊢;have hr:r[j]?=some (nm r j):=by simp[nm,List.getElem?_eq_getElem hj]
 rw[List.take_add_one,hr,Option.toList_some,List.findIdx?_append,h,List.findIdx?_singleton];by_cases h0:L (nm r j)=0
 ·simp[h0];omega
 ·simp[h0]
theorem ads {L:Lk}{r:List ByteArray}{j i:Nat}(h:next L (r.take j)=some i):next L r=some i:=by
 unfold next at h ⊢;have h1:r=r.take j++r.drop j:=(List.take_append_drop j r).symm;rw[h1,List.findIdx?_append,h];rfl
theorem adt (B:Nat)(l:List ByteArray)(a:Option Addr)(c C M:Nat)(L:Lk)(w:World)(hO:Hd (w.ownsRow B 9 1 (.slice a l.length c) l.length (strs l)))(hC:w.cell? ⟨C,0,none⟩=some (.map (some M)))(hM:Hd (dE w M L))(hl:l.length≤1000000) :
  Calls Tryz.prog 26 #[.slice a l.length c,.func (.func 27) #[] #[.pointer (some ⟨C,0,none⟩)]] w fun e w'=>e=.returned (.int .i64 (pos (next L l)))∧w'=w:=by
 obtain⟨n,hn⟩:∃ n,n=l.length:=⟨_,rfl⟩;have HN:Hd (n=l.length):=hn;rw[← hn] at hl hO ⊢;clear hn;go_enter Tryz.func26,Tryz.ntmps26
 go_wp2
 go_loopw [8] (fun q wr=>∃ j:Nat,q=.int .i64 j∧j≤n∧wr=w∧Hd (next L (l.take j)=none)) (fun q _=>n - (intOf q).toNat)
 case atStart=>exact⟨0,rfl,Nat.zero_le _,rfl,ac6 L⟩
 case round =>
  obtain⟨j,rfl,hj,rfl,HX⟩:=hrel;by_cases hlt:j<n
  ·have hj1:j<l.length:=by rw[← HN.out];exact hlt
   obtain⟨g,rfl,hcell⟩:=Eu hO.out hlt;have hjp:(j:Int)<(n:Int):=by omega
   have HJ:Hd (j+1≤n):=hlt;have jo:Hd (next L (l.take (j+1))=if L (nm l j)=0 then some j else none):=adr HX.out hj1;go_wp2_with fail
   refine (adq (nm l j) C M L _ hC hM).mono ?_;rintro e w1 ⟨rfl,rfl⟩;by_cases h0:L (nm l j)=0
   ·have dz:Hd (next L l=some j):=ads (j:=j+1) (by rw[jo.out,if_pos h0])
    have e0:decide (L (nm l j)=0)=true:=by simp[h0]
    rw[e0];clear h0 e0 jo;go_wp2
    go_ret
    exact⟨by rw[dz.out];rfl,rfl⟩
   ·have dz:Hd (next L (l.take (j+1))=none):=by unfold Hd;rw[jo.out,if_neg h0]
    have e0:decide (L (nm l j)=0)=false:=by simp[h0]
    rw[e0];clear h0 e0 jo;go_wp2
    go_roundw
    case rel=>exact⟨j+1,by go_num,HJ.out,trivial,dz⟩
    case measure=>have:=HJ.out;simp[intOf];omega
  ·have dz:Hd (next L l=none):=by
    have h1:=HX.out;rw[List.take_of_length_le (by have:=HN.out;omega)] at h1;exact h1
   have hjp:¬ (j:Int)<(n:Int):=by omega
   go_wp2
   go_ret
   exact⟨by rw[dz.out];rfl,rfl⟩
theorem iT (B:Nat)(l:List ByteArray)(v:Value)(Bx C M:Nat)(L:Lk)(w:World)(hO:Hd (w.ownsRow B 9 1 v l.length (strs l)))(hX:w.cell? ⟨Bx,0,none⟩=some v)(hC:w.cell? ⟨C,0,none⟩=some (.map (some M)))(hM:Hd (dE w M L))(hl:l.length≤1000000) :
  Calls Tryz.prog 25 #[.pointer (some ⟨Bx,0,none⟩),.pointer (some ⟨C,0,none⟩)] w fun e w'=>e=.returned (.int .i64 (pos (next L l)))∧w'=w:=by
 obtain⟨a,c,rfl⟩:=dA hO.out;have rQ:∀ (fn:Fn) (first cap:Array Value) (w:World),(Instr.makeFunc fn first cap).run Tryz.prog w=.ok (.func fn first cap) w:=fun _ _ _ _=>rfl;go_enter Tryz.func25,Tryz.ntmps25
 go_wp2_with fail
 refine (adt B l a c C M L _ hO hC hM hl).mono ?_;rintro e w1 ⟨rfl,rfl⟩;go_wp2
 go_ret
 exact⟨rfl,rfl⟩
end Gr
end Go.Proofs.YtfcpglhpolpdcaaGreatDoor
