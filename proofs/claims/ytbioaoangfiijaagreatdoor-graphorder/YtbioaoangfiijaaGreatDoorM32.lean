/- Plainly: in which order tasks may stand. -/
import Derived.WalkKit
import Derived.Test.YtbioaoangfiijaaGreatDoorM4
import Derived.Test.YtbioaoangfiijaaGreatDoorM20
import Derived.Laws.AppendOwnNone
import Derived.Laws.IdiomCopy
namespace Go.Proofs.YtbioaoangfiijaaGreatDoor
namespace Gr
abbrev Ed:=ByteArray × ByteArray × ByteArray
abbrev Lk:=ByteArray → Int
def bump (L:Lk) (k:ByteArray) (d:Int):Lk:=fun x => if x = k then L x + d else L x
def adds (es:List Ed) (L:Lk):Lk:=es.foldl (fun L e => bump L e.2.2 1) L
def decs (n:ByteArray) (es:List Ed) (L:Lk):Lk:=es.foldl (fun L e => if e.2.1 = n then bump L e.2.2 (-1) else L) L
def next (L:Lk) (left:List ByteArray):Option Nat:=left.findIdx? fun s => decide (L s = 0)
def nm (l:List ByteArray) (i:Nat):ByteArray:=l[i]?.getD ⟨#[]⟩
def go (es:List Ed):Nat → Lk → List ByteArray → List ByteArray → List ByteArray × List ByteArray
 | 0,_,o,r => (o,r)
 | f + 1,L,o,r => match next L r with
  | none => (o,r)
  | some i => go es f (decs (nm r i) es L) (o ++ [nm r i]) (r.eraseIdx i)
def order (es:List Ed) (ts:List ByteArray):List ByteArray × List ByteArray:=go es ts.length (adds es fun _ => 0) [] ts
def tasks (l:List (Int × ByteArray)):List ByteArray:=(l.filter fun d => decide (d.1 = 4)).map (·.2)
theorem adds_more (es:List Ed) (j:Nat) (e:Ed) (h:es[j]? = some e) (L:Lk):adds (es.take (j + 1)) L = bump (adds (es.take j) L) e.2.2 1:=by
 unfold adds
 rw [List.take_add_one,h,List.foldl_append]
 rfl
theorem decs_more (n:ByteArray) (es:List Ed) (j:Nat) (e:Ed) (h:es[j]? = some e) (L:Lk):decs n (es.take (j + 1)) L = if e.2.1 = n then bump (decs n (es.take j) L) e.2.2 (-1) else decs n (es.take j) L:=by
 unfold decs
 rw [List.take_add_one,h,List.foldl_append]
 rfl
def Bnd (m:Int) (L:Lk):Prop:=∀ x,-m ≤ L x ∧ L x ≤ m
theorem Bnd.wide {m m':Int} {L:Lk} (h:Bnd m L) (hm:m ≤ m'):Bnd m' L:=fun x => by have:=h x; omega
theorem Bnd.bump {m:Int} {L:Lk} (h:Bnd m L) (k:ByteArray) {d:Int} (hd:-1 ≤ d ∧ d ≤ 1):Bnd (m + 1) (bump L k d):=fun x => by
 have:=h x
 unfold Gr.bump
 split <;> omega
theorem Bnd.adds {m:Int} (es:List Ed):∀ {L:Lk},Bnd m L → Bnd (m + es.length) (adds es L):=by
 induction es generalizing m with
 | nil => intro L h; simpa [Gr.adds] using h
 | cons e es ih =>
  intro L h
  have:=ih (h.bump e.2.2 (d:=1) (by omega))
  refine this.wide ?_
  simp
  omega
theorem Bnd.decs {m:Int} (n:ByteArray) (es:List Ed):∀ {L:Lk},Bnd m L → Bnd (m + es.length) (decs n es L):=by
 induction es generalizing m with
 | nil => intro L h; simpa [Gr.decs] using h
 | cons e es ih =>
  intro L h
  have h1:Bnd (m + 1) (if e.2.1 = n then Gr.bump L e.2.2 (-1) else L):=by
   split
   ·exact h.bump _ (by omega)
   ·exact h.wide (by omega)
  refine (ih h1).wide ?_
  simp
  omega
theorem next_some {L:Lk} {r:List ByteArray} {i:Nat} (h:next L r = some i):i < r.length ∧ L (nm r i) = 0 ∧ r[i]? = some (nm r i):=by
 unfold next at h
 rw [List.findIdx?_eq_some_iff_getElem] at h
 obtain ⟨h1,h2,_⟩:=h
 refine ⟨h1,?_,by simp [nm,List.getElem?_eq_getElem h1]⟩
 simpa [nm,List.getElem?_eq_getElem h1] using h2
theorem go_none {es:List Ed} {f:Nat} {L:Lk} {o r:List ByteArray} (h:next L r = none):go es f L o r = (o,r):=by
 cases f with
 | zero => rfl
 | succ f => rw [go,h]
theorem next_nil (L:Lk):next L [] = none:=rfl
theorem tasks_more (l:List (Int × ByteArray)) (j:Nat) (d:Int × ByteArray) (h:l[j]? = some d):tasks (l.take (j + 1)) = if d.1 = 4 then tasks (l.take j) ++ [d.2] else tasks (l.take j):=by
 unfold tasks
 rw [List.take_add_one,h]
 by_cases hd:d.1 = 4 <;> simp [hd]
theorem tasks_le (l:List (Int × ByteArray)):(tasks l).length ≤ l.length:=by
 unfold tasks
 rw [List.length_map]
 exact List.length_filter_le _ _
end Gr
end Go.Proofs.YtbioaoangfiijaaGreatDoor
namespace Go.Proofs.YtbioaoangfiijaaGreatDoor
open Go.RowKit
namespace Gr
def Hd (p:Prop):Prop:=p
theorem Hd.out {p:Prop} (h:Hd p):p:=h
theorem hd {p:Prop} (h:p):Hd p:=h
theorem low_of {w:World} {k:Nat} {o:Obj} (h:w.heap[k]? = some o):k < w.heap.size:=(Array.getElem?_eq_some_iff.1 h).1
theorem gtr {a b c:World} {r:Option Nat} (h:a.grownBy b r) (h2:b.grownBy c r):a.grownBy c r :=
 ⟨h2.os.trans h.os,h2.tape.trans h.tape,h2.output.trans h.output,Nat.le_trans h.size h2.size,fun k hk hn => (h2.block k (by have:=h.size; omega) hn).trans (h.block k hk hn)⟩
theorem gown {a b c:World} {g:Nat} {r:Option Nat} (h:a.grownBy b r) (h2:b.grownBy c (some g)) (hg:a.heap.size ≤ g):a.grownBy c r :=
 ⟨h2.os.trans h.os,h2.tape.trans h.tape,h2.output.trans h.output,Nat.le_trans h.size h2.size,fun k hk hn => (h2.block k (by have:=h.size; omega) (by simp; omega)).trans (h.block k hk hn)⟩
theorem gnone {a b:World} {r:Option Nat} (h:a.grownBy b none):a.grownBy b r:=⟨h.os,h.tape,h.output,h.size,fun k hk _ => h.block k hk (by simp)⟩
theorem gbelow {a b:World} (h:Below a.heap.size a b):a.grownBy b none:=⟨h.os,h.tape,h.output,h.size,fun k hk _ => h.block k hk⟩
theorem galloc (w:World) (o:Obj):w.grownBy (w.alloc o) none:=World.grownBy_alloc w o none
theorem grefl (w:World) (r:Option Nat):w.grownBy w r:=⟨rfl,rfl,rfl,Nat.le_refl _,fun _ _ _ => rfl⟩
theorem gset (w:World) (g i:Nat) (v:Value):w.grownBy (w.setCell ⟨g,i,none⟩ v) (some g):=⟨rfl,rfl,rfl,by simp [World.setCell],fun k _ hn => Below.heap_setCell w ⟨g,i,none⟩ v k (fun e => hn (by rw [e]))⟩
abbrev strs (l:List ByteArray):List Value:=l.map Value.string
theorem val_set {k:ByteArray} {v:Value} (x:ByteArray):∀ {l:Ms.Row} {i b:Nat} {v0:Value},Ms.at' l k b = some (b + i,v0) → Ms.val (l.set i (k,v)) x = if x = k then some v else Ms.val l x
 | [],i,b,v0,h => by cases h
 | p :: l,i,b,v0,h => by
  rw [Ms.at'] at h
  by_cases hk:k = p.1
  ·rw [if_pos hk] at h
   simp only [Option.some.injEq,Prod.mk.injEq] at h
   obtain rfl:i = 0:=by omega
   rw [List.set_cons_zero,Ms.val_cons,Ms.val_cons]
   by_cases hx:x = k
   ·rw [if_pos hx,if_pos hx]
   ·rw [if_neg hx,if_neg hx,if_neg (by rw [← hk]; exact hx)]
  ·rw [if_neg hk] at h
   obtain ⟨q,h1,h2⟩:=Ms.at_some h
   obtain ⟨i,rfl⟩:∃ j,i = j + 1:=⟨q,by omega⟩
   have ih:=val_set x (v:=v) (i:=i) (b:=b + 1) (v0:=v0) (by rw [h]; congr 2; omega)
   rw [List.set_cons_succ,Ms.val_cons,Ms.val_cons,ih]
   by_cases hx:x = k
   ·subst hx; simp [hk]
   ·simp [hx]
def MapI (w:World) (M:Nat) (L:Lk):Prop:=∃ l,Ms.In w M l ∧ ∀ k,(Ms.val l k).getD (.int .i64 0) = .int .i64 (L k)
theorem MapI.new (w:World):MapI (w.alloc (.map #[] 0)) w.heap.size fun _ => 0:=⟨[],Ms.In.new w,fun _ => rfl⟩
theorem MapI.keep {w w':World} {M:Nat} {L:Lk} (h:MapI w M L) (hM:w'.heap[M]? = w.heap[M]?):MapI w' M L:=by
 obtain ⟨l,h1,h2⟩:=h
 exact ⟨l,h1.keep hM,h2⟩
theorem MapI.lt {w:World} {M:Nat} {L:Lk} (h:MapI w M L):M < w.heap.size:=by
 obtain ⟨l,h1,h2⟩:=h
 exact h1.lt
theorem MapI.grow {w w':World} {M:Nat} {L:Lk} {r:Option Nat} (h:MapI w M L) (hg:w.grownBy w' r) (hr:some M ≠ r):MapI w' M L:=h.keep (hg.block M h.lt hr)
section
variable {P:Program} {mt kt et:TypeId} (hm:P.underlying mt = some (.map kt et)) (hs:P.underlying kt = some .string)
include hm hs
theorem MapI.look {w:World} {M:Nat} {L:Lk} (h:MapI w M L) (k:ByteArray) (hz:(zeroValue et).run P w = .ok (.int .i64 0) w):(Instr.lookup mt (.map (some M)) (.string k) false).run P w = .ok (.int .i64 (L k)) w:=by
 obtain ⟨l,h1,h2⟩:=h
 rw [(Ms.run_lookup hm hs h1 hz).1,h2]
theorem MapI.up {w:World} {M:Nat} {L:Lk} (h:MapI w M L) (k:ByteArray) (d:Int) :
  ∃ w',(Instr.mapUpdate mt (.map (some M)) (.string k) (.int .i64 (L k + d))).run P w = .ok () w' ∧ MapI w' M (bump L k d) ∧ w.grownBy w' (some M):=by
 obtain ⟨l,h1,h2⟩:=h
 cases ha:Ms.at' l k 0 with
 | none =>
  obtain ⟨w',h3,h4,h5⟩:=Ms.run_add (v:=.int .i64 (L k + d)) hm hs h1 (Ms.at_none.1 ha)
  refine ⟨w',h3,⟨_,h4,fun x => ?_⟩,h5⟩
  rw [Ms.val_append,Ms.val_cons,Ms.val_nil]
  unfold bump
  by_cases hx:x = k
  ·subst hx
   rw [Ms.at_none.1 ha]
   simp
  ·rw [if_neg hx,if_neg hx,Option.or_none]
   exact h2 x
 | some p =>
  obtain ⟨i,v0⟩:=p
  obtain ⟨w',h3,h4,h5⟩:=Ms.run_set (v:=.int .i64 (L k + d)) hm hs h1 ha
  refine ⟨w',h3,⟨_,h4,fun x => ?_⟩,h5⟩
  rw [val_set x (b:=0) (by rw [ha]; congr 2; omega)]
  unfold bump
  by_cases hx:x = k
  ·rw [if_pos hx,if_pos hx,hx]
   rfl
  ·rw [if_neg hx,if_neg hx]
   exact h2 x
end
theorem own_open {w:World} {B e n:Nat} {v:Value} {l:List ByteArray} (h:w.ownsRow B e 1 v n (strs l)) (hn:0 < n) :
  ∃ g cap cur,v = .slice (some ⟨g,0,none⟩) n cap ∧ B ≤ g ∧ w.heap[g]? = some (.cells cur e (0,0)) ∧ n ≤ cap ∧ cap ≤ maxLen ∧ cur.size = cap ∧ cur.toList.take n = strs l ∧ l.length = n ∧
   ∀ i,i < n → w.cell? ⟨g,i,none⟩ = some (.string (nm l i)) ∧ w.frozen? ⟨g,i,none⟩ = false:=by
 obtain ⟨h1,h2⟩:=h
 rcases h2 with ⟨_,h0⟩ | ⟨g,cap,cur,rfl,hB,hg,hc,hm,hs,ht⟩
 ·omega
 ·rw [Nat.mul_one] at *
  have hl:l.length = n:=by simpa using h1
  refine ⟨g,cap,cur,rfl,hB,hg,hc,hm,hs,ht,hl,fun i hi => ⟨?_,by simp [World.frozen?,hg]⟩⟩
  have hi2:i < cur.size:=by omega
  have h3:cur[i]? = (strs l)[i]?:=by
   rw [← ht,List.getElem?_take,if_pos hi]
   simp
  have h4:cur[i]? = some (.string (nm l i)):=by
   rw [h3]
   simp [nm,List.getElem?_eq_getElem (show i < l.length by omega)]
  simp [World.cell?,hg,h4]
def put:Array Value → Nat → List Value → Array Value
 | cur,_,[] => cur
 | cur,o,v :: r => put (cur.setIfInBounds o v) (o + 1) r
theorem put_size:∀ (vs:List Value) (cur:Array Value) (o:Nat),(put cur o vs).size = cur.size
 | [],_,_ => rfl
 | v :: r,cur,o => by rw [put,put_size r]; simp
theorem put_list:∀ (vs:List Value) (cur:Array Value) (o:Nat),o + vs.length ≤ cur.size → (put cur o vs).toList = cur.toList.take o ++ vs ++ cur.toList.drop (o + vs.length)
 | [],cur,o,_ => by simp [put]
 | v :: r,cur,o,h => by
  have hl:o < cur.toList.length:=by simp at h ⊢; omega
  rw [put,put_list r _ (o + 1) (by simp at h ⊢; omega)]
  simp only [Array.toList_setIfInBounds,List.length_cons]
  rw [List.take_add_one,List.take_set_of_le (Nat.le_refl _),List.getElem?_set_self hl,List.drop_set_of_lt (by omega)]
  simp [Nat.add_assoc,Nat.add_comm 1]
theorem cells_block {b e:Nat} {fr:Nat × Nat}:∀ (vs:List Value) (o:Nat) (w:World) (cur:Array Value),w.heap[b]? = some (.cells cur e fr) → (w.setCells b o vs).heap[b]? = some (.cells (put cur o vs) e fr)
 | [],_,_,_,h => h
 | v :: r,o,w,cur,h => by
  rw [World.setCells,put]
  refine cells_block r (o + 1) _ _ ?_
  simp only [World.setCell,Array.getElem?_modify,if_true,h,Option.map_some]
  rfl
theorem cells_grown {b:Nat}:∀ (vs:List Value) (o:Nat) (w:World),w.grownBy (w.setCells b o vs) (some b)
 | [],_,w => grefl w _
 | v :: r,o,w => gtr (gset w b o v) (cells_grown r (o + 1) _)
theorem erase_bytes (l:List ByteArray) (i:Nat):((Lib.strsOf (nm l) l.length).take i ++ (Lib.strsOf (nm l) l.length).drop (i + 1)).map encStr = strs (l.eraseIdx i):=by
 have h0:Lib.strsOf (nm l) l.length = l.map fun b => b.data.toList:=by
  unfold Lib.strsOf
  apply List.ext_getElem?
  intro j
  by_cases hj:j < l.length
  ·simp [nm,hj]
  ·simp [List.getElem?_eq_none (show l.length ≤ j by omega),List.getElem?_eq_none (show (List.range l.length).length ≤ j by simp; omega)]
 have h1:(Lib.strsOf (nm l) l.length).map encStr = strs l:=by
  rw [h0,List.map_map]
  rfl
 rw [List.map_append,List.map_take,List.map_drop,h1,List.eraseIdx_eq_take_drop_succ]
 simp [strs,List.map_append,List.map_take,List.map_drop]
theorem del_any (B:Nat) (v:Value) (l:List ByteArray) (i:Nat) (w:World) (h:Hd (w.ownsRow B 9 1 v l.length (strs l))) (hi:i < l.length) :
  Calls Tryz.prog 12 #[v,.int .i64 (i:Int),.int .i64 ((i:Int) + 1)] w fun e w' => ∃ v',e = .returned v' ∧ v'.ownBlock = v.ownBlock ∧ w'.ownsRow B 9 1 v' (l.eraseIdx i).length (strs (l.eraseIdx i)) ∧ w.grownBy w' v.ownBlock:=by
 obtain ⟨g,cap,cur,rfl,hB,hg,hc,hm,hs,ht,hl,hcell⟩:=own_open h.out (by omega)
 refine (Tryz.slices_Delete_string_cells g 0 l.length cap i (i + 1) (nm l) w hc (by unfold maxLen at hm; omega) (by omega) (by omega) (fun j hj => by rw [Nat.zero_add]; exact (hcell j hj).1) (fun j hj => by rw [Nat.zero_add]; exact (hcell j hj).2)).mono ?_
 rintro e w' ⟨rfl,q,rfl⟩
 rw [show i + 1 - i = 1 by omega]
 have he:(l.eraseIdx i).length = l.length - 1:=by rw [List.length_eraseIdx,if_pos hi]
 have hb:=erase_bytes l i
 refine ⟨_,rfl,rfl,⟨by simp,.inr ⟨g,cap,put cur 0 _,by rw [he],hB,cells_block _ 0 _ cur hg,by omega,hm,by rw [put_size,hs,Nat.mul_one],?_⟩⟩,have h:=cells_grown (b:=g) _ 0 (w.drewN q); ⟨h.os,h.tape,h.output,h.size,h.block⟩⟩
 rw [put_list _ _ _ (by simp [Lib.strsOf_length]; omega),List.map_append,hb]
 simp only [List.take_zero,List.nil_append,Nat.mul_one]
 rw [List.append_assoc,List.take_append_of_le_length (by simp),List.take_of_length_le (by simp)]
end Gr
end Go.Proofs.YtbioaoangfiijaaGreatDoor
