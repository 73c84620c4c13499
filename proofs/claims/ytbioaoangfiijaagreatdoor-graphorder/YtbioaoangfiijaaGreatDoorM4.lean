/- Maps keyed by strings: a map in memory is the row of its names and values,in the order that they came. -/
import Derived.Test.YtbioaoangfiijaaGreatDoorRows
import Derived.WalkKit
import Derived.MapKept
import Derived.ArgAppend
import Derived.Test.YtbioaoangfiijaaGreatDoorM3
namespace Go.Proofs.YtbioaoangfiijaaGreatDoor
open Go.RowKit
namespace Ms
abbrev Row:=List (ByteArray × Value)
def at':Row → ByteArray → Nat → Option (Nat × Value)
 | [],_,_ => none
 | p :: l,k,i => if k = p.1 then some (i,p.2) else at' l k (i + 1)
def val (l:Row) (k:ByteArray):Option Value:=(at' l k 0).map (·.2)
def Is (es:List MapEntry) (l:Row):Prop:=es.map (fun e => (e.key,e.val)) = l.map (fun p => (Value.string p.1,p.2))
def In (w:World) (M:Nat) (l:Row):Prop:=∃ es cl,w.heap[M]? = some (.map es cl) ∧ Is es.toList l
theorem now_at {k:ByteArray}:∀ {es:List MapEntry} {l:Row} {i:Nat},Is es l → Instr.findNow .string (.string k) es i = some (at' l k i)
 | [],[],i,_ => rfl
 | [],_ :: _,i,h => by simp [Is] at h
 | _ :: _,[],i,h => by simp [Is] at h
 | e :: es,p :: l,i,h => by
  simp only [Is,List.map_cons,List.cons.injEq,Prod.mk.injEq] at h
  obtain ⟨⟨h1,h2⟩,h3⟩:=h
  rw [Instr.findNow,h1,at']
  by_cases hk:k = p.1
  ·have:(k == p.1) = true:=(MapKept.bytes_beq _ _).2 hk
   simp only [Instr.sameNow,this,if_pos hk,h2]
  ·have:(k == p.1) = false:=by
    cases hb:(k == p.1) with
    | false => rfl
    | true => exact absurd ((MapKept.bytes_beq _ _).1 hb) hk
   simp only [Instr.sameNow,this,if_neg hk]
   exact now_at (es:=es) (l:=l) h3
theorem at_shift (k:ByteArray):∀ (l:Row) (i:Nat),at' l k i = (at' l k 0).map (fun p => (p.1 + i,p.2))
 | [],i => rfl
 | p :: l,i => by
  simp only [at']
  by_cases hk:k = p.1
  ·simp [hk]
  ·rw [if_neg hk,if_neg hk,at_shift k l (i + 1),at_shift k l 1]
   cases at' l k 0 with
   | none => rfl
   | some x => simp only [Option.map_some]; rw [Nat.add_assoc,Nat.add_comm 1 i]
theorem val_nil (k:ByteArray):val [] k = none:=rfl
theorem val_cons (p:ByteArray × Value) (l:Row) (k:ByteArray):val (p :: l) k = if k = p.1 then some p.2 else val l k:=by
 simp only [val,at']
 by_cases hk:k = p.1
 ·simp [hk]
 ·rw [if_neg hk,if_neg hk,at_shift]
  cases at' l k 0 <;> rfl
theorem val_append (k:ByteArray) (m:Row):∀ l:Row,val (l ++ m) k = (val l k).or (val m k)
 | [] => by simp [val_nil]
 | p :: l => by
  rw [List.cons_append,val_cons,val_cons,val_append k m l]
  by_cases hk:k = p.1 <;> simp [hk]
theorem val_none {k:ByteArray}:∀ {l:Row},val l k = none ↔ ∀ p ∈ l,p.1 ≠ k
 | [] => by simp [val_nil]
 | p :: l => by
  rw [val_cons]
  by_cases hk:k = p.1
  ·subst hk; simp
  ·rw [if_neg hk,val_none]
   exact ⟨fun h x hx => by
    rcases List.mem_cons.1 hx with rfl | h1
    ·exact Ne.symm hk
    ·exact h x h1,fun h x hx => h x (List.mem_cons_of_mem _ hx)⟩
theorem at_none {l:Row} {k:ByteArray}:at' l k 0 = none ↔ val l k = none:=by
 unfold val
 cases at' l k 0 <;> simp
theorem at_some {k:ByteArray} {v:Value}:∀ {l:Row} {i j:Nat},at' l k i = some (j,v) → ∃ q,j = i + q ∧ l[q]? = some (k,v)
 | [],i,j,h => by cases h
 | p :: l,i,j,h => by
  rw [at'] at h
  by_cases hk:k = p.1
  ·rw [if_pos hk] at h
   simp only [Option.some.injEq,Prod.mk.injEq] at h
   exact ⟨0,by omega,by simp [← h.2,hk]⟩
  ·rw [if_neg hk] at h
   obtain ⟨q,h1,h2⟩:=at_some h
   exact ⟨q + 1,by omega,by simpa using h2⟩
theorem at_first {k:ByteArray}:∀ {l m:Row} {v:Value} {i:Nat},(∀ p ∈ l,p.1 ≠ k) → at' (l ++ (k,v) :: m) k i = some (i + l.length,v)
 | [],m,v,i,_ => by simp [at']
 | p :: l,m,v,i,h => by
  rw [List.cons_append,at',if_neg (Ne.symm (h p List.mem_cons_self)),at_first (fun x hx => h x (List.mem_cons_of_mem _ hx))]
  simp; omega
theorem In.new (w:World):In (w.alloc (.map #[] 0)) w.heap.size []:=⟨#[],0,heap_alloc_new w _,rfl⟩
theorem In.keep {w w':World} {M:Nat} {l:Row} (h:In w M l) (hM:w'.heap[M]? = w.heap[M]?):In w' M l:=by
 obtain ⟨es,cl,h1,h2⟩:=h
 exact ⟨es,cl,hM.trans h1,h2⟩
theorem In.lt {w:World} {M:Nat} {l:Row} (h:In w M l):M < w.heap.size:=by
 obtain ⟨es,cl,h1,_⟩:=h
 exact (Array.getElem?_eq_some_iff.1 h1).1
theorem In.grow {w w':World} {M:Nat} {l:Row} (h:In w M l) (hg:w.grownBy w' none):In w' M l:=h.keep (hg.block _ h.lt (by simp))
variable {P:Program} {mt kt et:TypeId} (hm:P.underlying mt = some (.map kt et)) (hs:P.underlying kt = some .string)
include hm hs
theorem run_lookup {w:World} {M:Nat} {l:Row} {k:ByteArray} {z:Value} (h:In w M l) (hz:(zeroValue et).run P w = .ok z w) :
  (Instr.lookup mt (.map (some M)) (.string k) false).run P w = .ok ((val l k).getD z) w ∧
  (Instr.lookup mt (.map (some M)) (.string k) true).run P w = .ok (.tuple #[(val l k).getD z,.bool (val l k).isSome]) w:=by
 obtain ⟨es,cl,h1,h2⟩:=h
 have hf:=now_at (k:=k) (i:=0) h2
 have hg:(getObj M).run P w = .ok (.map es cl) w:=MapKept.run_getObj_map h1
 have hu:=run_underlying (w:=w) hm
 have hkk:=MapKept.run_findKey (w:=w) hs hf
 have hck:∀ b,(Instr.checkKey b 10000 kt (.string k)).run P w = .ok () w:=fun b => MapKept.run_checkKey (n:=9999) hs (by simp [MapKept.IsKey]) b
 unfold val
 cases ha:at' l k 0 with
 | none =>
  rw [ha] at hkk
  exact ⟨by simp [Instr.lookup,hu,hg,hck,hkk,hz],by simp [Instr.lookup,hu,hg,hck,hkk,hz]⟩
 | some x =>
  rw [ha] at hkk
  exact ⟨by simp [Instr.lookup,hu,hg,hck,hkk],by simp [Instr.lookup,hu,hg,hck,hkk]⟩
theorem run_add {w:World} {M:Nat} {l:Row} {k:ByteArray} {v:Value} (h:In w M l) (hk:val l k = none) :
  ∃ w',(Instr.mapUpdate mt (.map (some M)) (.string k) v).run P w = .ok () w' ∧ In w' M (l ++ [(k,v)]) ∧ w.grownBy w' (some M):=by
 obtain ⟨es,cl,h1,h2⟩:=h
 have hf:=now_at (k:=k) (i:=0) h2
 rw [at_none.2 hk] at hf
 have hg:(getObj M).run P w = .ok (.map es cl) w:=MapKept.run_getObj_map h1
 have hu:=run_underlying (w:=w) hm
 have hkk:=MapKept.run_findKey (w:=w) hs hf
 have hck:∀ b,(Instr.checkKey b 10000 kt (.string k)).run P w = .ok () w:=fun b => MapKept.run_checkKey (n:=9999) hs (by simp [MapKept.IsKey]) b
 have hset:=MapKept.run_setObj_map (P:=P) (.map (es.push { key:=.string k,val:=v,born:=cl }) (cl + 1)) h1
 obtain ⟨m1,m2⟩:=MapKept.heap_set (o':=.map (es.push { key:=.string k,val:=v,born:=cl }) (cl + 1)) h1
 refine ⟨{ w with heap:=w.heap.setIfInBounds M (.map (es.push { key:=.string k,val:=v,born:=cl }) (cl + 1)) },by simp [Instr.mapUpdate,hu,hg,hck,hkk,hset],⟨_,_,m1,?_⟩,⟨rfl,rfl,rfl,by simp,fun b _ hne => m2 b (fun e => hne (by rw [e]))⟩⟩
 unfold Is at h2 ⊢
 simp [h2]
theorem run_set {w:World} {M:Nat} {l:Row} {k:ByteArray} {i:Nat} {v v0:Value} (h:In w M l) (hk:at' l k 0 = some (i,v0)) :
  ∃ w',(Instr.mapUpdate mt (.map (some M)) (.string k) v).run P w = .ok () w' ∧ In w' M (l.set i (k,v)) ∧ w.grownBy w' (some M):=by
 obtain ⟨es,cl,h1,h2⟩:=h
 have hf:=now_at (k:=k) (i:=0) h2
 rw [hk] at hf
 have hg:(getObj M).run P w = .ok (.map es cl) w:=MapKept.run_getObj_map h1
 have hu:=run_underlying (w:=w) hm
 have hkk:=MapKept.run_findKey (w:=w) hs hf
 have hck:∀ b,(Instr.checkKey b 10000 kt (.string k)).run P w = .ok () w:=fun b => MapKept.run_checkKey (n:=9999) hs (by simp [MapKept.IsKey]) b
 obtain ⟨q,hq,hl⟩:=at_some hk
 obtain rfl:i = q:=by omega
 have hle:es.toList.length = l.length:=by simpa using congrArg List.length h2
 obtain ⟨e0,he0,hek⟩:∃ e0,es[i]? = some e0 ∧ e0.key = .string k:=by
  have:=congrArg (fun x => x[i]?) h2
  simp only [List.getElem?_map,hl,Option.map_some] at this
  cases he:es.toList[i]? with
  | none => rw [he] at this; cases this
  | some e =>
   rw [he] at this
   simp only [Option.map_some,Option.some.injEq,Prod.mk.injEq] at this
   exact ⟨e,by simpa using he,this.1⟩
 have hst:=MapKept.run_keyThatStays (P:=P) (w:=w) (d:=.string) (k:=.string k) (by simp [MapKept.IsKey])
 have hset:=MapKept.run_setObj_map (P:=P) (.map (es.modify i fun e => { e with key:=.string k,val:=v }) cl) h1
 obtain ⟨m1,m2⟩:=MapKept.heap_set (o':=.map (es.modify i fun e => { e with key:=.string k,val:=v }) cl) h1
 refine ⟨{ w with heap:=w.heap.setIfInBounds M (.map (es.modify i fun e => { e with key:=.string k,val:=v }) cl) },by simp [Instr.mapUpdate,hu,hg,hck,hkk,he0,hek,hst,hset],⟨_,_,m1,?_⟩,⟨rfl,rfl,rfl,by simp,fun b _ hne => m2 b (fun e => hne (by rw [e]))⟩⟩
 unfold Is at h2 ⊢
 apply List.ext_getElem?
 intro j
 have hj:=congrArg (fun x => x[j]?) h2
 simp only [List.getElem?_map] at hj ⊢
 rw [Array.toList_modify,List.getElem?_modify,List.getElem?_set]
 by_cases hij:i = j
 ·subst hij
  have hlt:i < l.length:=(List.getElem?_eq_some_iff.1 hl).1
  have:es.toList[i]? = some e0:=by simpa using he0
  simp [this,hlt]
 ·simpa [hij] using hj
theorem run_delete {w:World} {M:Nat} {l:Row} {k:ByteArray} {i:Nat} {v0:Value} {ty:TypeId} {ts:Array TypeId} (h:In w M l) (ht:ts[0]? = some mt) (hk:at' l k 0 = some (i,v0)) :
  ∃ w',(Builtin.delete_ ts ty #[.map (some M),.string k]).run P w = .ok (.tuple #[]) w' ∧ In w' M (l.eraseIdx i) ∧ w.grownBy w' (some M):=by
 obtain ⟨es,cl,h1,h2⟩:=h
 have hf:=now_at (k:=k) (i:=0) h2
 rw [hk] at hf
 have hg:(getObj M).run P w = .ok (.map es cl) w:=MapKept.run_getObj_map h1
 have hu:=run_underlying (w:=w) hm
 have hkk:=MapKept.run_findKey (w:=w) hs hf
 have hck:∀ b,(Instr.checkKey b 10000 kt (.string k)).run P w = .ok () w:=fun b => MapKept.run_checkKey (n:=9999) hs (by simp [MapKept.IsKey]) b
 have hset:=MapKept.run_setObj_map (P:=P) (.map (es.eraseIdxIfInBounds i) cl) h1
 obtain ⟨m1,m2⟩:=MapKept.heap_set (o':=.map (es.eraseIdxIfInBounds i) cl) h1
 refine ⟨{ w with heap:=w.heap.setIfInBounds M (.map (es.eraseIdxIfInBounds i) cl) },by simp [Builtin.delete_,ht,hu,hg,hck,hkk,hset],⟨_,_,m1,?_⟩,⟨rfl,rfl,rfl,by simp,fun b _ hne => m2 b (fun e => hne (by rw [e]))⟩⟩
 unfold Is at h2 ⊢
 have:(es.eraseIdxIfInBounds i).toList = es.toList.eraseIdx i:=by simp
 have me:∀ {α β:Type} (f:α → β) (x:List α),(x.eraseIdx i).map f = (x.map f).eraseIdx i:=fun f x => by simp [List.eraseIdx_eq_take_drop_succ,List.map_take,List.map_drop]
 rw [this,me,h2,← me]
end Ms
end Go.Proofs.YtbioaoangfiijaaGreatDoor
