/- Plainly: EACH STANDS BEHIND WHOM IT HEARS. -/
import Derived.Test.YtbioaoangfiijaaGreatDoorM32
import Derived.Test.YtbioaoangfiijaaGreatDoorM34
namespace Go.Proofs.YtbioaoangfiijaaGreatDoor
namespace Gr
def isIn (o:List ByteArray) (s:ByteArray):Bool:=o.any fun y => decide (y = s)
theorem isIn_iff {o:List ByteArray} {s:ByteArray}:isIn o s = true ↔ s ∈ o:=by simp [isIn]
theorem isIn_not {o:List ByteArray} {s:ByteArray}:isIn o s = false ↔ s ∉ o:=by rw [← isIn_iff]; simp
theorem isIn_more (o:List ByteArray) (n s:ByteArray):isIn (o ++ [n]) s = (isIn o s || decide (n = s)):=by simp [isIn]
def lacks (es:List Ed) (o:List ByteArray) (x:ByteArray):Int:=(es.filter fun e => decide (e.2.2 = x) && !isIn o e.2.1).length
theorem adds_is (es:List Ed) (x:ByteArray):∀ L:Lk,adds es L x = L x + (es.filter fun e => decide (e.2.2 = x)).length:=by
 induction es with
 | nil => intro L; simp [adds]
 | cons e es ih =>
  intro L
  have:=ih (bump L e.2.2 1)
  unfold adds at this ⊢
  rw [List.foldl_cons,this]
  unfold bump
  by_cases h:e.2.2 = x
  ·simp [h]; omega
  ·have h':¬ x = e.2.2:=fun h1 => h h1.symm
   simp [h,h']
theorem decs_is (n:ByteArray) (es:List Ed) (x:ByteArray):∀ L:Lk,decs n es L x = L x - (es.filter fun e => decide (e.2.1 = n) && decide (e.2.2 = x)).length:=by
 induction es with
 | nil => intro L; simp [decs]
 | cons e es ih =>
  intro L
  have:=ih (if e.2.1 = n then bump L e.2.2 (-1) else L)
  unfold decs at this ⊢
  rw [List.foldl_cons,this]
  by_cases hn:e.2.1 = n
  ·rw [if_pos hn]
   unfold bump
   by_cases h:e.2.2 = x
   ·simp [h,hn]; omega
   ·have h':¬ x = e.2.2:=fun h1 => h h1.symm
    simp [h,h']
  ·simp [hn]
theorem lacks_more {es:List Ed} {o:List ByteArray} {n:ByteArray} (hn:n ∉ o) (x:ByteArray):lacks es (o ++ [n]) x = lacks es o x - (es.filter fun e => decide (e.2.1 = n) && decide (e.2.2 = x)).length:=by
 unfold lacks
 induction es with
 | nil => simp
 | cons e es ih =>
  simp only [List.filter_cons,isIn_more]
  by_cases h:e.2.2 = x
  ·by_cases h1:e.2.1 = n
   ·have h2:isIn o e.2.1 = false:=isIn_not.2 (by rw [h1]; exact hn)
    simp [h,h1] at ih ⊢
    rw [isIn_not.2 hn]
    simp [isIn_more] at ih ⊢
    omega
   ·have h3:¬ n = e.2.1:=fun x => h1 x.symm
    cases h2:isIn o e.2.1 <;> simp [h,h1,h3,isIn_more] at ih ⊢ <;> omega
  ·simp [h,isIn_more] at ih ⊢
   exact ih
theorem lacks_zero {es:List Ed} {o:List ByteArray} {x:ByteArray} (h:lacks es o x = 0) (e:Ed) (he:e ∈ es) (hx:e.2.2 = x):e.2.1 ∈ o:=by
 have h1:(es.filter fun e => decide (e.2.2 = x) && !isIn o e.2.1) = []:=List.eq_nil_of_length_eq_zero (by unfold lacks at h; omega)
 have h2:=List.filter_eq_nil_iff.1 h1 e he
 rw [← isIn_iff]
 simpa [hx] using h2
theorem lacks_some {es:List Ed} {o:List ByteArray} {x:ByteArray} (h:lacks es o x ≠ 0):∃ e ∈ es,e.2.2 = x ∧ e.2.1 ∉ o:=by
 have h1:(es.filter fun e => decide (e.2.2 = x) && !isIn o e.2.1) ≠ []:=fun h1 => h (by unfold lacks; rw [h1]; rfl)
 obtain ⟨e,he⟩:=List.exists_mem_of_ne_nil _ h1
 obtain ⟨h2,h3⟩:=List.mem_filter.1 he
 simp at h3
 exact ⟨e,h2,h3.1,isIn_not.1 h3.2⟩
def Behind (es:List Ed) (o:List ByteArray):Prop:=∀ (e:Ed),e ∈ es → ∀ j:Nat,o[j]? = some e.2.2 → ∃ k:Nat,k < j ∧ o[k]? = some e.2.1
structure Inv (es:List Ed) (ts:List ByteArray) (L:Lk) (o r:List ByteArray):Prop where
 perm:(o ++ r).Perm ts
 num:∀ x,L x = lacks es o x
 behind:Behind es o
structure Told (es:List Ed) (ts:List ByteArray) (p:List ByteArray × List ByteArray):Prop where
 perm:(p.1 ++ p.2).Perm ts
 behind:Behind es p.1
 left:∀ s ∈ p.2,∃ e ∈ es,e.2.2 = s ∧ e.2.1 ∉ p.1
theorem go_told {es:List Ed} {ts:List ByteArray} (hd:ts.Nodup):∀ (f:Nat) (L:Lk) (o r:List ByteArray),Inv es ts L o r → r.length ≤ f → Told es ts (go es f L o r)
 | 0,L,o,r,h,hf => by
  rw [go]
  obtain rfl:=List.eq_nil_of_length_eq_zero (by omega:r.length = 0)
  exact ⟨h.perm,h.behind,fun s hs => by cases hs⟩
 | f + 1,L,o,r,h,hf => by
  rw [go]
  cases hn:next L r with
  | none =>
   refine ⟨h.perm,h.behind,fun s hs => ?_⟩
   unfold next at hn
   have h1:=List.findIdx?_eq_none_iff.1 hn s hs
   exact lacks_some (o:=o) (x:=s) (by rw [← h.num]; simpa using h1)
  | some i =>
   obtain ⟨hi,hL,hr⟩:=next_some hn
   have hp:(o ++ [nm r i] ++ r.eraseIdx i).Perm (o ++ r):=by
    rw [List.append_assoc]
    refine List.Perm.append_left o ?_
    have h1:r = r.take i ++ nm r i :: r.drop (i + 1):=by
     have h2:nm r i = r[i]:=by simp [nm,List.getElem?_eq_getElem hi]
     rw [h2,← List.drop_eq_getElem_cons hi,List.take_append_drop]
    rw [List.eraseIdx_eq_take_drop_succ]
    have h3:(r.take i ++ nm r i :: r.drop (i + 1)).Perm (nm r i :: (r.take i ++ r.drop (i + 1))):=List.perm_middle
    rw [← h1] at h3
    exact h3.symm
   have hno:nm r i ∉ o:=by
    have h1:(o ++ r).Nodup:=h.perm.nodup_iff.2 hd
    intro ho
    exact (List.nodup_append.1 h1).2.2 _ ho _ (List.mem_of_getElem? hr) rfl
   refine go_told hd f _ _ _ ⟨hp.trans h.perm,fun x => ?_,fun e he j hj => ?_⟩ (by rw [List.length_eraseIdx,if_pos hi]; omega)
   ·rw [decs_is,h.num,lacks_more hno]
   ·by_cases hjo:j < o.length
    ·rw [List.getElem?_append_left hjo] at hj
     obtain ⟨k,hk,hk2⟩:=h.behind e he j hj
     exact ⟨k,hk,by rw [List.getElem?_append_left (by omega)]; exact hk2⟩
    ·rw [List.getElem?_append_right (by omega)] at hj
     have hj0:j = o.length:=by
      have:=(List.getElem?_eq_some_iff.1 hj).1
      simp at this
      omega
     subst hj0
     simp at hj
     have hm:=lacks_zero (es:=es) (o:=o) (x:=nm r i) (by rw [← h.num]; exact hL) e he hj.symm
     obtain ⟨k,hk⟩:=List.getElem?_of_mem hm
     have hk2:=(List.getElem?_eq_some_iff.1 hk).1
     exact ⟨k,hk2,by rw [List.getElem?_append_left hk2]; exact hk⟩
theorem order_told (es:List Ed) {ts:List ByteArray} (hd:ts.Nodup):Told es ts (order es ts) :=
 go_told hd _ _ _ _ ⟨by simp,fun x => by rw [adds_is]; simp [lacks,isIn],fun e _ j hj => by simp at hj⟩ (Nat.le_refl _)
end Gr
end Go.Proofs.YtbioaoangfiijaaGreatDoor
namespace Go.Proofs.YtbioaoangfiijaaGreatDoor
open Go.RowKit
namespace Sm
open Gr (order tasks Behind Told order_told)
def rowAt:List ByteArray → Nat → Ms.Row
 | [],_ => []
 | n :: o,i => (n,.int .i64 ((i:Int) + 1)) :: rowAt o (i + 1)
theorem rowAt_append (o:List ByteArray) (n:ByteArray):∀ i,rowAt (o ++ [n]) i = rowAt o i ++ [(n,.int .i64 (((i + o.length:Nat):Int) + 1))]:=by
 induction o with
 | nil => intro i; rfl
 | cons m o ih =>
  intro i
  rw [List.cons_append,rowAt,ih,rowAt,List.cons_append,List.length_cons,show i + 1 + o.length = i + (o.length + 1) by omega]
def ix (o:List ByteArray) (x:ByteArray):Option Nat:=o.findIdx? fun y => decide (y = x)
def atL (o:List ByteArray) (x:ByteArray):Int:=match ix o x with | some i => (i:Int) + 1 | none => 0
theorem val_rowAt (x:ByteArray):∀ (o:List ByteArray) (i:Nat),Ms.val (rowAt o i) x = (ix o x).map fun k => .int .i64 (((i + k:Nat):Int) + 1)
 | [],i => rfl
 | n :: o,i => by
  rw [rowAt,Ms.val_cons,val_rowAt x o (i + 1)]
  unfold ix
  rw [List.findIdx?_cons]
  by_cases h:x = n
  ·subst h; simp
  ·have h':¬ n = x:=fun e => h e.symm
   rw [if_neg h]
   simp [h',Function.comp_def,show ∀ k,i + 1 + k = i + (k + 1) by omega]
theorem val_at (o:List ByteArray) (x:ByteArray):(Ms.val (rowAt o 0) x).getD (.int .i64 0) = .int .i64 (atL o x):=by
 rw [val_rowAt]
 unfold atL
 cases ix o x <;> simp
theorem ix_none {o:List ByteArray} {x:ByteArray}:ix o x = none ↔ x ∉ o:=by
 unfold ix
 rw [List.findIdx?_eq_none_iff]
 simp
 exact ⟨fun h hx => h x hx rfl,fun h y hy e => h (e ▸ hy)⟩
theorem ix_some {o:List ByteArray} {x:ByteArray} {i:Nat} (h:ix o x = some i):o[i]? = some x:=by
 unfold ix at h
 rw [List.findIdx?_eq_some_iff_getElem] at h
 obtain ⟨h1,h2,_⟩:=h
 rw [List.getElem?_eq_getElem h1]
 simpa using h2
theorem ix_le {o:List ByteArray} {x:ByteArray} {k:Nat} (h:o[k]? = some x):∃ i,i ≤ k ∧ ix o x = some i:=by
 obtain ⟨hk,e⟩:=List.getElem?_eq_some_iff.1 h
 cases hi:ix o x with
 | none => exact absurd (List.mem_of_getElem? h) (ix_none.1 hi)
 | some i =>
  refine ⟨i,?_,rfl⟩
  unfold ix at hi
  rw [List.findIdx?_eq_some_iff_getElem] at hi
  obtain ⟨_,_,h3⟩:=hi
  rcases Nat.lt_or_ge k i with h4 | h4
  ·have:=h3 k h4
   simp [e] at this
  ·exact h4
theorem atL_zero {o:List ByteArray} {x:ByteArray}:atL o x = 0 ↔ x ∉ o:=by
 rw [← ix_none]
 unfold atL
 cases ix o x <;> simp
 omega
theorem at_behind {es:List Ow3} {o:List ByteArray} (h:Behind es o) {e:Ow3} (he:e ∈ es):¬ (0 < atL o e.2.2 ∧ (atL o e.2.1 = 0 ∨ atL o e.2.2 ≤ atL o e.2.1)):=by
 rintro ⟨h1,h2⟩
 unfold atL at h1
 cases hi:ix o e.2.2 with
 | none => rw [hi] at h1; simp at h1
 | some i =>
  obtain ⟨k,hk,hk2⟩:=h e he i (ix_some hi)
  obtain ⟨q,hq,hq2⟩:=ix_le hk2
  unfold atL at h2
  rw [hi,hq2] at h2
  simp only at h2
  omega
def kn (l:List Sy.Df):List (Int × ByteArray):=l.map fun d => (d.kind,d.name)
theorem kn_at {l:List Sy.Df} {j:Nat} {d:Sy.Df} (h:l[j]? = some d):(kn l)[j]? = some (d.kind,d.name):=by simp [kn,h]
theorem tasks_once {l:List Sy.Df} (h:(l.map (·.name)).Nodup):(tasks (kn l)).Nodup:=by
 have h1:((kn l).map (·.2)) = l.map (·.name):=by simp [kn,Function.comp_def]
 have h2:(tasks (kn l)).Sublist ((kn l).map (·.2)):=List.filter_sublist.map _
 rw [h1] at h2
 exact h.sublist h2
theorem ds_in {B:Nat} {w:World} {l:List Sy.Df} {a:Option Addr} (h:DfsIn B w l a) (hB:B ≤ w.heap.size) (hn:∀ (k:Nat) (d:Sy.Df),l[k]? = some d → d.name.size ≤ 12):Gr.DsAt w (kn l) a:=by
 intro j d hd
 unfold kn at hd
 rw [List.getElem?_map] at hd
 obtain ⟨e,he,rfl⟩:=Option.map_eq_some_iff.1 hd
 obtain ⟨b,off,pa,pc,ba,bc,ha,hb,k0,k1,k2,k3,k4,k5,k6,k7,k8,_⟩:=h.2 j e he
 exact ⟨by have:=hn j e he; dsimp; omega,b,off,_,_,_,_,_,_,_,_,_,_,_,ha,by omega,k0,k1,k2,k3,k4,k5,k6,k7,k8⟩
def edr (l:List Sy.Df):Except (Int × Int) (List Ow3):=match owners l with
 | .error x => .error (x.1,(x.2:Int))
 | .ok os => .ok (edgesOf os)
theorem es_in {w:World} {B:Nat} {va:Option Addr} {vc:Nat} {os:List Ow3} (h:w.ownsRow B 41 3 (.slice va os.length vc) os.length (ows os)):Gr.EsAt (· < w.heap.size) w os va:=by
 intro j e he
 obtain ⟨x0,x1,x2⟩:=ows_at he
 obtain ⟨g,rfl,hg,c0⟩:=own_c h x0
 obtain ⟨g',e',_,c1⟩:=own_c h x1
 cases e'
 obtain ⟨g',e',_,c2⟩:=own_c h x2
 cases e'
 exact ⟨g,0,rfl,hg,by rw [Nat.zero_add]; exact c0,by rw [Nat.zero_add]; exact c1,by rw [Nat.zero_add]; exact c2⟩
open Gr in
theorem order_any (B:Nat) (l:List Sy.Df) (a:Option Addr) (c:Nat) (w:World) (hD:Hid (DfsIn B w l a)) (hB:B ≤ w.heap.size) (hG:Hid (Gl B w)) :
  Calls Tryz.prog 5 #[.slice a l.length c] w fun e w' => OrQ (fun _ => True) (kn l) (edr l) w e w':=by
 have hk:(kn l).length = l.length:=by simp [kn]
 have hg:w.grownBy (entry w) none:=gtr (galloc _ _) (galloc _ _)
 have h:=order_walk (fun _ => True) (kn l) a c (edr l) w
 rw [hk] at h
 refine h ?_
 refine (edges_walk B l a c (entry w) (hD.out.same (same_grown hg (by simp) hB)) (Nat.le_trans hB hg.size) (gl_same hG.out (same_grown hg (by simp) hB))).mono ?_
 rintro e w1 ⟨hg1,h1⟩
 refine ⟨⟨hg1.os,hg1.tape,hg1.output,hg1.size,fun k hk _ => hg1.block k hk (by simp)⟩,?_⟩
 unfold edr
 cases ho:owners l with
 | error x =>
  rw [ho] at h1
  exact ⟨owners_bad ho,h1⟩
 | ok os =>
  rw [ho] at h1
  obtain ⟨v,rfl,hr⟩:=h1
  obtain ⟨va,vc,rfl⟩:=own_form hr
  have hf:=owners_few ho
  refine ⟨?_,by have:=hf.defs; omega,by have:=edges_le os; have:=hf.own; omega,va,vc,rfl,es_in hr⟩
  exact ds_in (hD.out.same (same_grown (gtr hg hg1) (by simp) hB)) (Nat.le_trans hB (gtr hg hg1).size) fun k d hd => (hf.name k d hd).2
end Sm
end Go.Proofs.YtbioaoangfiijaaGreatDoor
