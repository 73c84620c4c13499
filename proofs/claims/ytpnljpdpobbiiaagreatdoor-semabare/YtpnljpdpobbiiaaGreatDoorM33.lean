/- Bare expressions: the row of kids as it grows. -/
import Derived.Test.YtpnljpdpobbiiaaGreatDoorM32
import Derived.Deep.Cut
import Derived.Deep.DeepCutAuto
import Derived.Test.YtpnljpdpobbiiaaGreatDoorM13
namespace Go.Proofs.YtpnljpdpobbiiaaGreatDoor
open Go.RowKit
namespace Sy
def LmE:Nat → Ex → Prop
 | 0,_ => False
 | d + 1,x => x.kids.length ≤ 2513169434843 ∧ ∀ k ∈ x.kids,LmE d k
def LmS:Nat → St → Prop
 | 0,_ => False
 | d + 1,s => LmE d s.x ∧ (s.body.length ≤ 1099511627744 ∧ ∀ t ∈ s.body,LmS d t) ∧ (s.els.length ≤ 1099511627744 ∧ ∀ t ∈ s.els,LmS d t)
def dfZ (D:Nat) (d:Df):Df:=⟨d.kind,d.name,if d.kind = 4 then ⟨0,⟨#[]⟩⟩ else tyB d.ty,if d.kind = 3 then tyB d.takes else ⟨0,⟨#[]⟩⟩,if d.kind = 1 then d.cap else 0,if d.kind = 2 ∨ d.kind = 3 then d.params.map pmB else [],if d.kind = 1 then [] else d.body.map (stB D)⟩
structure LmD (D:Nat) (d:Df):Prop where
 pms:d.params.length ≤ 3518437208780
 body:d.body.length ≤ 1099511627744 ∧ ∀ s ∈ d.body,LmS D s
end Sy
structure BxAt (w:World) (d:Nat) (X:Obj) (k n:Int) (s:ByteArray) (ks:List Sy.Ex) (its:List Itm) (v:Value) (W:World):Prop where
 bel:Below w.heap.size w W
 xb:W.heap[w.heap.size]? = some X
 rb:W.heap[w.heap.size + 1]? = some ZE
 ob:W.heap[w.heap.size + 1 + 1]? = some (exO k n s v)
 own:W.ownsRow (w.heap.size + 1 + 1 + 1) 92 4 v its.length (cells4 its)
 eq:its.map (·.1) = ks.map (Sy.exB d)
 exq:∀ it ∈ its,ExQ (fun b => w.heap.size + 1 + 1 + 1 ≤ b ∧ b < W.heap.size ∧ v.ownBlock ≠ some b) W d it.1 it.2.1
theorem exo_set {w:World} {M:Nat} {k n:Int} {s:ByteArray} {v u:Value} (h:w.heap[M]? = some (exO k n s v)):(w.setCell ⟨M,3,none⟩ u).heap[M]? = some (exO k n s u):=by
 simp only [World.setCell,Array.getElem?_modify,if_true,h,Option.map_some]
 rfl
theorem BxAt.more {w:World} {d:Nat} {X:Obj} {k n:Int} {s:ByteArray} {ks:List Sy.Ex} {its:List Itm} {v:Value} {W W1 w4:World} {kid y:Sy.Ex} {a':Option Addr} {c' g cap:Nat} (A:BxAt w d X k n s ks its v W) (hb:Below W.heap.size W W1) (hy:y = Sy.exB d kid) (hq:ExQ (fun b => W.heap.size ≤ b ∧ b < W1.heap.size) W1 d y a')
  (hown:w4.ownsRow (w.heap.size + 1 + 1 + 1) 92 4 (.slice (some ⟨g,0,none⟩) (its.length + 1) cap) (its.length + 1) (cells4 its ++ cells4 [(y,a',c')])) (hg:(W1.alloc (exO y.kind y.n y.name (.slice a' y.kids.length c'))).grownBy w4 v.ownBlock) (hp:v.ownBlock = some g ∨ g = (W1.alloc (exO y.kind y.n y.name (.slice a' y.kids.length c'))).heap.size) :
  BxAt w d X k n s (ks ++ [kid]) (its ++ [(y,a',c')]) (.slice (some ⟨g,0,none⟩) (its.length + 1) cap) (w4.setCell ⟨w.heap.size + 1 + 1,3,none⟩ (.slice (some ⟨g,0,none⟩) (its.length + 1) cap)):=by
 have hMW:w.heap.size + 1 + 1 < W.heap.size:=lt_of_block A.ob
 have hvb:=A.own.lt
 have hs1:=hb.size
 have hz:(W1.alloc (exO y.kind y.n y.name (.slice a' y.kids.length c'))).heap.size = W1.heap.size + 1:=by simp
 rw [hz] at hp
 have hgl:=hown.lt g rfl
 have hs4:=hg.size
 rw [hz] at hs4
 have hgM:w.heap.size + 1 + 1 ≠ g:=by omega
 -- what stays
 have low:∀ b,b < W.heap.size → v.ownBlock ≠ some b → w4.heap[b]? = W.heap[b]?:=fun b h1 h2 => by
  rw [hg.block b (by omega) (fun e => h2 e.symm),Below.heap_alloc _ _ _ (by omega)]
  exact hb.block b h1
 have mid:∀ b,W.heap.size ≤ b → b < W1.heap.size → w4.heap[b]? = W1.heap[b]?:=fun b h1 h2 => by
  rw [hg.block b (by omega) (fun e => by have:=(hvb b e.symm).2; omega),Below.heap_alloc _ _ _ h2]
 have far:∀ b,b ≠ w.heap.size + 1 + 1 → (w4.setCell ⟨w.heap.size + 1 + 1,3,none⟩ (.slice (some ⟨g,0,none⟩) (its.length + 1) cap)).heap[b]? = w4.heap[b]?:=fun b h => Below.heap_setCell _ _ _ _ h
 have nov:∀ b,b < w.heap.size + 1 + 1 + 1 → v.ownBlock ≠ some b:=fun b h e => by have:=(hvb b e).1; omega
 have h4:Below w.heap.size w w4:=by
  refine ⟨hg.os.trans ?_,hg.tape.trans ?_,hg.output.trans ?_,?_,fun b hb' => (low b (by have:=A.bel.size; omega) (nov b (by omega))).trans (A.bel.block b hb')⟩
  ·exact hb.os.trans A.bel.os
  ·exact hb.tape.trans A.bel.tape
  ·exact hb.output.trans A.bel.output
  ·have:=A.bel.size; omega
 have hne:g < W.heap.size → v.ownBlock = some g:=fun h => by
  rcases hp with hp | hp
  ·exact hp
  ·omega
 refine ⟨h4.setCell (by show w.heap.size ≤ w.heap.size + 1 + 1; omega) _,?_,?_,?_,?_,?_,?_⟩
 ·exact (far _ (by omega)).trans ((low _ (by omega) (nov _ (by omega))).trans A.xb)
 ·exact (far _ (by omega)).trans ((low _ (by omega) (nov _ (by omega))).trans A.rb)
 ·exact exo_set ((low _ hMW (nov _ (by omega))).trans A.ob)
 ·have hl:(its ++ [(y,a',c')]).length = its.length + 1:=by simp
  rw [hl,cells4_app]
  exact hown.kept (grown_cell _ _ _) (.inr (by simp [Value.ownBlock]; omega))
 ·rw [List.map_append,A.eq,List.map_append,List.map_cons,List.map_nil,List.map_cons,List.map_nil,hy]
 ·intro it hit
  rcases List.mem_append.1 hit with hit | hit
  ·exact (A.exq it hit).keep (fun b hb' => ⟨⟨hb'.1,by simp only [World.setCell_size]; omega,fun e => by
    simp only [Value.ownBlock,Option.some.injEq] at e
    exact hb'.2.2 (by rw [← e]; exact hne (by omega))⟩,(far _ (by omega)).trans (low b hb'.2.1 hb'.2.2)⟩)
  ·rw [List.mem_singleton.1 hit]
   exact hq.keep (fun b hb' => ⟨⟨by omega,by simp only [World.setCell_size]; omega,fun e => by
    simp only [Value.ownBlock,Option.some.injEq] at e
    rcases hp with hp | hp
    ·have:=(hvb g hp).2; omega
    ·omega⟩,(far _ (by omega)).trans (mid b hb'.1 hb'.2)⟩)
namespace Sy
theorem runs_mapZ {α:Type} {f:α → Nat → Except Int Nat} {g:α → α} (h:∀ a n,f (g a) n = f a n):∀ (l:List α) (n:Nat),runs f (l.map g) n = runs f l n
 | [],_ => rfl
 | a :: l,n => by
  rw [List.map_cons,runs,runs,h a n]
  cases f a n with
  | error e => rfl
  | ok m => exact runs_mapZ h l m
theorem exW_bareZ:∀ (d e:Nat) (_:d ≤ e) (x:Ex) (n:Nat),exW d (exB e x) n = exW d x n
 | 0,_,_,_,_ => rfl
 | _ + 1,0,h,_,_ => absurd h (by omega)
 | d + 1,e + 1,h,x,n => by
  have hh:exHead (exB (e + 1) x) = exHead x:=by
   unfold exHead
   have e1:(exB (e + 1) x).kind = x.kind:=rfl
   have e2:(exB (e + 1) x).kids.length = x.kids.length:=by rw [exB]; simp
   have e3:(exB (e + 1) x).n = if x.kind = 1 ∨ x.kind = 2 then x.n else 0:=rfl
   have e4:(exB (e + 1) x).name = if x.kind = 3 ∨ x.kind = 19 ∨ x.kind = 20 ∨ x.kind = 22 then x.name else ⟨#[]⟩:=rfl
   rw [e1,e2,e3,e4]
   by_cases h1:x.kind = 1 ∨ x.kind = 2
   ·rw [if_pos h1]
    have h2:¬ (x.kind = 3 ∨ x.kind = 19 ∨ x.kind = 20 ∨ x.kind = 22):=by omega
    simp only [h2,false_and,if_false]
   ·rw [if_neg h1]
    have c1:¬ x.kind = 1:=fun h => h1 (.inl h)
    have c2:¬ x.kind = 2:=fun h => h1 (.inr h)
    simp only [c1,c2,false_and,or_self,if_false]
    by_cases h2:x.kind = 3 ∨ x.kind = 19 ∨ x.kind = 20 ∨ x.kind = 22
    ·rw [if_pos h2]
    ·simp only [h2,false_and,if_false]
  rw [exW,exW,hh]
  have e1:(exB (e + 1) x).kind = x.kind:=rfl
  have e5:(exB (e + 1) x).kids = x.kids.map (exB e):=rfl
  rw [e1,e5,runs_mapZ (exW_bareZ d e (by omega))]
theorem bodyOf_mapZ {f:St → Nat → Except Int Nat} {g:St → St} (h:∀ a n,f (g a) n = f a n) (l:List St) (n:Nat):bodyOf f (l.map g) n = bodyOf f l n:=by
 unfold bodyOf
 rw [List.length_map,runs_mapZ h]
theorem stW_bareZ:∀ (d e:Nat) (_:d ≤ e) (s:St) (n:Nat),stW d (stB e s) n = stW d s n
 | 0,_,_,_,_ => rfl
 | _ + 1,0,h,_,_ => absurd h (by omega)
 | d + 1,e + 1,h,s,n => by
  have e1:(stB (e + 1) s).kind = s.kind:=rfl
  have e2:(stB (e + 1) s).name = if s.kind = 1 ∨ s.kind = 2 ∨ s.kind = 7 then s.name else ⟨#[]⟩:=rfl
  have e3:(stB (e + 1) s).x = if s.kind = 6 then ⟨0,0,⟨#[]⟩,[]⟩ else exB e s.x:=rfl
  have e4:(stB (e + 1) s).body = if s.kind = 3 ∨ s.kind = 4 then s.body.map (stB e) else []:=rfl
  have e5:(stB (e + 1) s).els = if s.kind = 3 then s.els.map (stB e) else []:=rfl
  have hde:d ≤ e:=by omega
  have ht:∀ m,stTail (stW d) (stB (e + 1) s) m = stTail (stW d) s m:=by
   intro m
   unfold stTail
   rw [e1,e4,e5]
   by_cases h34:s.kind = 3 ∨ s.kind = 4
   ·rw [if_pos h34,if_pos h34,if_pos h34,bodyOf_mapZ (stW_bareZ d e hde)]
    cases bodyOf (stW d) s.body m with
    | error e => rfl
    | ok m2 =>
     simp only
     by_cases h3:s.kind = 3
     ·rw [if_pos h3,if_pos h3,if_pos h3,bodyOf_mapZ (stW_bareZ d e hde)]
     ·rw [if_neg h3,if_neg h3]
   ·rw [if_neg h34,if_neg h34]
  rw [stW,stW,e1,e2,e3]
  by_cases h6:s.kind = 6
  ·have h1:¬ (s.kind = 1 ∨ s.kind = 2 ∨ s.kind = 7):=by omega
   simp only [if_pos h6,h1,false_and,if_false]
  ·simp only [if_neg h6]
   rw [exW_bareZ d e hde]
   simp only [ht]
   by_cases h1:s.kind = 1 ∨ s.kind = 2 ∨ s.kind = 7
   ·rw [if_pos h1]
   ·simp only [h1,false_and,if_false]
theorem tyW_bareZ (t:Ty):tyW (tyB t) = tyW t:=by
 unfold tyW tyB
 simp only
 by_cases h:t.kind = 3
 ·rw [if_pos h]
 ·simp only [h,false_and,if_false]
theorem pmsW_bareZ:∀ l:List Pm,pmsW (l.map pmB) = pmsW l
 | [] => rfl
 | p :: l => by
  rw [List.map_cons,pmsW,pmsW,pmsW_bareZ l]
  have e1:(pmB p).name = p.name:=rfl
  have e2:(pmB p).ty = tyB p.ty:=rfl
  rw [e1,e2,tyW_bareZ]
theorem dfW_bareZ {D:Nat} (hD:39 ≤ D) (d:Df) (n:Nat):dfW (dfZ D d) n = dfW d n:=by
 have hh:dfHead (dfZ D d) n = dfHead d n:=by
  unfold dfHead dfZ
  simp only
  by_cases h1:d.kind = 1
  ·have a1:¬ d.kind = 2:=by omega
   have a2:¬ d.kind = 3:=by omega
   have a3:¬ d.kind = 4:=by omega
   simp only [a1,a2,a3,or_self,false_and,if_false,tyW_bareZ,if_pos h1]
  ·by_cases h23:d.kind = 2 ∨ d.kind = 3
   ·have a3:¬ d.kind = 4:=by omega
    rw [if_pos h23,List.length_map,pmsW_bareZ]
    simp only [a3,if_false,tyW_bareZ,h1,false_and]
    by_cases h3:d.kind = 3
    ·rw [if_pos h3,tyW_bareZ]
    ·simp only [h3,false_and,if_false]
   ·have a1:¬ d.kind = 2:=by omega
    have a2:¬ d.kind = 3:=by omega
    by_cases h4:d.kind = 4
    ·have a4:¬ d.kind ≠ 4:=by omega
     simp only [a1,a2,h1,a4,or_self,false_and,if_false]
    ·simp only [a1,a2,h1,h4,or_self,false_and,if_false,tyW_bareZ]
 unfold dfW
 rw [hh]
 have e1:(dfZ D d).kind = d.kind:=rfl
 have e2:(dfZ D d).body = if d.kind = 1 then [] else d.body.map (stB D):=rfl
 rw [e1,e2]
 by_cases h1:d.kind = 1
 ·rw [if_pos h1,if_pos h1]
 ·rw [if_neg h1,if_neg h1,if_neg h1]
  unfold bodyW
  rw [bodyOf_mapZ (stW_bareZ 39 D hD)]
theorem defsW_bareZ {D:Nat} (hD:39 ≤ D):∀ (l:List Df) (i n:Nat),defsW (l.map (dfZ D)) i n = defsW l i n
 | [],_,_ => rfl
 | d :: l,i,n => by
  rw [List.map_cons,defsW,defsW,dfW_bareZ hD]
  cases dfW d n with
  | error e => rfl
  | ok m => exact defsW_bareZ hD l (i + 1) m
theorem wrongL_bareZ {D:Nat} (hD:39 ≤ D) (l:List Df):wrongL (l.map (dfZ D)) = wrongL l:=by
 unfold wrongL
 rw [List.length_map,defsW_bareZ hD]
end Sy
namespace Sm
open Sy
/-! What is reckoned,bare. -/
def mapE {α β:Type} (f:α → β):Except Int α → Except Int β
 | .error e => .error e
 | .ok x => .ok (f x)
def Mp {α β:Type} (f:α → β) (r:Except Int α) (r':Except Int β):Prop:=r' = mapE f r
theorem Mp.ok {α β:Type} {f:α → β} (x:α):Mp f (.ok x) (.ok (f x)):=rfl
theorem Mp.err {α β:Type} {f:α → β} (e:Int):Mp f (.error e) (.error e):=rfl
theorem Mp.next {α β γ δ:Type} {h:α → γ} {f:β → δ} {r:Except Int α} {r':Except Int γ} {g:α → Except Int β} {g':γ → Except Int δ} (k:Mp h r r') (n:∀ x,r = .ok x → Mp f (g x) (g' (h x))):Mp f (andThen r g) (andThen r' g'):=by
 cases hr:r with
 | error e => rw [hr] at k; rw [k]; rfl
 | ok x => rw [hr] at k; rw [k]; exact n x hr
theorem Mp.ite {α β:Type} {f:α → β} {p:Prop} [Decidable p] {a b:Except Int α} {a' b':Except Int β} (h:Mp f a a') (k:Mp f b b'):Mp f (if p then a else b) (if p then a' else b'):=by split <;> assumption
theorem Mp.id {α:Type} (r:Except Int α):Mp id r r:=by cases r <;> rfl
theorem tyB_kind (t:Ty):(tyB t).kind = t.kind:=rfl
theorem tyB_gen {t:Ty} (h:t.kind = 3):(tyB t).gen = t.gen:=by unfold tyB; simp [h]
theorem same_bare (a b:Ty):same (tyB a) (tyB b) = same a b:=by
 unfold same
 rw [tyB_kind,tyB_kind]
 by_cases h3:a.kind = 3
 ·by_cases hb:a.kind = b.kind
  ·rw [tyB_gen h3,tyB_gen (hb ▸ h3)]
  ·simp [hb]
 ·simp [h3]
def vB (v:Vars):Vars:=v.map fun p => (p.1,tyB p.2)
theorem look_bare (v:Vars) (s:ByteArray):look (vB v) s = (look v s).map tyB:=by
 induction v with
 | nil => rfl
 | cons p v ih =>
  unfold look vB at ih ⊢
  rw [List.map_cons,List.find?_cons,List.find?_cons]
  by_cases h:p.1 = s
  ·simp [h]
  ·simp only [h,decide_false]; exact ih
theorem known_bare (v:Vars) (s:ByteArray):Mp tyB (known v s) (known (vB v) s):=by
 unfold known
 rw [look_bare]
 cases look v s <;> rfl
end Sm
namespace Sm
open Sy
theorem Mp.sides {α β:Type} {f:α → β} {p:Prop} [Decidable p] {a b:Except Int α} {a' b':Except Int β} (h:p → Mp f a a') (k:¬ p → Mp f b b'):Mp f (if p then a else b) (if p then a' else b'):=by
 by_cases hp:p
 ·rw [if_pos hp,if_pos hp]; exact h hp
 ·rw [if_neg hp,if_neg hp]; exact k hp
theorem Mp.same {α β δ:Type} {f:β → δ} {r r':Except Int α} {g:α → Except Int β} {g':α → Except Int δ} (e:r' = r) (n:∀ x,r = .ok x → Mp f (g x) (g' x)):Mp f (andThen r g) (andThen r' g'):=by
 rw [e]
 cases hr:r with
 | error e => rfl
 | ok x => exact n x hr
theorem next_eq {α β γ:Type} {h:α → γ} {r:Except Int α} {r':Except Int γ} {g:α → Except Int β} {g':γ → Except Int β} (k:Mp h r r') (n:∀ x,r = .ok x → g' (h x) = g x):andThen r' g' = andThen r g:=by
 cases hr:r with
 | error e => rw [hr] at k; rw [k]; rfl
 | ok x => rw [hr] at k; rw [k]; exact n x hr
theorem next_same {α β:Type} {r r':Except Int α} {g g':α → Except Int β} (e:r' = r) (n:∀ x,r = .ok x → g' x = g x):andThen r' g' = andThen r g:=by
 rw [e]
 cases hr:r with
 | error e => rfl
 | ok x => exact n x hr
section
variable {D:Nat} {l:List Df}
theorem num_bare (s:ByteArray):numOf (l.map (Sy.dfZ D)) s = numOf l s:=by
 unfold numOf
 rw [List.length_map]
 have:(fun i:Nat => decide (((l.map (Sy.dfZ D))[i]?).map Df.name = some s)) = (fun i:Nat => decide ((l[i]?).map Df.name = some s)):=by
  funext i
  rw [List.getElem?_map]
  cases l[i]? <;> rfl
 rw [this]
theorem def_bare (i:Nat):defAt (l.map (Sy.dfZ D)) i = Sy.dfZ D (defAt l i):=by
 unfold defAt
 rw [List.getElem?_map]
 cases l[i]? <;> rfl
theorem want_bare (k:Int) (s:ByteArray):want (l.map (Sy.dfZ D)) k s = want l k s:=by
 unfold want
 rw [num_bare]
 cases numOf l s with
 | none => rfl
 | some i =>
  show (if (defAt (l.map (Sy.dfZ D)) i).kind = k then _ else _) = _
  rw [def_bare]
  rfl
theorem want_kind {k:Int} {s:ByteArray} {i:Nat} (h:want l k s = .ok i):(defAt l i).kind = k:=by
 unfold want at h
 cases hn:numOf l s with
 | none => rw [hn] at h; cases h
 | some j =>
  rw [hn] at h
  simp only at h
  split at h
  ·cases h; assumption
  ·cases h
theorem z_ty {d:Df} (h:d.kind ≠ 4):(Sy.dfZ D d).ty = Sy.tyB d.ty:=by unfold Sy.dfZ; simp [h]
theorem z_takes {d:Df} (h:d.kind = 3):(Sy.dfZ D d).takes = Sy.tyB d.takes:=by unfold Sy.dfZ; simp [h]
theorem z_params {d:Df} (h:d.kind = 2 ∨ d.kind = 3):(Sy.dfZ D d).params = d.params.map Sy.pmB:=by unfold Sy.dfZ; simp only [if_pos h]
theorem kid_bare {e:Nat} {x y:Ex} (h:y.kids = x.kids.map (Sy.exB e)) (i:Nat):kid y i = Sy.exB e (kid x i):=by
 unfold kid
 rw [h,List.getElem?_map]
 cases x.kids[i]? with
 | none => cases e <;> rfl
 | some k => rfl
abbrev fT (p:Ty × Tk):Ty × Tk:=(Sy.tyB p.1,p.2)
abbrev fD (D:Nat) (p:Df × Tk):Df × Tk:=(Sy.dfZ D p.1,p.2)
def ExM (e:Nat) (ex ex':Ex → Tk → Except Int (Ty × Tk)):Prop:=∀ x t,Mp fT (ex x t) (ex' (Sy.exB e x) t)
variable {e:Nat} {ex ex':Ex → Tk → Except Int (Ty × Tk)}
theorem must_bare (h:ExM e ex ex') (y:Ty):∀ (ks:List Ex) (t:Tk),must ex' (Sy.tyB y) (ks.map (Sy.exB e)) t = must ex y ks t
 | [],_ => rfl
 | x :: ks,t => next_eq (h x t) fun p _ => by
   show (if same (Sy.tyB p.1) (Sy.tyB y) = true then _ else _) = _
   rw [same_bare]
   by_cases hs:same p.1 y = true
   ·rw [if_pos hs,if_pos hs]; exact must_bare h y ks p.2
   ·rw [if_neg hs,if_neg hs]
theorem args_bare (h:ExM e ex ex'):∀ (ps:List Pm) (ks:List Ex) (t:Tk),args ex' (ps.map Sy.pmB) (ks.map (Sy.exB e)) t = args ex ps ks t
 | [],_,_ => rfl
 | p :: ps,ks,t => by
  rw [List.map_cons,args,args,← List.map_take,← List.map_drop]
  exact next_same (must_bare h p.ty _ t) fun t1 _ => args_bare h ps _ t1
theorem call_bare (h:ExM e ex ex') {k:Int} (hk:k = 2 ∨ k = 3) {x y:Ex} (hn:y.name = x.name) (hy:y.kids = x.kids.map (Sy.exB e)) (t:Tk):Mp (fD D) (call l ex k x t) (call (l.map (Sy.dfZ D)) ex' k y t):=by
 unfold call
 rw [hn,hy]
 refine .same (want_bare _ _) fun n h1 => ?_
 have hkn:=want_kind h1
 rw [def_bare,z_params (by rw [hkn]; exact hk),List.length_map,List.length_map]
 exact .ite (.err _) (.same (args_bare h _ _ _) fun t _ => .ok (defAt l n,t))
theorem call_kind {k:Int} {x:Ex} {t:Tk} {p:Df × Tk} (h:call l ex k x t = .ok p):p.1.kind = k:=by
 unfold call at h
 cases hw:want l k x.name with
 | error e => rw [hw] at h; cases h
 | ok n =>
  rw [hw,andThen_ok] at h
  split at h
  ·cases h
  ·cases ha:args ex (defAt l n).params x.kids ⟨t.sends,t.recvs,t.calls ++ [n]⟩ with
   | error e => rw [ha] at h; cases h
   | ok t1 => rw [ha,andThen_ok] at h; cases h; exact want_kind hw
theorem started_bare (h:ExM e ex ex') (x:Ex) (t:Tk):Mp (fD D) (started l ex x t) (started (l.map (Sy.dfZ D)) ex' (Sy.exB e x) t) :=
 .next (h x t) fun p _ => by
  show Mp _ _ (if (Sy.tyB p.1).kind ≠ 3 then _ else andThen (want _ 3 (Sy.tyB p.1).gen) _)
  rw [tyB_kind]
  refine .sides (fun _ => .err _) fun h3 => ?_
  rw [tyB_gen (by simpa using h3)]
  exact .same (want_bare _ _) fun n _ => by rw [def_bare]; exact .ok (defAt l n,p.2)
theorem started_kind {x:Ex} {t:Tk} {p:Df × Tk} (h:started l ex x t = .ok p):p.1.kind = 3:=by
 unfold started at h
 cases he:ex x t with
 | error e => rw [he] at h; cases h
 | ok q =>
  rw [he,andThen_ok] at h
  split at h
  ·cases h
  ·cases hw:want l 3 q.1.gen with
   | error e => rw [hw] at h; cases h
   | ok n => rw [hw,andThen_ok] at h; cases h; exact want_kind hw
theorem spoken_bare {me:Df} (h:ExM e ex ex') {x y:Ex} (hk:y.kind = x.kind) (hn:(x.kind = 19 ∨ x.kind = 20 ∨ x.kind = 22) → y.name = x.name) (hy:y.kids = x.kids.map (Sy.exB e)) (t:Tk):Mp fT (spoken l me ex x t) (spoken (l.map (Sy.dfZ D)) (Sy.dfZ D me) ex' y t):=by
 unfold spoken
 rw [hk,kid_bare hy,kid_bare hy]
 refine .sides (fun c => .next (call_bare h (.inl rfl) (hn (.inl c)) hy t) fun p hp => ?_) fun _ => .sides (fun c => .next (call_bare h (.inr rfl) (hn (.inr (.inr c))) hy t) fun p hp => ?_) fun _ => .sides (fun c => ?_) fun _ => .sides (fun _ => ?_) fun _ => .next (started_bare h _ t) fun g hg => ?_
 ·show Mp _ _ (.ok ((Sy.dfZ D p.1).ty,p.2))
  rw [z_ty (by rw [call_kind hp]; decide)]
  exact .ok (p.1.ty,p.2)
 ·rw [hn (.inr (.inr c))]
  exact .ok ((⟨3,x.name⟩:Ty),p.2)
 ·rw [hn (.inr (.inl c))]
  refine .same (want_bare _ _) fun n h1 => ?_
  rw [def_bare,z_ty (by rw [want_kind h1]; decide)]
  exact .ok ((defAt l n).ty,_)
 ·show Mp _ _ (andThen (fits (me.kind == 3)) _)
  by_cases h3:me.kind = 3
  ·refine .same rfl fun _ _ => ?_
   rw [z_ty (by rw [h3]; decide),z_takes h3]
   exact .same (must_bare h me.ty [kid x 0] t) fun t1 _ => .ok (me.takes,t1)
  ·have:(me.kind == 3) = false:=by simpa using h3
   rw [this]
   exact .err _
 ·have h3:=started_kind hg
  show Mp _ _ (andThen (must ex' (Sy.dfZ D g.1).takes _ g.2) fun t => .ok ((Sy.dfZ D g.1).ty,t))
  rw [z_takes h3,z_ty (by rw [h3]; decide)]
  exact .same (must_bare h g.1.takes [kid x 1] g.2) fun t1 _ => .ok (g.1.ty,t1)
theorem expr_bare (me:Df) (v:Vars):∀ (d e:Nat),d ≤ e → ExM e (expr l me v d) (expr (l.map (Sy.dfZ D)) (Sy.dfZ D me) (vB v) d)
 | 0,_,_ => fun _ _ => .err _
 | _ + 1,0,h => absurd h (by omega)
 | d + 1,e + 1,hde => fun x t => by
  have h:=expr_bare me v d e (by omega)
  have e1:(Sy.exB (e + 1) x).kind = x.kind:=rfl
  have e2:(Sy.exB (e + 1) x).kids = x.kids.map (Sy.exB e):=rfl
  have e3:(Sy.exB (e + 1) x).name = if x.kind = 3 ∨ x.kind = 19 ∨ x.kind = 20 ∨ x.kind = 22 then x.name else ⟨#[]⟩:=rfl
  rw [expr,expr,e1,kid_bare e2,kid_bare e2]
  refine .sides (fun _ => .ok (num,t)) fun _ => .sides (fun _ => .ok (tru,t)) fun _ => .sides (fun c => ?_) fun _ => .sides (fun _ => ?_) fun _ => .sides (fun _ => ?_) fun _ => .sides (fun _ => ?_) fun _ => .sides (fun _ => ?_) fun _ => .sides (fun _ => ?_) fun _ => ?_
  ·rw [e3,if_pos (.inl c)]
   exact .next (known_bare v x.name) fun y _ => .ok (y,t)
  ·rw [e2]; exact .same (must_bare h num x.kids t) fun t1 _ => .ok (num,t1)
  ·rw [e2]; exact .same (must_bare h num x.kids t) fun t1 _ => .ok (tru,t1)
  ·rw [e2]; exact .same (must_bare h tru x.kids t) fun t1 _ => .ok (tru,t1)
  ·refine .next (h _ t) fun a _ => .next (h _ a.2) fun b _ => ?_
   show Mp _ _ (andThen (plain (Sy.tyB a.1)) fun _ => if same (Sy.tyB a.1) (Sy.tyB b.1) = true then _ else _)
   rw [same_bare]
   exact .same rfl fun _ _ => .ite (.ok (tru,b.2)) (.err _)
  ·exact .next (started_bare h _ t) fun p _ => .ok (tru,p.2)
  ·exact spoken_bare h e1 (fun c => by rw [e3,if_pos (.inr c)]) e2 t
abbrev fV (p:Vars × Tk):Vars × Tk:=(vB p.1,p.2)
def StM (e:Nat) (st st':St → Vars → Tk → Except Int (Vars × Tk)):Prop:=∀ s v t,Mp fV (st s v t) (st' (Sy.stB e s) (vB v) t)
variable {st st':St → Vars → Tk → Except Int (Vars × Tk)}
theorem block_bare (h:StM e st st'):∀ (b:List St) (v:Vars) (t:Tk),Mp fV (block st b v t) (block st' (b.map (Sy.stB e)) (vB v) t)
 | [],v,t => .ok (v,t)
 | s :: b,v,t => .next (h s v t) fun p _ => block_bare h b p.1 p.2
theorem inner_bare (h:StM e st st') (b:List St) (v:Vars) (t:Tk):inner st' (b.map (Sy.stB e)) (vB v) t = inner st b v t:=next_eq (block_bare h b v t) fun _ _ => rfl
theorem stat_bare (me:Df):∀ (d e:Nat),d ≤ e → StM e (stat l me d) (stat (l.map (Sy.dfZ D)) (Sy.dfZ D me) d)
 | 0,_,_ => fun _ _ _ => .err _
 | _ + 1,0,h => absurd h (by omega)
 | d + 1,e + 1,hde => fun s v t => by
  have h:=stat_bare me d e (by omega)
  have hx:=expr_bare (D:=D) (l:=l) me v d e (by omega)
  have e1:(Sy.stB (e + 1) s).kind = s.kind:=rfl
  have e2:(Sy.stB (e + 1) s).name = if s.kind = 1 ∨ s.kind = 2 ∨ s.kind = 7 then s.name else ⟨#[]⟩:=rfl
  have e3:(Sy.stB (e + 1) s).x = if s.kind = 6 then ⟨0,0,⟨#[]⟩,[]⟩ else Sy.exB e s.x:=rfl
  have e4:(Sy.stB (e + 1) s).body = if s.kind = 3 ∨ s.kind = 4 then s.body.map (Sy.stB e) else []:=rfl
  have e5:(Sy.stB (e + 1) s).els = if s.kind = 3 then s.els.map (Sy.stB e) else []:=rfl
  have hm:∀ y t,must (expr (l.map (Sy.dfZ D)) (Sy.dfZ D me) (vB v) d) (Sy.tyB y) [Sy.exB e s.x] t = must (expr l me v d) y [s.x] t:=fun y t => must_bare hx y [s.x] t
  have ht:∀ t,must (expr (l.map (Sy.dfZ D)) (Sy.dfZ D me) (vB v) d) tru [Sy.exB e s.x] t = must (expr l me v d) tru [s.x] t:=hm tru
  rw [stat,stat,e1]
  refine .sides (fun c => ?_) fun _ => .sides (fun c => ?_) fun _ => .sides (fun c => ?_) fun _ => .sides (fun c => ?_) fun _ => .sides (fun c => ?_) fun _ => .sides (fun c => ?_) fun c6 => .sides (fun c => ?_) fun _ => .sides (fun c => ?_) fun _ => ?_
  ·rw [e2,if_pos (.inl c),e3,if_neg (by omega)]
   refine .next (hx s.x t) fun p _ => ?_
   show Mp _ _ (if (look (vB v) s.name).isSome = true then _ else _)
   rw [look_bare,Option.isSome_map]
   refine .ite (.err _) ?_
   have:vB v ++ [(s.name,(fT p).1)] = vB (v ++ [(s.name,p.1)]):=by simp [vB]
   rw [this]
   exact .ok (v ++ [(s.name,p.1)],p.2)
  ·rw [e2,e3,if_pos (.inr (.inl c)),if_neg (by omega)]
   exact .next (known_bare v s.name) fun y _ => .same (hm y t) fun t1 _ => .ok (v,t1)
  ·rw [e3,e4,e5,if_neg (by omega),if_pos (.inl c),if_pos c]
   exact .same (ht t) fun t1 _ => .same (inner_bare h s.body v t1) fun t2 _ => .same (inner_bare h s.els v t2) fun t3 _ => .ok (v,t3)
  ·rw [e3,e4,if_neg (by omega),if_pos (.inr c)]
   exact .same (ht t) fun t1 _ => .same (inner_bare h s.body v t1) fun t2 _ => .ok (v,t2)
  ·rw [e3,if_neg (by omega)]
   show Mp _ _ (andThen (fits (me.kind == 2)) _)
   by_cases h2:me.kind = 2
   ·refine .same rfl fun _ _ => ?_
    rw [z_ty (by rw [h2]; decide)]
    exact .same (hm me.ty t) fun t1 _ => .ok (v,t1)
   ·have:(me.kind == 2) = false:=by simpa using h2
    rw [this]
    exact .err _
  ·exact .same rfl fun _ _ => .ok (v,t)
  ·rw [e2,e3,if_pos (.inr (.inr c)),if_neg c6]
   refine .same (want_bare _ _) fun b hb => ?_
   rw [def_bare,z_ty (by rw [want_kind hb]; decide)]
   exact .same (hm _ _) fun t1 _ => .ok (v,t1)
  ·rw [e3,if_neg c6]
   exact .next (hx s.x t) fun p _ => .same rfl fun _ _ => .ok (v,p.2)
  ·rw [e3,if_neg c6]
   exact .next (hx s.x t) fun p _ => .ok (v,p.2)
end
end Sm
end Go.Proofs.YtpnljpdpobbiiaaGreatDoor
