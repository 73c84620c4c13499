/- Plainly: ONE WRITES,ONE READS: whose the boxes of a right program are. -/
import Derived.Test.YtbioaoangfiijaaGreatDoorM30
namespace Go.Proofs.YtbioaoangfiijaaGreatDoor
open Go.RowKit
namespace Sm
open Sy
def TaskOr (l:List Df) (s:ByteArray):Prop:=s = ⟨#[]⟩ ∨ ∃ (i:Nat) (d:Df),l[i]? = some d ∧ d.kind = 4 ∧ d.name = s
theorem def_at {l:List Df} {i:Nat} (h:i < l.length):l[i]? = some (defAt l i):=by simp [defAt,List.getElem?_eq_getElem h]
theorem only_task {l:List Df} {sp:Nat → Bool} {s:ByteArray} (h:only l sp = .ok s) (hs:∀ i,i < l.length → sp i = true → (defAt l i).kind = 4):TaskOr l s:=by
 unfold only at h
 split at h
 ·cases h; exact .inl rfl
 ·rename_i i hf
  cases h
  have hm:i ∈ (List.range l.length).filter sp:=by rw [hf]; simp
  obtain ⟨h1,h2⟩:=List.mem_filter.1 hm
  have hi:=List.mem_range.1 h1
  exact .inr ⟨i,_,def_at hi,hs i hi h2,rfl⟩
 ·cases h
theorem tasks_kind {l:List Df} {ts:List Tk} {i t:Nat} (h:i ∈ (tasksT l ts t).sends ∨ i ∈ (tasksT l ts t).recvs):(defAt l t).kind = 4:=by
 unfold tasksT at h
 split at h
 ·assumption
 ·simp [Tk.none] at h
def boxesOf (l:List Df):List Df:=l.filter fun d => d.kind == 1
theorem owners_boxes {l:List Df} {ts:List Tk}:∀ (n:Nat) (is:List Nat) (os:List Ow3),is = (List.range l.length).drop n → ownersFrom l ts is = .ok os → os.map (·.1) = (boxesOf (l.drop n)).map (·.name) ∧ ∀ o ∈ os,TaskOr l o.2.1 ∧ TaskOr l o.2.2
 | n,[],os,his,h => by
  rw [ownersFrom] at h
  cases h
  have hn:l.length ≤ n:=by
   have:=congrArg List.length his
   simp at this
   omega
  rw [List.drop_eq_nil_of_le hn]
  exact ⟨rfl,fun o ho => by cases ho⟩
 | n,i :: is,os,his,h => by
  have hlen:=congrArg List.length his
  simp at hlen
  have hn:n < l.length:=by omega
  rw [List.drop_eq_getElem_cons (by simpa using hn)] at his
  simp only [List.getElem_range,List.cons.injEq] at his
  obtain ⟨rfl,his⟩:=his
  have hdl:l.drop i = defAt l i :: l.drop (i + 1):=by
   rw [List.drop_eq_getElem_cons hn]
   simp [defAt,List.getElem?_eq_getElem hn]
  rw [ownersFrom] at h
  split at h
  ·rename_i hk
   cases ho:owner l ts i with
   | error e => rw [ho] at h; cases h
   | ok o =>
    rw [ho] at h
    dsimp only at h
    cases hr:ownersFrom l ts is with
    | error e => rw [hr] at h; cases h
    | ok xs =>
     rw [hr] at h
     cases h
     obtain ⟨h1,h2⟩:=owners_boxes (i + 1) is xs his hr
     unfold owner at ho
     obtain ⟨w,hw,ho⟩:=andThen_yes ho
     obtain ⟨r,hrr,ho⟩:=andThen_yes ho
     cases ho
     refine ⟨?_,fun o ho => ?_⟩
     ·rw [hdl]
      simp [boxesOf,hk] at h1 ⊢
      exact h1
     ·rcases List.mem_cons.1 ho with rfl | ho
      ·exact ⟨only_task hw fun t _ ht => tasks_kind (.inl (by simpa using ht)),only_task hrr fun t _ ht => tasks_kind (.inr (by simpa using ht))⟩
      ·exact h2 o ho
  ·rename_i hk
   obtain ⟨h1,h2⟩:=owners_boxes (i + 1) is os his h
   refine ⟨?_,h2⟩
   rw [hdl]
   have hk':((defAt l i).kind == 1) = false:=by simpa using hk
   simp [boxesOf,hk'] at h1 ⊢
   exact h1
theorem owners_told {l:List Df} {os:List Ow3} (h:owners l = .ok os):os.map (·.1) = (boxesOf l).map (·.name) ∧ ∀ o ∈ os,TaskOr l o.2.1 ∧ TaskOr l o.2.2:=by
 rw [owners_eq] at h
 split at h
 ·cases h
 ·unfold owners2 at h
  split at h
  ·cases h
  ·split at h
   ·cases h
   ·split at h
    ·cases h
    ·have:=owners_boxes 0 _ os (by simp) h
     simpa using this
end Sm
namespace Sm
theorem ows_at:∀ {os:List Ow3} {n:Nat} {o:Ow3},os[n]? = some o → (ows os)[n * 3]? = some (.string o.1) ∧ (ows os)[n * 3 + 1]? = some (.string o.2.1) ∧ (ows os)[n * 3 + 2]? = some (.string o.2.2)
 | [],n,o,h => by simp at h
 | a :: os,0,o,h => by simp at h; subst h; exact ⟨rfl,rfl,rfl⟩
 | a :: os,n + 1,o,h => by
  have ih:=ows_at (os:=os) (n:=n) (o:=o) (by simpa using h)
  have e:ows (a :: os) = .string a.1 :: .string a.2.1 :: .string a.2.2 :: ows os:=rfl
  rw [e,show (n + 1) * 3 = n * 3 + 1 + 1 + 1 by omega,show n * 3 + 1 + 1 + 1 + 1 = (n * 3 + 1) + 1 + 1 + 1 by omega,show n * 3 + 1 + 1 + 1 + 2 = (n * 3 + 2) + 1 + 1 + 1 by omega]
  simp only [List.getElem?_cons_succ]
  exact ih
theorem own_c {w:World} {B e size n:Nat} {va:Option Addr} {vc:Nat} {xs:List Value} (h:w.ownsRow B e size (.slice va n vc) n xs) {k:Nat} {u:Value} (hk:xs[k]? = some u):∃ g,va = some ⟨g,0,none⟩ ∧ g < w.heap.size ∧ w.cell? ⟨g,k,none⟩ = some u:=by
 rcases h.2 with ⟨e1,h0⟩ | ⟨g,cap,cur,e1,_⟩
 ·have hl:=h.1
  rw [h0] at hl
  have hx:xs = []:=List.eq_nil_of_length_eq_zero (by simpa using hl)
  rw [hx] at hk; cases hk
 ·have e2:=e1
  simp at e2
  have:=h.cells (g:=g) (by rw [e1]; rfl) k _ hk
  have hc:w.cell? ⟨g,k,none⟩ = some u:=by rcases k with _ | k <;> simpa [Addr.add] using this
  exact ⟨g,e2.1,World.block_lt_of_cell? w _ hc,hc⟩
end Sm
end Go.Proofs.YtbioaoangfiijaaGreatDoor
