/- The walk of NewTasks. -/
import Derived.Test.YtekjhefmhhcboaaGreatM32
import Derived.Test.YtekjhefmhhcboaaGreatM28
namespace Go.Proofs.YtekjhefmhhcboaaGreat.Vw
open Go.RowKit Vf Vm
theorem ptrs_succ (Q : Nat → Nat) (n : Nat) : ptrs Q (n + 1) = ptrs Q n ++ [.pointer (some ⟨Q n, 0, none⟩)] := by simp [ptrs, List.range_succ]
theorem ptrs_eq {Q Q' : Nat → Nat} {n : Nat} (h : ∀ i, i < n → Q i = Q' i) : ptrs Q n = ptrs Q' n := List.map_congr_left (fun i hi => by rw [h i (by simpa using hi)])
def mifs (Q : Nat → Nat) (n : Nat) : List Value := (List.range n).map fun i => .iface 77 (.pointer (some ⟨Q i, 0, none⟩))
theorem mifs_succ (Q : Nat → Nat) (n : Nat) : mifs Q (n + 1) = mifs Q n ++ [.iface 77 (.pointer (some ⟨Q n, 0, none⟩))] := by simp [mifs, List.range_succ]
theorem mifs_eq {Q Q' : Nat → Nat} {n : Nat} (h : ∀ i, i < n → Q i = Q' i) : mifs Q n = mifs Q' n := List.map_congr_left (fun i hi => by rw [h i (by simpa using hi)])
theorem ty_ne {w : World} {B e size n g e' : Nat} {v : Value} {xs : List Value} {cur : Array Value} {fr : Nat × Nat} (h : w.ownsRow B e size v n xs) (hb : w.heap[g]? = some (.cells cur e' fr)) (hne : e' ≠ e) : v.ownBlock ≠ some g := fun e2 => by
 obtain ⟨cur2, hc⟩ := own_ty h e2
 rw [hb] at hc
 simp at hc
 exact hne hc.2.1
abbrev mdN (c : Cx) (ab : Option Addr) (cb : Nat) : Obj := .cells #[.slice ab c.m.boxes.length cb, .slice c.au c.m.units.length c.cu] 25 (0, 0)
structure NxAt (c : Cx) (ab : Option Addr) (cb : Nat) (w : World) (k : Nat) (vx vb : Value) (Q G : Nat → Nat) (wr : World) : Prop where
 le : k ≤ c.m.boxes.length
 below : Below w.heap.size w wr
 md : wr.heap[w.heap.size]? = some (mdN c ab cb)
 wb : wr.heap[w.heap.size + 1]? = some (wdO (.slice none 0 0) vx 0 (-1))
 ptr : wr.ownsRow w.heap.size 77 1 vx k (ptrs Q k)
 ifc : wr.ownsRow w.heap.size 134 1 vb k (mifs Q k)
 box : ∀ (i : Nat) b, i < k → c.m.boxes[i]? = some b → Mb.BX wr (Q i) (G i) [] 0 b.cap.toNat
 low : ∀ i, i < k → w.heap.size + 1 < G i ∧ G i < Q i ∧ Q i < wr.heap.size
 inj : ∀ i j, i < j → j < k → Q i < G j
section
variable {c : Cx} {ab : Option Addr} {cb : Nat} {w : World} {k : Nat} {vx vb : Value} {Q G : Nat → Nat} {wr : World}
theorem NxAt.on (h : NxAt c ab cb w k vx vb Q G wr) {w2 : World} (hb : Below wr.heap.size wr w2) : NxAt c ab cb w k vx vb Q G w2 :=
 ⟨h.le, h.below.trans (hb.mono h.below.size), (hb.block _ (lt_of_block h.md)).trans h.md, (hb.block _ (lt_of_block h.wb)).trans h.wb, own_keep h.ptr (fun b hx => hb.block b (h.ptr.lt b hx).2), own_keep h.ifc (fun b hx => hb.block b (h.ifc.lt b hx).2), fun i b hi hx => BX_keep (h.box i b hi hx) (hb.block _ (h.low i hi).2.2) (hb.block _ (by have := h.low i hi; omega)), fun i hi => by have := h.low i hi; have := hb.size; omega, h.inj⟩
theorem NxAt.put1 (h : NxAt c ab cb w k vx vb Q G wr) {w2 : World} (hb2 : Below wr.heap.size wr w2) {w3 : World} {ob : Obj} (g3 : (w2.alloc ob).grownBy w3 vx.ownBlock) :
  w3.heap[w.heap.size + 1]? = some (wdO (.slice none 0 0) vx 0 (-1)) ∧ Below w.heap.size w w3 ∧ (∀ (b : Nat) (cur : Array Value) (e : Nat) (fr : Nat × Nat), w2.heap[b]? = some (.cells cur e fr) → e ≠ 77 → w3.heap[b]? = w2.heap[b]?) := by
 have h2 := h.on hb2
 have st : ∀ (b : Nat) (cur : Array Value) (e : Nat) (fr : Nat × Nat), w2.heap[b]? = some (.cells cur e fr) → e ≠ 77 → w3.heap[b]? = w2.heap[b]? := fun b cur e fr hx he => by
  have hlt := lt_of_block hx
  exact (g3.block b (by simp; omega) (fun e2 => ty_ne h2.ptr hx he e2.symm)).trans (Below.heap_alloc _ _ _ hlt)
 exact ⟨(st _ _ _ _ h2.wb (by decide)).trans h2.wb, (h2.below.alloc h2.below.size _).grown g3 (by have := h2.below.size; simp; omega) (fun b hb => (h2.ptr.lt b hb).1), st⟩
theorem NxAt.more (h : NxAt c ab cb w k vx vb Q G wr) {bx : Bx} (hx : c.m.boxes[k]? = some bx) {w2 : World} (hb2 : Below wr.heap.size wr w2) {S g : Nat} (hX : Mb.BX w2 S g [] 0 bx.cap.toNat) (hg : wr.heap.size ≤ g ∧ g < S)
  {w3 w5 : World} {v' vb' : Value} {ob3 ob5 : Obj} (h3 : w3.ownsRow w.heap.size 77 1 v' (k + 1) (ptrs Q k ++ [.pointer (some ⟨S, 0, none⟩)])) (g3 : (w2.alloc ob3).grownBy w3 vx.ownBlock)
  (h5 : w5.ownsRow w.heap.size 134 1 vb' (k + 1) (mifs Q k ++ [.iface 77 (.pointer (some ⟨S, 0, none⟩))])) (g5 : ((w3.setCell ⟨w.heap.size + 1, 1, none⟩ v').alloc ob5).grownBy w5 vb.ownBlock) :
  NxAt c ab cb w (k + 1) v' vb' (fun i => if i = k then S else Q i) (fun i => if i = k then g else G i) w5 := by
 obtain ⟨hW3, hB3, st3⟩ := h.put1 hb2 g3
 have h2 := h.on hb2
 have hz2 := hb2.size
 have hz3 := g3.size
 have hz5 := g5.size
 simp at hz3 hz5
 have hwz := h.below.size
 have hsz : (w3.setCell ⟨w.heap.size + 1, 1, none⟩ v').heap.size = w3.heap.size := by simp
 have hset : ∀ b, b ≠ w.heap.size + 1 → (w3.setCell ⟨w.heap.size + 1, 1, none⟩ v').heap[b]? = w3.heap[b]? := fun b hb => Below.heap_setCell _ ⟨w.heap.size + 1, 1, none⟩ _ _ hb
 have hWs : (w3.setCell ⟨w.heap.size + 1, 1, none⟩ v').heap[w.heap.size + 1]? = some (wdO (.slice none 0 0) v' 0 (-1)) := by
  simp only [World.setCell, Array.getElem?_modify, if_true, hW3, Option.map_some]
  rfl
 have hI3 : w3.ownsRow w.heap.size 134 1 vb k (mifs Q k) := own_keep h2.ifc (fun b hb => by
  obtain ⟨cur, hc⟩ := own_ty h2.ifc hb
  exact st3 b _ _ _ hc (by decide))
 have hIs : (w3.setCell ⟨w.heap.size + 1, 1, none⟩ v').ownsRow w.heap.size 134 1 vb k (mifs Q k) := own_keep hI3 (fun b hb => hset b (fun e => by
  obtain ⟨cur, hc⟩ := own_ty hI3 hb
  rw [e, hW3] at hc
  simp at hc))
 have st5 : ∀ (b : Nat) (cur : Array Value) (e : Nat) (fr : Nat × Nat), (w3.setCell ⟨w.heap.size + 1, 1, none⟩ v').heap[b]? = some (.cells cur e fr) → e ≠ 134 → w5.heap[b]? = (w3.setCell ⟨w.heap.size + 1, 1, none⟩ v').heap[b]? := fun b cur e fr hx he => by
  have hlt := lt_of_block hx
  exact (g5.block b (by simp at hlt ⊢; omega) (fun e2 => ty_ne hIs hx he e2.symm)).trans (Below.heap_alloc _ _ _ hlt)
 have far : ∀ (b : Nat) (cur : Array Value) (e : Nat) (fr : Nat × Nat), w2.heap[b]? = some (.cells cur e fr) → e ≠ 77 → e ≠ 134 → b ≠ w.heap.size + 1 → w5.heap[b]? = w2.heap[b]? := fun b cur e fr hx h1 h2 h3 => by
  have e3 := st3 b cur e fr hx h1
  have es := (hset b h3).trans e3
  exact (st5 b cur e fr (es.trans hx) h2).trans es
 have farB : ∀ {S g : Nat} {ws : List Int} {f n : Nat}, Mb.BX w2 S g ws f n → S ≠ w.heap.size + 1 → g ≠ w.heap.size + 1 → Mb.BX w5 S g ws f n := fun hq h1 h2 => by
  obtain ⟨cs, hc, _⟩ := hq.row
  exact BX_keep hq (far _ _ _ _ hq.blk (by decide) (by decide) h1) (far _ _ _ _ hc (by decide) (by decide) h2)
 have hQ : ∀ i, i < k → (if i = k then S else Q i) = Q i := fun i hi => if_neg (by omega)
 have hSz := lt_of_block hX.blk
 have hWz := lt_of_block h.wb
 refine ⟨(List.getElem?_eq_some_iff.1 hx).1, ?_, ?_, (st5 _ _ _ _ hWs (by decide)).trans hWs, ?_, ?_, fun i b hi hb => ?_, fun i hi => ?_, fun i j hij hj => ?_⟩
 ·exact ((hB3.setCell (p := ⟨w.heap.size + 1, 1, none⟩) (by simp) _).alloc (by simp; omega) _).grown g5 (by simp; omega) (fun b hb => (h.ifc.lt b hb).1)
 ·exact (far _ _ _ _ h2.md (by decide) (by decide) (by omega)).trans h2.md
 ·rw [ptrs_succ, ptrs_eq hQ, if_pos rfl]
  have hs : (w3.setCell ⟨w.heap.size + 1, 1, none⟩ v').ownsRow w.heap.size 77 1 v' (k + 1) (ptrs Q k ++ [.pointer (some ⟨S, 0, none⟩)]) := own_keep h3 (fun b hb => hset b (fun e => by
   obtain ⟨cur, hc⟩ := own_ty h3 hb
   rw [e, hW3] at hc
   simp at hc))
  exact own_keep hs (fun b hb => by
   obtain ⟨cur, hc⟩ := own_ty hs hb
   exact st5 b _ _ _ hc (by decide))
 ·rw [mifs_succ, mifs_eq hQ, if_pos rfl]
  exact h5
 ·by_cases e : i = k
  ·subst e
   rw [hx] at hb
   cases hb
   simp only [if_true]
   exact farB hX (by omega) (by omega)
  ·simp only [if_neg e]
   have := h.low i (by omega)
   exact farB (h2.box i b (by omega) hb) (by omega) (by omega)
 ·by_cases e : i = k
  ·simp only [if_pos e]; omega
  ·simp only [if_neg e]
   have := h.low i (by omega)
   omega
 ·have e : ¬ i = k := by omega
  simp only [if_neg e]
  by_cases e2 : j = k
  ·simp only [if_pos e2]
   have := h.low i (by omega)
   omega
  ·simp only [if_neg e2]
   exact h.inj i j hij (by omega)
end
def firstW (m : Md) : Wd := ⟨(tasksTo m.units m.units.length).map fun (n : Nat) => newTk (unit m n) n, m.boxes.map fun b => ⟨b.cap.toNat, []⟩, 0, -1, []⟩
theorem box_caps {m : Md} (h : verify m = (0, 0, 0)) {i : Nat} {b : Bx} (hb : m.boxes[i]? = some b) : 1 ≤ b.cap ∧ b.cap ≤ 20 := by
 have h1 := right_iff.1 h 1 (by omega)
 have := first_all _ _ _ (show (firstE boxE m.boxes 0).1 = 0 from h1) b (List.mem_of_getElem? hb)
 unfold boxE at this
 split at this
 ·cases this
 ·split at this
  ·cases this
  ·omega
end Go.Proofs.YtekjhefmhhcboaaGreat.Vw
