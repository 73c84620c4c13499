/- The walk of newWorld. -/
import Derived.Test.YtekjhefmhhcboaaGreatM33
namespace Go.Proofs.YtekjhefmhhcboaaGreat.Vw
open Go.RowKit Vf Vm
abbrev mdB (m : Md) (ab au : Option Addr) (cb cu : Nat) : Obj := .cells #[.slice ab m.boxes.length cb, .slice au m.units.length cu] 25 (0, 0)
theorem md_cells {w : World} {b : Nat} {m : Md} {ab au : Option Addr} {cb cu : Nat} (h : w.heap[b]? = some (mdB m ab au cb cu)) : w.cell? ⟨b, 0, none⟩ = some (.slice ab m.boxes.length cb) ∧ w.cell? ⟨b, 1, none⟩ = some (.slice au m.units.length cu) := by simp [World.cell?, h]
abbrev woZ : Obj := woO (.slice none 0 0) (.slice none 0 0) 0
structure Sr (w : World) (m : Md) (ab au : Option Addr) (cb cu : Nat) (wr : World) : Prop where
 below : Below w.heap.size w wr
 md : wr.heap[w.heap.size]? = some (mdB m ab au cb cu)
 zero : wr.heap[w.heap.size + 1]? = some woZ
section
variable {w : World} {m : Md} {ab au : Option Addr} {cb cu : Nat} {wr wr' : World}
theorem Sr.on (h : Sr w m ab au cb cu wr) (hb : Below wr.heap.size wr wr') : Sr w m ab au cb cu wr' :=
 ⟨h.below.trans (hb.mono h.below.size), (hb.block _ (lt_of_block h.md)).trans h.md, (hb.block _ (lt_of_block h.zero)).trans h.zero⟩
theorem Sr.first (w : World) (m : Md) (ab au : Option Addr) (cb cu : Nat) : Sr w m ab au cb cu ((w.alloc (mdB m ab au cb cu)).alloc woZ) := by
 have e : (w.alloc (mdB m ab au cb cu)).heap.size = w.heap.size + 1 := by simp
 refine ⟨((Below.refl _ w).alloc (Nat.le_refl _) _).alloc (by simp) _, (Below.heap_alloc _ _ _ (by simp)).trans (heap_alloc_new w _), ?_⟩
 rw [← e]
 exact heap_alloc_new _ _
end
theorem EnIn.base {m : Md} {W : Wd} {C C' : Nat} {w : World} {vE vB : Value} {k1 k2 : Nat} {ov bv : Nat → Value} (h : EnIn m W C w vE vB k1 k2 ov bv) (hc : C' ≤ C) : EnIn m W C' w vE vB k1 k2 ov bv :=
 ⟨own_base h.ends hc, fun i hi => own_base (h.outs i hi) hc, own_base h.bxs hc, fun i q hi hq => own_base (h.words i q hi hq) hc⟩
def wrongE (m : Md) (n : Nat) : Int := if (verify m).1 ≠ 0 then (verify m).1 else if 400 < n then 5 else 0
theorem verify_zero {m : Md} (h0 : (verify m).1 = 0) : verify m = (0, 0, 0) := by
 have e : ∀ n k, (from' m n k).1 = 0 → from' m n k = (0, 0, 0) := by
  intro n
  induction n with
  | zero => intro k _; rfl
  | succ n ih =>
   intro k hk
   unfold from' at hk ⊢
   split
   ·rename_i e; rw [if_pos e] at hk; exact ih _ hk
   ·rename_i e; rw [if_neg e] at hk; exact absurd hk e
 exact e 6 0 h0
theorem wrongE_zero {m : Md} {n : Nat} (h : wrongE m n = 0) : verify m = (0, 0, 0) ∧ n ≤ 400 := by
 unfold wrongE at h
 split at h
 ·rename_i h0; exact absurd h h0
 ·rename_i h0
  split at h
  ·cases h
  ·exact ⟨verify_zero (by simpa using h0), by omega⟩
theorem PkIn.low {B : Nat} {w w' : World} {ps : List Pk} {a : Option Addr} (h : PkIn B w ps a) (hk : ∀ b, b < B → w'.heap[b]? = w.heap[b]?) : PkIn B w' ps a := fun i p hp => by
 obtain ⟨b, off, e, hb, h1, h2⟩ := h i p hp
 exact ⟨b, off, e, hb, (cell_eq (hk b hb) _).trans h1, (cell_eq (hk b hb) _).trans h2⟩
abbrev runW (m : Md) (ps : List Pk) : Wd := followW m (firstW m) ps
abbrev runD (m : Md) (ps : List Pk) : List Dd := followD m (firstW m) ps
end Go.Proofs.YtekjhefmhhcboaaGreat.Vw
