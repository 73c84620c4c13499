/- The map of how often units are met; whoever is told. -/
import Derived.Test.YtekjhefmhhcboaaGreatM22
import Derived.Test.YtekjhefmhhcboaaGreatM23
import Derived.Deep.DeepCutAuto
namespace Go.Proofs.YtekjhefmhhcboaaGreat
open Go.RowKit
theorem grownT {a b c : World} {T N : Nat} (h : a.grownBy b (some T)) (k : b.grownBy c (some N)) (hN : a.heap.size ≤ N ∨ N = T) : a.grownBy c (some T) := h.andThen k (fun j e => by cases e; rcases hN with h | h; exact .inl h; exact .inr (by rw [h]))
theorem grownT0 {a b c : World} {T : Nat} (h : a.grownBy b (some T)) (k : b.grownBy c none) : a.grownBy c (some T) := h.andThen k (fun j e => by cases e)
theorem LkIn.keep {w w' : World} {M : Nat} {l : LL} (h : LkIn w M l) (hk : w'.heap[M]? = w.heap[M]?) : LkIn w' M l := hk.trans h
theorem LkIn.alloc {w : World} {M : Nat} {l : LL} (h : LkIn w M l) (o : Obj) : LkIn (w.alloc o) M l := h.keep (Below.heap_alloc _ _ _ (lt_of_block h))
theorem LkIn.lt {w : World} {M : Nat} {l : LL} (h : LkIn w M l) : M < w.heap.size := lt_of_block h
theorem QR.at {w : World} {B i x : Nat} {v : Value} {ws : List Nat} (h : QR w B v ws) (hx : ws[i]? = some x) : ∃ g off cap, v = .slice (some ⟨g, off, none⟩) ws.length cap ∧ g < w.heap.size ∧ w.cell? ⟨g, off + i, none⟩ = some (.int .i64 (x : Int)) := by
 rcases h with ⟨_, rfl⟩ | ⟨g, off, cap, cs, rfl, _, hh, h1, h2, h3⟩
 ·simp at hx
 ·exact ⟨g, off, cap, rfl, lt_of_block hh, by simp [World.cell?, hh, h3 i x hx]⟩
def MtIn (w : World) (M : Nat) (f : Int → Int) : Prop :=
 ∃ es cl, w.heap[M]? = some (.map es cl) ∧ Keyed' es.toList ∧ ∀ k : Nat, (f k = 0 ∧ fnd es.toList k 0 = some none) ∨ ∃ i, fnd es.toList k 0 = some (some (i, .int .i64 (f k)))
theorem MtIn.lt {w : World} {M : Nat} {f : Int → Int} (h : MtIn w M f) : M < w.heap.size := by
 obtain ⟨es, cl, h1, _⟩ := h
 exact lt_of_block h1
theorem MtIn.keep {w w' : World} {M : Nat} {f : Int → Int} (h : MtIn w M f) (hM : w'.heap[M]? = w.heap[M]?) : MtIn w' M f := by
 obtain ⟨es, cl, h1, h2⟩ := h
 exact ⟨es, cl, hM.trans h1, h2⟩
theorem MtIn.new (w : World) : MtIn (w.alloc (.map #[] 0)) w.heap.size (fun _ => 0) := ⟨#[], 0, heap_alloc_new w _, fun _ h => (by cases h), fun _ => .inl ⟨rfl, rfl⟩⟩
theorem MtIn.obj {w : World} {M : Nat} {f : Int → Int} (h : MtIn w M f) : ∃ o, w.heap[M]? = some o ∧ ∀ cs fr, o ≠ .cells cs 3 fr := by
 obtain ⟨es, cl, h1, h2⟩ := h
 exact ⟨_, h1, fun _ _ e => by cases e⟩
abbrev maO (m : Vf.Md) (ab au : Option Addr) (cb cu : Nat) : Obj := .cells #[.slice ab m.boxes.length cb, .slice au m.units.length cu] 25 (0, 0)
structure Teller (g : FuncId) (caps : Array Value) (N M : Nat) (I : List Lk → World → Prop) : Prop where
 keep : ∀ ts w w', I ts w → (∀ k, k < N → w'.heap[k]? = w.heap[k]?) → I ts w'
 call : ∀ (ts : List Lk) (op a : Int) (w : World), I ts w → ts.length ≤ 130000 → Calls Tryz.prog g (#[.int .i64 op, .int .i64 a] ++ caps) w fun e w' => e = .returned (.tuple #[]) ∧ I (ts ++ [(op, a)]) w' ∧ w.grownBy w' (some M)
structure ComAt (m : Vf.Md) (ab au : Option Addr) (cb cu n M : Nat) (w : World) (I : List Lk → World → Prop) (i j : Nat) (v : Value) (R : List Nat) (ts : List Lk) (f : Int → Int) (W : World) : Prop where
 wk : Vf.Wkr m n i j R ts f
 row : QR W w.heap.size v R
 met : MtIn W (w.heap.size + 1 + 1) f
 tell : I ts W
 md : W.heap[w.heap.size]? = some (maO m ab au cb cu)
 grown : w.grownBy W (some M)
theorem ComAt.step {m : Vf.Md} {ab au : Option Addr} {cb cu n M i j i' j' : Nat} {w W W2 W3 : World} {I : List Lk → World → Prop} {v : Value} {R : List Nat} {ts ts' : List Lk} {f f' : Int → Int} {t : Option Nat} (h : ComAt m ab au cb cu n M w I i j v R ts f W) (h2 : W.grownBy W2 none) (h3 : W2.grownBy W3 t) (ht : t = some M ∨ t = some (w.heap.size + 1 + 1)) (hM : M < w.heap.size)
  (hw : Vf.Wkr m n i' j' R ts' f') (hm : MtIn W3 (w.heap.size + 1 + 1) f') (hI : I ts' W3) : ComAt m ab au cb cu n M w I i' j' v R ts' f' W3 := by
 have hz := h2.size
 have hg2 := grownT0 h.grown h2
 have hgz := hg2.size
 obtain ⟨o, ho, hno⟩ := h.met.obj
 have key : ∀ k, w.heap.size ≤ k → k < W.heap.size → k ≠ w.heap.size + 1 + 1 → W3.heap[k]? = W.heap[k]? := fun k hk hk2 hk3 => (h3.block k (by omega) (by rcases ht with rfl | rfl <;> simp <;> omega)).trans (h2.block k hk2 (by simp))
 refine ⟨hw, h.row.keep fun k hk => key k (h.row.lt k hk).1 (h.row.lt k hk).2 (fun e => h.row.ty ho hno (e ▸ hk)), hm, hI, (key _ (Nat.le_refl _) (lt_of_block h.md) (by omega)).trans h.md, ?_⟩
 rcases ht with rfl | rfl
 ·exact grownT hg2 h3 (.inr rfl)
 ·exact grownT hg2 h3 (.inl (by omega))
theorem ComAt.more {m : Vf.Md} {ab au : Option Addr} {cb cu n M i j i' j' : Nat} {w W W3 W4 : World} {I : List Lk → World → Prop} {g : FuncId} {caps : Array Value} {v v' : Value} {R R' : List Nat} {ts : List Lk} {f f' : Int → Int} (h : ComAt m ab au cb cu n M w I i j v R ts f W) (hT : Teller g caps w.heap.size M I) (h3 : W.grownBy W3 (some (w.heap.size + 1 + 1))) (h4 : W3.grownBy W4 v.ownBlock) (hq3 : QR W3 w.heap.size v R)
  (hw : Vf.Wkr m n i' j' R' ts f') (hm : MtIn W3 (w.heap.size + 1 + 1) f') (hq : QR W4 w.heap.size v' R') : ComAt m ab au cb cu n M w I i' j' v' R' ts f' W4 := by
 have hz := h3.size
 have hgz := h.grown.size
 obtain ⟨o, ho, hno⟩ := hm.obj
 have hb3 : W3.heap[w.heap.size]? = some (maO m ab au cb cu) := (h3.block _ (lt_of_block h.md) (by simp; omega)).trans h.md
 have hn1 := hq3.ty ho hno
 have hn2 := hq3.ty hb3 (fun cs fr e => by cases e)
 refine ⟨hw, hq, hm.keep (h4.block _ hm.lt (fun e => hn1 e.symm)), hT.keep _ _ _ h.tell (fun k hk => (h4.block k (by omega) (fun e => ?_)).trans (h3.block k (by omega) (by simp; omega))), (h4.block _ (lt_of_block hb3) (fun e => hn2 e.symm)).trans hb3, ?_⟩
 ·have := (hq3.lt k e.symm).1
  omega
 ·exact (grownT h.grown h3 (.inl (by omega))).andThen h4 (fun k e => .inl (hq3.lt k e).1)
theorem low_grown0 {B : Nat} {w w' : World} (h : w.grownBy w' none) (hB : B ≤ w.heap.size) : Low B w w' := fun k hk => h.block k (by omega) (by simp)
theorem kc_grown0 {w w' : World} (h : w.grownBy w' none) : KC w w' := kc_grown h (fun _ _ _ e => by cases e)
theorem WF.quiet {c : FC} {B F : Nat} {w w' : World} {k : Vf.Kn} {n : Int} {s : Vf.S} (h : WF c B F w k n s) (hg : w.grownBy w' none) : WF c B F w' k n s := by
 obtain ⟨top, rv, hF, hq⟩ := h.fl
 have hB : B ≤ w.heap.size := by have := h.env.base; have := h.env.lt; omega
 exact ⟨⟨h.env.md.low (low_grown0 hg hB), h.env.un.low (low_grown0 hg hB), h.env.base, by have := hg.size; have := h.env.lt; omega⟩, h.mB, ⟨top, rv, ⟨(hg.block F h.env.lt (by simp)).trans hF.blk, hF.sk.keep (kc_grown0 hg)⟩, hq.keep fun j hj => hg.block j (hq.lt j hj).2 (by simp)⟩, h.come.keep (hg.block _ h.come.lt (by simp)) (kc_grown0 hg)⟩
theorem WF.set {c : FC} {B F N : Nat} {w : World} {k : Vf.Kn} {n : Int} {s : Vf.S} {cs : Array Value} {t : TypeId} {fr : Nat × Nat} (h : WF c B F w k n s) (hN : w.heap[N]? = some (.cells cs t fr)) (h1 : t ≠ 179) (h2 : t ≠ 3) (h3 : t ≠ 119) (hB : B ≤ N) (o : Nat) (v : Value) : WF c B F (w.setCell ⟨N, o, none⟩ v) k n s := by
 obtain ⟨top, rv, hF, hq⟩ := h.fl
 have far : ∀ j, j ≠ N → (w.setCell ⟨N, o, none⟩ v).heap[j]? = w.heap[j]? := fun j hj => Below.heap_setCell _ ⟨N, o, none⟩ _ _ hj
 have kc : KC w (w.setCell ⟨N, o, none⟩ v) := fun b cs' hb => (far b (fun e => by subst e; rw [hN] at hb; cases hb; exact h1 rfl)).trans hb
 have hNF : F ≠ N := fun e => by subst e; rw [hF.blk] at hN; cases hN; exact h3 rfl
 have hNM : c.M ≠ N := fun e => by
  obtain ⟨es, cl, hm, _⟩ := h.come
  subst e
  rw [hm] at hN
  cases hN
 have low : Low B w (w.setCell ⟨N, o, none⟩ v) := fun j hj => far j (by omega)
 refine ⟨⟨h.env.md.low low, h.env.un.low low, h.env.base, by have := h.env.lt; simp [World.setCell]; omega⟩, h.mB, ⟨top, rv, ⟨(far F hNF).trans hF.blk, hF.sk.keep kc⟩, hq.keep fun j hj => far j (fun e => ?_)⟩, h.come.keep (far _ hNM) kc⟩
 subst e
 exact hq.ty hN (fun cs fr e => by cases e; exact h2 rfl) hj
structure GEnd (c : FC) (B F : Nat) (k : Vf.Kn) (n : Int) (r : Except Int Vf.S) (w : World) (e : Ending) (w' : World) : Prop where
 below : Below B w w'
 no : ∀ er, r = .error er → e = .panicked [fltE er n]
 yes : ∀ s, r = .ok s → e = .returned (.tuple #[]) ∧ WF c B F w' k n s
theorem GEnd.good {c : FC} {B F : Nat} {k : Vf.Kn} {n : Int} {r : Except Int Vf.S} {w w' : World} {s : Vf.S} (hb : Below B w w') (hr : r = .ok s) (hF : WF c B F w' k n s) : GEnd c B F k n r w (.returned (.tuple #[])) w' :=
 ⟨hb, fun er' e => (by rw [hr] at e; cases e), fun s e => (by rw [hr] at e; cases e; exact ⟨rfl, hF⟩)⟩
end Go.Proofs.YtekjhefmhhcboaaGreat
