/- The walk of words. -/
import Derived.Test.YtekjhefmhhcboaaGreatM17
namespace Go.Proofs.YtekjhefmhhcboaaGreat.Mb
open Go.RowKit
theorem BX.lt {w : World} {S g : Nat} {ws : List Int} {f n : Nat} (h : BX w S g ws f n) : S < w.heap.size ∧ g < w.heap.size := by
 obtain ⟨cs, hc, _⟩ := h.row
 exact ⟨lt_of_block h.blk, lt_of_block hc⟩
theorem own_ty {w : World} {B e size n k : Nat} {v : Value} {xs : List Value} {cs : Array Value} {t : TypeId} {fr : Nat × Nat} (h : w.ownsRow B e size v n xs) (hk : w.heap[k]? = some (.cells cs t fr)) (ht : t ≠ e) : v.ownBlock ≠ some k := by
 rcases h.2 with ⟨rfl, _⟩ | ⟨g', cap, cur, rfl, _, hh, _⟩
 ·simp [Value.ownBlock]
 ·intro e1
  simp only [Value.ownBlock, Option.some.injEq] at e1
  subst e1
  rw [hh] at hk
  simp at hk
  exact ht hk.2.1.symm
theorem own_base {w : World} {B C e size n : Nat} {v : Value} {xs : List Value} (h : w.ownsRow C e size v n xs) (hB : B ≤ C) : w.ownsRow B e size v n xs := by
 refine ⟨h.1, ?_⟩
 rcases h.2 with h2 | ⟨g, cap, cur, hv, hg, r⟩
 ·exact .inl h2
 ·exact .inr ⟨g, cap, cur, hv, Nat.le_trans hB hg, r⟩
theorem own_keep {w w' : World} {B e size n : Nat} {v : Value} {xs : List Value} (h : w.ownsRow B e size v n xs) (hk : ∀ k, v.ownBlock = some k → w'.heap[k]? = w.heap[k]?) : w'.ownsRow B e size v n xs := by
 refine ⟨h.1, ?_⟩
 rcases h.2 with h2 | ⟨g', cap, cur, rfl, hB, hh, hr⟩
 ·exact .inl h2
 ·exact .inr ⟨g', cap, cur, rfl, hB, (hk g' rfl).trans hh, hr⟩
theorem BX.on {w w' : World} {S g : Nat} {ws : List Int} {f n : Nat} (h : BX w S g ws f n) (hb : Below w.heap.size w w') : BX w' S g ws f n := by
 obtain ⟨hS, hg⟩ := h.lt
 exact ⟨(hb.block S hS).trans h.blk, RK.far (hb.block g hg) h.row, h.few, h.at', h.most⟩
theorem ints_take {ws : List Int} {k : Nat} {x : Int} (h : ws[k]? = some x) : ints (ws.take (k + 1)) = ints (ws.take k) ++ [.int .i64 x] := by
 obtain ⟨hk, rfl⟩ := List.getElem?_eq_some_iff.1 h
 unfold ints
 rw [List.take_succ_eq_append_getElem hk, List.map_append]
 rfl
structure WdAt (w : World) (ws : List Int) (k : Nat) (v : Value) (W : World) : Prop where
 le : k ≤ ws.length
 own : W.ownsRow w.heap.size 2 1 v k (ints (ws.take k))
 below : Below w.heap.size w W
theorem WdAt.next {w : World} {ws : List Int} {k : Nat} {v v' : Value} {W w3 W2 : World} {x : Int} (h : WdAt w ws k v W) (hx : ws[k]? = some x) (hW : Below W.heap.size W W2) (hown : w3.ownsRow w.heap.size 2 1 v' (k + 1) (ints (ws.take k) ++ [.int .i64 x])) (hg : W2.grownBy w3 v.ownBlock) : WdAt w ws (k + 1) v' w3 := by
 refine ⟨(List.getElem?_eq_some_iff.1 hx).1, by rw [ints_take hx]; exact hown, ?_⟩
 have h1 := h.below.size
 have h2 := hW.size
 exact (h.below.trans (hW.mono h1)).grown hg (by omega) (fun j hj => (h.own.lt j hj).1)
end Go.Proofs.YtekjhefmhhcboaaGreat.Mb
namespace Go.Proofs.YtekjhefmhhcboaaGreat.Vw
open Go.RowKit Vf Vm
structure Bq where
 cap : Nat
 ws : List Int
def mbX : Bxs (List Bq) where
 full := fun x n => match x[n]? with | some q => decide (q.ws.length = q.cap) | none => false
 may := fun x n => ∀ q, x[n]? = some q → q.ws.length < q.cap
 empty := fun x n => match x[n]? with | some q => decide (q.ws.length = 0) | none => true
 put := fun x n v => match x[n]? with | some q => x.set n { q with ws := q.ws ++ [v] } | none => x
 head := fun x n => match x[n]? with | some q => (q.ws[0]?).getD 0 | none => 0
 take := fun x n => match x[n]? with | some q => x.set n { q with ws := q.ws.tail } | none => x
structure Ear where
 En : Lab → World → List Ev → Prop
 keep : ∀ {L L' : Lab} {w w' : World} {l : List Ev}, En L w l → Ext L L' w → w.heap.size ≤ w'.heap.size → (∀ b, b < w.heap.size → (L b).cls = 3 → w'.heap[b]? = w.heap[b]?) → En L' w' l
structure MBAt (L : Lab) (w : World) (S n : Nat) (q : Bq) (g f : Nat) : Prop where
 box : Mb.BX w S g q.ws f q.cap
 lS : L S = ⟨2, n, 0, 0⟩
 lg : L g = ⟨2, n, 0, 1⟩
theorem BX_keep {w w' : World} {S g : Nat} {ws : List Int} {f n : Nat} (h : Mb.BX w S g ws f n) (h1 : w'.heap[S]? = w.heap[S]?) (h2 : w'.heap[g]? = w.heap[g]?) : Mb.BX w' S g ws f n := ⟨h1.trans h.blk, Mb.RK.far h2 h.row, h.few, h.at', h.most⟩
theorem MBAt.keep {L L' : Lab} {w w' : World} {S n : Nat} {q : Bq} {g f : Nat} (h : MBAt L w S n q g f) (hE : Ext L L' w) (hb : ∀ b, b < w.heap.size → (L b).cls = 2 ∧ (L b).idx = n → w'.heap[b]? = w.heap[b]?) : MBAt L' w' S n q g f := by
 obtain ⟨hS, hg⟩ := h.box.lt
 exact ⟨BX_keep h.box (hb S hS (by rw [h.lS]; exact ⟨rfl, rfl⟩)) (hb g hg (by rw [h.lg]; exact ⟨rfl, rfl⟩)), (hE S hS).trans h.lS, (hE g hg).trans h.lg⟩
structure MbEn (Q : Nat → Nat) (nb rb off : Nat) (L : Lab) (w : World) (x : List Bq) : Prop where
 len : x.length = nb
 row : ∀ n, n < nb → rb < w.heap.size ∧ (L rb).cls = 0 ∧ w.cell? ⟨rb, off + n, none⟩ = some (.iface 77 (.pointer (some ⟨Q n, 0, none⟩)))
 boxes : ∀ (n : Nat) q, x[n]? = some q → ∃ g f, MBAt L w (Q n) n q g f
theorem MbEn.keep {Q : Nat → Nat} {nb rb off : Nat} {L L' : Lab} {w w' : World} {x : List Bq} (h : MbEn Q nb rb off L w x) (hE : Ext L L' w) (hz : w.heap.size ≤ w'.heap.size) (hb : ∀ b, b < w.heap.size → b = rb ∨ (L b).cls = 2 → w'.heap[b]? = w.heap[b]?) : MbEn Q nb rb off L' w' x :=
 ⟨h.len, fun n hn => by
  obtain ⟨h1, h2, h3⟩ := h.row n hn
  exact ⟨by omega, by rw [hE rb h1]; exact h2, (cell_eq (hb rb h1 (.inl rfl)) _).trans h3⟩, fun n q hq => by
  obtain ⟨g, f, hA⟩ := h.boxes n q hq
  exact ⟨g, f, hA.keep hE (fun b hs hx => hb b hs (.inr hx.1))⟩⟩
def mbE (Q : Nat → Nat) (nb rb off : Nat) (A : Ear) : Env (List Bq) where
 En := fun L w l x => MbEn Q nb rb off L w x ∧ A.En L w l
 keep := fun {L L' w w' _ x} h hE hz hb => by
  refine ⟨?_, A.keep h.2 hE hz (fun b hs h1 => hb b hs (by omega))⟩
  by_cases h0 : 0 < nb
  ·have := (h.1.row 0 h0).2.1
   exact h.1.keep hE hz (fun b hs hx => hb b hs (by rcases hx with rfl | hx <;> omega))
  ·have hx0 : x = [] := List.eq_nil_of_length_eq_zero (by have := h.1.len; omega)
   exact ⟨h.1.len, fun n hn => by omega, fun n q hq => by rw [hx0] at hq; cases hq⟩
theorem MbEn.turned {Q : Nat → Nat} {nb rb off : Nat} {L : Lab} {w w' : World} {x : List Bq} (h : MbEn Q nb rb off L w x) {n : Nat} {q q' : Bq} {g f f' : Nat} (hA : MBAt L w (Q n) n q g f) (hb : Mb.BX w' (Q n) g q'.ws f' q'.cap) (hm : Mb.Mv w w' (Q n) g) : MbEn Q nb rb off L w' (x.set n q') := by
 have hS := hA.lS
 have hgl := hA.lg
 have stay : ∀ b, b < w.heap.size → ¬ ((L b).cls = 2 ∧ (L b).idx = n) → w'.heap[b]? = w.heap[b]? := fun b hs hx => hm.block b hs (fun e => hx (by rw [e, hS]; exact ⟨rfl, rfl⟩)) (fun e => hx (by rw [e, hgl]; exact ⟨rfl, rfl⟩))
 refine ⟨by simpa using h.len, fun k hk => ?_, fun k p hp => ?_⟩
 ·obtain ⟨h1, h2, h3⟩ := h.row k hk
  exact ⟨by have := hm.size; omega, h2, (cell_eq (stay rb h1 (by omega)) _).trans h3⟩
 ·rw [List.getElem?_set] at hp
  split at hp
  ·rename_i e
   subst e
   split at hp
   ·cases hp
    exact ⟨g, f', hb, hS, hgl⟩
   ·cases hp
  ·rename_i e
   obtain ⟨g2, f2, hA2⟩ := h.boxes k p hp
   exact ⟨g2, f2, hA2.keep (.refl _ _) (fun b hs hx => stay b hs (by omega))⟩
end Go.Proofs.YtekjhefmhhcboaaGreat.Vw
