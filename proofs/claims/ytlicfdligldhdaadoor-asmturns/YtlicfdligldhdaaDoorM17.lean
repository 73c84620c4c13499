/- The walk of reader.box. -/
import Derived.Test.YtlicfdligldhdaaDoorM16
namespace Go.Proofs.YtlicfdligldhdaaDoor.Aw
open Go.RowKit As

/-- Words that came in. -/
def StrsW (w : World) (ws : List By) (a : Option Addr) : Prop := ∀ (i : Nat) (x : By), ws[i]? = some x → ∃ b off, a = some ⟨b, off, none⟩ ∧ b < w.heap.size ∧ w.cell? ⟨b, off + i, none⟩ = some (sv x)
/-- What a line's reading answers. -/
def LineR (B R U J K : Nat) (w w' : World) (b : Bool) (r : Option Vf.Md) : Prop := Below B w w' ∧ b = r.isSome ∧ ∀ m', r = some m' → RD B R U J (K + 1) w' m'
def fld (ws : List By) (k i : Nat) : Int := if i < k then guess (ws.getD i []) else 0
theorem fld_same (ws : List By) {k i : Nat} (h : i ≠ k) : fld ws (k + 1) i = fld ws k i := by
  unfold fld
  by_cases h1 : i < k
  · rw [if_pos (by omega), if_pos h1]
  · rw [if_neg (by omega), if_neg h1]
theorem num_guess {x : By} {n : Int} (h : numOf x = some n) : n = guess x := by
  unfold numOf at h
  split at h
  · cases h; rfl
  · cases h
theorem fld_at {ws : List By} {k : Nat} {x : By} {n : Int} (hx : ws[k]? = some x) (hn : numOf x = some n) : fld ws (k + 1) k = n := by
  unfold fld
  rw [if_pos (by omega), List.getD_eq_getElem?_getD, hx, Option.getD_some, num_guess hn]
theorem nums_guess {ws : List By} {ns : List Int} (h : nums ws = some ns) : ns = ws.map guess := by
  obtain ⟨h1, _⟩ := nums_some h
  rw [← h1, List.map_map]
  conv => lhs; rw [← List.map_id ns]
  exact List.map_congr_left (fun n _ => (guess_dig n).symm)
theorem nums_i64 {ws : List By} {ns : List Int} (h : nums ws = some ns) : ∀ n ∈ ns, I64 n := fun n hn => by
  have := (nums_some h).2 n hn
  unfold i64 at this
  simp only [Bool.and_eq_true, decide_eq_true_eq] at this
  exact this
theorem blk1_cell {w : World} {N : Nat} {v : Value} {t : TypeId} (h : w.heap[N]? = some (.cells #[v] t (0, 0))) : w.cell? ⟨N, 0, none⟩ = some v := by simp [World.cell?, h]
theorem blk2_cells {w : World} {N : Nat} {a b : Value} {t : TypeId} (h : w.heap[N]? = some (.cells #[a, b] t (0, 0))) : w.cell? ⟨N, 0, none⟩ = some a ∧ w.cell? ⟨N, 1, none⟩ = some b ∧ w.frozen? ⟨N, 0, none⟩ = false ∧ w.frozen? ⟨N, 1, none⟩ = false := by simp [World.cell?, World.frozen?, h]
theorem set2_0 {w : World} {N : Nat} {a b : Value} {t : TypeId} (h : w.heap[N]? = some (.cells #[a, b] t (0, 0))) (v : Value) : (w.setCell ⟨N, 0, none⟩ v).heap[N]? = some (.cells #[v, b] t (0, 0)) := by
  simp only [World.setCell, Array.getElem?_modify, if_true, h, Option.map_some]
  rfl
theorem set2_1 {w : World} {N : Nat} {a b : Value} {t : TypeId} (h : w.heap[N]? = some (.cells #[a, b] t (0, 0))) (v : Value) : (w.setCell ⟨N, 1, none⟩ v).heap[N]? = some (.cells #[a, v] t (0, 0)) := by
  simp only [World.setCell, Array.getElem?_modify, if_true, h, Option.map_some]
  rfl

theorem enter_to (args : Array Value) (w : World) : Sem.run Tryd.prog (callFunc 57 args) w = .ok (.enter 57 args) w := by kernel_rfl
abbrev ptI (N o : Nat) : Value := .pointer (some ⟨N, o, none⟩)
abbrev toF (N : Nat) : Value := .func (.func 57) #[] #[ptI N 0]
/-- The places of a box's numbers. -/
structure BxI (B N : Nat) (w : World) (ws : List By) (k : Nat) (W : World) : Prop where
  le : k ≤ 2
  gv : GV B w
  hB : B ≤ N
  hN : N = w.heap.size
  below : Below N w W
  size : N + 4 ≤ W.heap.size
  box : W.heap[N]? = some (.cells #[.int .i64 (fld ws k 0), .int .i64 (fld ws k 1)] 64 (0, 0))
  p0 : W.heap[N + 1]? = some (.cells #[ptI N 0] 93 (0, 0))
  p1 : W.heap[N + 1 + 1]? = some (.cells #[ptI N 1] 93 (0, 0))
  pl : W.heap[N + 1 + 1 + 1]? = some (.cells #[toF (N + 1), toF (N + 1 + 1)] 91 (0, 0))
theorem BxI.gvW {B N k : Nat} {w W : World} {ws : List By} (h : BxI B N w ws k W) : GV B W ∧ B ≤ W.heap.size := ⟨h.gv.below h.below h.hB, by have := h.size; have := h.hB; omega⟩
theorem bx_places (B N : Nat) (w : World) (ws : List By) (aw : Option Addr) (hs : StrsW w ws aw) : Places B ws [(57, #[ptI (N + 1) 0]), (57, #[ptI (N + 1 + 1) 0])] aw (some ⟨N + 1 + 1 + 1, 0, none⟩) (BxI B N w ws) := by
  refine ⟨fun k W h => h.gvW, fun k W W' h hb => ?_, fun k W i x h hx => ?_, fun k W i F caps h hf => ?_, fun i F caps hf args W => ?_, fun k F caps x n W hf hx hn h => ?_⟩
  · have hz := h.size
    exact ⟨h.le, h.gv, h.hB, h.hN, h.below.trans (hb.mono (by omega)), Nat.le_trans hz hb.size, (hb.block _ (lt_of_block h.box)).trans h.box, (hb.block _ (lt_of_block h.p0)).trans h.p0, (hb.block _ (lt_of_block h.p1)).trans h.p1, (hb.block _ (lt_of_block h.pl)).trans h.pl⟩
  · obtain ⟨b, off, e, hb, hc⟩ := hs i x hx
    exact ⟨b, off, e, (h.below.cell (p := ⟨b, off + i, none⟩) (by show b < N; rw [h.hN]; exact hb)).trans hc⟩
  · obtain ⟨c0, c1, _, _⟩ := blk2_cells h.pl
    refine ⟨N + 1 + 1 + 1, 0, rfl, ?_⟩
    match i, hf with
    | 0, hf => simp at hf; obtain ⟨rfl, rfl⟩ := hf; exact c0
    | 1, hf => simp at hf; obtain ⟨rfl, rfl⟩ := hf; exact c1
  · have e : F = 57 := by
      match i, hf with
      | 0, hf => simp at hf; exact hf.1.symm
      | 1, hf => simp at hf; exact hf.1.symm
    subst e
    exact enter_to args W
  · obtain ⟨c0, c1, g0, g1⟩ := blk2_cells h.box
    match k, hf with
    | 0, hf =>
      simp at hf
      obtain ⟨rfl, rfl⟩ := hf
      refine (toInt1_any ⟨N, 0, none⟩ (N + 1) n _ W (blk1_cell h.p0) c0 g0).mono ?_
      rintro e W' ⟨rfl, rfl⟩
      refine ⟨rfl, by omega, h.gv, h.hB, h.hN, h.below.setCell (p := ⟨N, 0, none⟩) (Nat.le_refl _) _, by simpa [World.setCell] using h.size, ?_, (Below.heap_setCell _ _ _ _ (by show N + 1 ≠ N; omega)).trans h.p0, (Below.heap_setCell _ _ _ _ (by show N + 1 + 1 ≠ N; omega)).trans h.p1, (Below.heap_setCell _ _ _ _ (by show N + 1 + 1 + 1 ≠ N; omega)).trans h.pl⟩
      rw [fld_at hx hn, fld_same ws (by decide)]
      exact set2_0 h.box _
    | 1, hf =>
      simp at hf
      obtain ⟨rfl, rfl⟩ := hf
      refine (toInt1_any ⟨N, 1, none⟩ (N + 1 + 1) n _ W (blk1_cell h.p1) c1 g1).mono ?_
      rintro e W' ⟨rfl, rfl⟩
      refine ⟨rfl, by omega, h.gv, h.hB, h.hN, h.below.setCell (p := ⟨N, 1, none⟩) (Nat.le_refl _) _, by simpa [World.setCell] using h.size, ?_, (Below.heap_setCell _ _ _ _ (by show N + 1 ≠ N; omega)).trans h.p0, (Below.heap_setCell _ _ _ _ (by show N + 1 + 1 ≠ N; omega)).trans h.p1, (Below.heap_setCell _ _ _ _ (by show N + 1 + 1 + 1 ≠ N; omega)).trans h.pl⟩
      rw [fld_at hx hn, fld_same ws (by decide)]
      exact set2_1 h.box _

def boxR (m : Vf.Md) (ws : List By) : Option Vf.Md := match nums ws, m.units with
  | some [a, b], [] => some ⟨m.boxes ++ [⟨a, b⟩], []⟩
  | _, _ => none
theorem boxR_units {m : Vf.Md} {ws : List By} (h : m.units ≠ []) : boxR m ws = none := by
  unfold boxR
  split
  · rename_i h1; exact absurd h1 h
  · rfl
theorem boxR_no {m : Vf.Md} {ws : List By} (h : ws.length ≠ 2 ∨ nums ws = none) : boxR m ws = none := by
  unfold boxR
  split
  · rename_i a b h1 _
    exfalso
    rcases h with h | h
    · have := (nums_some h1).1
      rw [← this] at h
      exact h rfl
    · rw [h] at h1; cases h1
  · rfl

end Go.Proofs.YtlicfdligldhdaaDoor.Aw

