/- syn.Read, where the text has no tokens. -/
import Derived.Test.YtlnikpcoejpknaaGreatDoorM31
import Derived.Test.YtlnikpcoejpknaaGreatDoorM12
namespace Go.Proofs.YtlnikpcoejpknaaGreatDoor
open Go.RowKit

theorem two_set {w : World} {N : Nat} {a b : Int} {t : TypeId} (h : w.heap[N]? = some (.cells #[.int .i64 a, .int .i64 b] t (0, 0))) (x y : Int) : ((w.setCell ⟨N, 0, none⟩ (.int .i64 x)).setCell ⟨N, 1, none⟩ (.int .i64 y)).heap[N]? = some (.cells #[.int .i64 x, .int .i64 y] t (0, 0)) := by
  simp only [World.setCell, Array.getElem?_modify, if_true, h, Option.map_some]
  rfl

set_option maxRecDepth 100000 in
set_option maxHeartbeats 1000000 in
theorem read_lex (s : ByteArray) (w : World) (hs : s.size ≤ maxLen) (hE : (Lx.lexB s).2.1 ≠ 0) :
    Calls Tryz.prog 5 #[.string s] w fun e w' => e = .returned (.tuple #[.slice none 0 0, .agg #[.int .i64 (Lx.lexB s).2.1, .int .i64 (Lx.lexB s).2.2]]) ∧ Below w.heap.size w w' := by
  obtain ⟨er, her⟩ : ∃ er : Nat, er = (Lx.lexB s).2.1 := ⟨_, rfl⟩
  obtain ⟨num, hnum⟩ : ∃ num : Nat, num = (Lx.lexB s).2.2 := ⟨_, rfl⟩
  have HT := hide2 (tokens_any s ((w.alloc (outO (.slice none 0 0))).alloc Z2C) hs)
  rw [← her, ← hnum] at HT
  rw [← her] at hE
  rw [← her, ← hnum]
  have e1 : ((er : Int) != 0) = true := by simp; omega
  clear her hnum hE
  go_enter Tryz.func5, Tryz.ntmps5
  go_wp2_with fail
  refine HT.out.mono ?_
  rintro e w1 ⟨v, rfl, hown, hb⟩
  have HB : Hid (Below w.heap.size w w1) := (((Below.refl _ w).alloc (Nat.le_refl _) _).alloc (by simp) _).trans (hb.mono (by simp; omega))
  have hN : w1.heap[w.heap.size]? = some (outO (.slice none 0 0)) := (hb.block _ (by simp; omega)).trans ((Below.heap_alloc _ _ _ (by simp)).trans (heap_alloc_new w _))
  have hF : w1.heap[w.heap.size + 1]? = some Z2C := (hb.block _ (by simp)).trans (by have := heap_alloc_new (w.alloc (outO (.slice none 0 0))) Z2C; simpa using this)
  obtain ⟨c0, f0⟩ := box_cell hN
  obtain ⟨z0, z1, y0, y1⟩ := two_cell hF
  have hF5 : (((((w1.setCell ⟨w.heap.size + 1, 0, none⟩ (.int .i64 er)).setCell ⟨w.heap.size + 1, 1, none⟩ (.int .i64 num)).setCell ⟨w.heap.size, 0, none⟩ (.slice none 0 0)).setCell ⟨w.heap.size + 1, 0, none⟩ (.int .i64 er)).setCell ⟨w.heap.size + 1, 1, none⟩ (.int .i64 num)).heap[w.heap.size + 1]? = some (.cells #[.int .i64 er, .int .i64 num] 25 (0, 0)) := two_set ((Below.heap_setCell _ ⟨w.heap.size, 0, none⟩ _ _ (by show w.heap.size + 1 ≠ w.heap.size; omega)).trans (two_set hF er num)) er num
  obtain ⟨p0, p1, _, _⟩ := two_cell hF5
  have P0 := hide2 p0
  have P1 := hide2 p1
  clear hown hb hN hF HT hF5 p0 p1
  go_wp2
  go_region
  all_goals
    go_wp2
    refine bodyPost_ret (v := .tuple #[.slice none 0 0, .agg #[.int .i64 er, .int .i64 num]]) (by simp [results, Tryz.results5, go_sem, c0, P0.out, P1.out]) rfl ⟨rfl, ?_⟩
    repeat (first | exact HB.out | exact HB.out.drew | refine Below.setCell ?_ (by first | exact Nat.le_refl _ | exact Nat.le_succ _) _ | refine Below.drew ?_)

end Go.Proofs.YtlnikpcoejpknaaGreatDoor

/- syn.Read where the text has tokens: how they lie for the reader. -/
namespace Go.Proofs.YtlnikpcoejpknaaGreatDoor
open Go.RowKit

theorem tk_get : ∀ (l : List Lx.Tk) (i : Nat) (t : Lx.Tk), l[i]? = some t → ∀ j, j < 4 → (Lx.cellsOf l)[i * 4 + j]? = t.cells[j]?
  | [], i, t, h, _, _ => by simp at h
  | y :: l, 0, t, h, j, hj => by
    simp at h; subst h
    show (y.cells ++ Lx.cellsOf l)[0 * 4 + j]? = _
    rw [Nat.zero_mul, Nat.zero_add, List.getElem?_append_left (by simpa [Lx.Tk.cells] using hj)]
  | y :: l, i + 1, t, h, j, hj => by
    have ih := tk_get l i t (by simpa using h) j hj
    show (y.cells ++ Lx.cellsOf l)[(i + 1) * 4 + j]? = _
    rw [List.getElem?_append_right (by simp [Lx.Tk.cells]; omega), ← ih]
    congr 1
    simp [Lx.Tk.cells]
    omega

/-- Tokens of one's own, as the reader has them. -/
theorem own_tks {w : World} {B n : Nat} {v : Value} {l : List Lx.Tk} (h : w.ownsRow B 84 4 v n (Lx.cellsOf l)) (hl : l.length ≤ 6000) (hok : TkOk l) : ∃ a c, v = .slice a l.length c ∧ TkIn w.heap.size w l a := by
  have hn : l.length = n := by have := h.1; rw [Lx.cellsOf_length] at this; omega
  subst hn
  rcases h.2 with ⟨rfl, h0⟩ | ⟨g, cap, cur, rfl, hg, hh, _, _, _, ht⟩
  · refine ⟨none, 0, by rw [h0], hl, fun i t hi => ?_⟩
    have := (List.getElem?_eq_some_iff.1 hi).1
    omega
  · refine ⟨_, cap, rfl, hl, fun i t hi => ⟨g, 0, rfl, lt_of_block hh, ?_⟩⟩
    have key : ∀ j, j < 4 → w.cell? ⟨g, 0 + i * 4 + j, none⟩ = t.cells[j]? := by
      intro j hj
      have hil := (List.getElem?_eq_some_iff.1 hi).1
      have e := tk_get l i t hi j hj
      rw [← ht, List.getElem?_take, if_pos (by omega)] at e
      rw [← e]
      simp [World.cell?, hh]
    have h6 := (hok t (List.mem_of_getElem? hi)).1
    exact ⟨key 0 (by decide), key 1 (by decide), key 2 (by decide), key 3 (by decide), by unfold maxLen; omega⟩

/-- The reader, ready at its first token. -/
theorem rdy_new {w1 w2 : World} {l : List Lx.Tk} {ta : Option Addr} {tc en : Nat} (hown : TkIn w1.heap.size w1 l ta) (hb : Below w1.heap.size w1 w2) (hM : w2.heap[w1.heap.size]? = some (.map entriesT.toArray 13)) :
    Rdy ⟨w2.heap.size, w2.heap.size, w1.heap.size, ta, tc, l, en⟩ (w2.alloc (.cells #[.slice ta l.length tc, .int .i64 0, .int .i64 en, .map (some w1.heap.size), .int .i64 0] 44)) 0 0 := by
  have hlt := lt_of_block hM
  refine ⟨heap_alloc_new w2 _, ⟨hown.1, fun i t hi => ?_⟩, (Below.heap_alloc _ _ _ hlt).trans hM⟩
  obtain ⟨b, off, e, hbb, c0, c1, c2, c3, hm⟩ := hown.2 i t hi
  have hbl : (w2.alloc (.cells #[.slice ta l.length tc, .int .i64 0, .int .i64 en, .map (some w1.heap.size), .int .i64 0] 44)).heap[b]? = w1.heap[b]? := (Below.heap_alloc _ _ _ (by have := hb.size; omega)).trans (hb.block b hbb)
  have hc : ∀ o, (w2.alloc (.cells #[.slice ta l.length tc, .int .i64 0, .int .i64 en, .map (some w1.heap.size), .int .i64 0] 44)).cell? ⟨b, o, none⟩ = w1.cell? ⟨b, o, none⟩ := fun o => by simp only [World.cell?, hbl]
  exact ⟨b, off, e, by show b < w2.heap.size; have := hb.size; omega, (hc _).trans c0, (hc _).trans c1, (hc _).trans c2, (hc _).trans c3, hm⟩

end Go.Proofs.YtlnikpcoejpknaaGreatDoor

/- syn.Read, where the text has tokens and a fault is thrown. -/
namespace Go.Proofs.YtlnikpcoejpknaaGreatDoor
open Go.RowKit

theorem own_ty2 {w : World} {B e size n k : Nat} {v : Value} {xs : List Value} {cs : Array Value} {t : TypeId} {fr : Nat × Nat} (h : w.ownsRow B e size v n xs) (hk : w.heap[k]? = some (.cells cs t fr)) (ht : t ≠ e) : v.ownBlock ≠ some k := by
  rcases h.2 with ⟨rfl, _⟩ | ⟨g', cap, cur, rfl, _, hh, _⟩
  · simp [Value.ownBlock]
  · intro e1
    simp only [Value.ownBlock, Option.some.injEq] at e1
    subst e1
    rw [hh] at hk
    simp at hk
    exact ht hk.2.1.symm
theorem own_keep2 {w w' : World} {B e size n : Nat} {v : Value} {xs : List Value} (h : w.ownsRow B e size v n xs) (hk : ∀ k, v.ownBlock = some k → w'.heap[k]? = w.heap[k]?) : w'.ownsRow B e size v n xs := by
  refine ⟨h.1, ?_⟩
  rcases h.2 with h2 | ⟨g', cap, cur, rfl, hB, hh, hr⟩
  · exact .inl h2
  · exact .inr ⟨g', cap, cur, rfl, hB, (hk g' rfl).trans hh, hr⟩
theorem two_far (w : World) (N : Nat) (u v : Value) {k : Nat} (hk : k ≠ N) : ((w.setCell ⟨N, 0, none⟩ u).setCell ⟨N, 1, none⟩ v).heap[k]? = w.heap[k]? := by
  rw [Below.heap_setCell _ ⟨N, 1, none⟩ _ _ hk, Below.heap_setCell _ ⟨N, 0, none⟩ _ _ hk]
theorem two_size (w : World) (N : Nat) (u v : Value) : ((w.setCell ⟨N, 0, none⟩ u).setCell ⟨N, 1, none⟩ v).heap.size = w.heap.size := by simp [World.setCell]

/-- What Read has behind lex.Tokens and pairsByText: the two results' blocks, the reader ready. -/
structure RState (s : ByteArray) (w : World) (w2 W : World) (M : Nat) (ta : Option Addr) (tc : Nat) : Prop where
  below : Below w.heap.size w W
  out : W.heap[w.heap.size]? = some (outO (.slice none 0 0))
  flt : ∃ num : Nat, W.heap[w.heap.size + 1]? = some (.cells #[.int .i64 0, .int .i64 num] 25 (0, 0))
  rdy : Rdy ⟨w2.heap.size, w2.heap.size, M, ta, tc, (Lx.lexB s).1, s.size⟩ W 0 0
  ne : M ≠ w2.heap.size
  size : w.heap.size + 1 < w2.heap.size
  len : W.heap.size = w2.heap.size + 1

theorem rstate {s : ByteArray} {w w1 w2 : World} {num : Nat} {v : Value} (hown : w1.ownsRow (w.heap.size + 2) 84 4 v (Lx.lexB s).1.length (Lx.cellsOf (Lx.lexB s).1)) (hb : Below (w.heap.size + 2) ((w.alloc (outO (.slice none 0 0))).alloc Z2C) w1)
    (hM : w2.heap[w1.heap.size]? = some (.map entriesT.toArray 13)) (hb2 : Below w1.heap.size ((w1.setCell ⟨w.heap.size + 1, 0, none⟩ (.int .i64 0)).setCell ⟨w.heap.size + 1, 1, none⟩ (.int .i64 num)) w2) :
    ∃ ta tc, v = .slice ta (Lx.lexB s).1.length tc ∧ RState s w w2 (w2.alloc (.cells #[.slice ta (Lx.lexB s).1.length tc, .int .i64 0, .int .i64 s.size, .map (some w1.heap.size), .int .i64 0] 44)) w1.heap.size ta tc := by
  have hz := hb.size
  simp at hz
  have hF : w1.heap[w.heap.size + 1]? = some Z2C := (hb.block _ (by omega)).trans (by have := heap_alloc_new (w.alloc (outO (.slice none 0 0))) Z2C; simpa using this)
  have hN : w1.heap[w.heap.size]? = some (outO (.slice none 0 0)) := (hb.block _ (by omega)).trans ((Below.heap_alloc _ _ _ (by simp)).trans (heap_alloc_new w _))
  have hsz := two_size w1 (w.heap.size + 1) (.int .i64 0) (.int .i64 num)
  have hfar : ∀ k, k ≠ w.heap.size + 1 → ((w1.setCell ⟨w.heap.size + 1, 0, none⟩ (.int .i64 0)).setCell ⟨w.heap.size + 1, 1, none⟩ (.int .i64 num)).heap[k]? = w1.heap[k]? := fun k hk => two_far _ _ _ _ hk
  have hF1 := two_set hF 0 (num : Int)
  have hos : ((w1.setCell ⟨w.heap.size + 1, 0, none⟩ (.int .i64 0)).setCell ⟨w.heap.size + 1, 1, none⟩ (.int .i64 num)).os = w1.os := rfl
  have hta : ((w1.setCell ⟨w.heap.size + 1, 0, none⟩ (.int .i64 0)).setCell ⟨w.heap.size + 1, 1, none⟩ (.int .i64 num)).tape = w1.tape := rfl
  have hou : ((w1.setCell ⟨w.heap.size + 1, 0, none⟩ (.int .i64 0)).setCell ⟨w.heap.size + 1, 1, none⟩ (.int .i64 num)).output = w1.output := rfl
  generalize (w1.setCell ⟨w.heap.size + 1, 0, none⟩ (.int .i64 0)).setCell ⟨w.heap.size + 1, 1, none⟩ (.int .i64 num) = wc at *
  have hown1 : wc.ownsRow (w.heap.size + 2) 84 4 v (Lx.lexB s).1.length (Lx.cellsOf (Lx.lexB s).1) := own_keep2 hown (fun k hk => hfar k (fun e => by subst e; exact own_ty2 hown hF (by decide) hk))
  obtain ⟨ta, tc, rfl, htk⟩ := own_tks hown1 (Lx.lexB_ok s).1 (Lx.lexB_ok s).2
  rw [← hsz] at hM hb2
  have hs2 := hb2.size
  have hlt := lt_of_block hM
  have hrdy := rdy_new (tc := tc) (en := s.size) htk hb2 hM
  refine ⟨ta, tc, rfl, ⟨?_, ?_, ⟨num, ?_⟩, ?_, ?_, ?_, ?_⟩⟩
  · have h1 : Below w.heap.size w w1 := (((Below.refl _ w).alloc (Nat.le_refl _) _).alloc (by simp) _).trans (hb.mono (by omega))
    have h2 : Below w.heap.size w w2 := ⟨hb2.os.trans (hos.trans h1.os), hb2.tape.trans (hta.trans h1.tape), hb2.output.trans (hou.trans h1.output), by omega, fun k hk => by rw [hb2.block k (by omega), hfar k (by omega)]; exact h1.block k hk⟩
    exact h2.alloc (by omega) _
  · rw [Below.heap_alloc _ _ _ (by omega), hb2.block _ (by omega), hfar _ (by omega)]; exact hN
  · rw [Below.heap_alloc _ _ _ (by omega), hb2.block _ (by omega)]; exact hF1
  · rw [hsz] at hrdy; exact hrdy
  · omega
  · omega
  · simp

end Go.Proofs.YtlnikpcoejpknaaGreatDoor

