/- Rows of doings that the call itself makes; an append of one to a row however long. -/
import Derived.Test.YtnoecaapmcidhaaSt13
namespace Go.Proofs.Ytnoecaapmcidhaa
open Go.RowKit

theorem Try.info36 : (Try.prog.info? 36).map (fun i => (i.zero, i.size, i.bytes)) = some (some (.agg #[.int .i64 0, .int .i64 0, .int .i64 0]), 3, 24) := by kernel_rfl

namespace Sk
/-- What is right has its fault at 0. -/
theorem go_ok {mn most : Nat} : ∀ (l : List Op) (i : Nat) (ws : List Int) (r : Nat) (rs : List Nat), (go mn most l i ws r rs).2.2.1 = 0 → (go mn most l i ws r rs).2.2.2 = 0
  | [], _, _, _, _, _ => rfl
  | o :: l, i, ws, r, rs, h => by
    rw [go] at h ⊢
    by_cases he : err most ws.length o = 0
    · rw [if_pos he] at h ⊢; exact go_ok l _ _ _ _ h
    · rw [if_neg he] at h; exact absurd h he
end Sk

def opc (o : Sk.Op) : List Value := [.int .i64 o.kind, .int .i64 o.n, .int .i64 o.v]
def opCells (l : List Sk.Op) : List Value := l.flatMap opc

theorem opCells_len : ∀ l, (opCells l).length = l.length * 3
  | [] => rfl
  | o :: l => by have := opCells_len l; simp only [opCells, List.flatMap_cons, List.length_append, List.length_cons] at *; simp only [this, opc, List.length_cons, List.length_nil]; omega
theorem opCells_app (l m : List Sk.Op) : opCells (l ++ m) = opCells l ++ opCells m := by simp [opCells]
theorem opCells_one (o : Sk.Op) : opCells [o] = opc o := by simp [opCells]
theorem opCells_get : ∀ (l : List Sk.Op) (i : Nat) (o : Sk.Op), l[i]? = some o → ∀ j, j < 3 → (opCells l)[i * 3 + j]? = (opc o)[j]?
  | [], i, o, h, _, _ => by simp at h
  | x :: l, 0, o, h, j, hj => by
    simp at h; subst h
    simp only [opCells, List.flatMap_cons, Nat.zero_mul, Nat.zero_add]
    rw [List.getElem?_append_left (by simpa [opc] using hj)]
  | x :: l, i + 1, o, h, j, hj => by
    have ih := opCells_get l i o (by simpa using h) j hj
    simp only [opCells, List.flatMap_cons] at ih ⊢
    rw [List.getElem?_append_right (by simp [opc]; omega)]
    have e : (i + 1) * 3 + j - (opc x).length = i * 3 + j := by simp [opc]; omega
    rw [e, ih]
theorem opCells_one1 (l : List Sk.Op) : ∀ u ∈ opCells l, u.oneCell' = true := by
  intro u hu
  obtain ⟨o, _, ho⟩ := List.mem_flatMap.1 hu
  simp only [opc, List.mem_cons, List.not_mem_nil, or_false] at ho
  rcases ho with rfl | rfl | rfl <;> rfl

theorem add_none (b off j : Nat) : (⟨b, off, none⟩ : Addr).add j = ⟨b, off + j, none⟩ := by unfold Addr.add; split <;> simp_all

/-- A row of doings of the call's own, as Play's argument. -/
theorem own_ops {W : World} {B n : Nat} {v : Value} {l : List Sk.Op} (h : W.ownsRow B 36 3 v n (opCells l)) : ∃ a c, v = .slice a l.length c ∧ n = l.length ∧ OpsIn W.heap.size W l a := by
  have hl : l.length = n := by have := h.1; rw [opCells_len] at this; omega
  subst hl
  rcases h.2 with ⟨rfl, h0⟩ | ⟨g, cap, cur, rfl, hg, hh, _, _, _, ht⟩
  · exact ⟨none, 0, by rw [h0], rfl, fun i o ho => by have := (List.getElem?_eq_some_iff.1 ho).1; omega⟩
  · refine ⟨_, cap, rfl, rfl, fun i o ho => ⟨g, 0, rfl, lt_of_block hh, ?_⟩⟩
    have key : ∀ j, j < 3 → W.cell? ⟨g, 0 + i * 3 + j, none⟩ = (opc o)[j]? := by
      intro j hj
      have hi := (List.getElem?_eq_some_iff.1 ho).1
      have e := opCells_get l i o ho j hj
      rw [← ht, List.getElem?_take, if_pos (by omega)] at e
      rw [Nat.zero_add, ← e]
      simp [World.cell?, hh]
    exact ⟨key 0 (by decide), key 1 (by decide), key 2 (by decide)⟩

/-- The cells of an argument. -/
theorem ops_news {B : Nat} {W : World} {L : List Sk.Op} {a : Addr} (h : OpsIn B W L (some a)) : ∀ j u, (opCells L)[j]? = some u → W.cell? (a.add j) = some u := by
  intro j u hu
  have hj : j < L.length * 3 := by have := (List.getElem?_eq_some_iff.1 hu).1; rwa [opCells_len] at this
  obtain ⟨o, ho⟩ : ∃ o, L[j / 3]? = some o := ⟨_, List.getElem?_eq_getElem (by omega)⟩
  obtain ⟨b, off, he, _, c0, c1, c2⟩ := h (j / 3) o ho
  have e := opCells_get L (j / 3) o ho (j % 3) (by omega)
  rw [show j / 3 * 3 + j % 3 = j by omega, hu] at e
  simp only [Option.some.injEq] at he
  subst he
  rw [add_none]
  rcases (show j % 3 = 0 ∨ j % 3 = 1 ∨ j % 3 = 2 by omega) with h3 | h3 | h3 <;> rw [h3] at e <;> simp [opc] at e <;> subst e
  · rw [show off + j = off + j / 3 * 3 by omega]; exact c0
  · rw [show off + j = off + j / 3 * 3 + 1 by omega]; exact c1
  · rw [show off + j = off + j / 3 * 3 + 2 by omega]; exact c2

/-- How much room one more makes at most. -/
theorem cap_succ {n : Nat} (h : 256 ≤ n) : Builtin.nextslicecap (n + 1) n = n + (n + 768) / 4 := by
  unfold Builtin.nextslicecap
  rw [if_neg (by omega), if_neg (by omega)]
  unfold Builtin.growBy
  rw [if_neg (by omega)]
  unfold Builtin.growBy
  rw [if_pos (by omega)]

/-- ONE MORE, TO A ROW OF ALMOST WHATEVER LENGTH. -/
theorem append_op (w : World) (base : Nat) (ty : TypeId) (v : Value) (l : List Sk.Op) (o : Sk.Op) (hown : w.ownsRow base 36 3 v l.length (opCells l)) (a : Addr) (hnews : ∀ j u, (opc o)[j]? = some u → w.cell? (a.add j) = some u) (hn : l.length ≤ 5864062020000) (hbase : base ≤ w.heap.size) :
    ∃ v' w', (Builtin.append_ #[22, 22] ty #[v, .slice (some a) 1 1]).run Try.prog w = .ok v' w' ∧ w'.ownsRow base 36 3 v' (l ++ [o]).length (opCells (l ++ [o])) ∧ w.grownBy w' v.ownBlock := by
  obtain ⟨i0, hi, hz0, hz1, hz2⟩ := info_parts Try.info36
  have h1 : ∀ u ∈ opc o, u.oneCell' = true := by have := opCells_one1 [o]; rwa [opCells_one] at this
  have hlen : (l ++ [o]).length = l.length + 1 := by simp
  have hcells : opCells (l ++ [o]) = opCells l ++ opc o := by rw [opCells_app, opCells_one]
  rw [hlen, hcells]
  by_cases hs : (l.length + 1) * 24 ≤ 140737488355328
  · obtain ⟨v', w', hr, h2, h3, _⟩ := run_append_own (P := Try.prog) w base 22 ty 36 i0 _ 3 24 Try.underlying22 hi hz0 hz1 hz2 rfl (by decide) v l.length (opCells l) hown a 1 1 (opc o) rfl hnews h1 (by unfold maxLen; omega) hs hbase
    exact ⟨v', w', hr, h2, h3⟩
  · rcases hown.2 with ⟨_, h0⟩ | ⟨g, cap, cur, rfl, hbg, hg, hnc, hcm, hcs, ht⟩
    · omega
    · by_cases hroom : l.length + 1 ≤ cap
      · have hr := run_append_room (P := Try.prog) w 22 ty 36 i0 Try.underlying22 hi g l.length cap cur hg a 1 1 (opc o) (by rw [hz1]; rfl) hnews h1 hroom (by rw [hz1, hcs]; simp [opc]; omega)
        rw [hz1] at hr
        refine ⟨_, _, hr, ⟨by simp [opCells_len, opc]; omega, .inr ⟨g, cap, _, rfl, hbg, setRow_heap w g cur _ _ _ hg, hroom, hcm, ?_, ?_⟩⟩, ⟨rfl, rfl, rfl, by simp, fun k _ hk => setRow_other w g k _ (fun e => hk (by rw [e]; rfl))⟩⟩
        · have : cur.toList.length = cap * 3 := by simpa using hcs
          simp [opc]
          omega
        · have hlo : (opCells l ++ opc o).length = (l.length + 1) * 3 := by simp [opCells_len, opc]; omega
          rw [ht, ← hlo]
          exact List.take_left
      · obtain rfl : cap = l.length := by omega
        have hr := run_append_grow (P := Try.prog) w 22 ty 36 i0 _ Try.underlying22 hi hz0 ⟨g, 0, none⟩ l.length l.length (opCells l) (by rw [hz1]; exact opCells_len l) (hown.cells (g := g) rfl) a 1 1 (opc o) (by rw [hz1]; rfl) hnews (by omega) (by omega) (by rw [cap_succ (by omega), hz2]; omega)
        have hge := grownCap_ge w (l.length + 1) l.length 36
        have hcm2 := grownCap_le_maxLen w (l.length + 1) l.length 36 (by unfold maxLen; omega)
        refine ⟨_, _, hr, ⟨by simp [opCells_len, opc]; omega, .inr ⟨w.heap.size, _, _, rfl, hbase, heap_alloc_new w.drew _, hge, hcm2, ?_, ?_⟩⟩, ⟨rfl, rfl, rfl, by simp, fun k hk _ => Below.heap_alloc w.drew _ k hk⟩⟩
        · have e3 : (Value.agg #[Value.int .i64 0, .int .i64 0, .int .i64 0]).cells.size = 3 := rfl
          simp only [Array.size_append, List.size_toArray, size_zeroCells, e3, opCells_len, opc, List.length_cons, List.length_nil]
          omega
        · have hlo : (opCells l ++ opc o).length = (l.length + 1) * 3 := by simp [opCells_len, opc]; omega
          simp only [Array.toList_append]
          rw [← hlo]
          exact List.take_left

/-- The same as a law of the walk. -/
theorem wpList_append_op {w : World} {ops : Array Oper} {rest : List Oper} {o : Oper} {a : Act} {Q : Exit → Act → World → Prop} (hgd : o.guard = none) (s x : Operand)
    (ho : o.op = .call { callee := .builtin .append, args := #[s, x], argTypes := #[22, 22] })
    (base : Nat) (v : Value) (l : List Sk.Op) (oo : Sk.Op) (hs : a.eval s = v) (hown : w.ownsRow base 36 3 v l.length (opCells l)) (ad : Addr) (hx : a.eval x = .slice (some ad) 1 1) (hnews : ∀ j u, (opc oo)[j]? = some u → w.cell? (ad.add j) = some u)
    (hn : l.length ≤ 5864062020000) (hbase : base ≤ w.heap.size)
    (h : ∀ v' w', w'.ownsRow base 36 3 v' (l ++ [oo]).length (opCells (l ++ [oo])) → w.grownBy w' v.ownBlock → wpList Try.prog ops Q rest (a.put o.dst v') w') : wpList Try.prog ops Q (o :: rest) a w := by
  refine wpList_plain hgd fun K hK => ?_
  obtain ⟨v', w', hr, h2, h3⟩ := append_op w base o.type v l oo hown ad hnews hn hbase
  unfold Oper.wp
  simp [execOp, ho, resolve, invoke, builtin, hs, hx, hr, Result.andThen]
  exact hK _ _ (h v' w' h2 h3)

end Go.Proofs.Ytnoecaapmcidhaa
