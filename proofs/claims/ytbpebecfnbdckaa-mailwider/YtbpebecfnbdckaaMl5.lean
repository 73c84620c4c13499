/- A row from which words are taken at its front: how it lies, and an append to it. -/
import Derived.Test.YtbpebecfnbdckaaMl4
import Derived.ArgAppend
namespace Go.Proofs.Ytbpebecfnbdckaa.Mb
open Go.RowKit

/-- Words of the call's own, anywhere in a block. -/
def QR (w : World) (B : Nat) (v : Value) (ws : List Int) : Prop :=
  (v = .slice none 0 0 ∧ ws = []) ∨ ∃ g off cap cs, v = .slice (some ⟨g, off, none⟩) ws.length cap ∧ B ≤ g ∧ w.heap[g]? = some (.cells (List.toArray cs) 2 (0, 0)) ∧ off + cap ≤ cs.length ∧ ws.length ≤ cap ∧ ∀ i x, ws[i]? = some x → cs[off + i]? = some (.int .i64 x)

theorem QR.nil (w : World) (B : Nat) : QR w B (.slice none 0 0) [] := .inl ⟨rfl, rfl⟩

theorem qr_own {w : World} {B n : Nat} {v : Value} {ws : List Int} (h : w.ownsRow B 2 1 v n (ints ws)) : QR w B v ws := by
  have hl : ws.length = n := by have := h.1; simpa using this
  subst hl
  rcases h.2 with ⟨rfl, h0⟩ | ⟨g, cap, cur, rfl, hg, hh, h1, h2, h3, h4⟩
  · exact .inl ⟨rfl, List.eq_nil_of_length_eq_zero h0⟩
  · refine .inr ⟨g, 0, cap, cur.toList, rfl, hg, hh, by simp; omega, h1, fun i x hx => ?_⟩
    have : (ints ws)[i]? = some (.int .i64 x) := by simp [hx]
    rw [← h4, List.getElem?_take] at this
    split at this
    · simpa using this
    · simp at this

theorem QR.keep {w w' : World} {B : Nat} {v : Value} {ws : List Int} (h : QR w B v ws) (hk : ∀ k, v.ownBlock = some k → w'.heap[k]? = w.heap[k]?) : QR w' B v ws := by
  rcases h with h | ⟨g, off, cap, cs, rfl, hB, hh, r⟩
  · exact .inl h
  · exact .inr ⟨g, off, cap, cs, rfl, hB, (hk g rfl).trans hh, r⟩
theorem QR.lt {w : World} {B : Nat} {v : Value} {ws : List Int} (h : QR w B v ws) (k : Nat) (hk : v.ownBlock = some k) : B ≤ k ∧ k < w.heap.size := by
  rcases h with ⟨rfl, _⟩ | ⟨g, off, cap, cs, rfl, hB, hh, r⟩
  · simp [Value.ownBlock] at hk
  · simp only [Value.ownBlock, Option.some.injEq] at hk
    subst hk
    exact ⟨hB, lt_of_block hh⟩
theorem QR.alloc {w : World} {B : Nat} {v : Value} {ws : List Int} (h : QR w B v ws) (o : Obj) : QR (w.alloc o) B v ws := h.keep (fun k hk => Below.heap_alloc _ _ _ (h.lt k hk).2)
theorem QR.ty {w : World} {B k : Nat} {v : Value} {ws : List Int} {cs : Array Value} {t : TypeId} {fr : Nat × Nat} (h : QR w B v ws) (hk : w.heap[k]? = some (.cells cs t fr)) (ht : t ≠ 2) : v.ownBlock ≠ some k := by
  rcases h with ⟨rfl, _⟩ | ⟨g, off, cap, cs', rfl, hB, hh, r⟩
  · simp [Value.ownBlock]
  · intro e1
    simp only [Value.ownBlock, Option.some.injEq] at e1
    subst e1
    rw [hh] at hk
    simp at hk
    exact ht hk.2.1.symm
theorem QR.form {w : World} {B : Nat} {v : Value} {ws : List Int} (h : QR w B v ws) : ∃ a c, v = .slice a ws.length c := by
  rcases h with ⟨rfl, rfl⟩ | ⟨g, off, cap, cs, rfl, _⟩
  · exact ⟨_, _, rfl⟩
  · exact ⟨_, _, rfl⟩

/-- The first word, and the others. -/
theorem QR.pop {w : World} {B : Nat} {v : Value} {x : Int} {ws : List Int} (h : QR w B v (x :: ws)) :
    ∃ g off cap, v = .slice (some ⟨g, off, none⟩) (ws.length + 1) cap ∧ ws.length + 1 ≤ cap ∧ w.cell? ⟨g, off, none⟩ = some (.int .i64 x) ∧
      (cap = 1 → QR w B (.slice (some ⟨g, off, none⟩) 0 0) ws) ∧ (cap ≠ 1 → QR w B (.slice (some ⟨g, off + 1, none⟩) ws.length (cap - 1)) ws) := by
  rcases h with ⟨_, h⟩ | ⟨g, off, cap, cs, rfl, hB, hh, h1, h2, h3⟩
  · simp at h
  · simp only [List.length_cons] at h2
    refine ⟨g, off, cap, rfl, h2, ?_, fun hc => ?_, fun hc => ?_⟩
    · have := h3 0 x rfl
      simp [World.cell?, hh]
      simpa using this
    · have hw : ws = [] := List.eq_nil_of_length_eq_zero (by omega)
      subst hw
      exact .inr ⟨g, off, 0, cs, rfl, hB, hh, by omega, Nat.le_refl _, fun i x hx => by simp at hx⟩
    · refine .inr ⟨g, off + 1, cap - 1, cs, rfl, hB, hh, by omega, by omega, fun i y hy => ?_⟩
      have := h3 (i + 1) y (by simpa using hy)
      rw [show off + 1 + i = off + (i + 1) by omega]
      exact this

theorem grown_any {w w' : World} {r : Option Nat} (h : w.grownBy w' none) : w.grownBy w' r := ⟨h.os, h.tape, h.output, h.size, fun k hk _ => h.block k hk (by simp)⟩

/-- ONE MORE BEHIND. -/
theorem append_q (w : World) (B : Nat) (ty : TypeId) (v : Value) (ws : List Int) (x : Int) (h : QR w B v ws) (a : Addr) (hnews : ∀ j u, [Value.int .i64 x][j]? = some u → w.cell? (a.add j) = some u) (hn : ws.length ≤ 20) (hB : B ≤ w.heap.size) :
    ∃ v' w', (Builtin.append_ #[24, 24] ty #[v, .slice (some a) 1 1]).run Try.prog w = .ok v' w' ∧ QR w' B v' (ws ++ [x]) ∧ w.grownBy w' v.ownBlock := by
  obtain ⟨i0, hi, hz0, hz1, hz2⟩ := info_parts Try.info2
  rcases h with ⟨rfl, rfl⟩ | ⟨g, off, cap, cs, rfl, hBg, hh, h1, h2, h3⟩
  · obtain ⟨v', w', hr, ho, hg, _⟩ := run_append_own (P := Try.prog) w B 24 ty 2 i0 _ 1 8 Try.underlying24 hi hz0 hz1 hz2 rfl (by decide) (.slice none 0 0) 0 [] (World.ownsRow_nil _ _ _ _) a 1 1 [.int .i64 x] rfl hnews (one_cell1 x) (by unfold maxLen; omega) (by omega) hB
    exact ⟨v', w', hr, qr_own (ws := [x]) ho, hg⟩
  · by_cases hroom : ws.length + 1 ≤ cap
    · have hlt : off + ws.length < cs.length := by omega
      have hr := run_append_room_cells (P := Try.prog) w 24 ty 2 i0 Try.underlying24 hi g off ws.length cap a 1 1 [.int .i64 x] (by rw [hz1]; rfl) hnews (one_cell1 x) hroom
        (fun j hj => by
          have hj0 : j = 0 := by simpa using hj
          subst hj0
          rw [hz1]
          simp [World.cell?, hh, hlt])
        (fun j hj => by simp [World.frozen?, hh])
      rw [hz1, Nat.mul_one] at hr
      refine ⟨_, _, hr, .inr ⟨g, off, cap, cs.set (off + ws.length) (.int .i64 x), by simp, hBg, set_row hh _ _, by simpa using h1, by simpa using hroom, fun i y hy => ?_⟩, ⟨rfl, rfl, rfl, by simp [World.setCells, World.setCell], fun k hk hne => ?_⟩⟩
      · by_cases hi' : i < ws.length
        · rw [List.getElem?_append_left hi'] at hy
          rw [List.getElem?_set_ne (by omega)]
          exact h3 i y hy
        · have hi2 : i = ws.length := by
            have := (List.getElem?_eq_some_iff.1 hy).1
            simp at this
            omega
          subst hi2
          simp at hy
          subst hy
          rw [List.getElem?_set_self hlt]
      · exact Below.heap_setCell w ⟨g, off + ws.length, none⟩ _ k (fun e => hne (by rw [e]; rfl))
    · obtain ⟨v', w', hr, ho, hg⟩ := run_append_arg_grows (P := Try.prog) w 24 ty 2 i0 _ 1 8 Try.underlying24 hi hz0 hz1 hz2 rfl (by decide) ⟨g, off, none⟩ ws.length cap (ints ws) (by simp) (fun j u hu => by
          rw [add_none]
          rw [List.getElem?_map] at hu
          obtain ⟨y, hy, rfl⟩ := Option.map_eq_some_iff.1 hu
          simp [World.cell?, hh, h3 j y hy]) a 1 1 [.int .i64 x] rfl hnews (by omega) (by unfold maxLen; omega) (by omega)
      exact ⟨v', w', hr, qr_own (ws := ws ++ [x]) (own_base (by simpa using ho) hB), grown_any hg⟩

/-- The same as a law of the walk. -/
theorem wpList_append_q {w : World} {ops : Array Oper} {rest : List Oper} {o : Oper} {a : Act} {Q : Exit → Act → World → Prop} (hgd : o.guard = none) (s x : Operand)
    (ho : o.op = .call { callee := .builtin .append, args := #[s, x], argTypes := #[24, 24] })
    (B : Nat) (v : Value) (ws : List Int) (y : Int) (hs : a.eval s = v) (h : QR w B v ws) (ad : Addr) (hx : a.eval x = .slice (some ad) 1 1) (hnews : ∀ j u, [Value.int .i64 y][j]? = some u → w.cell? (ad.add j) = some u)
    (hn : ws.length ≤ 20) (hB : B ≤ w.heap.size)
    (hK : ∀ v' w', QR w' B v' (ws ++ [y]) → w.grownBy w' v.ownBlock → wpList Try.prog ops Q rest (a.put o.dst v') w') : wpList Try.prog ops Q (o :: rest) a w := by
  refine wpList_plain hgd fun K hK2 => ?_
  obtain ⟨v', w', hr, h2, h3⟩ := append_q w B o.type v ws y h ad hnews hn hB
  unfold Oper.wp
  simp [execOp, ho, resolve, invoke, builtin, hs, hx, hr, Result.andThen]
  exact hK2 _ _ (hK v' w' h2 h3)

/-- What the document's Play has at the head of its loop. -/
structure RpAt (n : Nat) (L : List Ml.Op) (w : World) (k : Nat) (v q : Value) (W : World) : Prop where
  le : k ≤ L.length
  own : W.ownsRow w.heap.size 30 2 v k (gotCells (Ml.upto n L k).1)
  row : QR W w.heap.size q (Ml.upto n L k).2
  below : Below w.heap.size w W

/-- The same behind a doing, ahead of its being noted. -/
structure RpMid (n : Nat) (L : List Ml.Op) (w : World) (k : Nat) (v q : Value) (W : World) : Prop where
  lt : k < L.length
  own : W.ownsRow w.heap.size 30 2 v k (gotCells (Ml.upto n L k).1)
  row : QR W w.heap.size q (Ml.upto n L (k + 1)).2
  below : Below w.heap.size w W

theorem RpAt.mid {n : Nat} {L : List Ml.Op} {w : World} {k : Nat} {v q q' : Value} {wr W : World} {o : Ml.Op} {ws' : List Int} (h : RpAt n L w k v q wr) (ho : L[k]? = some o) (hw : ws' = Ml.wds n (Ml.upto n L k).2 o) (hg : wr.grownBy W q.ownBlock) (hq : QR W w.heap.size q' ws') : RpMid n L w k v q' W := by
  refine ⟨(List.getElem?_eq_some_iff.1 ho).1, own_keep h.own (fun j hj => hg.block j (h.own.lt j hj).2 (fun e => ?_)), by rw [Ml.upto_next ho, ← hw]; exact hq, h.below.grown hg h.below.size (fun j hj => (h.row.lt j hj).1)⟩
  rcases h.own.2 with ⟨rfl, _⟩ | ⟨g', cap, cur, rfl, _, hh, _⟩
  · simp [Value.ownBlock] at hj
  · simp only [Value.ownBlock, Option.some.injEq] at hj
    subst hj
    exact h.row.ty hh (by decide) e.symm

theorem RpMid.next {n : Nat} {L : List Ml.Op} {w : World} {k : Nat} {v v' q : Value} {W w3 : World} {o : Ml.Op} {ob : Obj} {p : Bool} {x : Int} (h : RpMid n L w k v q W) (ho : L[k]? = some o) (hG : Ml.got n (Ml.upto n L k).2 o = ⟨p, x⟩) (hown : w3.ownsRow w.heap.size 30 2 v' (k + 1) (gotCells (Ml.upto n L k).1 ++ [.bool p, .int .i64 x])) (hg : (W.alloc ob).grownBy w3 v.ownBlock) : RpAt n L w (k + 1) v' q w3 := by
  have hz := h.below.size
  have hzz := hg.size
  simp at hzz
  have blk : ∀ k, k < W.heap.size → v.ownBlock ≠ some k → w3.heap[k]? = W.heap[k]? := fun k hk h1 => (hg.block k (by simp; omega) (fun e => h1 e.symm)).trans (Below.heap_alloc _ _ _ hk)
  refine ⟨h.lt, ?_, h.row.keep (fun j hj => blk j (h.row.lt j hj).2 (fun e => ?_)), (h.below.alloc (by omega) _).grown hg (by simp; omega) (fun j hj => (h.own.lt j hj).1)⟩
  · rw [Ml.upto_next ho, gotCells_app, hG]
    exact hown
  · rcases h.own.2 with ⟨rfl, _⟩ | ⟨g', cap, cur, rfl, _, hh, _⟩
    · simp [Value.ownBlock] at e
    · simp only [Value.ownBlock, Option.some.injEq] at e
      subst e
      exact h.row.ty hh (by decide) hj

end Go.Proofs.Ytbpebecfnbdckaa.Mb
