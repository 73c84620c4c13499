/- A row that grows in a struct's field while the reader goes on. -/
import Derived.Test.YtnfkfgpnojdfoaaIm15
namespace Go.Proofs.Ytnfkfgpnojdfoaa
open Go.RowKit

theorem Try.info3 : (Try.prog.info? 3).map (fun i => (i.zero, i.size, i.bytes)) = some (some (.int .i64 0), 1, 8) := by kernel_rfl
theorem Try.info54 : (Try.prog.info? 54).map (fun i => (i.zero, i.size, i.bytes)) = some (some (.agg #[.int .i64 0, .int .i64 0, .int .i64 0]), 3, 24) := by kernel_rfl
theorem Try.info48 : (Try.prog.info? 48).map (fun i => (i.zero, i.size, i.bytes)) = some (some (.agg #[.int .i64 0, .int .i64 0]), 2, 16) := by kernel_rfl
theorem Try.info52 : (Try.prog.info? 52).map (fun i => (i.zero, i.size, i.bytes)) = some (some (.agg #[.int .i64 0, .int .i64 0, .slice none 0 0, .int .i64 0, .int .i64 0, .slice none 0 0]), 6, 80) := by kernel_rfl

/-- An append to a row of one's own, as a step of a region that draws its order. -/
theorem step_append_own {P : Program} {ops : Array Oper} {o : Oper} {a : Act} {w : World} {K : Act → World → Prop} {Q : Exit → Act → World → Prop} {E : Prop} (hgd : o.guard = none) (s x : Operand) (t : TypeId)
    (ho : o.op = .call { callee := .builtin .append, args := #[s, x], argTypes := #[t, t] })
    (base : Nat) (e : TypeId) (i : TypeInfo) (z : Value) (size bytes : Nat) (ht : P.underlying t = some (.slice e)) (hi : P.info? e = some i) (hz : i.zero = some z)
    (hsize : i.size = size) (hby : i.bytes = bytes) (hzs : z.cells.size = size) (hsz : 0 < size)
    (v : Value) (n : Nat) (xs : List Value) (hs : a.eval s = v) (hown : w.ownsRow base e size v n xs)
    (ad : Addr) (m cap : Nat) (news : List Value) (hx : a.eval x = .slice (some ad) m cap) (hl : news.length = m * size) (hnews : ∀ j u, news[j]? = some u → w.cell? (ad.add j) = some u) (h1 : ∀ u ∈ news, u.oneCell' = true)
    (h63 : n + m ≤ maxLen) (hbytes : (n + m) * bytes ≤ 140737488355328) (hbase : base ≤ w.heap.size)
    (h : ∀ v' w', w'.ownsRow base e size v' (n + m) (xs ++ news) → w.grownBy w' v.ownBlock → K (a.put o.dst v') w') :
    if Region.wanted o (yielded ops a.tmps) = true then Oper.wp P o a w K Q else E := by
  have hw : Region.wanted o (yielded ops a.tmps) = true := by simp [Region.wanted, hgd]
  rw [if_pos hw]
  exact wp_append_own w s x t ho base e i z size bytes ht hi hz hsize hby hzs hsz v n xs hs hown ad m cap news hx hl hnews h1 h63 hbytes hbase (fun v' w' h2 h3 _ => h v' w' h2 h3)

/-- What holds at the head of such a loop. -/
structure FAt (R b D : Nat) (cs : List Value) (tD : TypeId) (fo : Nat) (e : TypeId) (sz : Nat) (wa : World) (k : Nat) (row : List Value) (lk : List Nat) (v : Value) (W : World) : Prop where
  kr : Kr2 R D wa W
  rd : RD W R b lk
  blk : W.heap[D]? = some (.cells (cs.set fo v).toArray tD (0, 0))
  own : W.ownsRow wa.heap.size e sz v k row

theorem FAt.cell {R b D : Nat} {cs : List Value} {tD : TypeId} {fo : Nat} {e : TypeId} {sz : Nat} {wa : World} {k : Nat} {row : List Value} {lk : List Nat} {v : Value} {W : World} (h : FAt R b D cs tD fo e sz wa k row lk v W) (hfo : fo < cs.length) (hDR : D ≠ R) {w1 : World} (hk : Kr R W w1) :
    w1.cell? ⟨D, fo, none⟩ = some v ∧ w1.frozen? ⟨D, fo, none⟩ = false := by
  have : w1.heap[D]? = some (.cells (cs.set fo v).toArray tD (0, 0)) := (hk.blk D (lt_of_block h.blk) hDR).trans h.blk
  constructor
  · simp [World.cell?, this, hfo]
  · simp [World.frozen?, this]

/-- The rows stay while the reader goes on. -/
theorem FAt.row {R b D : Nat} {cs : List Value} {tD : TypeId} {fo : Nat} {e : TypeId} {sz : Nat} {wa : World} {k : Nat} {row : List Value} {lk : List Nat} {v : Value} {W : World} (h : FAt R b D cs tD fo e sz wa k row lk v W) (hR : R < wa.heap.size) {w1 : World} (hk : Kr R W w1) : w1.ownsRow wa.heap.size e sz v k row :=
  own_keep h.own (fun j hj => hk.blk j (h.own.lt j hj).2 (by have := (h.own.lt j hj).1; omega))

/-- Behind a reading, an append, and its being stored. -/
theorem FAt.step {R b D : Nat} {cs : List Value} {tD : TypeId} {fo : Nat} {e : TypeId} {sz : Nat} {wa : World} {k : Nat} {row news : List Value} {lk l1 : List Nat} {v v' : Value} {W w1 w4 : World} {ob : Obj} (h : FAt R b D cs tD fo e sz wa k row lk v W) (hDR : D ≠ R) (hDb : D ≠ b) (hR : R < wa.heap.size) (hb : b < wa.heap.size) (he : tD ≠ e)
    (hk : Kr R W w1) (hrd : RD w1 R b l1) (hown : w4.ownsRow wa.heap.size e sz v' (k + 1) (row ++ news)) (hg : (w1.alloc ob).grownBy w4 v.ownBlock) : FAt R b D cs tD fo e sz wa (k + 1) (row ++ news) l1 v' (w4.setCell ⟨D, fo, none⟩ v') ∧ w4.cell? ⟨D, fo, none⟩ = w1.cell? ⟨D, fo, none⟩ ∧ w4.frozen? ⟨D, fo, none⟩ = false := by
  have hD1 : w1.heap[D]? = some (.cells (cs.set fo v).toArray tD (0, 0)) := (hk.blk D (lt_of_block h.blk) hDR).trans h.blk
  have hrow := h.row hR hk
  have hz := hg.size
  simp at hz
  have hs1 := h.kr.size
  have hs2 := hk.size
  have blk : ∀ j, j < w1.heap.size → v.ownBlock ≠ some j → w4.heap[j]? = w1.heap[j]? := fun j hj h1 => (hg.block j (by simp; omega) (fun e => h1 e.symm)).trans (Below.heap_alloc _ _ _ hj)
  have low : ∀ j, j < wa.heap.size → v.ownBlock ≠ some j := fun j hj e => by have := (hrow.lt j e).1; omega
  have hD4 : w4.heap[D]? = some (.cells (cs.set fo v).toArray tD (0, 0)) := (blk D (lt_of_block hD1) (own_ty hrow hD1 he)).trans hD1
  refine ⟨⟨⟨?_, ?_, ?_, ?_, fun j hj h1 h2 => ?_⟩, ?_, ?_, own_keep hown (fun j hj => Below.heap_setCell _ _ _ _ (fun e => ?_))⟩, ?_, ?_⟩
  · exact hg.os.trans (hk.os.trans h.kr.os)
  · exact hg.tape.trans (hk.tape.trans h.kr.tape)
  · exact hg.output.trans (hk.output.trans h.kr.output)
  · simp [World.setCell]; omega
  · rw [Below.heap_setCell _ ⟨D, fo, none⟩ _ _ h2, blk j (by omega) (low j hj), hk.blk j (by omega) h1]
    exact h.kr.blk j hj h1 h2
  · refine hrd.far ?_ ?_ (by simp [World.setCell]; omega)
    · rw [Below.heap_setCell _ ⟨D, fo, none⟩ _ _ (fun e => hDR e.symm)]
      exact blk R (by omega) (low R hR)
    · rw [Below.heap_setCell _ ⟨D, fo, none⟩ _ _ (fun e => hDb e.symm)]
      exact blk b (by omega) (low b hb)
  · have := set_rowR hD4 fo v'
    simpa using this
  · subst e
    exact own_ty hown hD4 he hj
  · exact cell_eq (hD4.trans hD1.symm) _
  · simp [World.frozen?, hD4]

theorem FAt.start {R b D : Nat} {cs : List Value} {tD : TypeId} {fo : Nat} (e : TypeId) (sz : Nat) {wa : World} {lk : List Nat} (hrd : RD wa R b lk) (hD : wa.heap[D]? = some (.cells cs.toArray tD (0, 0))) (hfo : cs[fo]? = some (.slice none 0 0)) : FAt R b D cs tD fo e sz wa 0 [] lk (.slice none 0 0) wa := by
  refine ⟨Kr2.refl _ _ _, hrd, ?_, World.ownsRow_nil _ _ _ _⟩
  rw [hD]
  congr 3
  obtain ⟨h1, h2⟩ := List.getElem?_eq_some_iff.1 hfo
  rw [← h2, List.set_getElem_self]

theorem one_newsI (W : World) (u : Value) (t : TypeId) (q : Nat) (hq : q = W.heap.size) : ∀ j u', [u][j]? = some u' → (W.alloc (.cells #[u] t)).cell? ((⟨q, 0, none⟩ : Addr).add j) = some u' := by
  subst hq; exact one_news W u t
theorem add_none (b off j : Nat) : (⟨b, off, none⟩ : Addr).add j = ⟨b, off + j, none⟩ := by unfold Addr.add; split <;> simp_all
theorem news_at (W : World) (cs : List Value) (t : TypeId) : ∀ j u', cs[j]? = some u' → (W.alloc (.cells cs.toArray t)).cell? ((⟨W.heap.size, 0, none⟩ : Addr).add j) = some u' := by
  intro j u' h
  have hn := heap_alloc_new W (.cells cs.toArray t)
  rw [add_none]
  unfold World.cell?
  rw [hn]
  simpa using h
theorem all_one {l : List Value} (h : l.all Value.oneCell' = true) : ∀ u ∈ l, u.oneCell' = true := fun u hu => List.all_eq_true.1 h u hu

abbrev intc (x : Int) : List Value := [.int .i64 x]
abbrev insc (x : Im.Ins) : List Value := [.int .i64 x.op, .int .i64 x.a, .int .i64 x.n]
abbrev boxc (x : Im.Bx) : List Value := [.int .i64 x.ty, .int .i64 x.cap]

end Go.Proofs.Ytnfkfgpnojdfoaa
