/- An append to a row of the call's own: the new row is the old one, or lies in a new block. -/
import Derived.Test.YtlnikpcoejpknaaDoorM23
namespace Go.Proofs.YtlnikpcoejpknaaDoor
open Go.RowKit

theorem run_append_where {P : Program} (w : World) (base : Nat) (t ty e : TypeId) (i : TypeInfo) (z : Value) (size bytes : Nat) (ht : P.underlying t = some (.slice e)) (hi : P.info? e = some i) (hz : i.zero = some z)
    (hsize : i.size = size) (hby : i.bytes = bytes) (hzs : z.cells.size = size) (hsz : 0 < size)
    (v : Value) (n : Nat) (xs : List Value) (hown : w.ownsRow base e size v n xs)
    (a : Addr) (m c : Nat) (news : List Value) (hl : news.length = m * size) (hnews : ∀ j u, news[j]? = some u → w.cell? (a.add j) = some u) (h1 : ∀ u ∈ news, u.oneCell' = true)
    (h0 : 0 < m) (h63 : n + m ≤ maxLen) (hbytes : (n + m) * bytes ≤ 140737488355328) (hbase : base ≤ w.heap.size) :
    ∃ v' w', (Builtin.append_ #[t, t] ty #[v, .slice (some a) m c]).run P w = .ok v' w' ∧ w'.ownsRow base e size v' (n + m) (xs ++ news) ∧ w.grownBy w' v.ownBlock ∧
      ∃ g cap, v' = .slice (some ⟨g, 0, none⟩) (n + m) cap ∧ (v.ownBlock = some g ∨ g = w.heap.size) := by
  obtain ⟨v', w', hr, h2, h3, _⟩ := run_append_own (P := P) w base t ty e i z size bytes ht hi hz hsize hby hzs hsz v n xs hown a m c news hl hnews h1 h63 hbytes hbase
  refine ⟨v', w', hr, h2, h3, ?_⟩
  have hsmall : n + m ≤ 9223372036854775807 := by simp only [maxLen] at h63; omega
  subst hsize
  subst hby
  rcases hown.2 with ⟨rfl, rfl⟩ | ⟨g, cap, cur, rfl, hbg, hg, hnc, hcm, hcs, htake⟩
  · have hq := run_append_nil (P := P) w t ty e i z ht hi hz a m c news hl hnews h0 (by omega) (by have hb := hbytes; simp only [Nat.zero_add] at hb; omega)
    rw [hr] at hq
    injection hq with e1 e2
    exact ⟨w.heap.size, _, by rw [e1, Nat.zero_add], .inr rfl⟩
  · by_cases hroom : n + m ≤ cap
    · have hfit : n * i.size + news.length ≤ cur.size := by rw [hl, hcs, ← Nat.add_mul]; exact Nat.mul_le_mul_right _ hroom
      have hq := run_append_room (P := P) w t ty e i ht hi g n cap cur hg a m c news hl hnews h1 hroom hfit
      rw [hr] at hq
      injection hq with e1 e2
      exact ⟨g, cap, e1, .inl rfl⟩
    · have hq := run_append_grow (P := P) w t ty e i z ht hi hz ⟨g, 0, none⟩ n cap xs hown.1 (hown.cells (g := g) rfl) a m c news hl hnews (by omega) (by omega) (growslice_fits (by omega) hbytes)
      rw [hr] at hq
      injection hq with e1 e2
      exact ⟨w.heap.size, _, e1, .inr rfl⟩

/-- The same as a law of the walk. -/
theorem wpList_append_where {P : Program} {w : World} {ops : Array Oper} {rest : List Oper} {o : Oper} {a : Act} {Q : Exit → Act → World → Prop} (hgd : o.guard = none) (s x : Operand) (t : TypeId)
    (ho : o.op = .call { callee := .builtin .append, args := #[s, x], argTypes := #[t, t] })
    (base : Nat) (e : TypeId) (i : TypeInfo) (z : Value) (size bytes : Nat) (ht : P.underlying t = some (.slice e)) (hi : P.info? e = some i) (hz : i.zero = some z)
    (hsize : i.size = size) (hby : i.bytes = bytes) (hzs : z.cells.size = size) (hsz : 0 < size)
    (v : Value) (n : Nat) (xs : List Value) (hs : a.eval s = v) (hown : w.ownsRow base e size v n xs)
    (ad : Addr) (m c : Nat) (news : List Value) (hx : a.eval x = .slice (some ad) m c) (hl : news.length = m * size) (hnews : ∀ j u, news[j]? = some u → w.cell? (ad.add j) = some u) (h1 : ∀ u ∈ news, u.oneCell' = true)
    (h0 : 0 < m) (h63 : n + m ≤ maxLen) (hbytes : (n + m) * bytes ≤ 140737488355328) (hbase : base ≤ w.heap.size)
    (h : ∀ g cap w', w'.ownsRow base e size (.slice (some ⟨g, 0, none⟩) (n + m) cap) (n + m) (xs ++ news) → w.grownBy w' v.ownBlock → (v.ownBlock = some g ∨ g = w.heap.size) → wpList P ops Q rest (a.put o.dst (.slice (some ⟨g, 0, none⟩) (n + m) cap)) w') : wpList P ops Q (o :: rest) a w := by
  refine wpList_plain hgd fun K hK => ?_
  obtain ⟨v', w', hr, h2, h3, g, cap, rfl, h4⟩ := run_append_where (P := P) w base t o.type e i z size bytes ht hi hz hsize hby hzs hsz v n xs hown ad m c news hl hnews h1 h0 h63 hbytes hbase
  unfold Oper.wp
  simp [execOp, ho, resolve, invoke, builtin, hs, hx, hr, Result.andThen]
  exact hK _ _ (h g cap w' h2 h3 h4)

end Go.Proofs.YtlnikpcoejpknaaDoor

/- A list's row of kids as it grows, in a box that two functions share. -/
namespace Go.Proofs.YtlnikpcoejpknaaDoor
open Go.RowKit

abbrev z4 : List Value := [.int .i64 0, .int .i64 0, .string ⟨#[]⟩, .slice none 0 0]
abbrev put4 (w : World) (g n : Nat) (it : Itm) : World := (((w.setCell ⟨g, n * 4, none⟩ (.int .i64 it.1.kind)).setCell ⟨g, n * 4 + 1, none⟩ (.int .i64 it.1.n)).setCell ⟨g, n * 4 + 2, none⟩ (.string it.1.name)).setCell ⟨g, n * 4 + 3, none⟩ (.slice it.2.1 it.1.kids.length it.2.2)

theorem row_put {w : World} {B g cap : Nat} {its : List Itm} (h : w.ownsRow B 65 4 (.slice (some ⟨g, 0, none⟩) (its.length + 1) cap) (its.length + 1) (cells4 its ++ z4)) (it : Itm) :
    (put4 w g its.length it).ownsRow B 65 4 (.slice (some ⟨g, 0, none⟩) (its.length + 1) cap) (its.length + 1) (cells4 (its ++ [it])) := by
  have h4 := (((h.stored (its.length * 4) (.int .i64 it.1.kind)).1.stored (its.length * 4 + 1) (.int .i64 it.1.n)).1.stored (its.length * 4 + 2) (.string it.1.name)).1.stored (its.length * 4 + 3) (.slice it.2.1 it.1.kids.length it.2.2)
  have e : ((((cells4 its ++ z4).set (its.length * 4) (.int .i64 it.1.kind)).set (its.length * 4 + 1) (.int .i64 it.1.n)).set (its.length * 4 + 2) (.string it.1.name)).set (its.length * 4 + 3) (.slice it.2.1 it.1.kids.length it.2.2) = cells4 (its ++ [it]) := by
    rw [cells4_app]
    have hl := cells4_len its
    rw [List.set_append_right _ _ (by omega), List.set_append_right _ _ (by omega), List.set_append_right _ _ (by omega), List.set_append_right _ _ (by omega)]
    rw [hl]
    have e0 : its.length * 4 - its.length * 4 = 0 := by omega
    have e1 : its.length * 4 + 1 - its.length * 4 = 1 := by omega
    have e2 : its.length * 4 + 2 - its.length * 4 = 2 := by omega
    have e3 : its.length * 4 + 3 - its.length * 4 = 3 := by omega
    rw [e0, e1, e2, e3]
    rfl
  rw [← e]
  exact h4.1

abbrev rbO (R : Nat) : Obj := .cells #[.pointer (some ⟨R, 0, none⟩)] 105 (0, 0)
abbrev rowO (v : Value) : Obj := .cells #[v] 63 (0, 0)

/-- So far these kids are there: the reader's box at N, the row's box behind it, whatever else behind both. -/
structure KAt (E : Env) (N : Nat) (w : World) (its : List Itm) (v : Value) (h : Nat) : Prop where
  rb : w.heap[N]? = some (rbO E.R)
  ob : w.heap[N + 1]? = some (rowO v)
  row : w.ownsRow (N + 2) 65 4 v its.length (cells4 its)
  kids : ∀ it ∈ its, ExQ (fun b => N + 2 ≤ b ∧ b < w.heap.size ∧ v.ownBlock ≠ some b) w h it.1 it.2.1
def KSt (E : Env) (N : Nat) (w : World) (out : List Sy.Ex) : Prop := ∃ its v h, its.map (·.1) = out ∧ KAt E N w its v h

theorem KAt.kept {E : Env} {N : Nat} {w w' : World} {its : List Itm} {v : Value} {h : Nat} (k : KAt E N w its v h) (hg : w.grownBy w' (some E.R)) (hR : E.R < N) : KAt E N w' its v h :=
  ⟨(hg.block N (lt_of_block k.rb) (by simp; omega)).trans k.rb, (hg.block (N + 1) (lt_of_block k.ob) (by simp; omega)).trans k.ob,
   k.row.kept hg (by
    cases hv : v.ownBlock with
    | none => exact .inl rfl
    | some g => right; have := k.row.lt g hv; simp; omega),
   fun it hit => (k.kids it hit).keep (fun b hb => ⟨⟨hb.1, by have := hg.size; omega, hb.2.2⟩, hg.block b hb.2.1 (by simp; omega)⟩)⟩
theorem KSt.kept {E : Env} {N : Nat} {w w' : World} {out : List Sy.Ex} (k : KSt E N w out) (hg : w.grownBy w' (some E.R)) (hR : E.R < N) : KSt E N w' out := by
  obtain ⟨its, v, h, e, k⟩ := k
  exact ⟨its, v, h, e, k.kept hg hR⟩

theorem put4_far {w : World} {g n k : Nat} {it : Itm} (hk : k ≠ g) : (put4 w g n it).heap[k]? = w.heap[k]? := by
  unfold put4
  rw [Below.heap_setCell _ _ _ _ hk, Below.heap_setCell _ _ _ _ hk, Below.heap_setCell _ _ _ _ hk, Below.heap_setCell _ _ _ _ hk]
theorem put4_meta {w : World} {g n : Nat} {it : Itm} : (put4 w g n it).os = w.os ∧ (put4 w g n it).tape = w.tape ∧ (put4 w g n it).output = w.output := ⟨rfl, rfl, rfl⟩
theorem set_meta {w : World} {a : Addr} {u : Value} : (w.setCell a u).os = w.os ∧ (w.setCell a u).tape = w.tape ∧ (w.setCell a u).output = w.output := ⟨rfl, rfl, rfl⟩
theorem put4_size {w : World} {g n : Nat} {it : Itm} : (put4 w g n it).heap.size = w.heap.size := by simp only [put4, World.setCell_size]

/-- Only a cell's block has changed. -/
theorem grown_cell (w : World) (a : Addr) (u : Value) : w.grownBy (w.setCell a u) (some a.block) :=
  ⟨rfl, rfl, rfl, Nat.le_of_eq (World.setCell_size w a u).symm, fun b _ hb => Below.heap_setCell _ _ _ _ (fun e => hb (by rw [e]))⟩

set_option maxHeartbeats 1000000 in
/-- One kid more: behind the append the kid is stored, and the row. -/
theorem KAt.more {E : Env} {w0 w w4 w5 : World} {N M : Nat} {its : List Itm} {v : Value} {h hx g cap : Nat} {it : Itm} (k : KAt E N w its v h) (hM : ∀ b, v.ownBlock = some b → b < M) (hx2 : ExQ (fun b => M ≤ b ∧ b < w.heap.size) w hx it.1 it.2.1) (hMN : N + 2 ≤ M) (hNw : w0.heap.size ≤ N) (hRN : E.R < N)
    (hg0 : w0.grownBy w (some E.R)) (hown : w4.ownsRow (N + 2) 65 4 (.slice (some ⟨g, 0, none⟩) (its.length + 1) cap) (its.length + 1) (cells4 its ++ z4)) (hg : w.grownBy w4 v.ownBlock) (hw : v.ownBlock = some g ∨ g = w.heap.size)
    (h5 : w5 = (put4 w4 g its.length it).setCell ⟨N + 1, 0, none⟩ (.slice (some ⟨g, 0, none⟩) (its.length + 1) cap) ∨ w5 = put4 (w4.setCell ⟨N + 1, 0, none⟩ (.slice (some ⟨g, 0, none⟩) (its.length + 1) cap)) g its.length it) :
    KAt E N w5 (its ++ [it]) (.slice (some ⟨g, 0, none⟩) (its.length + 1) cap) (max h hx) ∧ w0.grownBy w5 (some E.R) ∧ w5.heap[E.R]? = w.heap[E.R]? ∧ (∀ b, b < w.heap.size → v.ownBlock ≠ some b → b ≠ N + 1 → w5.heap[b]? = w.heap[b]?) := by
  have hgl := hown.lt g rfl
  have hvb : ∀ b, v.ownBlock = some b → N + 2 ≤ b ∧ b < w.heap.size := fun b hb => k.row.lt b hb
  have hs4 := hg.size
  have hN1 : N + 1 < w.heap.size := lt_of_block k.ob
  have hgN : N + 1 ≠ g := by omega
  have hsz : w5.heap.size = w4.heap.size := by rcases h5 with rfl | rfl <;> simp only [World.setCell_size]
  have far : ∀ b, b ≠ g → b ≠ N + 1 → w5.heap[b]? = w4.heap[b]? := by
    intro b h1 h2
    rcases h5 with rfl | rfl
    · rw [Below.heap_setCell _ _ _ _ h2, put4_far h1]
    · rw [put4_far h1, Below.heap_setCell _ _ _ _ h2]
  have hgne : ∀ b, b < w.heap.size → v.ownBlock ≠ some b → b ≠ g := by
    intro b h1 h2 e
    rcases hw with hw | hw
    · exact h2 (e ▸ hw)
    · omega
  have hgnx : ∀ b, M ≤ b → b < w.heap.size → b ≠ g := by
    intro b h1 h2 e
    rcases hw with hw | hw
    · have := hM g hw; omega
    · omega
  have blk : ∀ b, b < w.heap.size → v.ownBlock ≠ some b → b ≠ N + 1 → w5.heap[b]? = w.heap[b]? := by
    intro b h1 h2 h3
    rw [far b (hgne b h1 h2) h3]
    exact hg.block b h1 (fun e => h2 e.symm)
  have hmeta : w5.os = w4.os ∧ w5.tape = w4.tape ∧ w5.output = w4.output := by
    rcases h5 with rfl | rfl
    · exact ⟨set_meta.1.trans put4_meta.1, set_meta.2.1.trans put4_meta.2.1, set_meta.2.2.trans put4_meta.2.2⟩
    · exact ⟨put4_meta.1.trans set_meta.1, put4_meta.2.1.trans set_meta.2.1, put4_meta.2.2.trans set_meta.2.2⟩
  have hlen : (its ++ [it]).length = its.length + 1 := by simp
  have ob4 : w4.heap[N + 1]? = some (rowO v) := (hg.block (N + 1) hN1 (fun e => by have := hvb _ e.symm; omega)).trans k.ob
  have hrow : w5.ownsRow (N + 2) 65 4 (.slice (some ⟨g, 0, none⟩) (its.length + 1) cap) (its.length + 1) (cells4 (its ++ [it])) := by
    rcases h5 with rfl | rfl
    · refine (row_put hown it).kept (grown_cell _ _ _) (.inr (by simp [Value.ownBlock]; omega))
    · refine row_put (hown.kept (grown_cell _ _ _) (.inr (by simp [Value.ownBlock]; omega))) it
  have hob : w5.heap[N + 1]? = some (rowO (.slice (some ⟨g, 0, none⟩) (its.length + 1) cap)) := by
    have one : ∀ u : World, u.heap[N + 1]? = some (rowO v) → (u.setCell ⟨N + 1, 0, none⟩ (.slice (some ⟨g, 0, none⟩) (its.length + 1) cap)).heap[N + 1]? = some (rowO (.slice (some ⟨g, 0, none⟩) (its.length + 1) cap)) := by
      intro u hu
      simp only [World.setCell, Array.getElem?_modify, if_true, hu, Option.map_some]
      rfl
    rcases h5 with rfl | rfl
    · exact one _ ((put4_far hgN).trans ob4)
    · exact (put4_far hgN).trans (one _ ob4)
  refine ⟨⟨(blk N (by omega) (fun e => by have := hvb _ e; omega) (by omega)).trans k.rb, hob, by rw [hlen]; exact hrow, ?_⟩, ?_, blk E.R (by omega) (fun e => by have := hvb _ e; omega) (by omega), blk⟩
  · intro i hi
    rcases List.mem_append.1 hi with hi | hi
    · exact ((k.kids i hi).keep (fun b hb => ⟨⟨hb.1, by omega, by simp only [Value.ownBlock, ne_eq, Option.some.injEq]; exact fun e => hgne b hb.2.1 hb.2.2 e.symm⟩, blk b hb.2.1 hb.2.2 (by omega)⟩)).up (by omega)
    · simp only [List.mem_cons, List.not_mem_nil, or_false] at hi
      subst hi
      exact (hx2.keep (fun b hb => ⟨⟨by omega, by omega, by simp only [Value.ownBlock, ne_eq, Option.some.injEq]; exact fun e => hgnx b hb.1 hb.2 e.symm⟩, blk b hb.2 (fun e => by have := hM b e; omega) (by omega)⟩)).up (by omega)
  · exact ⟨hmeta.1.trans (hg.os.trans hg0.os), hmeta.2.1.trans (hg.tape.trans hg0.tape), hmeta.2.2.trans (hg.output.trans hg0.output), by have := hg0.size; omega, fun b hb hn => (blk b (by have := hg0.size; omega) (fun e => by have := hvb _ e; omega) (by omega)).trans (hg0.block b hb hn)⟩

end Go.Proofs.YtlnikpcoejpknaaDoor

