/- Rows of one's own, appended to. -/
import Derived.Test.YtbkimpimoclobaaM42
import Derived.Laws.AppendOwnNone
namespace Go.Proofs.Ytbkimpimoclobaa
open Go.RowKit

theorem Try.infoboxi : (Try.prog.info? 37).map (fun i => (i.zero, i.size, i.bytes)) = some (some (.agg #[.int .i64 0, .int .i64 0]), 2, 16) := by kernel_rfl
theorem Try.infoinstr : (Try.prog.info? 41).map (fun i => (i.zero, i.size, i.bytes)) = some (some (.agg #[.int .i64 0, .int .i64 0, .int .i64 0]), 3, 24) := by kernel_rfl

section
variable {P : Program} {w : World}
theorem run_append_nothing (base : Nat) (t ty e : TypeId) (i : TypeInfo) (size : Nat) (ht : P.underlying t = some (.slice e)) (hi : P.info? e = some i) (v : Value) (n : Nat) (xs : List Value) (hown : w.ownsRow base e size v n xs) (c : Nat) :
    (Builtin.append_ #[t, t] ty #[v, .slice none 0 c]).run P w = .ok v w := by
  rcases hown.2 with ⟨rfl, rfl⟩ | ⟨g, cap, cur, rfl, _, _, hnc, _⟩
  · simp [Builtin.append_, run_underlying ht, sizeOf, typeInfo, hi, Builtin.lenOf, Builtin.firstCells]
  · simp [Builtin.append_, run_underlying ht, sizeOf, typeInfo, hi, Builtin.lenOf, Builtin.firstCells, hnc, storeCells]
/-- Appended: what may be nothing. -/
theorem wpList_append_src {ops : Array Oper} {rest : List Oper} {o : Oper} {a : Act} {Q : Exit → Act → World → Prop} (hgd : o.guard = none) (s x : Operand) (t : TypeId)
    (ho : o.op = .call { callee := .builtin .append, args := #[s, x], argTypes := #[t, t] })
    (base : Nat) (e : TypeId) (i : TypeInfo) (z : Value) (size bytes : Nat) (ht : P.underlying t = some (.slice e)) (hi : P.info? e = some i) (hz : i.zero = some z)
    (hsize : i.size = size) (hby : i.bytes = bytes) (hzs : z.cells.size = size) (hsz : 0 < size)
    (v : Value) (n : Nat) (xs : List Value) (hs : a.eval s = v) (hown : w.ownsRow base e size v n xs)
    (ao : Option Addr) (m c : Nat) (news : List Value) (hx : a.eval x = .slice ao m c) (hno : ao = none → m = 0) (hl : news.length = m * size) (hnews : ∀ ad, ao = some ad → ∀ j u, news[j]? = some u → w.cell? (ad.add j) = some u) (h1 : ∀ u ∈ news, u.oneCell' = true)
    (h63 : n + m ≤ maxLen) (hbytes : (n + m) * bytes ≤ 140737488355328) (hbase : base ≤ w.heap.size)
    (h : ∀ v' w', w'.ownsRow base e size v' (n + m) (xs ++ news) → w.grownBy w' v.ownBlock → wpList P ops Q rest (a.put o.dst v') w') : wpList P ops Q (o :: rest) a w := by
  cases ao with
  | none =>
    obtain rfl := hno rfl
    obtain rfl : news = [] := List.eq_nil_of_length_eq_zero (by simpa using hl)
    refine wpList_plain hgd fun K hK => ?_
    have hrun := run_append_nothing (P := P) (w := w) base t o.type e i size ht hi v n xs hown c
    unfold Oper.wp
    simp [execOp, ho, resolve, invoke, builtin, hs, hx, hrun, Result.andThen]
    exact hK _ _ (h v w (by simpa using hown) (World.grownBy.refl _ _))
  | some ad => exact wpList_append_own w hgd s x t ho base e i z size bytes ht hi hz hsize hby hzs hsz v n xs hs hown ad m c news hx hl (hnews ad rfl) h1 h63 hbytes hbase (fun v' w' h2 h3 _ => h v' w' h2 h3)
theorem own_keep {w w' : World} {C : Nat} {e : TypeId} {size n : Nat} {v : Value} {xs : List Value} (h : w.ownsRow C e size v n xs) (hg : w.grownBy w' none) : w'.ownsRow C e size v n xs := by
  refine ⟨h.1, ?_⟩
  rcases h.2 with h1 | ⟨g, cap, cur, h1, h2, h3, h4⟩
  · exact .inl h1
  · exact .inr ⟨g, cap, cur, h1, h2, (hg.block _ (lt_of_block h3) (by simp)).trans h3, h4⟩
theorem own_block {w : World} {C : Nat} {e : TypeId} {size n : Nat} {v : Value} {xs : List Value} (h : w.ownsRow C e size v n xs) : ∀ j, v.ownBlock = some j → C ≤ j ∧ j < w.heap.size := by
  intro j hj
  rcases h.2 with ⟨rfl, _⟩ | ⟨g, cap, cur, rfl, h2, h3, h4⟩
  · cases hj
  · cases hj
    exact ⟨h2, lt_of_block h3⟩
theorem own_row {w : World} {C : Nat} {e : TypeId} {size n : Nat} {v : Value} {xs : List Value} (h : w.ownsRow C e size v n xs) (hn : 0 < n) : ∃ g cap, ∃ cur : List Value, v = .slice (some ⟨g, 0, none⟩) n cap ∧ C ≤ g ∧ n ≤ cap ∧ w.heap[g]? = some (.cells (List.toArray cur) e (0, 0)) ∧ cur.take (n * size) = xs ∧ n * size ≤ cur.length := by
  rcases h.2 with ⟨_, h0⟩ | ⟨g, cap, cur, rfl, hg, hh, h1, h2, h3, h4⟩
  · omega
  · exact ⟨g, cap, cur.toList, rfl, hg, h1, hh, h4, by simp; rw [h3]; exact Nat.mul_le_mul_right _ h1⟩
theorem grown0_any {a b c : World} {r : Option Nat} (h : a.grownBy b none) (k : b.grownBy c r) (hr : ∀ j, r = some j → a.heap.size ≤ j) : a.grownBy c none := h.andThen k (fun j e => .inl (hr j e))
end

theorem fm_len {α : Type} (f : α → List Value) (k : Nat) (hf : ∀ x, (f x).length = k) (l : List α) : (l.flatMap f).length = l.length * k := by
  induction l with
  | nil => simp
  | cons x l ih => rw [List.flatMap_cons, List.length_append, ih, hf, List.length_cons, Nat.succ_mul]; omega
theorem fm_at {α : Type} (f : α → List Value) (k : Nat) (hf : ∀ x, (f x).length = k) : ∀ (l : List α) (i : Nat) (x : α), l[i]? = some x → ∀ j, j < k → (l.flatMap f)[i * k + j]? = (f x)[j]?
  | y :: l, 0, x, h, j, hj => by
    simp at h
    subst h
    rw [List.flatMap_cons, List.getElem?_append_left (by rw [hf]; omega)]
    simp
  | y :: l, i + 1, x, h, j, hj => by
    have := fm_at f k hf l i x (by simpa using h) j hj
    rw [List.flatMap_cons, Nat.succ_mul, List.getElem?_append_right (by rw [hf]; omega), ← this]
    congr 1
    rw [hf]
    omega
theorem fm_mem {α : Type} (f : α → List Value) (k : Nat) (h0 : 0 < k) (hf : ∀ x, (f x).length = k) {l : List α} {j : Nat} {v : Value} (h : (l.flatMap f)[j]? = some v) : ∃ i j' x, j = i * k + j' ∧ j' < k ∧ l[i]? = some x ∧ (f x)[j']? = some v := by
  have hlt := (List.getElem?_eq_some_iff.1 h).1
  rw [fm_len f k hf] at hlt
  have hi : j / k < l.length := (Nat.div_lt_iff_lt_mul h0).2 hlt
  have hm := Nat.mod_lt j h0
  have hx := List.getElem?_eq_getElem hi
  have e : j = j / k * k + j % k := by rw [Nat.mul_comm]; exact (Nat.div_add_mod j k).symm
  refine ⟨j / k, j % k, l[j / k], e, hm, hx, ?_⟩
  rw [← fm_at f k hf l _ _ hx _ hm, ← e]
  exact h

abbrev bxC (b : Vf.Bx) : List Value := [.int .i64 b.ty, .int .i64 b.cap]
abbrev inC (c : Vf.Ins) : List Value := [.int .i64 c.op, .int .i64 c.a, .int .i64 c.n]
theorem add_at {b off j : Nat} : (⟨b, off, none⟩ : Addr).add j = ⟨b, off + j, none⟩ := by
  unfold Addr.add
  split
  · rename_i h0
    have h1 : j = 0 := h0
    rw [h1]
    rfl
  · rfl
theorem boxes_news {B : Nat} {w : World} {l : List Vf.Bx} {ab : Option Addr} (h : BoxesIn B w l ab) : ∀ ad, ab = some ad → ∀ j v, (l.flatMap bxC)[j]? = some v → w.cell? (ad.add j) = some v := by
  intro ad ha j v hv
  obtain ⟨i, j', x, rfl, hj, hx, hv'⟩ := fm_mem bxC 2 (by decide) (fun _ => rfl) hv
  obtain ⟨_, _, b, off, e, _, c0, c1⟩ := h i x hx
  rw [ha] at e
  cases e
  rw [add_at]
  rcases (by omega : j' = 0 ∨ j' = 1) with rfl | rfl
  · rw [show off + (i * 2 + 0) = off + i * 2 by omega, c0]; exact hv'
  · rw [show off + (i * 2 + 1) = off + i * 2 + 1 by omega, c1]; exact hv'
theorem code_news {B : Nat} {w : World} {l : List Vf.Ins} {b off : Nat} (h : CodeIn B w l (some ⟨b, off, none⟩)) : ∀ j v, (l.flatMap inC)[j]? = some v → w.cell? ((⟨b, off, none⟩ : Addr).add j) = some v := by
  intro j v hv
  obtain ⟨i, j', x, rfl, hj, hx, hv'⟩ := fm_mem inC 3 (by decide) (fun _ => rfl) hv
  obtain ⟨_, _, _, b', off', e, _, c0, c1, c2⟩ := h i x hx
  cases e
  rw [add_at]
  rcases (by omega : j' = 0 ∨ j' = 1 ∨ j' = 2) with rfl | rfl | rfl
  · rw [show off + (i * 3 + 0) = off + i * 3 by omega, c0]; exact hv'
  · rw [show off + (i * 3 + 1) = off + i * 3 + 1 by omega, c1]; exact hv'
  · rw [show off + (i * 3 + 2) = off + i * 3 + 2 by omega, c2]; exact hv'
theorem bx_one (l : List Vf.Bx) : ∀ v ∈ l.flatMap bxC, v.oneCell' = true := by
  intro v hv
  obtain ⟨x, _, hx⟩ := List.mem_flatMap.1 hv
  simp at hx
  rcases hx with rfl | rfl <;> rfl
theorem in_one (l : List Vf.Ins) : ∀ v ∈ l.flatMap inC, v.oneCell' = true := by
  intro v hv
  obtain ⟨x, _, hx⟩ := List.mem_flatMap.1 hv
  simp at hx
  rcases hx with rfl | rfl | rfl <;> rfl
theorem row_cell {α : Type} {f : α → List Value} {k : Nat} {w : World} {g : Nat} {t : TypeId} {cur : List Value} {l : List α} (hf : ∀ x, (f x).length = k) (hb : w.heap[g]? = some (.cells (List.toArray cur) t (0, 0))) (ht : cur.take (l.length * k) = l.flatMap f) {i : Nat} {x : α} (hx : l[i]? = some x) {j : Nat} (hj : j < k) : w.cell? ⟨g, 0 + i * k + j, none⟩ = (f x)[j]? := by
  have hi := (List.getElem?_eq_some_iff.1 hx).1
  have hle : i * k + j < l.length * k := by
    have : (i + 1) * k ≤ l.length * k := Nat.mul_le_mul_right k hi
    rw [Nat.succ_mul] at this
    omega
  rw [← fm_at f k hf l i x hx j hj, ← ht, List.getElem?_take, if_pos hle]
  simp [World.cell?, hb]
theorem boxes_row {w : World} {g : Nat} {cur : List Value} {l : List Vf.Bx} (hb : w.heap[g]? = some (.cells (List.toArray cur) 37 (0, 0))) (ht : cur.take (l.length * 2) = l.flatMap bxC) (hI : ∀ x ∈ l, I64 x.ty ∧ I64 x.cap) : BoxesIn w.heap.size w l (some ⟨g, 0, none⟩) := by
  intro i x hx
  have c : ∀ j, j < 2 → _ := fun j hj => row_cell (f := bxC) (k := 2) (fun _ => rfl) hb ht hx hj
  exact ⟨(hI x (List.mem_of_getElem? hx)).1, (hI x (List.mem_of_getElem? hx)).2, g, 0, rfl, lt_of_block hb, c 0 (by decide), c 1 (by decide)⟩
theorem code_row {w : World} {g : Nat} {cur : List Value} {l : List Vf.Ins} (hb : w.heap[g]? = some (.cells (List.toArray cur) 41 (0, 0))) (ht : cur.take (l.length * 3) = l.flatMap inC) (hI : ∀ x ∈ l, I64 x.op ∧ I64 x.a ∧ I64 x.n) : CodeIn w.heap.size w l (some ⟨g, 0, none⟩) := by
  intro i x hx
  have c : ∀ j, j < 3 → _ := fun j hj => row_cell (f := inC) (k := 3) (fun _ => rfl) hb ht hx hj
  have hm := hI x (List.mem_of_getElem? hx)
  exact ⟨hm.1, hm.2.1, hm.2.2, g, 0, rfl, lt_of_block hb, c 0 (by decide), c 1 (by decide), c 2 (by decide)⟩
end Go.Proofs.Ytbkimpimoclobaa

