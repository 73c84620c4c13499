/- TWO PROGRAMS ARE ONE: what Read answers of two texts, one behind the other. -/
import Derived.Test.YtlnikpcoejpknaaDoorM42
import Derived.Test.YtlnikpcoejpknaaDoorM37
import Derived.Test.YtlnikpcoejpknaaDoorM2
import Derived.Laws.AppendOwnNone
namespace Go.Proofs.YtlnikpcoejpknaaDoor
open Go.RowKit

/-- What it means that a text is a program. -/
theorem readL_right {s : ByteArray} (h : (readL s).2.1 = 0) : (Lx.lexB s).2.1 = 0 ∧ ∃ q, Rp.program (Lx.lexB s).1 s.size = .ok (q, (readL s).1) ∧ (Sy.wrongL (readL s).1).1 = 0 := by
  unfold readL at h ⊢
  by_cases h0 : (Lx.lexB s).2.1 = 0
  · rw [if_neg (by simpa using h0)] at h ⊢
    refine ⟨h0, ?_⟩
    cases hp : Rp.program (Lx.lexB s).1 s.size with
    | error e => rw [hp] at h; exact absurd h (Rp.program_nz _ _ e hp)
    | ok x =>
      rw [hp] at h
      by_cases h1 : (Sy.wrongL x.2).1 = 0
      · simp only [h1, ne_eq, not_true_eq_false, if_false]
        exact ⟨x.1, rfl, trivial⟩
      · simp only [ne_eq, h1, not_false_eq_true, if_true] at h
  · rw [if_pos h0] at h
    simp only at h
    omega

theorem readL_join {s t u : ByteArray} (hu : u.data.toList = s.data.toList ++ 10 :: t.data.toList) (hs : (readL s).2.1 = 0) (ht : (readL t).2.1 = 0) :
    ((readL u).2.1 = 0 ∧ (readL u).1 = (readL s).1 ++ (readL t).1) ∨ (readL u).2.1 = 4 ∨ (readL u).2.1 = 5 := by
  obtain ⟨s0, q1, s1, s2⟩ := readL_right hs
  obtain ⟨t0, q2, t1, t2⟩ := readL_right ht
  generalize (readL s).1 = a at *
  generalize (readL t).1 = b at *
  by_cases hm : u.size ≤ 6000
  · obtain ⟨u0, u1⟩ := Lx.lexB_join hu hm s0 t0
    unfold readL
    rw [if_neg (by simpa using u0), u1]
    rcases Rp.program_join (shift_lk (s.size + 1)) (e := u.size) s1 t1 with ⟨q, h⟩ | ⟨at', h⟩
    · rw [h]
      simp only
      rcases Sy.wrongL_join s2 t2 with e | e | e
      · refine .inl ?_
        simp only [e, ne_eq, not_true_eq_false, if_false]
        exact ⟨trivial, trivial⟩
      · refine .inr (.inl ?_)
        simp [e]
      · refine .inr (.inr ?_)
        simp [e]
    · rw [h]
      exact .inr (.inr rfl)
  · refine .inr (.inl ?_)
    have e : (Lx.lexB u).2.1 = 4 := by
      unfold Lx.lexB
      rw [if_pos (by omega)]
    unfold readL
    rw [if_pos (by omega), e]
    rfl

end Go.Proofs.YtlnikpcoejpknaaDoor

/- Rows of definitions: appended, one behind the other. -/
namespace Go.Proofs.YtlnikpcoejpknaaDoor
open Go.RowKit

theorem Tryd.infodefx : (Tryd.prog.info? 47).map (fun i => (i.zero, i.size, i.bytes)) = some (some (.agg #[.int .i64 0, .string ⟨#[]⟩, .int .i64 0, .string ⟨#[]⟩, .int .i64 0, .string ⟨#[]⟩, .int .i64 0, .slice none 0 0, .slice none 0 0]), 9, 128) := by kernel_rfl

section
variable {P : Program} {w : World}
theorem jn_append_nothing (base : Nat) (t ty e : TypeId) (i : TypeInfo) (size : Nat) (ht : P.underlying t = some (.slice e)) (hi : P.info? e = some i) (v : Value) (n : Nat) (xs : List Value) (hown : w.ownsRow base e size v n xs) (c : Nat) :
    (Builtin.append_ #[t, t] ty #[v, .slice none 0 c]).run P w = .ok v w := by
  rcases hown.2 with ⟨rfl, rfl⟩ | ⟨g, cap, cur, rfl, _, _, hnc, _⟩
  · simp [Builtin.append_, run_underlying ht, sizeOf, typeInfo, hi, Builtin.lenOf, Builtin.firstCells]
  · simp [Builtin.append_, run_underlying ht, sizeOf, typeInfo, hi, Builtin.lenOf, Builtin.firstCells, hnc, storeCells]
/-- Appended: what may be nothing. -/
theorem jn_append_src {ops : Array Oper} {rest : List Oper} {o : Oper} {a : Act} {Q : Exit → Act → World → Prop} (hgd : o.guard = none) (s x : Operand) (t : TypeId)
    (ho : o.op = .call { callee := .builtin .append, args := #[s, x], argTypes := #[t, t] })
    (base : Nat) (e : TypeId) (i : TypeInfo) (z : Value) (size bytes : Nat) (ht : P.underlying t = some (.slice e)) (hi : P.info? e = some i) (hz : i.zero = some z)
    (hsize : i.size = size) (hby : i.bytes = bytes) (hzs : z.cells.size = size) (hsz : 0 < size)
    (v : Value) (n : Nat) (xs : List Value) (hs : a.eval s = v) (hown : w.ownsRow base e size v n xs)
    (ao : Option Addr) (m c : Nat) (news : List Value) (hx : a.eval x = .slice ao m c) (hno : ao = none → m = 0) (hl : news.length = m * size) (hnews : ∀ ad, ao = some ad → ∀ j u, news[j]? = some u → w.cell? (ad.add j) = some u) (h1 : ∀ u ∈ news, u.oneCell' = true)
    (h63 : n + m ≤ maxLen) (hbytes : (n + m) * bytes ≤ 140737488355328) (hbase : base ≤ w.heap.size)
    (h : ∀ v' w', w'.ownsRow base e size v' (n + m) (xs ++ news) → w.grownBy w' v.ownBlock → wpList P ops Q rest (a.put o.dst v') w') : wpList P ops Q (o :: rest) a w := by
  cases ao with
  | none =>
    obtain rfl := hno rfl
    obtain rfl : news = [] := List.eq_nil_of_length_eq_zero (by simpa using hl)
    refine wpList_plain hgd fun K hK => ?_
    have hrun := jn_append_nothing (P := P) (w := w) base t o.type e i size ht hi v n xs hown c
    unfold Oper.wp
    simp [execOp, ho, resolve, invoke, builtin, hs, hx, hrun, Result.andThen]
    exact hK _ _ (h v w (by simpa using hown) (World.grownBy.refl _ _))
  | some ad => exact wpList_append_own w hgd s x t ho base e i z size bytes ht hi hz hsize hby hzs hsz v n xs hs hown ad m c news hx hl (hnews ad rfl) h1 h63 hbytes hbase (fun v' w' h2 h3 _ => h v' w' h2 h3)
theorem jn_block {w : World} {C : Nat} {e : TypeId} {size n : Nat} {v : Value} {xs : List Value} (h : w.ownsRow C e size v n xs) : ∀ j, v.ownBlock = some j → C ≤ j ∧ j < w.heap.size := by
  intro j hj
  rcases h.2 with ⟨rfl, _⟩ | ⟨g, cap, cur, rfl, h2, h3, h4⟩
  · cases hj
  · cases hj
    exact ⟨h2, lt_of_block h3⟩
theorem jn_row {w : World} {C : Nat} {e : TypeId} {size n : Nat} {v : Value} {xs : List Value} (h : w.ownsRow C e size v n xs) : ∃ ao cap, v = .slice ao n cap ∧ (ao = none → n = 0) ∧ ∀ ad, ao = some ad → ∃ g, ∃ cur : List Value, ad = ⟨g, 0, none⟩ ∧ C ≤ g ∧ w.heap[g]? = some (.cells (List.toArray cur) e (0, 0)) ∧ cur.take (n * size) = xs := by
  rcases h.2 with ⟨rfl, h0⟩ | ⟨g, cap, cur, rfl, hg, hh, h1, h2, h3, h4⟩
  · subst h0
    exact ⟨none, 0, rfl, fun _ => rfl, (fun ad e => by cases e)⟩
  · exact ⟨_, cap, rfl, (fun e => by cases e), (fun ad e => by cases e; exact ⟨g, cur.toList, rfl, hg, hh, h4⟩)⟩
end

theorem jn_len {α : Type} (f : α → List Value) (k : Nat) (hf : ∀ x, (f x).length = k) (l : List α) : (l.flatMap f).length = l.length * k := by
  induction l with
  | nil => simp
  | cons x l ih => rw [List.flatMap_cons, List.length_append, ih, hf, List.length_cons, Nat.succ_mul]; omega
theorem jn_at {α : Type} (f : α → List Value) (k : Nat) (hf : ∀ x, (f x).length = k) : ∀ (l : List α) (i : Nat) (x : α), l[i]? = some x → ∀ j, j < k → (l.flatMap f)[i * k + j]? = (f x)[j]?
  | y :: l, 0, x, h, j, hj => by
    simp at h
    subst h
    rw [List.flatMap_cons, List.getElem?_append_left (by rw [hf]; omega)]
    simp
  | y :: l, i + 1, x, h, j, hj => by
    have := jn_at f k hf l i x (by simpa using h) j hj
    rw [List.flatMap_cons, Nat.succ_mul, List.getElem?_append_right (by rw [hf]; omega), ← this]
    congr 1
    rw [hf]
    omega
theorem jn_mem {α : Type} (f : α → List Value) (k : Nat) (h0 : 0 < k) (hf : ∀ x, (f x).length = k) {l : List α} {j : Nat} {v : Value} (h : (l.flatMap f)[j]? = some v) : ∃ i j' x, j = i * k + j' ∧ j' < k ∧ l[i]? = some x ∧ (f x)[j']? = some v := by
  have hlt := (List.getElem?_eq_some_iff.1 h).1
  rw [jn_len f k hf] at hlt
  have hi : j / k < l.length := (Nat.div_lt_iff_lt_mul h0).2 hlt
  have hm := Nat.mod_lt j h0
  have hx := List.getElem?_eq_getElem hi
  have e : j = j / k * k + j % k := by rw [Nat.mul_comm]; exact (Nat.div_add_mod j k).symm
  refine ⟨j / k, j % k, l[j / k], e, hm, hx, ?_⟩
  rw [← jn_at f k hf l _ _ hx _ hm, ← e]
  exact h
theorem jn_add {b off j : Nat} : (⟨b, off, none⟩ : Addr).add j = ⟨b, off + j, none⟩ := by
  unfold Addr.add
  split
  · rename_i h0
    have h1 : j = 0 := h0
    rw [h1]
    rfl
  · rfl
theorem jn_cell {α : Type} {f : α → List Value} {k : Nat} {w : World} {g : Nat} {t : TypeId} {cur : List Value} {l : List α} (hf : ∀ x, (f x).length = k) (hb : w.heap[g]? = some (.cells (List.toArray cur) t (0, 0))) (ht : cur.take (l.length * k) = l.flatMap f) {i : Nat} {x : α} (hx : l[i]? = some x) {j : Nat} (hj : j < k) : w.cell? ⟨g, 0 + i * k + j, none⟩ = (f x)[j]? := by
  have hi := (List.getElem?_eq_some_iff.1 hx).1
  have hle : i * k + j < l.length * k := by
    have : (i + 1) * k ≤ l.length * k := Nat.mul_le_mul_right k hi
    rw [Nat.succ_mul] at this
    omega
  rw [← jn_at f k hf l i x hx j hj, ← ht, List.getElem?_take, if_pos hle]
  simp [World.cell?, hb]

/-- A definition, and where its rows lie. -/
structure DV where
  d : Sy.Df
  pa : Option Addr
  pc : Nat
  ba : Option Addr
  bc : Nat
abbrev dvC (x : DV) : List Value := [.int .i64 x.d.kind, .string x.d.name, .int .i64 x.d.ty.kind, .string x.d.ty.gen, .int .i64 x.d.takes.kind, .string x.d.takes.gen, .int .i64 x.d.cap, .slice x.pa x.d.params.length x.pc, .slice x.ba x.d.body.length x.bc]

/-- Definitions in memory, with where their rows lie. -/
structure DvsIn (B : Nat) (w : World) (vs : List DV) (a : Option Addr) : Prop where
  cells : ∀ ad, a = some ad → ∀ j v, (vs.flatMap dvC)[j]? = some v → w.cell? (ad.add j) = some v
  none : a = none → vs = []
  rows : ∀ x ∈ vs, DfIn B w x.d x.pa x.ba

theorem dvs_of {B : Nat} {w : World} {l : List Sy.Df} {a : Option Addr} (h : DfsIn B w l a) : ∃ vs : List DV, vs.map DV.d = l ∧ DvsIn B w vs a := by
  have key : ∀ i : Nat, ∃ x : DV, ∀ d, l[i]? = some d → x.d = d ∧ (∃ b off, a = some ⟨b, off, none⟩ ∧ ∀ j v, (dvC x)[j]? = some v → w.cell? ⟨b, off + i * 9 + j, none⟩ = some v) ∧ DfIn B w x.d x.pa x.ba := by
    intro i
    cases hd : l[i]? with
    | none => exact ⟨⟨⟨0, ⟨#[]⟩, ⟨0, ⟨#[]⟩⟩, ⟨0, ⟨#[]⟩⟩, 0, [], []⟩, .none, 0, .none, 0⟩, fun d e => by cases e⟩
    | some d =>
      obtain ⟨b, off, pa, pc, ba, bc, ha, hb, c0, c1, c2, c3, c4, c5, c6, c7, c8, hin⟩ := h.2 i d hd
      refine ⟨⟨d, pa, pc, ba, bc⟩, fun d' e => ?_⟩
      cases e
      refine ⟨rfl, ⟨b, off, ha, fun j v hv => ?_⟩, hin⟩
      have hj := (List.getElem?_eq_some_iff.1 hv).1
      simp only [List.length_cons, List.length_nil] at hj
      rcases (by omega : j = 0 ∨ j = 1 ∨ j = 2 ∨ j = 3 ∨ j = 4 ∨ j = 5 ∨ j = 6 ∨ j = 7 ∨ j = 8) with rfl | rfl | rfl | rfl | rfl | rfl | rfl | rfl | rfl
      · rw [← hv]; exact c0
      · rw [← hv]; exact c1
      · rw [← hv]; exact c2
      · rw [← hv]; exact c3
      · rw [← hv]; exact c4
      · rw [← hv]; exact c5
      · rw [← hv]; exact c6
      · rw [← hv]; exact c7
      · rw [← hv]; exact c8
  obtain ⟨f, hf⟩ := Classical.axiomOfChoice key
  have hat : ∀ i x, ((List.range l.length).map f)[i]? = some x → i < l.length ∧ x = f i := by
    intro i x hx
    rw [List.getElem?_map] at hx
    have hi : i < l.length := by
      by_cases hi : i < l.length
      · exact hi
      · rw [List.getElem?_eq_none (by simp; omega)] at hx; simp at hx
    rw [List.getElem?_range hi] at hx
    simp at hx
    exact ⟨hi, hx.symm⟩
  refine ⟨(List.range l.length).map f, ?_, ⟨fun ad ha j v hv => ?_, fun ha => ?_, fun x hx => ?_⟩⟩
  · apply List.ext_getElem?
    intro i
    rw [List.map_map, List.getElem?_map]
    by_cases hi : i < l.length
    · rw [List.getElem?_range hi]
      obtain ⟨d, hd⟩ : ∃ d, l[i]? = some d := ⟨_, List.getElem?_eq_getElem hi⟩
      rw [hd]
      simp only [Option.map_some, Function.comp]
      rw [(hf i d hd).1]
    · rw [List.getElem?_eq_none (by simp; omega), List.getElem?_eq_none (by omega)]
      rfl
  · obtain ⟨i, j', x, rfl, hj, hx, hv'⟩ := jn_mem dvC 9 (by decide) (fun _ => rfl) hv
    obtain ⟨hi, rfl⟩ := hat i x hx
    obtain ⟨d, hd⟩ : ∃ d, l[i]? = some d := ⟨_, List.getElem?_eq_getElem hi⟩
    obtain ⟨_, ⟨b, off, e, hc⟩, _⟩ := hf i d hd
    rw [ha] at e
    cases e
    rw [jn_add, ← Nat.add_assoc]
    exact hc j' v hv'
  · cases l with
    | nil => rfl
    | cons d l =>
      obtain ⟨_, ⟨b, off, e, hc⟩, _⟩ := hf 0 d rfl
      rw [ha] at e
      cases e
  · obtain ⟨i, hi, rfl⟩ := List.mem_map.1 hx
    have hi' := List.mem_range.1 hi
    obtain ⟨d, hd⟩ : ∃ d, l[i]? = some d := ⟨_, List.getElem?_eq_getElem hi'⟩
    exact (hf i d hd).2.2

theorem dvs_one (vs : List DV) : ∀ v ∈ vs.flatMap dvC, v.oneCell' = true := by
  intro v hv
  obtain ⟨x, _, hx⟩ := List.mem_flatMap.1 hv
  simp at hx
  rcases hx with rfl | rfl | rfl | rfl | rfl | rfl | rfl | rfl | rfl <;> rfl

/-- Definitions in a row of one's own. -/
theorem defs_row {B : Nat} {w : World} {vs : List DV} {ao : Option Addr} (hn : vs.length ≤ maxLen) (hno : ao = none → vs.length = 0) (hr : ∀ ad, ao = some ad → ∃ g, ∃ cur : List Value, ad = ⟨g, 0, none⟩ ∧ g < B ∧ w.heap[g]? = some (.cells (List.toArray cur) 47 (0, 0)) ∧ cur.take (vs.length * 9) = vs.flatMap dvC) (hd : ∀ x ∈ vs, DfIn B w x.d x.pa x.ba) : DfsIn B w (vs.map DV.d) ao := by
  refine ⟨by simpa using hn, fun i d hi => ?_⟩
  rw [List.getElem?_map] at hi
  cases hx : vs[i]? with
  | none => rw [hx] at hi; simp at hi
  | some x =>
    rw [hx] at hi
    simp at hi
    subst hi
    cases ao with
    | none =>
      have := hno rfl
      have := (List.getElem?_eq_some_iff.1 hx).1
      omega
    | some ad =>
      obtain ⟨g, cur, rfl, hg, hb, ht⟩ := hr ad rfl
      have c : ∀ j, j < 9 → _ := fun j hj => jn_cell (f := dvC) (k := 9) (fun _ => rfl) hb ht hx hj
      exact ⟨g, 0, x.pa, x.pc, x.ba, x.bc, rfl, hg, c 0 (by decide), c 1 (by decide), c 2 (by decide), c 3 (by decide), c 4 (by decide), c 5 (by decide), c 6 (by decide), c 7 (by decide), c 8 (by decide), hd x (List.mem_of_getElem? hx)⟩

end Go.Proofs.YtlnikpcoejpknaaDoor

