/- Rows of one's own, appended to. -/
import Derived.Test.YtlbihbfgglnfnaaGreatM22
import Derived.Laws.AppendOwnNone
set_option maxHeartbeats 1000000
namespace Go.Proofs.YtlbihbfgglnfnaaGreat
open Go.RowKit
theorem Tryz.infoboxi : (Tryz.prog.info? 49).map (fun i => (i.zero, i.size, i.bytes)) = some (some (.agg #[.int .i64 0, .int .i64 0]), 2, 16) := by kernel_rfl
theorem Tryz.infoinstr : (Tryz.prog.info? 42).map (fun i => (i.zero, i.size, i.bytes)) = some (some (.agg #[.int .i64 0, .int .i64 0, .int .i64 0]), 3, 24) := by kernel_rfl
section
variable {P : Program} {w : World}
theorem run_append_nothing (base : Nat) (t ty e : TypeId) (i : TypeInfo) (size : Nat) (ht : P.underlying t = some (.slice e)) (hi : P.info? e = some i) (v : Value) (n : Nat) (xs : List Value) (hown : w.ownsRow base e size v n xs) (c : Nat) :
  (Builtin.append_ #[t, t] ty #[v, .slice none 0 c]).run P w = .ok v w := by
 rcases hown.2 with ⟨rfl, rfl⟩ | ⟨g, cap, cur, rfl, _, _, hnc, _⟩
 ·simp [Builtin.append_, run_underlying ht, sizeOf, typeInfo, hi, Builtin.lenOf, Builtin.firstCells]
 ·simp [Builtin.append_, run_underlying ht, sizeOf, typeInfo, hi, Builtin.lenOf, Builtin.firstCells, hnc, storeCells]
theorem wpList_append_src {ops : Array Oper} {rest : List Oper} {o : Oper} {a : Act} {Q : Exit → Act → World → Prop} (hgd : o.guard = none) (s x : Operand) (t : TypeId)
  (ho : o.op = .call { callee := .builtin .append, args := #[s, x], argTypes := #[t, t] })
  (base : Nat) (e : TypeId) (i : TypeInfo) (z : Value) (size bytes : Nat) (ht : P.underlying t = some (.slice e)) (hi : P.info? e = some i) (hz : i.zero = some z)
  (hsize : i.size = size) (hby : i.bytes = bytes) (hzs : z.cells.size = size) (hsz : 0 < size)
  (v : Value) (n : Nat) (xs : List Value) (hs : a.eval s = v) (hown : w.ownsRow base e size v n xs)
  (ao : Option Addr) (m c : Nat) (news : List Value) (hx : a.eval x = .slice ao m c) (hno : ao = none → m = 0) (hl : news.length = m * size) (hnews : ∀ ad, ao = some ad → ∀ j u, news[j]? = some u → w.cell? (ad.add j) = some u) (h1 : ∀ u ∈ news, u.oneCell' = true)
  (h63 : n + m ≤ maxLen) (hbytes : (n + m) * bytes ≤ 140737488355328) (hbase : base ≤ w.heap.size)
  (h : ∀ v' w', w'.ownsRow base e size v' (n + m) (xs ++ news) → w.grownBy w' v.ownBlock → wpList P ops Q rest (a.put o.dst v') w') : wpList P ops Q (o :: rest) a w := by
 cases ao with
 | none =>
  obtain rfl := hno rfl
  obtain rfl : news = [] := List.eq_nil_of_length_eq_zero (by simpa using hl)
  refine wpList_plain hgd fun K hK => ?_
  have hrun := run_append_nothing (P := P) (w := w) base t o.type e i size ht hi v n xs hown c
  unfold Oper.wp
  simp [execOp, ho, resolve, invoke, builtin, hs, hx, hrun, Result.andThen]
  exact hK _ _ (h v w (by simpa using hown) (World.grownBy.refl _ _))
 | some ad => exact wpList_append_own w hgd s x t ho base e i z size bytes ht hi hz hsize hby hzs hsz v n xs hs hown ad m c news hx hl (hnews ad rfl) h1 h63 hbytes hbase (fun v' w' h2 h3 _ => h v' w' h2 h3)
theorem own_keep {w w' : World} {C : Nat} {e : TypeId} {size n : Nat} {v : Value} {xs : List Value} (h : w.ownsRow C e size v n xs) (hg : w.grownBy w' none) : w'.ownsRow C e size v n xs := by
 refine ⟨h.1, ?_⟩
 rcases h.2 with h1 | ⟨g, cap, cur, h1, h2, h3, h4⟩
 ·exact .inl h1
 ·exact .inr ⟨g, cap, cur, h1, h2, (hg.block _ (lt_of_block h3) (by simp)).trans h3, h4⟩
end
theorem fm_len {α : Type} (f : α → List Value) (k : Nat) (hf : ∀ x, (f x).length = k) (l : List α) : (l.flatMap f).length = l.length * k := by
 induction l with
 | nil => simp
 | cons x l ih => rw [List.flatMap_cons, List.length_append, ih, hf, List.length_cons, Nat.succ_mul]; omega
theorem fm_at {α : Type} (f : α → List Value) (k : Nat) (hf : ∀ x, (f x).length = k) : ∀ (l : List α) (i : Nat) (x : α), l[i]? = some x → ∀ j, j < k → (l.flatMap f)[i * k + j]? = (f x)[j]?
 | y :: l, 0, x, h, j, hj => by
  simp at h
  subst h
  rw [List.flatMap_cons, List.getElem?_append_left (by rw [hf]; omega)]
  simp
 | y :: l, i + 1, x, h, j, hj => by
  have := fm_at f k hf l i x (by simpa using h) j hj
  rw [List.flatMap_cons, Nat.succ_mul, List.getElem?_append_right (by rw [hf]; omega), ← this]
  congr 1
  rw [hf]
  omega
theorem fm_mem {α : Type} (f : α → List Value) (k : Nat) (h0 : 0 < k) (hf : ∀ x, (f x).length = k) {l : List α} {j : Nat} {v : Value} (h : (l.flatMap f)[j]? = some v) : ∃ i j' x, j = i * k + j' ∧ j' < k ∧ l[i]? = some x ∧ (f x)[j']? = some v := by
 have hlt := (List.getElem?_eq_some_iff.1 h).1
 rw [fm_len f k hf] at hlt
 have hi : j / k < l.length := (Nat.div_lt_iff_lt_mul h0).2 hlt
 have hm := Nat.mod_lt j h0
 have hx := List.getElem?_eq_getElem hi
 have e : j = j / k * k + j % k := by rw [Nat.mul_comm]; exact (Nat.div_add_mod j k).symm
 refine ⟨j / k, j % k, l[j / k], e, hm, hx, ?_⟩
 rw [← fm_at f k hf l _ _ hx _ hm, ← e]
 exact h
abbrev bxC (b : Vf.Bx) : List Value := [.int .i64 b.ty, .int .i64 b.cap]
abbrev inC (c : Vf.Ins) : List Value := [.int .i64 c.op, .int .i64 c.a, .int .i64 c.n]
theorem add_at {b off j : Nat} : (⟨b, off, none⟩ : Addr).add j = ⟨b, off + j, none⟩ := by
 unfold Addr.add
 split
 ·rename_i h0
  have h1 : j = 0 := h0
  rw [h1]
  rfl
 ·rfl
theorem boxes_news {B : Nat} {w : World} {l : List Vf.Bx} {ab : Option Addr} (h : BoxesIn B w l ab) : ∀ ad, ab = some ad → ∀ j v, (l.flatMap bxC)[j]? = some v → w.cell? (ad.add j) = some v := by
 intro ad ha j v hv
 obtain ⟨i, j', x, rfl, hj, hx, hv'⟩ := fm_mem bxC 2 (by decide) (fun _ => rfl) hv
 obtain ⟨_, _, b, off, e, _, c0, c1⟩ := h i x hx
 rw [ha] at e
 cases e
 rw [add_at]
 rcases (by omega : j' = 0 ∨ j' = 1) with rfl | rfl
 ·rw [show off + (i * 2 + 0) = off + i * 2 by omega, c0]; exact hv'
 ·rw [show off + (i * 2 + 1) = off + i * 2 + 1 by omega, c1]; exact hv'
theorem code_news {B : Nat} {w : World} {l : List Vf.Ins} {b off : Nat} (h : CodeIn B w l (some ⟨b, off, none⟩)) : ∀ j v, (l.flatMap inC)[j]? = some v → w.cell? ((⟨b, off, none⟩ : Addr).add j) = some v := by
 intro j v hv
 obtain ⟨i, j', x, rfl, hj, hx, hv'⟩ := fm_mem inC 3 (by decide) (fun _ => rfl) hv
 obtain ⟨_, _, _, b', off', e, _, c0, c1, c2⟩ := h i x hx
 cases e
 rw [add_at]
 rcases (by omega : j' = 0 ∨ j' = 1 ∨ j' = 2) with rfl | rfl | rfl
 ·rw [show off + (i * 3 + 0) = off + i * 3 by omega, c0]; exact hv'
 ·rw [show off + (i * 3 + 1) = off + i * 3 + 1 by omega, c1]; exact hv'
 ·rw [show off + (i * 3 + 2) = off + i * 3 + 2 by omega, c2]; exact hv'
theorem bx_one (l : List Vf.Bx) : ∀ v ∈ l.flatMap bxC, v.oneCell' = true := by
 intro v hv
 obtain ⟨x, _, hx⟩ := List.mem_flatMap.1 hv
 simp at hx
 rcases hx with rfl | rfl <;> rfl
theorem in_one (l : List Vf.Ins) : ∀ v ∈ l.flatMap inC, v.oneCell' = true := by
 intro v hv
 obtain ⟨x, _, hx⟩ := List.mem_flatMap.1 hv
 simp at hx
 rcases hx with rfl | rfl | rfl <;> rfl
theorem row_cell {α : Type} {f : α → List Value} {k : Nat} {w : World} {g : Nat} {t : TypeId} {cur : List Value} {l : List α} (hf : ∀ x, (f x).length = k) (hb : w.heap[g]? = some (.cells (List.toArray cur) t (0, 0))) (ht : cur.take (l.length * k) = l.flatMap f) {i : Nat} {x : α} (hx : l[i]? = some x) {j : Nat} (hj : j < k) : w.cell? ⟨g, 0 + i * k + j, none⟩ = (f x)[j]? := by
 have hi := (List.getElem?_eq_some_iff.1 hx).1
 have hle : i * k + j < l.length * k := by
  have : (i + 1) * k ≤ l.length * k := Nat.mul_le_mul_right k hi
  rw [Nat.succ_mul] at this
  omega
 rw [← fm_at f k hf l i x hx j hj, ← ht, List.getElem?_take, if_pos hle]
 simp [World.cell?, hb]
theorem boxes_row {w : World} {g : Nat} {cur : List Value} {l : List Vf.Bx} (hb : w.heap[g]? = some (.cells (List.toArray cur) 49 (0, 0))) (ht : cur.take (l.length * 2) = l.flatMap bxC) (hI : ∀ x ∈ l, I64 x.ty ∧ I64 x.cap) : BoxesIn w.heap.size w l (some ⟨g, 0, none⟩) := by
 intro i x hx
 have c : ∀ j, j < 2 → _ := fun j hj => row_cell (f := bxC) (k := 2) (fun _ => rfl) hb ht hx hj
 exact ⟨(hI x (List.mem_of_getElem? hx)).1, (hI x (List.mem_of_getElem? hx)).2, g, 0, rfl, lt_of_block hb, c 0 (by decide), c 1 (by decide)⟩
theorem code_row {w : World} {g : Nat} {cur : List Value} {l : List Vf.Ins} (hb : w.heap[g]? = some (.cells (List.toArray cur) 42 (0, 0))) (ht : cur.take (l.length * 3) = l.flatMap inC) (hI : ∀ x ∈ l, I64 x.op ∧ I64 x.a ∧ I64 x.n) : CodeIn w.heap.size w l (some ⟨g, 0, none⟩) := by
 intro i x hx
 have c : ∀ j, j < 3 → _ := fun j hj => row_cell (f := inC) (k := 3) (fun _ => rfl) hb ht hx hj
 have hm := hI x (List.mem_of_getElem? hx)
 exact ⟨hm.1, hm.2.1, hm.2.2, g, 0, rfl, lt_of_block hb, c 0 (by decide), c 1 (by decide), c 2 (by decide)⟩
end Go.Proofs.YtlbihbfgglnfnaaGreat
namespace Go.Proofs.YtlbihbfgglnfnaaGreat.Ow
open Go.RowKit Vf Vm Ot
theorem info_partsO {P : Program} {e : TypeId} {z : Value} {s b : Nat} (h : (P.info? e).map (fun i => (i.zero, i.size, i.bytes)) = some (some z, s, b)) : ∃ i, P.info? e = some i ∧ i.zero = some z ∧ i.size = s ∧ i.bytes = b := by
 obtain ⟨i, hi, h⟩ := Option.map_eq_some_iff.1 h
 simp only [Prod.mk.injEq] at h
 exact ⟨i, hi, h.1, h.2.1, h.2.2⟩
theorem Tryz.infointO : (Tryz.prog.info? 3).map (fun i => (i.zero, i.size, i.bytes)) = some (some (.int .i64 0), 1, 8) := by kernel_rfl
theorem own_nil (w : World) (B : Nat) (e : TypeId) (size : Nat) : w.ownsRow B e size (.slice none 0 0) 0 [] := ⟨by simp, .inl ⟨rfl, rfl⟩⟩
theorem grown_none {w w' : World} (h : w.grownBy w' (Value.slice none 0 0).ownBlock) : Below w.heap.size w w' := ⟨h.os, h.tape, h.output, h.size, fun k hk => h.block k hk (by simp [Value.ownBlock])⟩
abbrev ints (l : List Int) : List Value := l.map (Value.int .i64)
theorem ints_news {B : Nat} {w : World} {l : List Int} {a : Option Addr} (h : IntsIn B w l a) : ∀ ad, a = some ad → ∀ j v, (ints l)[j]? = some v → w.cell? (ad.add j) = some v := by
 intro ad ha j v hv
 rw [List.getElem?_map] at hv
 obtain ⟨x, hx, rfl⟩ := Option.map_eq_some_iff.1 hv
 obtain ⟨_, b, off, e, _, c0⟩ := h j x hx
 rw [ha] at e
 cases e
 rw [add_at]
 exact c0
theorem ints_oneO (l : List Int) : ∀ v ∈ ints l, v.oneCell' = true := by
 intro v hv
 obtain ⟨x, _, rfl⟩ := List.mem_map.1 hv
 rfl
theorem none_ints {B : Nat} {w : World} {l : List Int} {a : Option Addr} (h : IntsIn B w l a) : a = none → l.length = 0 := fun e => by
 cases l with
 | nil => rfl
 | cons x l =>
  obtain ⟨_, b, off, e', _⟩ := h 0 x rfl
  rw [e] at e'
  cases e'
theorem none_boxes {B : Nat} {w : World} {l : List Bx} {a : Option Addr} (h : BoxesIn B w l a) : a = none → l.length = 0 := fun e => by
 cases l with
 | nil => rfl
 | cons x l =>
  obtain ⟨_, _, b, off, e', _⟩ := h 0 x rfl
  rw [e] at e'
  cases e'
theorem none_code {B : Nat} {w : World} {l : List Ins} {a : Option Addr} (h : CodeIn B w l a) : a = none → l.length = 0 := fun e => by
 cases l with
 | nil => rfl
 | cons x l =>
  obtain ⟨_, _, _, b, off, e', _⟩ := h 0 x rfl
  rw [e] at e'
  cases e'
theorem code_addr {B : Nat} {w : World} {l : List Ins} {ad : Addr} (h : CodeIn B w l (some ad)) (hl : 0 < l.length) : ∃ b off, ad = ⟨b, off, none⟩ := by
 obtain ⟨_, _, _, b, off, e, _⟩ := h 0 l[0] (List.getElem?_eq_getElem hl)
 cases e
 exact ⟨b, off, rfl⟩
theorem own_out {w : World} {B n size : Nat} {e : TypeId} {v : Value} {xs : List Value} (h : w.ownsRow B e size v n xs) : ∃ a' c', v = .slice a' n c' ∧ n ≤ c' ∧ (0 < n → ∃ g, ∃ cur : List Value, a' = some ⟨g, 0, none⟩ ∧ B ≤ g ∧ w.heap[g]? = some (.cells (List.toArray cur) e (0, 0)) ∧ cur.take (n * size) = xs ∧ cur.length = c' * size ∧ c' ≤ maxLen) := by
 rcases h.2 with ⟨rfl, rfl⟩ | ⟨g, cap, cur, rfl, hg, hh, h1, h2, h3, h4⟩
 ·exact ⟨none, 0, rfl, Nat.le_refl _, fun h => by omega⟩
 ·exact ⟨some ⟨g, 0, none⟩, cap, rfl, h1, fun _ => ⟨g, cur.toList, rfl, hg, hh, h4, by simpa using h3, h2⟩⟩
theorem ints_row {w : World} {g : Nat} {cur : List Value} {l : List Int} (hb : w.heap[g]? = some (.cells (List.toArray cur) 3 (0, 0))) (ht : cur.take (l.length * 1) = ints l) (hI : ∀ x ∈ l, I64 x) : IntsIn w.heap.size w l (some ⟨g, 0, none⟩) := by
 intro i x hx
 have hi := (List.getElem?_eq_some_iff.1 hx).1
 refine ⟨hI x (List.mem_of_getElem? hx), g, 0, rfl, lt_of_block hb, ?_⟩
 have : (cur.take (l.length * 1))[i]? = some (.int .i64 x) := by rw [ht]; simp [hx]
 rw [List.getElem?_take, if_pos (by omega)] at this
 simp [World.cell?, hb, this]
theorem ints_i64 {B : Nat} {w : World} {l : List Int} {a : Option Addr} (h : IntsIn B w l a) : ∀ x ∈ l, I64 x := fun x hx => by
 obtain ⟨i, hi⟩ := List.getElem?_of_mem hx
 exact (h i x hi).1
theorem boxes_i64 {B : Nat} {w : World} {l : List Bx} {a : Option Addr} (h : BoxesIn B w l a) : ∀ x ∈ l, I64 x.ty ∧ I64 x.cap := fun x hx => by
 obtain ⟨i, hi⟩ := List.getElem?_of_mem hx
 exact ⟨(h i x hi).1, (h i x hi).2.1⟩
def Rowed (w : World) (a : Option Addr) : Prop := ∀ ad, a = some ad → ∃ cs t, w.heap[ad.block]? = some (.cells cs t (0, 0)) ∧ (t = 3 ∨ t = 42)
theorem own_ty {w : World} {B n size c : Nat} {e : TypeId} {a : Option Addr} {xs : List Value} (h : w.ownsRow B e size (.slice a n c) n xs) : ∀ ad, a = some ad → ∃ cs, w.heap[ad.block]? = some (.cells cs e (0, 0)) := fun ad ha => by
 rcases h.2 with ⟨h1, _⟩ | ⟨g, cap, cur, h1, _, hh, _⟩
 ·cases h1; cases ha
 ·cases h1
  cases ha
  exact ⟨cur, hh⟩
theorem Rowed.on {w w' : World} {a : Option Addr} (h : Rowed w a) (hb : Below w.heap.size w w') : Rowed w' a := fun ad ha => by
 obtain ⟨cs, t, h1, h2⟩ := h ad ha
 exact ⟨cs, t, (hb.block _ (lt_of_block h1)).trans h1, h2⟩
theorem copied_ints (B : Nat) (l : List Int) (a : Option Addr) (c : Nat) (w : World) (h : Hid (IntsIn B w l a)) (hl : l.length ≤ 4000) :
  Calls Tryz.prog 10 #[.slice a l.length c] w fun e w' => ∃ a' c', e = .returned (.slice a' l.length c') ∧ l.length ≤ c' ∧ IntsIn w'.heap.size w' l a' ∧ Rowed w' a' ∧ Below w.heap.size w w' := by
 obtain ⟨i0, hi, hz0, hz1, hz2⟩ := info_partsO Tryz.infointO
 obtain ⟨n, hn⟩ : ∃ n, n = l.length := ⟨_, rfl⟩
 rw [← hn]
 have HN := hide hn
 have hn2 : n ≤ 4000 := by omega
 clear hn
 go_enter Tryz.func10, Tryz.ntmps10
 go_wp2_with (at_builtin; refine wpList_append_src rfl _ _ 34 rfl w.heap.size 3 i0 (.int .i64 0) 1 8 Tryz.underlying34 hi hz0 hz1 hz2 rfl (by decide) _ _ _ rfl (own_nil w _ _ _) a n c (ints l) rfl (fun e => by rw [HN.out]; exact none_ints h.out e) (by rw [HN.out]; simp) (ints_news h.out) (ints_oneO l) (by unfold maxLen; omega) (by omega) (Nat.le_refl _) ?_; intro v w' hown hgr)
 obtain ⟨a', c', hv, hc, hr⟩ := own_out hown
 rw [Nat.zero_add] at hv hc hr
 have HE : Hid (n ≤ c' ∧ IntsIn w'.heap.size w' l a' ∧ Rowed w' a' ∧ Below w.heap.size w w') := by
  refine ⟨hc, ?_, fun ad ha => ?_, grown_none hgr⟩
  rotate_left
  ·rw [hv, Nat.zero_add] at hown
   obtain ⟨cs, hcs⟩ := own_ty hown ad ha
   exact ⟨cs, _, hcs, .inl rfl⟩
  by_cases h0 : 0 < n
  ·obtain ⟨g, cur, rfl, _, hh, ht, _⟩ := hr h0
   exact ints_row hh (by rw [← HN.out]; simpa using ht) (ints_i64 h.out)
  ·have : l = [] := List.eq_nil_of_length_eq_zero (by rw [← HN.out]; omega)
   rw [this]
   exact fun i x hx => by simp at hx
 subst hv
 clear hown hgr hr hc
 go_ret
 exact ⟨_, _, rfl, HE.out⟩
theorem copied_boxes (B : Nat) (l : List Bx) (a : Option Addr) (c : Nat) (w : World) (h : Hid (BoxesIn B w l a)) (hl : l.length ≤ 4000) :
  Calls Tryz.prog 9 #[.slice a l.length c] w fun e w' => ∃ a' c', e = .returned (.slice a' l.length c') ∧ BoxesIn w'.heap.size w' l a' ∧ (∀ ad, a' = some ad → ∃ cs, w'.heap[ad.block]? = some (.cells cs 49 (0, 0))) ∧ Below w.heap.size w w' := by
 obtain ⟨i0, hi, hz0, hz1, hz2⟩ := info_partsO Tryz.infoboxi
 obtain ⟨n, hn⟩ : ∃ n, n = l.length := ⟨_, rfl⟩
 rw [← hn]
 have HN := hide hn
 have hn2 : n ≤ 4000 := by omega
 clear hn
 go_enter Tryz.func9, Tryz.ntmps9
 go_wp2_with (at_builtin; refine wpList_append_src rfl _ _ 22 rfl w.heap.size 49 i0 (.agg #[.int .i64 0, .int .i64 0]) 2 16 Tryz.underlying22 hi hz0 hz1 hz2 rfl (by decide) _ _ _ rfl (own_nil w _ _ _) a n c (l.flatMap bxC) rfl (fun e => by rw [HN.out]; exact none_boxes h.out e) (by rw [HN.out]; exact fm_len bxC 2 (fun _ => rfl) l) (boxes_news h.out) (bx_one l) (by unfold maxLen; omega) (by omega) (Nat.le_refl _) ?_; intro v w' hown hgr)
 obtain ⟨a', c', hv, hc, hr⟩ := own_out hown
 rw [Nat.zero_add] at hv hc hr
 have HE : Hid (BoxesIn w'.heap.size w' l a' ∧ (∀ ad, a' = some ad → ∃ cs, w'.heap[ad.block]? = some (.cells cs 49 (0, 0))) ∧ Below w.heap.size w w') := by
  refine ⟨?_, fun ad ha => ?_, grown_none hgr⟩
  rotate_left
  ·rw [hv, Nat.zero_add] at hown
   exact own_ty hown ad ha
  by_cases h0 : 0 < n
  ·obtain ⟨g, cur, rfl, _, hh, ht, _⟩ := hr h0
   exact boxes_row hh (by rw [← HN.out]; simpa using ht) (boxes_i64 h.out)
  ·have : l = [] := List.eq_nil_of_length_eq_zero (by rw [← HN.out]; omega)
   rw [this]
   exact fun i x hx => by simp at hx
 subst hv
 clear hown hgr hr hc
 go_ret
 exact ⟨_, _, rfl, HE.out⟩
theorem copied_code (B : Nat) (l : List Ins) (a : Option Addr) (c : Nat) (w : World) (h : Hid (CodeIn B w l a)) (hl0 : 0 < l.length) (hl : l.length ≤ 4000) :
  Calls Tryz.prog 44 #[.slice a l.length c] w fun e w' => ∃ g c', e = .returned (.slice (some ⟨g, 0, none⟩) l.length c') ∧ l.length ≤ c' ∧ c' ≤ 9223372036854775807 ∧ w.heap.size ≤ g ∧ CodeIn w'.heap.size w' l (some ⟨g, 0, none⟩) ∧ Blk w' g 42 (c' * 3) ∧ Below w.heap.size w w' := by
 obtain ⟨i0, hi, hz0, hz1, hz2⟩ := info_partsO Tryz.infoinstr
 obtain ⟨n, hn⟩ : ∃ n, n = l.length := ⟨_, rfl⟩
 rw [← hn]
 have HN := hide hn
 have hn2 : n ≤ 4000 := by omega
 have hn3 : 0 < n := by omega
 clear hn
 go_enter Tryz.func44, Tryz.ntmps44
 go_wp2_with (at_builtin; refine wpList_append_src rfl _ _ 43 rfl w.heap.size 42 i0 (.agg #[.int .i64 0, .int .i64 0, .int .i64 0]) 3 24 Tryz.underlying43 hi hz0 hz1 hz2 rfl (by decide) _ _ _ rfl (own_nil w _ _ _) a n c (l.flatMap inC) rfl (fun e => by rw [HN.out]; exact none_code h.out e) (by rw [HN.out]; exact fm_len inC 3 (fun _ => rfl) l) (fun ad e => by subst e; obtain ⟨b, off, rfl⟩ := code_addr h.out hl0; exact code_news h.out) (in_one l) (by unfold maxLen; omega) (by omega) (Nat.le_refl _) ?_; intro v w' hown hgr)
 obtain ⟨a', c', hv, hc, hr⟩ := own_out hown
 rw [Nat.zero_add] at hv hc hr
 obtain ⟨g, cur, rfl, hg, hh, ht, hcl, hcm⟩ := hr hn3
 have HE : Hid (n ≤ c' ∧ c' ≤ 9223372036854775807 ∧ w.heap.size ≤ g ∧ CodeIn w'.heap.size w' l (some ⟨g, 0, none⟩) ∧ Blk w' g 42 (c' * 3) ∧ Below w.heap.size w w') :=
  ⟨hc, by unfold maxLen at hcm; omega, hg, code_row hh (by rw [← HN.out]; simpa using ht) (code_is64 h.out), ⟨_, hh, by simpa using hcl⟩, grown_none hgr⟩
 subst hv
 clear hown hgr hr hc hh ht hcl hcm hg
 go_ret
 exact ⟨_, _, rfl, HE.out⟩
end Go.Proofs.YtlbihbfgglnfnaaGreat.Ow
