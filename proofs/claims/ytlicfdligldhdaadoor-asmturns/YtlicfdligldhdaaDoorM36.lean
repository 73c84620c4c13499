/- The walk of the document's Bare. -/
import Derived.Test.YtlicfdligldhdaaDoorM34
import Derived.Test.YtlicfdligldhdaaDoorM35
namespace Go.Proofs.YtlicfdligldhdaaDoor.Aw
open Go.RowKit As

theorem info_partsB {P : Program} {e : TypeId} {z : Value} {s b : Nat} (h : (P.info? e).map (fun i => (i.zero, i.size, i.bytes)) = some (some z, s, b)) : ∃ i, P.info? e = some i ∧ i.zero = some z ∧ i.size = s ∧ i.bytes = b := by
  obtain ⟨i, hi, h⟩ := Option.map_eq_some_iff.1 h
  simp only [Prod.mk.injEq] at h
  exact ⟨i, hi, h.1, h.2.1, h.2.2⟩
theorem own_nilB (w : World) (B : Nat) (e : TypeId) (size : Nat) : w.ownsRow B e size (.slice none 0 0) 0 [] := ⟨by simp, .inl ⟨rfl, rfl⟩⟩
theorem own_outB {w : World} {B n size : Nat} {e : TypeId} {v : Value} {xs : List Value} (h : w.ownsRow B e size v n xs) : ∃ a' c', v = .slice a' n c' ∧ n ≤ c' ∧ (∀ ad, a' = some ad → ∃ cs, w.heap[ad.block]? = some (.cells cs e (0, 0))) ∧ (0 < n → ∃ g, ∃ cur : List Value, a' = some ⟨g, 0, none⟩ ∧ B ≤ g ∧ w.heap[g]? = some (.cells (List.toArray cur) e (0, 0)) ∧ cur.take (n * size) = xs) := by
  rcases h.2 with ⟨rfl, rfl⟩ | ⟨g, cap, cur, rfl, hg, hh, h1, h2, h3, h4⟩
  · exact ⟨none, 0, rfl, Nat.le_refl _, fun ad e => (by cases e), fun h => by omega⟩
  · exact ⟨some ⟨g, 0, none⟩, cap, rfl, h1, fun ad e => (by cases e; exact ⟨cur, hh⟩), fun _ => ⟨g, cur.toList, rfl, hg, hh, h4⟩⟩
theorem own_tyB {w : World} {B n size : Nat} {e : TypeId} {v : Value} {xs : List Value} (h : w.ownsRow B e size v n xs) : ∀ k, v.ownBlock = some k → B ≤ k ∧ ∃ cs, w.heap[k]? = some (.cells cs e (0, 0)) := fun k hk => by
  rcases h.2 with ⟨rfl, _⟩ | ⟨g, cap, cur, rfl, hB, hh, _⟩
  · cases hk
  · cases hk
    exact ⟨hB, cur, hh⟩
theorem keepBB {a b : World} {k : Nat} {o : Obj} (h : Below a.heap.size a b) (hk : a.heap[k]? = some o) : b.heap[k]? = some o := (h.block k (lt_of_block hk)).trans hk
theorem one_belowB (w : World) (o : Obj) : Below w.heap.size w (w.alloc o) := (Below.refl _ _).alloc (Nat.le_refl _) _
/-- A unit: its locals are the caller's, its code is a row of its own. -/
structure UnB (B : Nat) (w : World) (x : UV) : Prop where
  nums : I64 x.u.kind ∧ I64 x.u.params ∧ I64 x.u.result ∧ I64 x.u.takes
  few : x.u.locals.length ≤ 9223372036854775807 ∧ x.u.code.length ≤ 9223372036854775807
  caps : x.u.locals.length ≤ x.cl ∧ x.u.code.length ≤ x.cc
  locals : IntsIn B w x.u.locals x.al
  code : CodeIn w.heap.size w x.u.code x.ac
  ty : ∀ ad, x.ac = some ad → ∃ cs, w.heap[ad.block]? = some (.cells cs 45 (0, 0))
theorem UnB.grown {B : Nat} {w w' : World} {x : UV} {r : Option Nat} (h : UnB B w x) (hg : w.grownBy w' r) (hw : B ≤ w.heap.size) (hr : ∀ k, r = some k → B ≤ k ∧ ∃ cs t, w.heap[k]? = some (.cells cs t (0, 0)) ∧ t ≠ 45) : UnB B w' x := by
  have key : ∀ ad, x.ac = some ad → w'.heap[ad.block]? = w.heap[ad.block]? := fun ad ha => by
    obtain ⟨cs, h1⟩ := h.ty ad ha
    refine hg.block _ (lt_of_block h1) (fun e => ?_)
    obtain ⟨_, cs', t', h3, h4⟩ := hr _ e.symm
    rw [h1] at h3
    simp at h3
    exact h4 h3.2.symm
  refine ⟨h.nums, h.few, h.caps, h.locals.low (fun k hk => hg.block k (by omega) (fun e => by have := (hr _ e.symm).1; omega)), fun i y hy => ?_, fun ad ha => ?_⟩
  · obtain ⟨a1, a2, a3, b, o, e, hb, c0, c1, c2⟩ := h.code i y hy
    exact ⟨a1, a2, a3, b, o, e, Nat.lt_of_lt_of_le hb hg.size, (cell_eq (key _ e) _).trans c0, (cell_eq (key _ e) _).trans c1, (cell_eq (key _ e) _).trans c2⟩
  · obtain ⟨cs, h1⟩ := h.ty ad ha
    exact ⟨cs, (key ad ha).trans h1⟩
theorem UnB.on {B : Nat} {w w' : World} {x : UV} (h : UnB B w x) (hw : B ≤ w.heap.size) (hb : Below w.heap.size w w') : UnB B w' x := h.grown (r := none) ⟨hb.os, hb.tape, hb.output, hb.size, fun k hk _ => hb.block k hk⟩ hw (fun k e => by cases e)
structure UsB (B C : Nat) (us : List UV) (v : Value) (w : World) : Prop where
  own : w.ownsRow C 43 6 v us.length (uvs us)
  each : ∀ x ∈ us, UnB B w x
theorem UsB.on {B C : Nat} {us : List UV} {v : Value} {w w' : World} (h : UsB B C us v w) (hB : B ≤ w.heap.size) (hb : Below w.heap.size w w') : UsB B C us v w' := ⟨own_keep h.own (fun k hk => by obtain ⟨_, cs, h1⟩ := own_tyB h.own k hk; exact hb.block k (lt_of_block h1)), fun x hx => (h.each x hx).on hB hb⟩
theorem gg_setB {w w' : World} {g : Nat} (h : w.grownBy w' (some g)) (p : Addr) (hp : p.block = g) (v : Value) : w.grownBy (w'.setCell p v) (some g) :=
  ⟨h.os, h.tape, h.output, by simpa using h.size, fun k hk hne => (Below.heap_setCell _ p _ _ (fun e => hne (by rw [e, hp]))).trans (h.block k hk hne)⟩
theorem UsB.more {B C N5 : Nat} {us : List UV} {v v' : Value} {x : UV} {W5 w6 : World} {a b p : Value} (h : UsB B C us v W5) (hx : UnB B W5 x) (hown : w6.ownsRow C 43 6 v' (us.length + 1) (uvs us ++ uvC x)) (hgr : W5.grownBy w6 v.ownBlock) (hBC : B ≤ C) (hCW : C ≤ W5.heap.size) (hN5 : N5 < C) (hBN : B ≤ N5) (h5 : w6.heap[N5]? = some (.cells #[a, b] 25 (0, 0))) : UsB B C (us ++ [x]) v' (w6.setCell ⟨N5, 1, none⟩ p) := by
  have hset : w6.grownBy (w6.setCell ⟨N5, 1, none⟩ p) (some N5) := gg_setB (World.grownBy.refl _ _) _ rfl _
  have key : ∀ y, UnB B W5 y → UnB B (w6.setCell ⟨N5, 1, none⟩ p) y := fun y hy => (hy.grown hgr (by omega) (fun k hk => by obtain ⟨h1, cs, h2⟩ := own_tyB h.own k hk; exact ⟨by omega, cs, _, h2, by decide⟩)).grown hset (by have := hgr.size; omega) (fun k hk => by cases hk; exact ⟨hBN, _, _, h5, by decide⟩)
  refine ⟨?_, fun y hy => ?_⟩
  · have e : uvs (us ++ [x]) = uvs us ++ uvC x := by simp [uvs]
    rw [e, List.length_append]
    refine ⟨hown.1, ?_⟩
    rcases hown.2 with h1 | ⟨g, cap, cur, h1, h2, h3, h4⟩
    · exact .inl h1
    · exact .inr ⟨g, cap, cur, h1, h2, (Below.heap_setCell _ ⟨N5, 1, none⟩ _ _ (by show g ≠ N5; omega)).trans h3, h4⟩
  · rcases List.mem_append.1 hy with hy | hy
    · exact key y (h.each y hy)
    · simp at hy
      subst hy
      exact key _ hx
theorem UsB.keep {B C j : Nat} {us : List UV} {v : Value} {w w' : World} (h : UsB B C us v w) (hg : w.grownBy w' (some j)) (hj : j < C) (hB : B ≤ j) (hw : B ≤ w.heap.size) {cs : Array Value} {t : TypeId} (ht : w.heap[j]? = some (.cells cs t (0, 0))) (h2 : t ≠ 45) : UsB B C us v w' := by
  refine ⟨⟨h.own.1, ?_⟩, fun x hx => (h.each x hx).grown hg hw (fun k hk => by cases hk; exact ⟨hB, _, _, ht, h2⟩)⟩
  rcases h.own.2 with h3 | ⟨g, cap, cur, h3, h4, h5, h6⟩
  · exact .inl h3
  · exact .inr ⟨g, cap, cur, h3, h4, (hg.block g (lt_of_block h5) (by intro e; cases e; omega)).trans h5, h6⟩
theorem UsB.units {B C : Nat} {us : List UV} {v : Value} {w : World} (h : UsB B C us v w) (hB : B ≤ w.heap.size) : ∃ au cu, v = .slice au us.length cu ∧ UnitsIn w.heap.size w (us.map (·.u)) au := by
  obtain ⟨au, cu, rfl, hc, _, hr⟩ := own_outB h.own
  refine ⟨au, cu, rfl, ?_⟩
  by_cases h0 : 0 < us.length
  · obtain ⟨g, cap, e, _, _, _, hU⟩ := us_own h.own h0 (fun i x hx => by
      have hy := h.each x (List.mem_of_getElem? hx)
      exact (⟨hy.nums, hy.few, hy.caps, fun i y hy' => (by obtain ⟨a, b, c, d, f, g⟩ := hy.locals i y hy'; exact ⟨a, b, c, d, by omega, g⟩), hy.code⟩ : UnIn w.heap.size w x.u x.al x.ac x.cl x.cc))
    cases e
    exact hU.units (Nat.le_refl _)
  · obtain rfl : us = [] := List.eq_nil_of_length_eq_zero (by omega)
    exact fun i x hx => by simp at hx
theorem bareI_has {i : Vf.Ins} (h : (wordOf i.op).isSome = true) : bareI i = (if hasOf i.op = 0 then ⟨i.op, 0, 0⟩ else if hasOf i.op = 1 then ⟨i.op, i.a, 0⟩ else ⟨i.op, 0, i.n⟩) ∧ 1 ≤ i.op ∧ i.op ≤ 32 := by
  obtain ⟨⟨w, k⟩, hw⟩ := Option.isSome_iff_exists.1 h
  obtain ⟨h1, h2, h3⟩ := has_word hw
  refine ⟨?_, h2, h3⟩
  unfold bareI
  rw [hw]
  simp only
  rw [h1]
theorem has_three (op : Int) : hasOf op = 0 ∨ hasOf op = 1 ∨ hasOf op = 2 := by
  unfold hasOf
  split
  · exact .inr (.inr rfl)
  split
  · exact .inr (.inl rfl)
  · exact .inl rfl
abbrev insO (c : Vf.Ins) : Obj := .cells #[.int .i64 c.op, .int .i64 c.a, .int .i64 c.n] 45 (0, 0)
/-- The code of a unit, so far. -/
structure CoB (X : World) (l : List Vf.Ins) (v : Value) (w : World) : Prop where
  own : w.ownsRow X.heap.size 45 3 v l.length (l.flatMap inC)
  below : Below X.heap.size X w
theorem CoB.more {X w W w6 : World} {l : List Vf.Ins} {v v' : Value} {c : Vf.Ins} (h : CoB X l v w) (hb : Below w.heap.size w W) (hown : w6.ownsRow X.heap.size 45 3 v' (l.length + 1) (l.flatMap inC ++ inC c)) (hgr : W.grownBy w6 v.ownBlock) : CoB X (l ++ [c]) v' w6 := by
  refine ⟨by rw [List.length_append, List.flatMap_append]; simpa using hown, ?_⟩
  have h1 : Below X.heap.size X W := h.below.trans (hb.mono h.below.size)
  exact ⟨hgr.os.trans h1.os, hgr.tape.trans h1.tape, hgr.output.trans h1.output, Nat.le_trans h1.size hgr.size, fun k hk => (hgr.block k (Nat.lt_of_lt_of_le hk h1.size) (fun e => by have := (own_tyB h.own k e.symm).1; omega)).trans (h1.block k hk)⟩
end Go.Proofs.YtlicfdligldhdaaDoor.Aw

