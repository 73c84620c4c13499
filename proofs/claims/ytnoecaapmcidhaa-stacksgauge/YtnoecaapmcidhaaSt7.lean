/- The document's Play: what its pieces do. -/
import Derived.Test.YtnoecaapmcidhaaSt6
import Derived.Laws.AppendOwnNone
namespace Go.Proofs.Ytnoecaapmcidhaa
open Go.RowKit

/-- An append of one row of the call's own to another, as a step of a region that draws its order. -/
theorem step_append_two {P : Program} {ops : Array Oper} {o : Oper} {a : Act} {w : World} {K : Act → World → Prop} {Q : Exit → Act → World → Prop} {E : Prop} (hgd : o.guard = none) (s x : Operand) (t : TypeId)
    (ho : o.op = .call { callee := .builtin .append, args := #[s, x], argTypes := #[t, t] })
    (base : Nat) (e : TypeId) (i : TypeInfo) (z : Value) (size bytes : Nat) (ht : P.underlying t = some (.slice e)) (hi : P.info? e = some i) (hz : i.zero = some z)
    (hsize : i.size = size) (hby : i.bytes = bytes) (hzs : z.cells.size = size) (hsz : 0 < size)
    (v : Value) (n : Nat) (xs : List Value) (hs : a.eval s = v) (hown : w.ownsRow base e size v n xs)
    (b2 : Nat) (vx : Value) (m : Nat) (news : List Value) (hx : a.eval x = vx) (hown2 : w.ownsRow b2 e size vx m news) (h1 : ∀ u ∈ news, u.oneCell' = true)
    (h63 : n + m ≤ maxLen) (hbytes : (n + m) * bytes ≤ 140737488355328) (hbase : base ≤ w.heap.size)
    (h : ∀ v' w', w'.ownsRow base e size v' (n + m) (xs ++ news) → w.grownBy w' v.ownBlock → K (a.put o.dst v') w') :
    if Region.wanted o (yielded ops a.tmps) = true then Oper.wp P o a w K Q else E := by
  have hw : Region.wanted o (yielded ops a.tmps) = true := by simp [Region.wanted, hgd]
  rw [if_pos hw]
  have hl := hown2.1
  rcases hown2.2 with ⟨rfl, rfl⟩ | ⟨g, cap, cur, rfl, r⟩
  · have hrun := run_append_owned_none (P := P) (w := w) base t o.type e i size ht hi v n xs hown
    obtain rfl : news = [] := List.eq_nil_of_length_eq_zero (by simpa using hl)
    unfold Oper.wp
    simp [execOp, ho, resolve, invoke, builtin, hs, hx, hrun, Result.andThen]
    exact h v w (by simpa using hown) (World.grownBy.refl _ _)
  · exact wp_append_own w s x t ho base e i z size bytes ht hi hz hsize hby hzs hsz v n xs hs hown ⟨g, 0, none⟩ m cap news hx hl (hown2.cells (g := g) rfl) h1 h63 hbytes hbase (fun v' w' h2 h3 _ => h v' w' h2 h3)

/-- The same, where the order is the text's. -/
theorem wpList_append_two {P : Program} {w : World} {ops : Array Oper} {rest : List Oper} {o : Oper} {a : Act} {Q : Exit → Act → World → Prop} (hgd : o.guard = none) (s x : Operand) (t : TypeId)
    (ho : o.op = .call { callee := .builtin .append, args := #[s, x], argTypes := #[t, t] })
    (base : Nat) (e : TypeId) (i : TypeInfo) (z : Value) (size bytes : Nat) (ht : P.underlying t = some (.slice e)) (hi : P.info? e = some i) (hz : i.zero = some z)
    (hsize : i.size = size) (hby : i.bytes = bytes) (hzs : z.cells.size = size) (hsz : 0 < size)
    (v : Value) (n : Nat) (xs : List Value) (hs : a.eval s = v) (hown : w.ownsRow base e size v n xs)
    (b2 : Nat) (vx : Value) (m : Nat) (news : List Value) (hx : a.eval x = vx) (hown2 : w.ownsRow b2 e size vx m news) (h1 : ∀ u ∈ news, u.oneCell' = true)
    (h63 : n + m ≤ maxLen) (hbytes : (n + m) * bytes ≤ 140737488355328) (hbase : base ≤ w.heap.size)
    (h : ∀ v' w', w'.ownsRow base e size v' (n + m) (xs ++ news) → w.grownBy w' v.ownBlock → wpList P ops Q rest (a.put o.dst v') w') : wpList P ops Q (o :: rest) a w := by
  have hl := hown2.1
  rcases hown2.2 with ⟨rfl, rfl⟩ | ⟨g, cap, cur, rfl, r⟩
  · obtain rfl : news = [] := List.eq_nil_of_length_eq_zero (by simpa using hl)
    exact wpList_append_own_none hgd s x t ho base e i size ht hi v n xs hs hown hx (h v w (by simpa using hown) (World.grownBy.refl _ _))
  · exact wpList_append_own w hgd s x t ho base e i z size bytes ht hi hz hsize hby hzs hsz v n xs hs hown ⟨g, 0, none⟩ m cap news hx hl (hown2.cells (g := g) rfl) h1 h63 hbytes hbase (fun v' w' h2 h3 _ => h v' w' h2 h3)

/-- Rows that have just been made. -/
theorem own_new0 (X : World) (e : TypeId) {M q : Nat} (hq : q = X.heap.size) (hM : M ≤ q) : (X.alloc (.cells #[] e)).ownsRow M e 1 (.slice (some ⟨q, 0, none⟩) 0 0) 0 [] := by
  subst hq
  exact ⟨rfl, .inr ⟨X.heap.size, 0, #[], rfl, hM, heap_alloc_new X _, Nat.le_refl _, Nat.zero_le _, rfl, rfl⟩⟩
theorem own_new1 (X : World) (e : TypeId) (u : Value) {M q : Nat} (hq : q = X.heap.size) (hM : M ≤ q) : (X.alloc (.cells #[u] e)).ownsRow M e 1 (.slice (some ⟨q, 0, none⟩) 1 1) 1 [u] := by
  subst hq
  exact ⟨rfl, .inr ⟨X.heap.size, 1, #[u], rfl, hM, heap_alloc_new X _, Nat.le_refl _, by unfold maxLen; omega, rfl, rfl⟩⟩

/-- Words taken from the top. -/
theorem own_take {w : World} {B e g n cap c : Nat} {xs : List Value} (h : w.ownsRow B e 1 (.slice (some ⟨g, 0, none⟩) n cap) n xs) (hc : c ≤ n) : w.ownsRow B e 1 (.slice (some ⟨g, 0, none⟩) c cap) c (xs.take c) := by
  rcases h.2 with ⟨hv, _⟩ | ⟨g', cap', cur, hv, hg, hh, h1, h2, h3, h4⟩
  · simp at hv
  · simp at hv
    obtain ⟨rfl, rfl⟩ := hv
    have hl := h.1
    refine ⟨by simp; omega, .inr ⟨g, cap, cur, rfl, hg, hh, by omega, h2, h3, ?_⟩⟩
    rw [← h4, List.take_take]
    congr 1
    omega

/-- What the document's Play has at the head of its loop. -/
structure RfAt (mn most : Nat) (L : List Sk.Op) (w : World) (v v2 : Value) (k r : Nat) (ws : List Int) (rs : List Nat) (W : World) : Prop where
  le : k ≤ L.length
  own : W.ownsRow w.heap.size 2 1 v ws.length (ints ws)
  own2 : W.ownsRow w.heap.size 3 1 v2 rs.length (nats rs)
  zf : W.heap[w.heap.size]? = some Zf
  below : Below w.heap.size w W
  count : rs.length = k
  fits : Sk.Fits mn most ws.length r
  go : Sk.go mn most L 0 [] mn [] = Sk.go mn most (L.drop k) k ws r rs

/-- The same behind a doing, ahead of its room's being noted. -/
structure RfMid (mn most : Nat) (L : List Sk.Op) (w : World) (v v2 : Value) (k r : Nat) (ws : List Int) (rs : List Nat) (W : World) : Prop where
  lt : k < L.length
  own : W.ownsRow w.heap.size 2 1 v ws.length (ints ws)
  own2 : W.ownsRow w.heap.size 3 1 v2 rs.length (nats rs)
  zf : W.heap[w.heap.size]? = some Zf
  below : Below w.heap.size w W
  count : rs.length = k
  fits : Sk.Fits mn most ws.length r
  go : Sk.go mn most L 0 [] mn [] = Sk.go mn most (L.drop (k + 1)) (k + 1) ws r (rs ++ [r])

theorem own_apart {w : World} {B e B' e' size size' n n' : Nat} {v v' : Value} {xs xs' : List Value} (h : w.ownsRow B e size v n xs) (h' : w.ownsRow B' e' size' v' n' xs') (he : e ≠ e') (k : Nat) (hk : v.ownBlock = some k) : v'.ownBlock ≠ some k := by
  rcases h.2 with ⟨rfl, _⟩ | ⟨g, cap, cur, rfl, _, hh, _⟩
  · simp [Value.ownBlock] at hk
  · simp only [Value.ownBlock, Option.some.injEq] at hk
    subst hk
    exact own_ty h' hh he

theorem RfMid.next {mn most : Nat} {L : List Sk.Op} {w : World} {v v2 v' : Value} {k r : Nat} {ws : List Int} {rs : List Nat} {W w3 : World} {X : Int} {ob : Obj} (h : RfMid mn most L w v v2 k r ws rs W) (hX : X = r)
    (hown : w3.ownsRow w.heap.size 3 1 v' (rs.length + 1) (nats rs ++ [.int .i64 X])) (hg : (W.alloc ob).grownBy w3 v2.ownBlock) : RfAt mn most L w v v' (k + 1) r ws (rs ++ [r]) w3 := by
  subst hX
  have hz := h.below.size
  have hzz := hg.size
  simp at hzz
  have blk : ∀ k, k < W.heap.size → v2.ownBlock ≠ some k → w3.heap[k]? = W.heap[k]? := fun k hk h1 => (hg.block k (by simp; omega) (fun e => h1 e.symm)).trans (Below.heap_alloc _ _ _ hk)
  refine ⟨h.lt, own_keep h.own (fun j hj => blk j (h.own.lt j hj).2 (own_apart h.own h.own2 (by decide) j hj)), by simpa using hown, ?_, (h.below.alloc (by omega) _).grown hg (by simp; omega) (fun j hj => (h.own2.lt j hj).1), by simp [h.count], h.fits, h.go⟩
  rw [blk _ (lt_of_block h.zf) (own_ty h.own2 h.zf (by decide))]; exact h.zf

theorem one_news (W : World) (u : Value) (t : TypeId) : ∀ j u', [u][j]? = some u' → (W.alloc (.cells #[u] t)).cell? ((⟨W.heap.size, 0, none⟩ : Addr).add j) = some u'
  | 0, u', h => by simp at h; subst h; simp [Addr.add]
  | j + 1, u', h => by simp at h
theorem one_cell1 (x : Int) : ∀ u ∈ [Value.int .i64 x], u.oneCell' = true := by intro u hu; simp at hu; subst hu; rfl

/-- From the loop's head to behind a doing that makes memory alone. -/
theorem RfAt.mid {mn most : Nat} {L : List Sk.Op} {w : World} {v v2 v' : Value} {k r r2 : Nat} {ws ws2 : List Int} {rs : List Nat} {o : Sk.Op} {wr W : World} (h : RfAt mn most L w v v2 k r ws rs wr) (ho : L[k]? = some o) (hE : Sk.err most ws.length o = 0) (hw : ws2 = Sk.wds ws o) (hr : r2 = Sk.rm mn most r ws.length o)
    (hown : W.ownsRow w.heap.size 2 1 v' ws2.length (ints ws2)) (hb : Below wr.heap.size wr W) : RfMid mn most L w v' v2 k r2 ws2 rs W := by
  subst hw hr
  refine ⟨(List.getElem?_eq_some_iff.1 ho).1, hown, own_keep h.own2 (fun j hj => hb.block j (h.own2.lt j hj).2), (hb.block _ (lt_of_block h.zf)).trans h.zf, h.below.trans (hb.mono h.below.size), h.count, Sk.fits_next h.fits hE, ?_⟩
  rw [h.go, Sk.go_step ho ws r rs hE]

end Go.Proofs.Ytnoecaapmcidhaa
