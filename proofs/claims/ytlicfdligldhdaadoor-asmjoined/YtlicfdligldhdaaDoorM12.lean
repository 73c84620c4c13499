/- A writer of listings in memory; the walks of newWriter, full, put, number and ints. -/
import Derived.Test.YtlicfdligldhdaaDoorM10
import Derived.Test.YtlicfdligldhdaaDoorM11
import Derived.Lib.AppendStr
import Derived.Lib.UnsafeStr
namespace Go.Proofs.YtlicfdligldhdaaDoor.Aw
open Go.RowKit As

/-- Nothing below B has turned, nor anything but bytes and writers. -/
structure Kp (B : Nat) (w w' : World) : Prop where
  below : Below B w w'
  size : w.heap.size ≤ w'.heap.size
  blk : ∀ (k : Nat) (cs : Array Value) (t : TypeId) (fr : Nat × Nat), w.heap[k]? = some (.cells cs t fr) → t ≠ 5 → t ≠ 55 → w'.heap[k]? = some (.cells cs t fr)
theorem Kp.refl (B : Nat) (w : World) : Kp B w w := ⟨Below.refl _ _, Nat.le_refl _, fun _ _ _ _ h _ _ => h⟩
theorem Kp.trans {B : Nat} {a b c : World} (h : Kp B a b) (k : Kp B b c) : Kp B a c :=
  ⟨h.below.trans k.below, Nat.le_trans h.size k.size, fun j cs t fr hj h1 h2 => k.blk j cs t fr (h.blk j cs t fr hj h1 h2) h1 h2⟩
/-- What makes nothing but new blocks. -/
theorem Kp.new {B : Nat} {w w' : World} (h : Below w.heap.size w w') (hB : B ≤ w.heap.size) : Kp B w w' :=
  ⟨h.mono hB, h.size, fun _ _ _ _ hk _ _ => (h.block _ (lt_of_block hk)).trans hk⟩
theorem Kp.alloc {B : Nat} {w w' : World} (h : Kp B w w') (hB : B ≤ w'.heap.size) (o : Obj) : Kp B w (w'.alloc o) :=
  h.trans (Kp.new ((Below.refl _ _).alloc (Nat.le_refl _) _) hB)

abbrev wrO (v : Value) (U J : Nat) : Obj := .cells #[v, .int .i64 2, .slice (some ⟨U, 0, none⟩) 3 3, .int .i64 1, .slice (some ⟨J, 0, none⟩) 32 32] 55 (0, 0)
/-- A writer in block S, its words in U and J. -/
structure WR (w : World) (B S U J : Nat) (xs : By) : Prop where
  row : ∃ v, w.heap[S]? = some (wrO v U J) ∧ w.ownsRow B 5 1 v xs.length (Lib.byteCells xs)
  base : B ≤ S
  us : w.heap[U]? = some (wsO unitW)
  js : w.heap[J]? = some (wsO tabW)
theorem WR.lt {w : World} {B S U J : Nat} {xs : By} (h : WR w B S U J xs) : S < w.heap.size := by
  obtain ⟨v, h1, _⟩ := h.row
  exact lt_of_block h1
theorem own_ty {w : World} {B e size n k : Nat} {v : Value} {xs : List Value} {cs : Array Value} {t : TypeId} {fr : Nat × Nat} (h : w.ownsRow B e size v n xs) (hk : w.heap[k]? = some (.cells cs t fr)) (ht : t ≠ e) : v.ownBlock ≠ some k := by
  rcases h.2 with ⟨rfl, _⟩ | ⟨g', cap, cur, rfl, _, hh, _⟩
  · simp [Value.ownBlock]
  · intro e1
    simp only [Value.ownBlock, Option.some.injEq] at e1
    subst e1
    rw [hh] at hk
    simp at hk
    exact ht hk.2.1.symm
theorem own_form {w : World} {B e size n : Nat} {v : Value} {xs : List Value} (h : w.ownsRow B e size v n xs) : ∃ a c, v = .slice a n c := by
  rcases h.2 with ⟨rfl, h0⟩ | ⟨g, cp, cur, rfl, _⟩
  · exact ⟨_, _, by rw [h0]⟩
  · exact ⟨_, _, rfl⟩
theorem own_keep {w w' : World} {B e size n : Nat} {v : Value} {xs : List Value} (h : w.ownsRow B e size v n xs) (hk : ∀ k, v.ownBlock = some k → w'.heap[k]? = w.heap[k]?) : w'.ownsRow B e size v n xs := by
  refine ⟨h.1, ?_⟩
  rcases h.2 with h2 | ⟨g', cap, cur, rfl, hB, hh, hr⟩
  · exact .inl h2
  · exact .inr ⟨g', cap, cur, rfl, hB, (hk g' rfl).trans hh, hr⟩
theorem WR.new {w w' : World} {B S U J : Nat} {xs : By} (h : WR w B S U J xs) (hb : Below w.heap.size w w') : WR w' B S U J xs := by
  obtain ⟨v, h1, h2⟩ := h.row
  exact ⟨⟨v, (hb.block _ (lt_of_block h1)).trans h1, own_keep h2 (fun k hk => hb.block k (h2.lt k hk).2)⟩, h.base, (hb.block _ (lt_of_block h.us)).trans h.us, (hb.block _ (lt_of_block h.js)).trans h.js⟩
theorem WR.alloc {w : World} {B S U J : Nat} {xs : By} (h : WR w B S U J xs) (o : Obj) : WR (w.alloc o) B S U J xs := h.new ((Below.refl _ _).alloc (Nat.le_refl _) _)
theorem size_bs (x : By) : (⟨x.toArray⟩ : ByteArray).size = x.length := by simp [ByteArray.size]
/-- Texts lie in a row of their own. -/
def StrsAt (w : World) (l : List By) (b : Nat) : Prop := ∃ cs fr, w.heap[b]? = some (.cells cs 9 fr) ∧ ∀ (i : Nat) (x : By), l[i]? = some x → cs[i]? = some (sv x)
theorem StrsAt.cell {w : World} {l : List By} {b : Nat} (h : StrsAt w l b) {i : Nat} {x : By} (hx : l[i]? = some x) : w.cell? ⟨b, i, none⟩ = some (sv x) := by
  obtain ⟨cs, fr, h1, h2⟩ := h
  simp [World.cell?, h1, h2 i x hx]

end Go.Proofs.YtlicfdligldhdaaDoor.Aw

