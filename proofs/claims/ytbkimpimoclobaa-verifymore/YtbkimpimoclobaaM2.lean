/- A module in memory. -/
import Derived.Test.YtbkimpimoclobaaM1
import Derived.WalkSpells
import Derived.WalkLawsBesides
import Derived.Deep.QuietTactic
import Derived.BigQuiet
import Derived.Deep.RegionHeld3
import Derived.Laws.AppendOwnNone
import Derived.Laws.BitsAllLaws
import Derived.Recover
import Derived.Deep.Cut
import Derived.Deep.LoopGhost
namespace Go.Proofs.Ytbkimpimoclobaa
open Go.RowKit

theorem hide {p : Prop} (h : p) : Hid p := h
abbrev I64 (n : Int) : Prop := -9223372036854775808 ≤ n ∧ n ≤ 9223372036854775807
abbrev fltE (er num : Int) : PanicEntry := { v := .iface 86 (.agg #[.int .i64 er, .int .i64 num]), recovered := false }

/-- Numbers lie at a, below B. -/
def IntsIn (B : Nat) (w : World) (l : List Int) (a : Option Addr) : Prop :=
  ∀ i x, l[i]? = some x → I64 x ∧ ∃ b off, a = some ⟨b, off, none⟩ ∧ b < B ∧ w.cell? ⟨b, off + i, none⟩ = some (.int .i64 x)
def BoxesIn (B : Nat) (w : World) (l : List Vf.Bx) (a : Option Addr) : Prop :=
  ∀ i x, l[i]? = some x → I64 x.ty ∧ I64 x.cap ∧ ∃ b off, a = some ⟨b, off, none⟩ ∧ b < B ∧ w.cell? ⟨b, off + i * 2, none⟩ = some (.int .i64 x.ty) ∧ w.cell? ⟨b, off + i * 2 + 1, none⟩ = some (.int .i64 x.cap)
def CodeIn (B : Nat) (w : World) (l : List Vf.Ins) (a : Option Addr) : Prop :=
  ∀ i x, l[i]? = some x → I64 x.op ∧ I64 x.a ∧ I64 x.n ∧ ∃ b off, a = some ⟨b, off, none⟩ ∧ b < B ∧ w.cell? ⟨b, off + i * 3, none⟩ = some (.int .i64 x.op) ∧ w.cell? ⟨b, off + i * 3 + 1, none⟩ = some (.int .i64 x.a) ∧ w.cell? ⟨b, off + i * 3 + 2, none⟩ = some (.int .i64 x.n)
/-- What a unit's two rows are. -/
structure UnIn (B : Nat) (w : World) (u : Vf.Un) (al ac : Option Addr) (cl cc : Nat) : Prop where
  nums : I64 u.kind ∧ I64 u.params ∧ I64 u.result ∧ I64 u.takes
  few : u.locals.length ≤ 9223372036854775807 ∧ u.code.length ≤ 9223372036854775807
  caps : u.locals.length ≤ cl ∧ u.code.length ≤ cc
  locals : IntsIn B w u.locals al
  code : CodeIn B w u.code ac
def UnitsIn (B : Nat) (w : World) (l : List Vf.Un) (a : Option Addr) : Prop :=
  ∀ i u, l[i]? = some u → ∃ b off al cl ac cc, a = some ⟨b, off, none⟩ ∧ b < B ∧ UnIn B w u al ac cl cc ∧ w.cell? ⟨b, off + i * 6, none⟩ = some (.int .i64 u.kind) ∧ w.cell? ⟨b, off + i * 6 + 1, none⟩ = some (.int .i64 u.params) ∧ w.cell? ⟨b, off + i * 6 + 2, none⟩ = some (.slice al u.locals.length cl) ∧ w.cell? ⟨b, off + i * 6 + 3, none⟩ = some (.int .i64 u.result) ∧ w.cell? ⟨b, off + i * 6 + 4, none⟩ = some (.int .i64 u.takes) ∧ w.cell? ⟨b, off + i * 6 + 5, none⟩ = some (.slice ac u.code.length cc)
structure ModIn (B : Nat) (w : World) (m : Vf.Md) (ab au : Option Addr) : Prop where
  few : m.boxes.length ≤ 9223372036854775807 ∧ m.units.length ≤ 9223372036854775807
  boxes : BoxesIn B w m.boxes ab
  units : UnitsIn B w m.units au

/-- Nothing below B has turned. -/
def Low (B : Nat) (w w' : World) : Prop := ∀ k, k < B → w'.heap[k]? = w.heap[k]?
theorem Below.low {B : Nat} {w w' : World} (h : Below B w w') : Low B w w' := h.block
theorem grown_low {B F : Nat} {w w' : World} (h : w.grownBy w' (some F)) (hB : B ≤ F) (hF : F < w.heap.size) : Low B w w' := fun k hk => h.block k (by omega) (by simp; omega)
theorem cell_eq {w w' : World} {b : Nat} (h : w'.heap[b]? = w.heap[b]?) (o : Nat) : w'.cell? ⟨b, o, none⟩ = w.cell? ⟨b, o, none⟩ := by
  simp [World.cell?, h]
theorem IntsIn.low {B : Nat} {w w' : World} {l : List Int} {a : Option Addr} (h : IntsIn B w l a) (hk : Low B w w') : IntsIn B w' l a := fun i x hx => by
  obtain ⟨h1, b, off, e, hs, hc⟩ := h i x hx
  exact ⟨h1, b, off, e, hs, (cell_eq (hk b hs) _).trans hc⟩
theorem BoxesIn.low {B : Nat} {w w' : World} {l : List Vf.Bx} {a : Option Addr} (h : BoxesIn B w l a) (hk : Low B w w') : BoxesIn B w' l a := fun i x hx => by
  obtain ⟨h1, h2, b, off, e, hs, c0, c1⟩ := h i x hx
  have := hk b hs
  exact ⟨h1, h2, b, off, e, hs, (cell_eq this _).trans c0, (cell_eq this _).trans c1⟩
theorem CodeIn.low {B : Nat} {w w' : World} {l : List Vf.Ins} {a : Option Addr} (h : CodeIn B w l a) (hk : Low B w w') : CodeIn B w' l a := fun i x hx => by
  obtain ⟨h1, h2, h3, b, off, e, hs, c0, c1, c2⟩ := h i x hx
  have := hk b hs
  exact ⟨h1, h2, h3, b, off, e, hs, (cell_eq this _).trans c0, (cell_eq this _).trans c1, (cell_eq this _).trans c2⟩
theorem UnIn.low {B : Nat} {w w' : World} {u : Vf.Un} {al ac : Option Addr} {cl cc : Nat} (h : UnIn B w u al ac cl cc) (hk : Low B w w') : UnIn B w' u al ac cl cc := ⟨h.nums, h.few, h.caps, h.locals.low hk, h.code.low hk⟩
theorem UnitsIn.low {B : Nat} {w w' : World} {l : List Vf.Un} {a : Option Addr} (h : UnitsIn B w l a) (hk : Low B w w') : UnitsIn B w' l a := fun i x hx => by
  obtain ⟨b, off, al, cl, ac, cc, e, hs, hu, c0, c1, c2, c3, c4, c5⟩ := h i x hx
  have := hk b hs
  exact ⟨b, off, al, cl, ac, cc, e, hs, hu.low hk, (cell_eq this _).trans c0, (cell_eq this _).trans c1, (cell_eq this _).trans c2, (cell_eq this _).trans c3, (cell_eq this _).trans c4, (cell_eq this _).trans c5⟩
theorem ModIn.low {B : Nat} {w w' : World} {m : Vf.Md} {ab au : Option Addr} (h : ModIn B w m ab au) (hk : Low B w w') : ModIn B w' m ab au := ⟨h.few, h.boxes.low hk, h.units.low hk⟩

end Go.Proofs.Ytbkimpimoclobaa

