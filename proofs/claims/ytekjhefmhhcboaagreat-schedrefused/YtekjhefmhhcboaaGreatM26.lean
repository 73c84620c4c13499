/- The walk of throw.Caught, for any work; the looks at a unit; each. -/
import Derived.Test.YtekjhefmhhcboaaGreatM25
namespace Go.Proofs.YtekjhefmhhcboaaGreat
open Go.RowKit
theorem ModIn.mono {B C : Nat} {w : World} {m : Vf.Md} {ab au : Option Addr} (h : ModIn B w m ab au) (hB : B ≤ C) : ModIn C w m ab au := by
 refine ⟨h.few, fun i x hx => ?_, fun i x hx => ?_⟩
 ·obtain ⟨h1, h2, b, off, e, hb, r⟩ := h.boxes i x hx
  exact ⟨h1, h2, b, off, e, by omega, r⟩
 ·obtain ⟨b, off, al, cl, ac, cc, e, hb, hu, r⟩ := h.units i x hx
  refine ⟨b, off, al, cl, ac, cc, e, by omega, ⟨hu.nums, hu.few, hu.caps, fun j y hy => ?_, fun j y hy => ?_⟩, r⟩
  ·obtain ⟨h1, b, off, e, hb, r⟩ := hu.locals j y hy
   exact ⟨h1, b, off, e, by omega, r⟩
  ·obtain ⟨h1, h2, h3, b, off, e, hb, r⟩ := hu.code j y hy
   exact ⟨h1, h2, h3, b, off, e, by omega, r⟩
theorem UnIn.mono {B C : Nat} {w : World} {u : Vf.Un} {al ac : Option Addr} {cl cc : Nat} (hu : UnIn B w u al ac cl cc) (hB : B ≤ C) : UnIn C w u al ac cl cc := by
 refine ⟨hu.nums, hu.few, hu.caps, fun j y hy => ?_, fun j y hy => ?_⟩
 ·obtain ⟨h1, b, off, e, hb, r⟩ := hu.locals j y hy
  exact ⟨h1, b, off, e, by omega, r⟩
 ·obtain ⟨h1, h2, h3, b, off, e, hb, r⟩ := hu.code j y hy
  exact ⟨h1, h2, h3, b, off, e, by omega, r⟩
namespace Vf
def eachW (f : Un → Int × Nat) : List Un → Nat → Int × Int × Int
 | [], _ => (0, 0, 0)
 | u :: l, k => if (f u).1 = 0 then eachW f l (k + 1) else ((f u).1, (k : Int), ((f u).2 : Int))
end Vf
theorem md_cells {w : World} {N : Nat} {m : Vf.Md} {ab au : Option Addr} {cb cu : Nat} (h : w.heap[N]? = some (mdO m ab au cb cu)) :
  w.cell? ⟨N, 0, none⟩ = some (.slice ab m.boxes.length cb) ∧ w.cell? ⟨N, 1, none⟩ = some (.slice au m.units.length cu) := by
 simp [World.cell?, h]
end Go.Proofs.YtekjhefmhhcboaaGreat
