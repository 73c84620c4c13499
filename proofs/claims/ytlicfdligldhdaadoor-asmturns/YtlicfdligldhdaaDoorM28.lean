/- A unit, a module in a block of their own. -/
import Derived.Test.YtlicfdligldhdaaDoorM7
namespace Go.Proofs.YtlicfdligldhdaaDoor.Aw
open Go.RowKit

abbrev unO (u : Vf.Un) (al ac : Option Addr) (cl cc : Nat) : Obj := .cells #[.int .i64 u.kind, .int .i64 u.params, .slice al u.locals.length cl, .int .i64 u.result, .int .i64 u.takes, .slice ac u.code.length cc] 43 (0, 0)
theorem un_cells {w : World} {N : Nat} {u : Vf.Un} {al ac : Option Addr} {cl cc : Nat} (h : w.heap[N]? = some (unO u al ac cl cc)) :
    w.cell? ⟨N, 0, none⟩ = some (.int .i64 u.kind) ∧ w.cell? ⟨N, 1, none⟩ = some (.int .i64 u.params) ∧ w.cell? ⟨N, 2, none⟩ = some (.slice al u.locals.length cl) ∧ w.cell? ⟨N, 3, none⟩ = some (.int .i64 u.result) ∧ w.cell? ⟨N, 4, none⟩ = some (.int .i64 u.takes) ∧ w.cell? ⟨N, 5, none⟩ = some (.slice ac u.code.length cc) := by
  simp [World.cell?, h]
theorem md_cells {w : World} {k : Nat} {x y : Value} (h : w.heap[k]? = some (.cells #[x, y] 25 (0, 0))) : w.cell? ⟨k, 0, none⟩ = some x ∧ w.cell? ⟨k, 1, none⟩ = some y := by
  simp [World.cell?, h]
abbrev mdO (m : Vf.Md) (ab au : Option Addr) (cb cu : Nat) : Obj := .cells #[.slice ab m.boxes.length cb, .slice au m.units.length cu] 25 (0, 0)

end Go.Proofs.YtlicfdligldhdaaDoor.Aw

