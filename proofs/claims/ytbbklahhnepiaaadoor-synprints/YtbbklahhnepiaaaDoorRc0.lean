/- The walk of the document's Kids. -/
import Derived.Test.YtbbklahhnepiaaaDoorCk9
namespace Go.Proofs.YtbbklahhnepiaaaDoor
open Go.RowKit

/-- The document's count of kids. -/
def kidN (k : Int) : Int := if k = 19 ∨ k = 22 then -1 else Sy.most k

set_option maxRecDepth 100000 in
set_option maxHeartbeats 2000000 in
theorem kidsN_any (k : Int) (w : World) (h1 : 1 ≤ k) (h2 : k ≤ 24) :
    Calls Tryd.prog 68 #[.int .i64 k] w fun e w' => e = .returned (.int .i64 (kidN k)) ∧ w.grownBy w' none := by
  have hk : k = 1 ∨ k = 2 ∨ k = 3 ∨ k = 4 ∨ k = 5 ∨ k = 6 ∨ k = 7 ∨ k = 8 ∨ k = 9 ∨ k = 10 ∨ k = 11 ∨ k = 12 ∨ k = 13 ∨ k = 14 ∨ k = 15 ∨ k = 16 ∨ k = 17 ∨ k = 18 ∨ k = 19 ∨ k = 20 ∨ k = 21 ∨ k = 22 ∨ k = 23 ∨ k = 24 := by omega
  clear h1 h2
  rcases hk with rfl | rfl | rfl | rfl | rfl | rfl | rfl | rfl | rfl | rfl | rfl | rfl | rfl | rfl | rfl | rfl | rfl | rfl | rfl | rfl | rfl | rfl | rfl | rfl
  all_goals
    go_enter Tryd.func68, Tryd.ntmps68
    go_wp2
    go_ret
    exact ⟨ret_int (by decide), World.grownBy_alloc _ _ _⟩

end Go.Proofs.YtbbklahhnepiaaaDoor
