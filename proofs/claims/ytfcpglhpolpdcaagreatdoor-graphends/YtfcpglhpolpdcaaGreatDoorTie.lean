/-
  DERIVED. GIVEN WITH THE SEED: THE PROGRAM's TIES (one call each: nine closed facts by the kernel) AND EACH ROW's TIE, after the 31st guide's Derived/Test/Toyas{Tie, Card}.lean. No idea stands in it: it is a product of the set-up. Laid BY PROGRAM, IN A SANDBOX (cutbox-door.mjs). By AI agents, Wed Nov 11 2026. No macro, syntax, notation, axiom, sorry.
-/
import Derived.Test.YtfcpglhpolpdcaaGreatDoorRows
import Derived.LaidByTextLater
import Derived.SevenTiedAt
import Derived.LaidSub
import Derived.LaidOnce
namespace Go.Proofs.YtfcpglhpolpdcaaGreatDoor
open Go
set_option maxRecDepth 100000
theorem seatTie1 : Tryz.prog.laidByTextLater [("yieldshape/syn.pairs", Rows.laid_yieldshape_syn_pairs), ("yieldshape/sema.number", Rows.laid_yieldshape_sema_number), ("yieldshape/sema.truth", Rows.laid_yieldshape_sema_truth)] [.data, .data, .data] true :=
  Program.laidByTextLater_by_one 37 8 40 (by kernel_rfl) (by kernel_rfl) (by kernel_rfl) (by kernel_rfl) (by kernel_rfl) (by kernel_rfl) (fun _ _ => by kernel_rfl)
theorem noOwnUnsafe : Tryz.pinned.checked.prog.headLifts.contains "ownunsafe" = false := by kernel_rfl
theorem tie : Tryz.prog.laidByTextLater [("yieldshape/syn.pairs", Rows.laid_yieldshape_syn_pairs), ("yieldshape/sema.number", Rows.laid_yieldshape_sema_number), ("yieldshape/sema.truth", Rows.laid_yieldshape_sema_truth)] [.data, .data, .data] true :=
  Program.laidByTextLater.sub seatTie1 ["yieldshape/syn.pairs", "yieldshape/sema.number", "yieldshape/sema.truth"] (by kernel_rfl) (by kernel_rfl)
theorem graphEnds_row_tie : Rows.graphEndsRow.laidByTextAt .later Tryz.pinned [.data, .data, .data] true :=
  OpenClaim.laidByTextAt_later rfl rfl tie noOwnUnsafe
theorem graphCircle_row_tie : Rows.graphCircleRow.laidByTextAt .later Tryz.pinned [.data, .data, .data] true :=
  OpenClaim.laidByTextAt_later rfl rfl tie noOwnUnsafe
theorem graphEndsUpto_row_tie : Rows.graphEndsUptoRow.laidByTextAt .later Tryz.pinned [.data, .data, .data] true :=
  OpenClaim.laidByTextAt_later rfl rfl tie noOwnUnsafe
theorem graphCircleUpto_row_tie : Rows.graphCircleUptoRow.laidByTextAt .later Tryz.pinned [.data, .data, .data] true :=
  OpenClaim.laidByTextAt_later rfl rfl tie noOwnUnsafe
end Go.Proofs.YtfcpglhpolpdcaaGreatDoor
