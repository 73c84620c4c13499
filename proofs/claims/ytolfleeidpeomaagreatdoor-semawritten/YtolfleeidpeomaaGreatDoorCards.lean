/-
  DERIVED. GIVEN WITH THE SEED: THE CARDS: each row of YtolfleeidpeomaaGreatDoorRows.lean that lists a variable, with what it lists TIED to the program's text (the seventh form; the later family's looks); each row that meets fmt, with fmt's text TOLD by the authors' own Lean function (tested against real Go, not proved from fmt's source: count such statements apart). THE CARD IS WHAT COUNTS. Prove the row's statement (the work); the ties are given (YtolfleeidpeomaaGreatDoorTie.lean); close each card by the builder's one call (the guide's Derived/Test/ToyasCard.lean, 'card_holds'). Laid BY PROGRAM, IN A SANDBOX (cutbox-door.mjs). By AI agents, Wed Nov 11 2026. No macro, syntax, notation, axiom, sorry.
-/
import Derived.Test.YtolfleeidpeomaaGreatDoorRows
import GoSem.ClaimSeven
namespace Go.Proofs.YtolfleeidpeomaaGreatDoor
namespace Rows

/-- THE TIED CARD OF 'yieldlaw3.SemaWritten'. -/
def semaWrittenCard : Claim7 := { stood := { row := semaWrittenRow, standIns := [], harness := (true, "5dc626e04bc4c8f0f55e827935fa9c2314349fd009eaeda794587332c9cc55ed"), looks := true }, kinds := [], alts := [], laidByText := true, laidKinds := [.data, .data, .data, .data, .data, .data], laidTests := true, laidLooks := .later }
def SemaWrittenCardSaid : Prop := Claim7.holds Tryz.pinned (.plain (OpenSpec.ofChange semaWrittenSpec)) semaWrittenCard

/-- THE SECOND FORM's CARD OF 'yieldlaw3.SemaWritten'. -/
def semaWrittenUptoCard : Claim7 := { stood := { row := semaWrittenUptoRow, standIns := [], harness := (true, "5dc626e04bc4c8f0f55e827935fa9c2314349fd009eaeda794587332c9cc55ed"), looks := true }, kinds := [], alts := [], laidByText := true, laidKinds := [.data, .data, .data, .data, .data, .data], laidTests := true, laidLooks := .later }
def SemaWrittenUptoCardSaid : Prop := Claim7.holds Tryz.pinned (.plain (OpenSpec.upto semaWrittenSpec)) semaWrittenUptoCard
end Rows
end Go.Proofs.YtolfleeidpeomaaGreatDoor
