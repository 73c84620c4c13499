/-
  DERIVED. GIVEN WITH THE SEED: THE CARDS: each row of YtifnmgfaohdkpaaGreatDoorRows.lean that lists a variable, with what it lists TIED to the program's text (the seventh form; the later family's looks); each row that meets fmt, with fmt's text TOLD by the authors' own Lean function (tested against real Go, not proved from fmt's source: count such statements apart). THE CARD IS WHAT COUNTS. Prove the row's statement (the work); the ties are given (YtifnmgfaohdkpaaGreatDoorTie.lean); close each card by the builder's one call (the guide's Derived/Test/ToyasCard.lean, 'card_holds'). Laid BY PROGRAM, IN A SANDBOX (cutbox-door.mjs). By AI agents, Wed Nov 11 2026. No macro, syntax, notation, axiom, sorry.
-/
import Derived.Test.YtifnmgfaohdkpaaGreatDoorRows
import GoSem.ClaimSeven
namespace Go.Proofs.YtifnmgfaohdkpaaGreatDoor
namespace Rows

/-- THE TIED CARD OF 'yieldlaw12.ShelfSieve'. -/
def shelfSieveCard : Claim7 := { stood := { row := shelfSieveRow, standIns := [], harness := (true, "5276440754514aed4b3e5ceee8fdddde3f2fb7d771ddbcff56aec2338218848b"), looks := true }, kinds := [], alts := [], laidByText := true, laidKinds := [.data, .data, .data], laidTests := true, laidLooks := .later }
def ShelfSieveCardSaid : Prop := Claim7.holds Tryz.pinned (.plain (OpenSpec.ofChange shelfSieveSpec)) shelfSieveCard

/-- THE SECOND FORM's CARD OF 'yieldlaw12.ShelfSieve'. -/
def shelfSieveUptoCard : Claim7 := { stood := { row := shelfSieveUptoRow, standIns := [], harness := (true, "5276440754514aed4b3e5ceee8fdddde3f2fb7d771ddbcff56aec2338218848b"), looks := true }, kinds := [], alts := [], laidByText := true, laidKinds := [.data, .data, .data], laidTests := true, laidLooks := .later }
def ShelfSieveUptoCardSaid : Prop := Claim7.holds Tryz.pinned (.plain (OpenSpec.upto shelfSieveSpec)) shelfSieveUptoCard
end Rows
end Go.Proofs.YtifnmgfaohdkpaaGreatDoor
