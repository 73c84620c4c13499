/-
  DERIVED. GIVEN WITH THE SEED: THE CARDS: each row of YtnkphifgncidaabGreatDoorRows.lean that lists a variable, with what it lists TIED to the program's text (the seventh form; the later family's looks); each row that meets fmt, with fmt's text TOLD by the authors' own Lean function (tested against real Go, not proved from fmt's source: count such statements apart). THE CARD IS WHAT COUNTS. Prove the row's statement (the work); the ties are given (YtnkphifgncidaabGreatDoorTie.lean); close each card by the builder's one call (the guide's Derived/Test/ToyasCard.lean, 'card_holds'). Laid BY PROGRAM, IN A SANDBOX (cutbox-door.mjs). By AI agents, Wed Nov 11 2026. No macro, syntax, notation, axiom, sorry.
-/
import Derived.Test.YtnkphifgncidaabGreatDoorRows
import GoSem.ClaimSeven
namespace Go.Proofs.YtnkphifgncidaabGreatDoor
namespace Rows

/-- THE TIED CARD OF 'yieldlaw12.ShelfCollatz'. -/
def shelfCollatzCard : Claim7 := { stood := { row := shelfCollatzRow, standIns := [], harness := (true, "6aa60a277ceb6393917f8ebecadb6956502ff869f36166b5bf0060a71605fbb2"), looks := true }, kinds := [], alts := [], laidByText := true, laidKinds := [.data, .data, .data], laidTests := true, laidLooks := .later }
def ShelfCollatzCardSaid : Prop := Claim7.holds Tryz.pinned (.plain (OpenSpec.ofChange shelfCollatzSpec)) shelfCollatzCard

/-- THE TIED CARD OF 'yieldlaw12.ShelfZip'. -/
def shelfZipCard : Claim7 := { stood := { row := shelfZipRow, standIns := [], harness := (true, "6aa60a277ceb6393917f8ebecadb6956502ff869f36166b5bf0060a71605fbb2"), looks := true }, kinds := [], alts := [], laidByText := true, laidKinds := [.data, .data, .data], laidTests := true, laidLooks := .later }
def ShelfZipCardSaid : Prop := Claim7.holds Tryz.pinned (.plain (OpenSpec.ofChange shelfZipSpec)) shelfZipCard

/-- THE TIED CARD OF 'yieldlaw12.ShelfMerge'. -/
def shelfMergeCard : Claim7 := { stood := { row := shelfMergeRow, standIns := [], harness := (true, "6aa60a277ceb6393917f8ebecadb6956502ff869f36166b5bf0060a71605fbb2"), looks := true }, kinds := [], alts := [], laidByText := true, laidKinds := [.data, .data, .data], laidTests := true, laidLooks := .later }
def ShelfMergeCardSaid : Prop := Claim7.holds Tryz.pinned (.plain (OpenSpec.ofChange shelfMergeSpec)) shelfMergeCard

/-- THE TIED CARD OF 'yieldlaw12.ShelfGate'. -/
def shelfGateCard : Claim7 := { stood := { row := shelfGateRow, standIns := [], harness := (true, "6aa60a277ceb6393917f8ebecadb6956502ff869f36166b5bf0060a71605fbb2"), looks := true }, kinds := [], alts := [], laidByText := true, laidKinds := [.data, .data, .data], laidTests := true, laidLooks := .later }
def ShelfGateCardSaid : Prop := Claim7.holds Tryz.pinned (.plain (OpenSpec.ofChange shelfGateSpec)) shelfGateCard

/-- THE SECOND FORM's CARD OF 'yieldlaw12.ShelfCollatz'. -/
def shelfCollatzUptoCard : Claim7 := { stood := { row := shelfCollatzUptoRow, standIns := [], harness := (true, "6aa60a277ceb6393917f8ebecadb6956502ff869f36166b5bf0060a71605fbb2"), looks := true }, kinds := [], alts := [], laidByText := true, laidKinds := [.data, .data, .data], laidTests := true, laidLooks := .later }
def ShelfCollatzUptoCardSaid : Prop := Claim7.holds Tryz.pinned (.plain (OpenSpec.upto shelfCollatzSpec)) shelfCollatzUptoCard

/-- THE SECOND FORM's CARD OF 'yieldlaw12.ShelfZip'. -/
def shelfZipUptoCard : Claim7 := { stood := { row := shelfZipUptoRow, standIns := [], harness := (true, "6aa60a277ceb6393917f8ebecadb6956502ff869f36166b5bf0060a71605fbb2"), looks := true }, kinds := [], alts := [], laidByText := true, laidKinds := [.data, .data, .data], laidTests := true, laidLooks := .later }
def ShelfZipUptoCardSaid : Prop := Claim7.holds Tryz.pinned (.plain (OpenSpec.upto shelfZipSpec)) shelfZipUptoCard

/-- THE SECOND FORM's CARD OF 'yieldlaw12.ShelfMerge'. -/
def shelfMergeUptoCard : Claim7 := { stood := { row := shelfMergeUptoRow, standIns := [], harness := (true, "6aa60a277ceb6393917f8ebecadb6956502ff869f36166b5bf0060a71605fbb2"), looks := true }, kinds := [], alts := [], laidByText := true, laidKinds := [.data, .data, .data], laidTests := true, laidLooks := .later }
def ShelfMergeUptoCardSaid : Prop := Claim7.holds Tryz.pinned (.plain (OpenSpec.upto shelfMergeSpec)) shelfMergeUptoCard

/-- THE SECOND FORM's CARD OF 'yieldlaw12.ShelfGate'. -/
def shelfGateUptoCard : Claim7 := { stood := { row := shelfGateUptoRow, standIns := [], harness := (true, "6aa60a277ceb6393917f8ebecadb6956502ff869f36166b5bf0060a71605fbb2"), looks := true }, kinds := [], alts := [], laidByText := true, laidKinds := [.data, .data, .data], laidTests := true, laidLooks := .later }
def ShelfGateUptoCardSaid : Prop := Claim7.holds Tryz.pinned (.plain (OpenSpec.upto shelfGateSpec)) shelfGateUptoCard
end Rows
end Go.Proofs.YtnkphifgncidaabGreatDoor
