/-
  DERIVED. GIVEN WITH THE SEED: THE CARDS: each row of YtgbnnhnlfgcleaaGreatDoorRows.lean that lists a variable, with what it lists TIED to the program's text (the seventh form; the later family's looks); each row that meets fmt, with fmt's text TOLD by the authors' own Lean function (tested against real Go, not proved from fmt's source: count such statements apart). THE CARD IS WHAT COUNTS. Prove the row's statement (the work); the ties are given (YtgbnnhnlfgcleaaGreatDoorTie.lean); close each card by the builder's one call (the guide's Derived/Test/ToyasCard.lean, 'card_holds'). Laid BY PROGRAM, IN A SANDBOX (cutbox-door.mjs). By AI agents, Wed Nov 11 2026. No macro, syntax, notation, axiom, sorry.
-/
import Derived.Test.YtgbnnhnlfgcleaaGreatDoorRows
import GoSem.ClaimSeven
namespace Go.Proofs.YtgbnnhnlfgcleaaGreatDoor
namespace Rows

/-- THE TIED CARD OF 'yieldlaw12.ShelfDouble'. -/
def shelfDoubleCard : Claim7 := { stood := { row := shelfDoubleRow, standIns := [], harness := (true, "63aa0fc4b3d55bb21c874b6993db59b7b1a8a31ba998d6fd1f8a56f1d70c7c47"), looks := true }, kinds := [], alts := [], laidByText := true, laidKinds := [.data, .data, .data], laidTests := true, laidLooks := .later }
def ShelfDoubleCardSaid : Prop := Claim7.holds Tryz.pinned (.plain (OpenSpec.ofChange shelfDoubleSpec)) shelfDoubleCard

/-- THE TIED CARD OF 'yieldlaw12.ShelfSums'. -/
def shelfSumsCard : Claim7 := { stood := { row := shelfSumsRow, standIns := [], harness := (true, "63aa0fc4b3d55bb21c874b6993db59b7b1a8a31ba998d6fd1f8a56f1d70c7c47"), looks := true }, kinds := [], alts := [], laidByText := true, laidKinds := [.data, .data, .data], laidTests := true, laidLooks := .later }
def ShelfSumsCardSaid : Prop := Claim7.holds Tryz.pinned (.plain (OpenSpec.ofChange shelfSumsSpec)) shelfSumsCard

/-- THE TIED CARD OF 'yieldlaw12.ShelfPairs'. -/
def shelfPairsCard : Claim7 := { stood := { row := shelfPairsRow, standIns := [], harness := (true, "63aa0fc4b3d55bb21c874b6993db59b7b1a8a31ba998d6fd1f8a56f1d70c7c47"), looks := true }, kinds := [], alts := [], laidByText := true, laidKinds := [.data, .data, .data], laidTests := true, laidLooks := .later }
def ShelfPairsCardSaid : Prop := Claim7.holds Tryz.pinned (.plain (OpenSpec.ofChange shelfPairsSpec)) shelfPairsCard

/-- THE TIED CARD OF 'yieldlaw12.ShelfEvens'. -/
def shelfEvensCard : Claim7 := { stood := { row := shelfEvensRow, standIns := [], harness := (true, "63aa0fc4b3d55bb21c874b6993db59b7b1a8a31ba998d6fd1f8a56f1d70c7c47"), looks := true }, kinds := [], alts := [], laidByText := true, laidKinds := [.data, .data, .data], laidTests := true, laidLooks := .later }
def ShelfEvensCardSaid : Prop := Claim7.holds Tryz.pinned (.plain (OpenSpec.ofChange shelfEvensSpec)) shelfEvensCard

/-- THE TIED CARD OF 'yieldlaw12.ShelfChanges'. -/
def shelfChangesCard : Claim7 := { stood := { row := shelfChangesRow, standIns := [], harness := (true, "63aa0fc4b3d55bb21c874b6993db59b7b1a8a31ba998d6fd1f8a56f1d70c7c47"), looks := true }, kinds := [], alts := [], laidByText := true, laidKinds := [.data, .data, .data], laidTests := true, laidLooks := .later }
def ShelfChangesCardSaid : Prop := Claim7.holds Tryz.pinned (.plain (OpenSpec.ofChange shelfChangesSpec)) shelfChangesCard

/-- THE TIED CARD OF 'yieldlaw12.ShelfFib'. -/
def shelfFibCard : Claim7 := { stood := { row := shelfFibRow, standIns := [], harness := (true, "63aa0fc4b3d55bb21c874b6993db59b7b1a8a31ba998d6fd1f8a56f1d70c7c47"), looks := true }, kinds := [], alts := [], laidByText := true, laidKinds := [.data, .data, .data], laidTests := true, laidLooks := .later }
def ShelfFibCardSaid : Prop := Claim7.holds Tryz.pinned (.plain (OpenSpec.ofChange shelfFibSpec)) shelfFibCard

/-- THE SECOND FORM's CARD OF 'yieldlaw12.ShelfDouble'. -/
def shelfDoubleUptoCard : Claim7 := { stood := { row := shelfDoubleUptoRow, standIns := [], harness := (true, "63aa0fc4b3d55bb21c874b6993db59b7b1a8a31ba998d6fd1f8a56f1d70c7c47"), looks := true }, kinds := [], alts := [], laidByText := true, laidKinds := [.data, .data, .data], laidTests := true, laidLooks := .later }
def ShelfDoubleUptoCardSaid : Prop := Claim7.holds Tryz.pinned (.plain (OpenSpec.upto shelfDoubleSpec)) shelfDoubleUptoCard

/-- THE SECOND FORM's CARD OF 'yieldlaw12.ShelfSums'. -/
def shelfSumsUptoCard : Claim7 := { stood := { row := shelfSumsUptoRow, standIns := [], harness := (true, "63aa0fc4b3d55bb21c874b6993db59b7b1a8a31ba998d6fd1f8a56f1d70c7c47"), looks := true }, kinds := [], alts := [], laidByText := true, laidKinds := [.data, .data, .data], laidTests := true, laidLooks := .later }
def ShelfSumsUptoCardSaid : Prop := Claim7.holds Tryz.pinned (.plain (OpenSpec.upto shelfSumsSpec)) shelfSumsUptoCard

/-- THE SECOND FORM's CARD OF 'yieldlaw12.ShelfPairs'. -/
def shelfPairsUptoCard : Claim7 := { stood := { row := shelfPairsUptoRow, standIns := [], harness := (true, "63aa0fc4b3d55bb21c874b6993db59b7b1a8a31ba998d6fd1f8a56f1d70c7c47"), looks := true }, kinds := [], alts := [], laidByText := true, laidKinds := [.data, .data, .data], laidTests := true, laidLooks := .later }
def ShelfPairsUptoCardSaid : Prop := Claim7.holds Tryz.pinned (.plain (OpenSpec.upto shelfPairsSpec)) shelfPairsUptoCard

/-- THE SECOND FORM's CARD OF 'yieldlaw12.ShelfEvens'. -/
def shelfEvensUptoCard : Claim7 := { stood := { row := shelfEvensUptoRow, standIns := [], harness := (true, "63aa0fc4b3d55bb21c874b6993db59b7b1a8a31ba998d6fd1f8a56f1d70c7c47"), looks := true }, kinds := [], alts := [], laidByText := true, laidKinds := [.data, .data, .data], laidTests := true, laidLooks := .later }
def ShelfEvensUptoCardSaid : Prop := Claim7.holds Tryz.pinned (.plain (OpenSpec.upto shelfEvensSpec)) shelfEvensUptoCard

/-- THE SECOND FORM's CARD OF 'yieldlaw12.ShelfChanges'. -/
def shelfChangesUptoCard : Claim7 := { stood := { row := shelfChangesUptoRow, standIns := [], harness := (true, "63aa0fc4b3d55bb21c874b6993db59b7b1a8a31ba998d6fd1f8a56f1d70c7c47"), looks := true }, kinds := [], alts := [], laidByText := true, laidKinds := [.data, .data, .data], laidTests := true, laidLooks := .later }
def ShelfChangesUptoCardSaid : Prop := Claim7.holds Tryz.pinned (.plain (OpenSpec.upto shelfChangesSpec)) shelfChangesUptoCard

/-- THE SECOND FORM's CARD OF 'yieldlaw12.ShelfFib'. -/
def shelfFibUptoCard : Claim7 := { stood := { row := shelfFibUptoRow, standIns := [], harness := (true, "63aa0fc4b3d55bb21c874b6993db59b7b1a8a31ba998d6fd1f8a56f1d70c7c47"), looks := true }, kinds := [], alts := [], laidByText := true, laidKinds := [.data, .data, .data], laidTests := true, laidLooks := .later }
def ShelfFibUptoCardSaid : Prop := Claim7.holds Tryz.pinned (.plain (OpenSpec.upto shelfFibSpec)) shelfFibUptoCard
end Rows
end Go.Proofs.YtgbnnhnlfgcleaaGreatDoor
