/-
  DERIVED. GIVEN WITH THE SEED: THE CARDS: each row of YtnkphifgncidaaaGreatDoorRows.lean that lists a variable, with what it lists TIED to the program's text (the seventh form; the later family's looks); each row that meets fmt, with fmt's text TOLD by the authors' own Lean function (tested against real Go, not proved from fmt's source: count such statements apart). THE CARD IS WHAT COUNTS. Prove the row's statement (the work); the ties are given (YtnkphifgncidaaaGreatDoorTie.lean); close each card by the builder's one call (the guide's Derived/Test/ToyasCard.lean, 'card_holds'). Laid BY PROGRAM, IN A SANDBOX (cutbox-door.mjs). By AI agents, Wed Nov 11 2026. No macro, syntax, notation, axiom, sorry.
-/
import Derived.Test.YtnkphifgncidaaaGreatDoorRows
import GoSem.ClaimSeven
namespace Go.Proofs.YtnkphifgncidaaaGreatDoor
namespace Rows

/-- THE TIED CARD OF 'yieldlaw12.ShelfWindow'. -/
def shelfWindowCard : Claim7 := { stood := { row := shelfWindowRow, standIns := [], harness := (true, "9b82658d69285c58dc61324e46a6f0feab710ead4c8386a12af181db4af14e5a"), looks := true }, kinds := [], alts := [], laidByText := true, laidKinds := [.data, .data, .data], laidTests := true, laidLooks := .later }
def ShelfWindowCardSaid : Prop := Claim7.holds Tryz.pinned (.plain (OpenSpec.ofChange shelfWindowSpec)) shelfWindowCard

/-- THE TIED CARD OF 'yieldlaw12.ShelfDedupe'. -/
def shelfDedupeCard : Claim7 := { stood := { row := shelfDedupeRow, standIns := [], harness := (true, "9b82658d69285c58dc61324e46a6f0feab710ead4c8386a12af181db4af14e5a"), looks := true }, kinds := [], alts := [], laidByText := true, laidKinds := [.data, .data, .data], laidTests := true, laidLooks := .later }
def ShelfDedupeCardSaid : Prop := Claim7.holds Tryz.pinned (.plain (OpenSpec.ofChange shelfDedupeSpec)) shelfDedupeCard

/-- THE TIED CARD OF 'yieldlaw12.ShelfUntil'. -/
def shelfUntilCard : Claim7 := { stood := { row := shelfUntilRow, standIns := [], harness := (true, "9b82658d69285c58dc61324e46a6f0feab710ead4c8386a12af181db4af14e5a"), looks := true }, kinds := [], alts := [], laidByText := true, laidKinds := [.data, .data, .data], laidTests := true, laidLooks := .later }
def ShelfUntilCardSaid : Prop := Claim7.holds Tryz.pinned (.plain (OpenSpec.ofChange shelfUntilSpec)) shelfUntilCard

/-- THE TIED CARD OF 'yieldlaw12.ShelfBits'. -/
def shelfBitsCard : Claim7 := { stood := { row := shelfBitsRow, standIns := [], harness := (true, "9b82658d69285c58dc61324e46a6f0feab710ead4c8386a12af181db4af14e5a"), looks := true }, kinds := [], alts := [], laidByText := true, laidKinds := [.data, .data, .data], laidTests := true, laidLooks := .later }
def ShelfBitsCardSaid : Prop := Claim7.holds Tryz.pinned (.plain (OpenSpec.ofChange shelfBitsSpec)) shelfBitsCard

/-- THE TIED CARD OF 'yieldlaw12.ShelfDigits'. -/
def shelfDigitsCard : Claim7 := { stood := { row := shelfDigitsRow, standIns := [], harness := (true, "9b82658d69285c58dc61324e46a6f0feab710ead4c8386a12af181db4af14e5a"), looks := true }, kinds := [], alts := [], laidByText := true, laidKinds := [.data, .data, .data], laidTests := true, laidLooks := .later }
def ShelfDigitsCardSaid : Prop := Claim7.holds Tryz.pinned (.plain (OpenSpec.ofChange shelfDigitsSpec)) shelfDigitsCard

/-- THE TIED CARD OF 'yieldlaw12.ShelfPower'. -/
def shelfPowerCard : Claim7 := { stood := { row := shelfPowerRow, standIns := [], harness := (true, "9b82658d69285c58dc61324e46a6f0feab710ead4c8386a12af181db4af14e5a"), looks := true }, kinds := [], alts := [], laidByText := true, laidKinds := [.data, .data, .data], laidTests := true, laidLooks := .later }
def ShelfPowerCardSaid : Prop := Claim7.holds Tryz.pinned (.plain (OpenSpec.ofChange shelfPowerSpec)) shelfPowerCard

/-- THE SECOND FORM's CARD OF 'yieldlaw12.ShelfWindow'. -/
def shelfWindowUptoCard : Claim7 := { stood := { row := shelfWindowUptoRow, standIns := [], harness := (true, "9b82658d69285c58dc61324e46a6f0feab710ead4c8386a12af181db4af14e5a"), looks := true }, kinds := [], alts := [], laidByText := true, laidKinds := [.data, .data, .data], laidTests := true, laidLooks := .later }
def ShelfWindowUptoCardSaid : Prop := Claim7.holds Tryz.pinned (.plain (OpenSpec.upto shelfWindowSpec)) shelfWindowUptoCard

/-- THE SECOND FORM's CARD OF 'yieldlaw12.ShelfDedupe'. -/
def shelfDedupeUptoCard : Claim7 := { stood := { row := shelfDedupeUptoRow, standIns := [], harness := (true, "9b82658d69285c58dc61324e46a6f0feab710ead4c8386a12af181db4af14e5a"), looks := true }, kinds := [], alts := [], laidByText := true, laidKinds := [.data, .data, .data], laidTests := true, laidLooks := .later }
def ShelfDedupeUptoCardSaid : Prop := Claim7.holds Tryz.pinned (.plain (OpenSpec.upto shelfDedupeSpec)) shelfDedupeUptoCard

/-- THE SECOND FORM's CARD OF 'yieldlaw12.ShelfUntil'. -/
def shelfUntilUptoCard : Claim7 := { stood := { row := shelfUntilUptoRow, standIns := [], harness := (true, "9b82658d69285c58dc61324e46a6f0feab710ead4c8386a12af181db4af14e5a"), looks := true }, kinds := [], alts := [], laidByText := true, laidKinds := [.data, .data, .data], laidTests := true, laidLooks := .later }
def ShelfUntilUptoCardSaid : Prop := Claim7.holds Tryz.pinned (.plain (OpenSpec.upto shelfUntilSpec)) shelfUntilUptoCard

/-- THE SECOND FORM's CARD OF 'yieldlaw12.ShelfBits'. -/
def shelfBitsUptoCard : Claim7 := { stood := { row := shelfBitsUptoRow, standIns := [], harness := (true, "9b82658d69285c58dc61324e46a6f0feab710ead4c8386a12af181db4af14e5a"), looks := true }, kinds := [], alts := [], laidByText := true, laidKinds := [.data, .data, .data], laidTests := true, laidLooks := .later }
def ShelfBitsUptoCardSaid : Prop := Claim7.holds Tryz.pinned (.plain (OpenSpec.upto shelfBitsSpec)) shelfBitsUptoCard

/-- THE SECOND FORM's CARD OF 'yieldlaw12.ShelfDigits'. -/
def shelfDigitsUptoCard : Claim7 := { stood := { row := shelfDigitsUptoRow, standIns := [], harness := (true, "9b82658d69285c58dc61324e46a6f0feab710ead4c8386a12af181db4af14e5a"), looks := true }, kinds := [], alts := [], laidByText := true, laidKinds := [.data, .data, .data], laidTests := true, laidLooks := .later }
def ShelfDigitsUptoCardSaid : Prop := Claim7.holds Tryz.pinned (.plain (OpenSpec.upto shelfDigitsSpec)) shelfDigitsUptoCard

/-- THE SECOND FORM's CARD OF 'yieldlaw12.ShelfPower'. -/
def shelfPowerUptoCard : Claim7 := { stood := { row := shelfPowerUptoRow, standIns := [], harness := (true, "9b82658d69285c58dc61324e46a6f0feab710ead4c8386a12af181db4af14e5a"), looks := true }, kinds := [], alts := [], laidByText := true, laidKinds := [.data, .data, .data], laidTests := true, laidLooks := .later }
def ShelfPowerUptoCardSaid : Prop := Claim7.holds Tryz.pinned (.plain (OpenSpec.upto shelfPowerSpec)) shelfPowerUptoCard
end Rows
end Go.Proofs.YtnkphifgncidaaaGreatDoor
