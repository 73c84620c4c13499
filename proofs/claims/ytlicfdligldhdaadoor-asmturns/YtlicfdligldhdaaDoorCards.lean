/-
  DERIVED. GIVEN WITH THE SEED: THE CARDS: each row of YtlicfdligldhdaaDoorRows.lean that lists a variable, with what it lists TIED to the program's text (the seventh form; the later family's looks); each row that meets fmt, with fmt's text TOLD by the authors' own Lean function (tested against real Go, not proved from fmt's source: count such statements apart). THE CARD IS WHAT COUNTS. Prove the row's statement (the work); the ties are given (YtlicfdligldhdaaDoorTie.lean); close each card by the builder's one call (the guide's Derived/Test/ToyasCard.lean, 'card_holds'). Laid BY PROGRAM, IN A SANDBOX (cutbox-door.mjs). By AI agents, Wed Nov 11 2026. No macro, syntax, notation, axiom, sorry.
-/
import Derived.Test.YtlicfdligldhdaaDoorRows
import GoSem.ClaimSeven
namespace Go.Proofs.YtlicfdligldhdaaDoor
namespace Rows

/-- THE TIED CARD OF 'yieldlaw13.AsmTurns'. -/
def asmTurnsCard : Claim7 := { stood := { row := asmTurnsRow, standIns := [], harness := (true, "e7e5eed8547884c904f58a0377c5f61f42a4387df44cf90e0505df01728cbcec"), looks := true }, kinds := [], alts := [], laidByText := true, laidKinds := [.data, .data, .data, .data, .sentinel, .sentinel, .listed, .data, .pinned], laidTests := true, laidLooks := .later }
def AsmTurnsCardSaid : Prop := Claim7.holds Tryd.pinned (.plain (OpenSpec.ofChange asmTurnsSpec)) asmTurnsCard

/-- THE TIED CARD OF 'yieldlaw13.AsmJoined'. -/
def asmJoinedCard : Claim7 := { stood := { row := asmJoinedRow, standIns := [], harness := (true, "e7e5eed8547884c904f58a0377c5f61f42a4387df44cf90e0505df01728cbcec"), looks := true }, kinds := [], alts := [], laidByText := true, laidKinds := [.data, .data, .data, .data, .sentinel, .sentinel, .listed, .data, .pinned], laidTests := true, laidLooks := .later }
def AsmJoinedCardSaid : Prop := Claim7.holds Tryd.pinned (.plain (OpenSpec.ofChange asmJoinedSpec)) asmJoinedCard

/-- THE SECOND FORM's CARD OF 'yieldlaw13.AsmTurns'. -/
def asmTurnsUptoCard : Claim7 := { stood := { row := asmTurnsUptoRow, standIns := [], harness := (true, "e7e5eed8547884c904f58a0377c5f61f42a4387df44cf90e0505df01728cbcec"), looks := true }, kinds := [], alts := [], laidByText := true, laidKinds := [.data, .data, .data, .data, .sentinel, .sentinel, .listed, .data, .pinned], laidTests := true, laidLooks := .later }
def AsmTurnsUptoCardSaid : Prop := Claim7.holds Tryd.pinned (.plain (OpenSpec.upto asmTurnsSpec)) asmTurnsUptoCard

/-- THE SECOND FORM's CARD OF 'yieldlaw13.AsmJoined'. -/
def asmJoinedUptoCard : Claim7 := { stood := { row := asmJoinedUptoRow, standIns := [], harness := (true, "e7e5eed8547884c904f58a0377c5f61f42a4387df44cf90e0505df01728cbcec"), looks := true }, kinds := [], alts := [], laidByText := true, laidKinds := [.data, .data, .data, .data, .sentinel, .sentinel, .listed, .data, .pinned], laidTests := true, laidLooks := .later }
def AsmJoinedUptoCardSaid : Prop := Claim7.holds Tryd.pinned (.plain (OpenSpec.upto asmJoinedSpec)) asmJoinedUptoCard
end Rows
end Go.Proofs.YtlicfdligldhdaaDoor
