/-
  DERIVED. GIVEN WITH THE SEED: THE CARDS: each row of YtlnikpcoejpknaaDoorRows.lean that lists a variable, with what it lists TIED to the program's text (the seventh form; the later family's looks); each row that meets fmt, with fmt's text TOLD by the authors' own Lean function (tested against real Go, not proved from fmt's source: count such statements apart). THE CARD IS WHAT COUNTS. Prove the row's statement (the work); the ties are given (YtlnikpcoejpknaaDoorTie.lean); close each card by the builder's one call (the guide's Derived/Test/ToyasCard.lean, 'card_holds'). Laid BY PROGRAM, IN A SANDBOX (cutbox-door.mjs). By AI agents, Wed Nov 11 2026. No macro, syntax, notation, axiom, sorry.
-/
import Derived.Test.YtlnikpcoejpknaaDoorRows
import GoSem.ClaimSeven
namespace Go.Proofs.YtlnikpcoejpknaaDoor
namespace Rows

/-- THE TIED CARD OF 'yieldlaw2.SynPrints'. -/
def synPrintsCard : Claim7 := { stood := { row := synPrintsRow, standIns := [], harness := (true, "4170a3de3cf2bbc37704f37af44286e43cd341abf729cd599089e70fb2a5bb91"), looks := true }, kinds := [], alts := [], laidByText := true, laidKinds := [.data, .data, .data, .data], laidTests := true, laidLooks := .later }
def SynPrintsCardSaid : Prop := Claim7.holds Tryd.pinned (.plain (OpenSpec.ofChange synPrintsSpec)) synPrintsCard

/-- THE TIED CARD OF 'yieldlaw2.SynJoined'. -/
def synJoinedCard : Claim7 := { stood := { row := synJoinedRow, standIns := [], harness := (true, "4170a3de3cf2bbc37704f37af44286e43cd341abf729cd599089e70fb2a5bb91"), looks := true }, kinds := [], alts := [], laidByText := true, laidKinds := [.data], laidTests := true, laidLooks := .later }
def SynJoinedCardSaid : Prop := Claim7.holds Tryd.pinned (.plain (OpenSpec.ofChange synJoinedSpec)) synJoinedCard

/-- THE SECOND FORM's CARD OF 'yieldlaw2.SynPrints'. -/
def synPrintsUptoCard : Claim7 := { stood := { row := synPrintsUptoRow, standIns := [], harness := (true, "4170a3de3cf2bbc37704f37af44286e43cd341abf729cd599089e70fb2a5bb91"), looks := true }, kinds := [], alts := [], laidByText := true, laidKinds := [.data, .data, .data, .data], laidTests := true, laidLooks := .later }
def SynPrintsUptoCardSaid : Prop := Claim7.holds Tryd.pinned (.plain (OpenSpec.upto synPrintsSpec)) synPrintsUptoCard

/-- THE SECOND FORM's CARD OF 'yieldlaw2.SynJoined'. -/
def synJoinedUptoCard : Claim7 := { stood := { row := synJoinedUptoRow, standIns := [], harness := (true, "4170a3de3cf2bbc37704f37af44286e43cd341abf729cd599089e70fb2a5bb91"), looks := true }, kinds := [], alts := [], laidByText := true, laidKinds := [.data], laidTests := true, laidLooks := .later }
def SynJoinedUptoCardSaid : Prop := Claim7.holds Tryd.pinned (.plain (OpenSpec.upto synJoinedSpec)) synJoinedUptoCard
end Rows
end Go.Proofs.YtlnikpcoejpknaaDoor
