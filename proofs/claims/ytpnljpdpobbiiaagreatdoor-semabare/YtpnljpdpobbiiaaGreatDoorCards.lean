/-
  DERIVED. GIVEN WITH THE SEED: THE CARDS: each row of YtpnljpdpobbiiaaGreatDoorRows.lean that lists a variable, with what it lists TIED to the program's text (the seventh form; the later family's looks); each row that meets fmt, with fmt's text TOLD by the authors' own Lean function (tested against real Go, not proved from fmt's source: count such statements apart). THE CARD IS WHAT COUNTS. Prove the row's statement (the work); the ties are given (YtpnljpdpobbiiaaGreatDoorTie.lean); close each card by the builder's one call (the guide's Derived/Test/ToyasCard.lean, 'card_holds'). Laid BY PROGRAM, IN A SANDBOX (cutbox-door.mjs). By AI agents, Wed Nov 11 2026. No macro, syntax, notation, axiom, sorry.
-/
import Derived.Test.YtpnljpdpobbiiaaGreatDoorRows
import GoSem.ClaimSeven
namespace Go.Proofs.YtpnljpdpobbiiaaGreatDoor
namespace Rows

/-- THE TIED CARD OF 'yieldlaw3.SemaOwners'. -/
def semaOwnersCard : Claim7 := { stood := { row := semaOwnersRow, standIns := [], harness := (true, "0eefd48a71e58a5833e261d0150e4efeec283ee794e7e249a1b4f3cd8c6eb661"), looks := true }, kinds := [], alts := [], laidByText := true, laidKinds := [.data, .data, .data], laidTests := true, laidLooks := .later }
def SemaOwnersCardSaid : Prop := Claim7.holds Tryz.pinned (.plain (OpenSpec.ofChange semaOwnersSpec)) semaOwnersCard

/-- THE TIED CARD OF 'yieldlaw3.SemaMore'. -/
def semaMoreCard : Claim7 := { stood := { row := semaMoreRow, standIns := [], harness := (true, "0eefd48a71e58a5833e261d0150e4efeec283ee794e7e249a1b4f3cd8c6eb661"), looks := true }, kinds := [], alts := [], laidByText := true, laidKinds := [.data, .data, .data], laidTests := true, laidLooks := .later }
def SemaMoreCardSaid : Prop := Claim7.holds Tryz.pinned (.plain (OpenSpec.ofChange semaMoreSpec)) semaMoreCard

/-- THE TIED CARD OF 'yieldlaw3.SemaBare'. -/
def semaBareCard : Claim7 := { stood := { row := semaBareRow, standIns := [], harness := (true, "0eefd48a71e58a5833e261d0150e4efeec283ee794e7e249a1b4f3cd8c6eb661"), looks := true }, kinds := [], alts := [], laidByText := true, laidKinds := [.data, .data, .data], laidTests := true, laidLooks := .later }
def SemaBareCardSaid : Prop := Claim7.holds Tryz.pinned (.plain (OpenSpec.ofChange semaBareSpec)) semaBareCard

/-- THE SECOND FORM's CARD OF 'yieldlaw3.SemaOwners'. -/
def semaOwnersUptoCard : Claim7 := { stood := { row := semaOwnersUptoRow, standIns := [], harness := (true, "0eefd48a71e58a5833e261d0150e4efeec283ee794e7e249a1b4f3cd8c6eb661"), looks := true }, kinds := [], alts := [], laidByText := true, laidKinds := [.data, .data, .data], laidTests := true, laidLooks := .later }
def SemaOwnersUptoCardSaid : Prop := Claim7.holds Tryz.pinned (.plain (OpenSpec.upto semaOwnersSpec)) semaOwnersUptoCard

/-- THE SECOND FORM's CARD OF 'yieldlaw3.SemaMore'. -/
def semaMoreUptoCard : Claim7 := { stood := { row := semaMoreUptoRow, standIns := [], harness := (true, "0eefd48a71e58a5833e261d0150e4efeec283ee794e7e249a1b4f3cd8c6eb661"), looks := true }, kinds := [], alts := [], laidByText := true, laidKinds := [.data, .data, .data], laidTests := true, laidLooks := .later }
def SemaMoreUptoCardSaid : Prop := Claim7.holds Tryz.pinned (.plain (OpenSpec.upto semaMoreSpec)) semaMoreUptoCard

/-- THE SECOND FORM's CARD OF 'yieldlaw3.SemaBare'. -/
def semaBareUptoCard : Claim7 := { stood := { row := semaBareUptoRow, standIns := [], harness := (true, "0eefd48a71e58a5833e261d0150e4efeec283ee794e7e249a1b4f3cd8c6eb661"), looks := true }, kinds := [], alts := [], laidByText := true, laidKinds := [.data, .data, .data], laidTests := true, laidLooks := .later }
def SemaBareUptoCardSaid : Prop := Claim7.holds Tryz.pinned (.plain (OpenSpec.upto semaBareSpec)) semaBareUptoCard
end Rows
end Go.Proofs.YtpnljpdpobbiiaaGreatDoor
