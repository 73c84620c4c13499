/-
  DERIVED. GIVEN WITH THE SEED: THE CARDS: each row of YthffafaoobpedabGreatDoorRows.lean that lists a variable, with what it lists TIED to the program's text (the seventh form; the later family's looks); each row that meets fmt, with fmt's text TOLD by the authors' own Lean function (tested against real Go, not proved from fmt's source: count such statements apart). THE CARD IS WHAT COUNTS. Prove the row's statement (the work); the ties are given (YthffafaoobpedabGreatDoorTie.lean); close each card by the builder's one call (the guide's Derived/Test/ToyasCard.lean, 'card_holds'). Laid BY PROGRAM, IN A SANDBOX (cutbox-door.mjs). By AI agents, Wed Nov 11 2026. No macro, syntax, notation, axiom, sorry.
-/
import Derived.Test.YthffafaoobpedabGreatDoorRows
import GoSem.ClaimSeven
namespace Go.Proofs.YthffafaoobpedabGreatDoor
namespace Rows

/-- THE TIED CARD OF 'yieldlaw12.ShelfFact'. -/
def shelfFactCard : Claim7 := { stood := { row := shelfFactRow, standIns := [], harness := (true, "2c62e8a31628344cda845c58864815a0b97348f4b9ec39ecfaea5d908d43c775"), looks := true }, kinds := [], alts := [], laidByText := true, laidKinds := [.data, .data, .data], laidTests := true, laidLooks := .later }
def ShelfFactCardSaid : Prop := Claim7.holds Tryz.pinned (.plain (OpenSpec.ofChange shelfFactSpec)) shelfFactCard

/-- THE TIED CARD OF 'yieldlaw12.ShelfRounds'. -/
def shelfRoundsCard : Claim7 := { stood := { row := shelfRoundsRow, standIns := [], harness := (true, "2c62e8a31628344cda845c58864815a0b97348f4b9ec39ecfaea5d908d43c775"), looks := true }, kinds := [], alts := [], laidByText := true, laidKinds := [.data, .data, .data], laidTests := true, laidLooks := .later }
def ShelfRoundsCardSaid : Prop := Claim7.holds Tryz.pinned (.plain (OpenSpec.ofChange shelfRoundsSpec)) shelfRoundsCard

/-- THE SECOND FORM's CARD OF 'yieldlaw12.ShelfFact'. -/
def shelfFactUptoCard : Claim7 := { stood := { row := shelfFactUptoRow, standIns := [], harness := (true, "2c62e8a31628344cda845c58864815a0b97348f4b9ec39ecfaea5d908d43c775"), looks := true }, kinds := [], alts := [], laidByText := true, laidKinds := [.data, .data, .data], laidTests := true, laidLooks := .later }
def ShelfFactUptoCardSaid : Prop := Claim7.holds Tryz.pinned (.plain (OpenSpec.upto shelfFactSpec)) shelfFactUptoCard

/-- THE SECOND FORM's CARD OF 'yieldlaw12.ShelfRounds'. -/
def shelfRoundsUptoCard : Claim7 := { stood := { row := shelfRoundsUptoRow, standIns := [], harness := (true, "2c62e8a31628344cda845c58864815a0b97348f4b9ec39ecfaea5d908d43c775"), looks := true }, kinds := [], alts := [], laidByText := true, laidKinds := [.data, .data, .data], laidTests := true, laidLooks := .later }
def ShelfRoundsUptoCardSaid : Prop := Claim7.holds Tryz.pinned (.plain (OpenSpec.upto shelfRoundsSpec)) shelfRoundsUptoCard
end Rows
end Go.Proofs.YthffafaoobpedabGreatDoor
