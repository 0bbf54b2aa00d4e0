/-
  DERIVED. GIVEN WITH THE SEED: THE CARDS: each row of YtmpiahahhkimkaaGreatDoorRows.lean that lists a variable, with what it lists TIED to the program's text (the seventh form; the later family's looks); each row that meets fmt, with fmt's text TOLD by the authors' own Lean function (tested against real Go, not proved from fmt's source: count such statements apart). THE CARD IS WHAT COUNTS. Prove the row's statement (the work); the ties are given (YtmpiahahhkimkaaGreatDoorTie.lean); close each card by the builder's one call (the guide's Derived/Test/ToyasCard.lean, 'card_holds'). Laid BY PROGRAM, IN A SANDBOX (cutbox-door.mjs). By AI agents, Wed Nov 11 2026. No macro, syntax, notation, axiom, sorry.
-/
import Derived.Test.YtmpiahahhkimkaaGreatDoorRows
import GoSem.ClaimSeven
namespace Go.Proofs.YtmpiahahhkimkaaGreatDoor
namespace Rows

/-- THE TIED CARD OF 'depotlaw13.ControlParses'. -/
def controlParsesCard : Claim7 := { stood := { row := controlParsesRow, standIns := [], harness := (true, "8e9a32c96b2ba3a82c51ee763ef79eba5c106f33f9a9d5950644fda20cccfd7e"), looks := false }, kinds := [], alts := [], laidByText := true, laidKinds := [.data, .data, .data], laidTests := true, laidLooks := .later }
def ControlParsesCardSaid : Prop := Claim7.holds Tryz.pinned (.plain (OpenSpec.ofChange controlParsesSpec)) controlParsesCard

/-- THE SECOND FORM's CARD OF 'depotlaw13.ControlParses'. -/
def controlParsesUptoCard : Claim7 := { stood := { row := controlParsesUptoRow, standIns := [], harness := (true, "8e9a32c96b2ba3a82c51ee763ef79eba5c106f33f9a9d5950644fda20cccfd7e"), looks := false }, kinds := [], alts := [], laidByText := true, laidKinds := [.data, .data, .data], laidTests := true, laidLooks := .later }
def ControlParsesUptoCardSaid : Prop := Claim7.holds Tryz.pinned (.plain (OpenSpec.upto controlParsesSpec)) controlParsesUptoCard
end Rows
end Go.Proofs.YtmpiahahhkimkaaGreatDoor
