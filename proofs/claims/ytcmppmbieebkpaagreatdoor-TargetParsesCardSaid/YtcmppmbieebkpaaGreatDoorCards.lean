/-
  DERIVED. GIVEN WITH THE SEED: THE CARDS: each row of YtcmppmbieebkpaaGreatDoorRows.lean that lists a variable, with what it lists TIED to the program's text (the seventh form; the later family's looks); each row that meets fmt, with fmt's text TOLD by the authors' own Lean function (tested against real Go, not proved from fmt's source: count such statements apart). THE CARD IS WHAT COUNTS. Prove the row's statement (the work); the ties are given (YtcmppmbieebkpaaGreatDoorTie.lean); close each card by the builder's one call (the guide's Derived/Test/ToyasCard.lean, 'card_holds'). Laid BY PROGRAM, IN A SANDBOX (cutbox-door.mjs). By AI agents, Wed Nov 11 2026. No macro, syntax, notation, axiom, sorry.
-/
import Derived.Test.YtcmppmbieebkpaaGreatDoorRows
import GoSem.ClaimSeven
namespace Go.Proofs.YtcmppmbieebkpaaGreatDoor
namespace Rows

/-- THE TIED CARD OF 'depotlaw08.TargetPaths'. -/
def targetPathsCard : Claim7 := { stood := { row := targetPathsRow, standIns := [], harness := (true, "286db617915cd10d829251e6dee2ae236be72339bb88a7b1df71320a2d05e6d1"), looks := false }, kinds := [], alts := [], laidByText := true, laidKinds := [.data, .data, .data, .data, .pinned, .pinned], laidTests := true, laidLooks := .later }
def TargetPathsCardSaid : Prop := Claim7.holds Tryz.pinned (.plain (OpenSpec.ofChange targetPathsSpec)) targetPathsCard

/-- THE TIED CARD OF 'depotlaw08.TargetParses'. -/
def targetParsesCard : Claim7 := { stood := { row := targetParsesRow, standIns := [], harness := (true, "286db617915cd10d829251e6dee2ae236be72339bb88a7b1df71320a2d05e6d1"), looks := false }, kinds := [], alts := [], laidByText := true, laidKinds := [.data, .data, .data, .data, .pinned, .pinned], laidTests := true, laidLooks := .later }
def TargetParsesCardSaid : Prop := Claim7.holds Tryz.pinned (.plain (OpenSpec.ofChange targetParsesSpec)) targetParsesCard

/-- THE SECOND FORM's CARD OF 'depotlaw08.TargetPaths'. -/
def targetPathsUptoCard : Claim7 := { stood := { row := targetPathsUptoRow, standIns := [], harness := (true, "286db617915cd10d829251e6dee2ae236be72339bb88a7b1df71320a2d05e6d1"), looks := false }, kinds := [], alts := [], laidByText := true, laidKinds := [.data, .data, .data, .data, .pinned, .pinned], laidTests := true, laidLooks := .later }
def TargetPathsUptoCardSaid : Prop := Claim7.holds Tryz.pinned (.plain (OpenSpec.upto targetPathsSpec)) targetPathsUptoCard

/-- THE SECOND FORM's CARD OF 'depotlaw08.TargetParses'. -/
def targetParsesUptoCard : Claim7 := { stood := { row := targetParsesUptoRow, standIns := [], harness := (true, "286db617915cd10d829251e6dee2ae236be72339bb88a7b1df71320a2d05e6d1"), looks := false }, kinds := [], alts := [], laidByText := true, laidKinds := [.data, .data, .data, .data, .pinned, .pinned], laidTests := true, laidLooks := .later }
def TargetParsesUptoCardSaid : Prop := Claim7.holds Tryz.pinned (.plain (OpenSpec.upto targetParsesSpec)) targetParsesUptoCard
end Rows
end Go.Proofs.YtcmppmbieebkpaaGreatDoor
