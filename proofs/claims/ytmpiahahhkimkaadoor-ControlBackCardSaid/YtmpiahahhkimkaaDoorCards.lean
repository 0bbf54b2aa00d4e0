/-
  DERIVED. GIVEN WITH THE SEED: THE CARDS: each row of YtmpiahahhkimkaaDoorRows.lean that lists a variable, with what it lists TIED to the program's text (the seventh form; the later family's looks); each row that meets fmt, with fmt's text TOLD by the authors' own Lean function (tested against real Go, not proved from fmt's source: count such statements apart). THE CARD IS WHAT COUNTS. Prove the row's statement (the work); the ties are given (YtmpiahahhkimkaaDoorTie.lean); close each card by the builder's one call (the guide's Derived/Test/ToyasCard.lean, 'card_holds'). Laid BY PROGRAM, IN A SANDBOX (cutbox-door.mjs). By AI agents, Wed Nov 11 2026. No macro, syntax, notation, axiom, sorry.
-/
import Derived.Test.YtmpiahahhkimkaaDoorRows
import GoSem.ClaimSeven
namespace Go.Proofs.YtmpiahahhkimkaaDoor
namespace Rows

/-- THE TIED CARD OF 'depotlaw13.ControlPrints'. -/
def controlPrintsCard : Claim7 := { stood := { row := controlPrintsRow, standIns := [], harness := (true, "09af03d88df6745f010d151a971364fb73b45c80dcf314305721597ea25df49e"), looks := false }, kinds := [], alts := [], laidByText := true, laidKinds := [.data, .data, .data], laidTests := true, laidLooks := .later }
def ControlPrintsCardSaid : Prop := Claim7.holds Tryd.pinned (.plain (OpenSpec.ofChange controlPrintsSpec)) controlPrintsCard

/-- THE TIED CARD OF 'depotlaw13.ControlBack'. -/
def controlBackCard : Claim7 := { stood := { row := controlBackRow, standIns := [], harness := (true, "09af03d88df6745f010d151a971364fb73b45c80dcf314305721597ea25df49e"), looks := false }, kinds := [], alts := [], laidByText := true, laidKinds := [.data, .data, .data], laidTests := true, laidLooks := .later }
def ControlBackCardSaid : Prop := Claim7.holds Tryd.pinned (.plain (OpenSpec.ofChange controlBackSpec)) controlBackCard

/-- THE TIED CARD OF 'depotlaw13.ControlOrder'. -/
def controlOrderCard : Claim7 := { stood := { row := controlOrderRow, standIns := [], harness := (true, "09af03d88df6745f010d151a971364fb73b45c80dcf314305721597ea25df49e"), looks := false }, kinds := [], alts := [], laidByText := true, laidKinds := [.data, .data, .data], laidTests := true, laidLooks := .later }
def ControlOrderCardSaid : Prop := Claim7.holds Tryd.pinned (.plain (OpenSpec.ofChange controlOrderSpec)) controlOrderCard

/-- THE SECOND FORM's CARD OF 'depotlaw13.ControlPrints'. -/
def controlPrintsUptoCard : Claim7 := { stood := { row := controlPrintsUptoRow, standIns := [], harness := (true, "09af03d88df6745f010d151a971364fb73b45c80dcf314305721597ea25df49e"), looks := false }, kinds := [], alts := [], laidByText := true, laidKinds := [.data, .data, .data], laidTests := true, laidLooks := .later }
def ControlPrintsUptoCardSaid : Prop := Claim7.holds Tryd.pinned (.plain (OpenSpec.upto controlPrintsSpec)) controlPrintsUptoCard

/-- THE SECOND FORM's CARD OF 'depotlaw13.ControlBack'. -/
def controlBackUptoCard : Claim7 := { stood := { row := controlBackUptoRow, standIns := [], harness := (true, "09af03d88df6745f010d151a971364fb73b45c80dcf314305721597ea25df49e"), looks := false }, kinds := [], alts := [], laidByText := true, laidKinds := [.data, .data, .data], laidTests := true, laidLooks := .later }
def ControlBackUptoCardSaid : Prop := Claim7.holds Tryd.pinned (.plain (OpenSpec.upto controlBackSpec)) controlBackUptoCard

/-- THE SECOND FORM's CARD OF 'depotlaw13.ControlOrder'. -/
def controlOrderUptoCard : Claim7 := { stood := { row := controlOrderUptoRow, standIns := [], harness := (true, "09af03d88df6745f010d151a971364fb73b45c80dcf314305721597ea25df49e"), looks := false }, kinds := [], alts := [], laidByText := true, laidKinds := [.data, .data, .data], laidTests := true, laidLooks := .later }
def ControlOrderUptoCardSaid : Prop := Claim7.holds Tryd.pinned (.plain (OpenSpec.upto controlOrderSpec)) controlOrderUptoCard
end Rows
end Go.Proofs.YtmpiahahhkimkaaDoor
