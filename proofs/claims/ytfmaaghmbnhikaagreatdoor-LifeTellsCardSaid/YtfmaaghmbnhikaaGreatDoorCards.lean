/-
  DERIVED. GIVEN WITH THE SEED: THE CARDS: each row of YtfmaaghmbnhikaaGreatDoorRows.lean that lists a variable, with what it lists TIED to the program's text (the seventh form; the later family's looks); each row that meets fmt, with fmt's text TOLD by the authors' own Lean function (tested against real Go, not proved from fmt's source: count such statements apart). THE CARD IS WHAT COUNTS. Prove the row's statement (the work); the ties are given (YtfmaaghmbnhikaaGreatDoorTie.lean); close each card by the builder's one call (the guide's Derived/Test/ToyasCard.lean, 'card_holds'). Laid BY PROGRAM, IN A SANDBOX (cutbox-door.mjs). By AI agents, Wed Nov 11 2026. No macro, syntax, notation, axiom, sorry.
-/
import Derived.Test.YtfmaaghmbnhikaaGreatDoorRows
import GoSem.ClaimSeven
namespace Go.Proofs.YtfmaaghmbnhikaaGreatDoor
namespace Rows

/-- THE TIED CARD OF 'depotlaw17.LifeTells'. -/
def lifeTellsCard : Claim7 := { stood := { row := lifeTellsRow, standIns := [], harness := (true, "7f6787b74653580f140b256f253c746f2498f36730dd223fb63fbdd9da2ecd63"), looks := false }, kinds := [], alts := [], laidByText := true, laidKinds := [.data, .data, .data, .data, .data, .data, .data, .data, .pinned], laidTests := true, laidLooks := .later }
def LifeTellsCardSaid : Prop := Claim7.holds Tryz.pinned (.plain (OpenSpec.ofChange lifeTellsSpec)) lifeTellsCard

/-- THE TIED CARD OF 'depotlaw17.LifeFields'. -/
def lifeFieldsCard : Claim7 := { stood := { row := lifeFieldsRow, standIns := [], harness := (true, "7f6787b74653580f140b256f253c746f2498f36730dd223fb63fbdd9da2ecd63"), looks := false }, kinds := [], alts := [], laidByText := true, laidKinds := [.data, .data, .data, .data, .data, .data, .data, .data, .pinned], laidTests := true, laidLooks := .later }
def LifeFieldsCardSaid : Prop := Claim7.holds Tryz.pinned (.plain (OpenSpec.ofChange lifeFieldsSpec)) lifeFieldsCard

/-- THE TIED CARD OF 'depotlaw17.LifeLater'. -/
def lifeLaterCard : Claim7 := { stood := { row := lifeLaterRow, standIns := [], harness := (true, "7f6787b74653580f140b256f253c746f2498f36730dd223fb63fbdd9da2ecd63"), looks := false }, kinds := [], alts := [], laidByText := true, laidKinds := [.data, .data, .data, .data, .data, .data, .data, .data, .pinned], laidTests := true, laidLooks := .later }
def LifeLaterCardSaid : Prop := Claim7.holds Tryz.pinned (.plain (OpenSpec.ofChange lifeLaterSpec)) lifeLaterCard

/-- THE TIED CARD OF 'depotlaw17.LifeShared'. -/
def lifeSharedCard : Claim7 := { stood := { row := lifeSharedRow, standIns := [], harness := (true, "7f6787b74653580f140b256f253c746f2498f36730dd223fb63fbdd9da2ecd63"), looks := false }, kinds := [], alts := [], laidByText := true, laidKinds := [.data, .data, .data, .data, .data, .data, .data, .data, .pinned], laidTests := true, laidLooks := .later }
def LifeSharedCardSaid : Prop := Claim7.holds Tryz.pinned (.plain (OpenSpec.ofChange lifeSharedSpec)) lifeSharedCard

/-- THE SECOND FORM's CARD OF 'depotlaw17.LifeTells'. -/
def lifeTellsUptoCard : Claim7 := { stood := { row := lifeTellsUptoRow, standIns := [], harness := (true, "7f6787b74653580f140b256f253c746f2498f36730dd223fb63fbdd9da2ecd63"), looks := false }, kinds := [], alts := [], laidByText := true, laidKinds := [.data, .data, .data, .data, .data, .data, .data, .data, .pinned], laidTests := true, laidLooks := .later }
def LifeTellsUptoCardSaid : Prop := Claim7.holds Tryz.pinned (.plain (OpenSpec.upto lifeTellsSpec)) lifeTellsUptoCard

/-- THE SECOND FORM's CARD OF 'depotlaw17.LifeFields'. -/
def lifeFieldsUptoCard : Claim7 := { stood := { row := lifeFieldsUptoRow, standIns := [], harness := (true, "7f6787b74653580f140b256f253c746f2498f36730dd223fb63fbdd9da2ecd63"), looks := false }, kinds := [], alts := [], laidByText := true, laidKinds := [.data, .data, .data, .data, .data, .data, .data, .data, .pinned], laidTests := true, laidLooks := .later }
def LifeFieldsUptoCardSaid : Prop := Claim7.holds Tryz.pinned (.plain (OpenSpec.upto lifeFieldsSpec)) lifeFieldsUptoCard

/-- THE SECOND FORM's CARD OF 'depotlaw17.LifeLater'. -/
def lifeLaterUptoCard : Claim7 := { stood := { row := lifeLaterUptoRow, standIns := [], harness := (true, "7f6787b74653580f140b256f253c746f2498f36730dd223fb63fbdd9da2ecd63"), looks := false }, kinds := [], alts := [], laidByText := true, laidKinds := [.data, .data, .data, .data, .data, .data, .data, .data, .pinned], laidTests := true, laidLooks := .later }
def LifeLaterUptoCardSaid : Prop := Claim7.holds Tryz.pinned (.plain (OpenSpec.upto lifeLaterSpec)) lifeLaterUptoCard

/-- THE SECOND FORM's CARD OF 'depotlaw17.LifeShared'. -/
def lifeSharedUptoCard : Claim7 := { stood := { row := lifeSharedUptoRow, standIns := [], harness := (true, "7f6787b74653580f140b256f253c746f2498f36730dd223fb63fbdd9da2ecd63"), looks := false }, kinds := [], alts := [], laidByText := true, laidKinds := [.data, .data, .data, .data, .data, .data, .data, .data, .pinned], laidTests := true, laidLooks := .later }
def LifeSharedUptoCardSaid : Prop := Claim7.holds Tryz.pinned (.plain (OpenSpec.upto lifeSharedSpec)) lifeSharedUptoCard
end Rows
end Go.Proofs.YtfmaaghmbnhikaaGreatDoor
