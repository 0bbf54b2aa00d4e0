/-
  DERIVED. GIVEN WITH THE SEED: THE CARDS: each row of YtnembpklidcgoaaGreatDoorRows.lean that lists a variable, with what it lists TIED to the program's text (the seventh form; the later family's looks); each row that meets fmt, with fmt's text TOLD by the authors' own Lean function (tested against real Go, not proved from fmt's source: count such statements apart). THE CARD IS WHAT COUNTS. Prove the row's statement (the work); the ties are given (YtnembpklidcgoaaGreatDoorTie.lean); close each card by the builder's one call (the guide's Derived/Test/ToyasCard.lean, 'card_holds'). Laid BY PROGRAM, IN A SANDBOX (cutbox-door.mjs). By AI agents, Wed Nov 11 2026. No macro, syntax, notation, axiom, sorry.
-/
import Derived.Test.YtnembpklidcgoaaGreatDoorRows
import GoSem.ClaimSeven
namespace Go.Proofs.YtnembpklidcgoaaGreatDoor
namespace Rows

/-- THE TIED CARD OF 'depotlaw18.ReuseTells'. -/
def reuseTellsCard : Claim7 := { stood := { row := reuseTellsRow, standIns := [], harness := (true, "ee95bf280c71ddcba316b679f63eb05b67118a50dd6f4dc8d47af2d69cf92404"), looks := false }, kinds := [], alts := [], laidByText := true, laidKinds := [.data, .data, .data, .data, .data, .data, .data, .data, .data, .pinned], laidTests := true, laidLooks := .later }
def ReuseTellsCardSaid : Prop := Claim7.holds Tryz.pinned (.plain (OpenSpec.ofChange reuseTellsSpec)) reuseTellsCard

/-- THE TIED CARD OF 'depotlaw18.ReuseVerdict'. -/
def reuseVerdictCard : Claim7 := { stood := { row := reuseVerdictRow, standIns := [], harness := (true, "ee95bf280c71ddcba316b679f63eb05b67118a50dd6f4dc8d47af2d69cf92404"), looks := false }, kinds := [], alts := [], laidByText := true, laidKinds := [.data, .data, .data, .data, .data, .data, .data, .data, .data, .pinned], laidTests := true, laidLooks := .later }
def ReuseVerdictCardSaid : Prop := Claim7.holds Tryz.pinned (.plain (OpenSpec.ofChange reuseVerdictSpec)) reuseVerdictCard

/-- THE TIED CARD OF 'depotlaw18.ReuseFresh'. -/
def reuseFreshCard : Claim7 := { stood := { row := reuseFreshRow, standIns := [], harness := (true, "ee95bf280c71ddcba316b679f63eb05b67118a50dd6f4dc8d47af2d69cf92404"), looks := false }, kinds := [], alts := [], laidByText := true, laidKinds := [.data, .data, .data, .data, .data, .data, .data, .data, .data, .pinned], laidTests := true, laidLooks := .later }
def ReuseFreshCardSaid : Prop := Claim7.holds Tryz.pinned (.plain (OpenSpec.ofChange reuseFreshSpec)) reuseFreshCard

/-- THE TIED CARD OF 'depotlaw18.ReuseShared'. -/
def reuseSharedCard : Claim7 := { stood := { row := reuseSharedRow, standIns := [], harness := (true, "ee95bf280c71ddcba316b679f63eb05b67118a50dd6f4dc8d47af2d69cf92404"), looks := false }, kinds := [], alts := [], laidByText := true, laidKinds := [.data, .data, .data, .data, .data, .data, .data, .data, .data, .pinned], laidTests := true, laidLooks := .later }
def ReuseSharedCardSaid : Prop := Claim7.holds Tryz.pinned (.plain (OpenSpec.ofChange reuseSharedSpec)) reuseSharedCard

/-- THE SECOND FORM's CARD OF 'depotlaw18.ReuseTells'. -/
def reuseTellsUptoCard : Claim7 := { stood := { row := reuseTellsUptoRow, standIns := [], harness := (true, "ee95bf280c71ddcba316b679f63eb05b67118a50dd6f4dc8d47af2d69cf92404"), looks := false }, kinds := [], alts := [], laidByText := true, laidKinds := [.data, .data, .data, .data, .data, .data, .data, .data, .data, .pinned], laidTests := true, laidLooks := .later }
def ReuseTellsUptoCardSaid : Prop := Claim7.holds Tryz.pinned (.plain (OpenSpec.upto reuseTellsSpec)) reuseTellsUptoCard

/-- THE SECOND FORM's CARD OF 'depotlaw18.ReuseVerdict'. -/
def reuseVerdictUptoCard : Claim7 := { stood := { row := reuseVerdictUptoRow, standIns := [], harness := (true, "ee95bf280c71ddcba316b679f63eb05b67118a50dd6f4dc8d47af2d69cf92404"), looks := false }, kinds := [], alts := [], laidByText := true, laidKinds := [.data, .data, .data, .data, .data, .data, .data, .data, .data, .pinned], laidTests := true, laidLooks := .later }
def ReuseVerdictUptoCardSaid : Prop := Claim7.holds Tryz.pinned (.plain (OpenSpec.upto reuseVerdictSpec)) reuseVerdictUptoCard

/-- THE SECOND FORM's CARD OF 'depotlaw18.ReuseFresh'. -/
def reuseFreshUptoCard : Claim7 := { stood := { row := reuseFreshUptoRow, standIns := [], harness := (true, "ee95bf280c71ddcba316b679f63eb05b67118a50dd6f4dc8d47af2d69cf92404"), looks := false }, kinds := [], alts := [], laidByText := true, laidKinds := [.data, .data, .data, .data, .data, .data, .data, .data, .data, .pinned], laidTests := true, laidLooks := .later }
def ReuseFreshUptoCardSaid : Prop := Claim7.holds Tryz.pinned (.plain (OpenSpec.upto reuseFreshSpec)) reuseFreshUptoCard

/-- THE SECOND FORM's CARD OF 'depotlaw18.ReuseShared'. -/
def reuseSharedUptoCard : Claim7 := { stood := { row := reuseSharedUptoRow, standIns := [], harness := (true, "ee95bf280c71ddcba316b679f63eb05b67118a50dd6f4dc8d47af2d69cf92404"), looks := false }, kinds := [], alts := [], laidByText := true, laidKinds := [.data, .data, .data, .data, .data, .data, .data, .data, .data, .pinned], laidTests := true, laidLooks := .later }
def ReuseSharedUptoCardSaid : Prop := Claim7.holds Tryz.pinned (.plain (OpenSpec.upto reuseSharedSpec)) reuseSharedUptoCard
end Rows
end Go.Proofs.YtnembpklidcgoaaGreatDoor
