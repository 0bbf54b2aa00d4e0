/-
  DERIVED. GIVEN WITH THE SEED: THE CARDS: each row of YtjkfdjolhmgemaaGreatDoorRows.lean that lists a variable, with what it lists TIED to the program's text (the seventh form; the later family's looks); each row that meets fmt, with fmt's text TOLD by the authors' own Lean function (tested against real Go, not proved from fmt's source: count such statements apart). THE CARD IS WHAT COUNTS. Prove the row's statement (the work); the ties are given (YtjkfdjolhmgemaaGreatDoorTie.lean); close each card by the builder's one call (the guide's Derived/Test/ToyasCard.lean, 'card_holds'). Laid BY PROGRAM, IN A SANDBOX (cutbox-door.mjs). By AI agents, Wed Nov 11 2026. No macro, syntax, notation, axiom, sorry.
-/
import Derived.Test.YtjkfdjolhmgemaaGreatDoorRows
import GoSem.ClaimSeven
namespace Go.Proofs.YtjkfdjolhmgemaaGreatDoor
namespace Rows

/-- THE TIED CARD OF 'depotlaw19.CondsTells'. -/
def condsTellsCard : Claim7 := { stood := { row := condsTellsRow, standIns := [], harness := (true, "dbd0944a12677f864984b47ee2abec8fdf4e97619400f8773775d64dd833aa77"), looks := false }, kinds := [], alts := [], laidByText := true, laidKinds := [.data, .data, .data, .data, .data, .data, .data, .data, .data, .pinned], laidTests := true, laidLooks := .later }
def CondsTellsCardSaid : Prop := Claim7.holds Tryz.pinned (.plain (OpenSpec.ofChange condsTellsSpec)) condsTellsCard

/-- THE TIED CARD OF 'depotlaw19.CondsMerges'. -/
def condsMergesCard : Claim7 := { stood := { row := condsMergesRow, standIns := [], harness := (true, "dbd0944a12677f864984b47ee2abec8fdf4e97619400f8773775d64dd833aa77"), looks := false }, kinds := [], alts := [], laidByText := true, laidKinds := [.data, .data, .data, .data, .data, .data, .data, .data, .data, .pinned], laidTests := true, laidLooks := .later }
def CondsMergesCardSaid : Prop := Claim7.holds Tryz.pinned (.plain (OpenSpec.ofChange condsMergesSpec)) condsMergesCard

/-- THE TIED CARD OF 'depotlaw19.CondsAgain'. -/
def condsAgainCard : Claim7 := { stood := { row := condsAgainRow, standIns := [], harness := (true, "dbd0944a12677f864984b47ee2abec8fdf4e97619400f8773775d64dd833aa77"), looks := false }, kinds := [], alts := [], laidByText := true, laidKinds := [.data, .data, .data, .data, .data, .data, .data, .data, .data, .pinned], laidTests := true, laidLooks := .later }
def CondsAgainCardSaid : Prop := Claim7.holds Tryz.pinned (.plain (OpenSpec.ofChange condsAgainSpec)) condsAgainCard

/-- THE TIED CARD OF 'depotlaw19.CondsTold'. -/
def condsToldCard : Claim7 := { stood := { row := condsToldRow, standIns := [], harness := (true, "dbd0944a12677f864984b47ee2abec8fdf4e97619400f8773775d64dd833aa77"), looks := false }, kinds := [], alts := [], laidByText := true, laidKinds := [.data, .data, .data, .data, .data, .data, .data, .data, .data, .pinned], laidTests := true, laidLooks := .later }
def CondsToldCardSaid : Prop := Claim7.holds Tryz.pinned (.plain (OpenSpec.ofChange condsToldSpec)) condsToldCard

/-- THE SECOND FORM's CARD OF 'depotlaw19.CondsTells'. -/
def condsTellsUptoCard : Claim7 := { stood := { row := condsTellsUptoRow, standIns := [], harness := (true, "dbd0944a12677f864984b47ee2abec8fdf4e97619400f8773775d64dd833aa77"), looks := false }, kinds := [], alts := [], laidByText := true, laidKinds := [.data, .data, .data, .data, .data, .data, .data, .data, .data, .pinned], laidTests := true, laidLooks := .later }
def CondsTellsUptoCardSaid : Prop := Claim7.holds Tryz.pinned (.plain (OpenSpec.upto condsTellsSpec)) condsTellsUptoCard

/-- THE SECOND FORM's CARD OF 'depotlaw19.CondsMerges'. -/
def condsMergesUptoCard : Claim7 := { stood := { row := condsMergesUptoRow, standIns := [], harness := (true, "dbd0944a12677f864984b47ee2abec8fdf4e97619400f8773775d64dd833aa77"), looks := false }, kinds := [], alts := [], laidByText := true, laidKinds := [.data, .data, .data, .data, .data, .data, .data, .data, .data, .pinned], laidTests := true, laidLooks := .later }
def CondsMergesUptoCardSaid : Prop := Claim7.holds Tryz.pinned (.plain (OpenSpec.upto condsMergesSpec)) condsMergesUptoCard

/-- THE SECOND FORM's CARD OF 'depotlaw19.CondsAgain'. -/
def condsAgainUptoCard : Claim7 := { stood := { row := condsAgainUptoRow, standIns := [], harness := (true, "dbd0944a12677f864984b47ee2abec8fdf4e97619400f8773775d64dd833aa77"), looks := false }, kinds := [], alts := [], laidByText := true, laidKinds := [.data, .data, .data, .data, .data, .data, .data, .data, .data, .pinned], laidTests := true, laidLooks := .later }
def CondsAgainUptoCardSaid : Prop := Claim7.holds Tryz.pinned (.plain (OpenSpec.upto condsAgainSpec)) condsAgainUptoCard

/-- THE SECOND FORM's CARD OF 'depotlaw19.CondsTold'. -/
def condsToldUptoCard : Claim7 := { stood := { row := condsToldUptoRow, standIns := [], harness := (true, "dbd0944a12677f864984b47ee2abec8fdf4e97619400f8773775d64dd833aa77"), looks := false }, kinds := [], alts := [], laidByText := true, laidKinds := [.data, .data, .data, .data, .data, .data, .data, .data, .data, .pinned], laidTests := true, laidLooks := .later }
def CondsToldUptoCardSaid : Prop := Claim7.holds Tryz.pinned (.plain (OpenSpec.upto condsToldSpec)) condsToldUptoCard
end Rows
end Go.Proofs.YtjkfdjolhmgemaaGreatDoor
