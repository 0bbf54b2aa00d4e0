/-
  DERIVED. GIVEN WITH THE SEED: THE CARDS: each row of YtmkjjidilfhojaaDoorRows.lean that lists a variable, with what it lists TIED to the program's text (the seventh form; the later family's looks); each row that meets fmt, with fmt's text TOLD by the authors' own Lean function (tested against real Go, not proved from fmt's source: count such statements apart). THE CARD IS WHAT COUNTS. Prove the row's statement (the work); the ties are given (YtmkjjidilfhojaaDoorTie.lean); close each card by the builder's one call (the guide's Derived/Test/ToyasCard.lean, 'card_holds'). Laid BY PROGRAM, IN A SANDBOX (cutbox-door.mjs). By AI agents, Wed Nov 11 2026. No macro, syntax, notation, axiom, sorry.
-/
import Derived.Test.YtmkjjidilfhojaaDoorRows
import GoSem.ClaimSeven
namespace Go.Proofs.YtmkjjidilfhojaaDoor
namespace Rows

/-- THE TIED CARD OF 'depotlaw16.HopsStrips'. -/
def hopsStripsCard : Claim7 := { stood := { row := hopsStripsRow, standIns := [], harness := (true, "01b1437cd7786a9e1fa722d516b8e266489087e19fbe0518fe1739141fb984a9"), looks := false }, kinds := [], alts := [], laidByText := true, laidKinds := [.data], laidTests := true, laidLooks := .later }
def HopsStripsCardSaid : Prop := Claim7.holds Tryd.pinned (.plain (OpenSpec.ofChange hopsStripsSpec)) hopsStripsCard

/-- THE TIED CARD OF 'depotlaw16.HopsAgain'. -/
def hopsAgainCard : Claim7 := { stood := { row := hopsAgainRow, standIns := [], harness := (true, "01b1437cd7786a9e1fa722d516b8e266489087e19fbe0518fe1739141fb984a9"), looks := false }, kinds := [], alts := [], laidByText := true, laidKinds := [.data], laidTests := true, laidLooks := .later }
def HopsAgainCardSaid : Prop := Claim7.holds Tryd.pinned (.plain (OpenSpec.ofChange hopsAgainSpec)) hopsAgainCard

/-- THE TIED CARD OF 'depotlaw16.HopsMore'. -/
def hopsMoreCard : Claim7 := { stood := { row := hopsMoreRow, standIns := [], harness := (true, "01b1437cd7786a9e1fa722d516b8e266489087e19fbe0518fe1739141fb984a9"), looks := false }, kinds := [], alts := [], laidByText := true, laidKinds := [.data], laidTests := true, laidLooks := .later }
def HopsMoreCardSaid : Prop := Claim7.holds Tryd.pinned (.plain (OpenSpec.ofChange hopsMoreSpec)) hopsMoreCard

/-- THE SECOND FORM's CARD OF 'depotlaw16.HopsStrips'. -/
def hopsStripsUptoCard : Claim7 := { stood := { row := hopsStripsUptoRow, standIns := [], harness := (true, "01b1437cd7786a9e1fa722d516b8e266489087e19fbe0518fe1739141fb984a9"), looks := false }, kinds := [], alts := [], laidByText := true, laidKinds := [.data], laidTests := true, laidLooks := .later }
def HopsStripsUptoCardSaid : Prop := Claim7.holds Tryd.pinned (.plain (OpenSpec.upto hopsStripsSpec)) hopsStripsUptoCard

/-- THE SECOND FORM's CARD OF 'depotlaw16.HopsAgain'. -/
def hopsAgainUptoCard : Claim7 := { stood := { row := hopsAgainUptoRow, standIns := [], harness := (true, "01b1437cd7786a9e1fa722d516b8e266489087e19fbe0518fe1739141fb984a9"), looks := false }, kinds := [], alts := [], laidByText := true, laidKinds := [.data], laidTests := true, laidLooks := .later }
def HopsAgainUptoCardSaid : Prop := Claim7.holds Tryd.pinned (.plain (OpenSpec.upto hopsAgainSpec)) hopsAgainUptoCard

/-- THE SECOND FORM's CARD OF 'depotlaw16.HopsMore'. -/
def hopsMoreUptoCard : Claim7 := { stood := { row := hopsMoreUptoRow, standIns := [], harness := (true, "01b1437cd7786a9e1fa722d516b8e266489087e19fbe0518fe1739141fb984a9"), looks := false }, kinds := [], alts := [], laidByText := true, laidKinds := [.data], laidTests := true, laidLooks := .later }
def HopsMoreUptoCardSaid : Prop := Claim7.holds Tryd.pinned (.plain (OpenSpec.upto hopsMoreSpec)) hopsMoreUptoCard
end Rows
end Go.Proofs.YtmkjjidilfhojaaDoor
