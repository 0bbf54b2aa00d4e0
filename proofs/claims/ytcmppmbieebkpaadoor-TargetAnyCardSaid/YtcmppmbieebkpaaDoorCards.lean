/-
  DERIVED. GIVEN WITH THE SEED: THE CARDS: each row of YtcmppmbieebkpaaDoorRows.lean that lists a variable, with what it lists TIED to the program's text (the seventh form; the later family's looks); each row that meets fmt, with fmt's text TOLD by the authors' own Lean function (tested against real Go, not proved from fmt's source: count such statements apart). THE CARD IS WHAT COUNTS. Prove the row's statement (the work); the ties are given (YtcmppmbieebkpaaDoorTie.lean); close each card by the builder's one call (the guide's Derived/Test/ToyasCard.lean, 'card_holds'). Laid BY PROGRAM, IN A SANDBOX (cutbox-door.mjs). By AI agents, Wed Nov 11 2026. No macro, syntax, notation, axiom, sorry.
-/
import Derived.Test.YtcmppmbieebkpaaDoorRows
import GoSem.ClaimSeven
namespace Go.Proofs.YtcmppmbieebkpaaDoor
namespace Rows

/-- THE TIED CARD OF 'depotlaw08.TargetAny'. -/
def targetAnyCard : Claim7 := { stood := { row := targetAnyRow, standIns := [], harness := (true, "6396d23336c7428312f924c15c4c7eb62b2d41f76b3eb910af8a9ccc784ecd5a"), looks := false }, kinds := [], alts := [], laidByText := true, laidKinds := [.data, .data, .data, .data, .pinned, .pinned], laidTests := true, laidLooks := .later }
def TargetAnyCardSaid : Prop := Claim7.holds Tryd.pinned (.plain (OpenSpec.ofChange targetAnySpec)) targetAnyCard

/-- THE TIED CARD OF 'depotlaw08.TargetPlain'. -/
def targetPlainCard : Claim7 := { stood := { row := targetPlainRow, standIns := [], harness := (true, "6396d23336c7428312f924c15c4c7eb62b2d41f76b3eb910af8a9ccc784ecd5a"), looks := false }, kinds := [], alts := [], laidByText := true, laidKinds := [.data, .data, .data, .data, .pinned, .pinned], laidTests := true, laidLooks := .later }
def TargetPlainCardSaid : Prop := Claim7.holds Tryd.pinned (.plain (OpenSpec.ofChange targetPlainSpec)) targetPlainCard

/-- THE TIED CARD OF 'depotlaw08.TargetAgain'. -/
def targetAgainCard : Claim7 := { stood := { row := targetAgainRow, standIns := [], harness := (true, "6396d23336c7428312f924c15c4c7eb62b2d41f76b3eb910af8a9ccc784ecd5a"), looks := false }, kinds := [], alts := [], laidByText := true, laidKinds := [.data, .data, .data, .data, .pinned, .pinned], laidTests := true, laidLooks := .later }
def TargetAgainCardSaid : Prop := Claim7.holds Tryd.pinned (.plain (OpenSpec.ofChange targetAgainSpec)) targetAgainCard

/-- THE SECOND FORM's CARD OF 'depotlaw08.TargetAny'. -/
def targetAnyUptoCard : Claim7 := { stood := { row := targetAnyUptoRow, standIns := [], harness := (true, "6396d23336c7428312f924c15c4c7eb62b2d41f76b3eb910af8a9ccc784ecd5a"), looks := false }, kinds := [], alts := [], laidByText := true, laidKinds := [.data, .data, .data, .data, .pinned, .pinned], laidTests := true, laidLooks := .later }
def TargetAnyUptoCardSaid : Prop := Claim7.holds Tryd.pinned (.plain (OpenSpec.upto targetAnySpec)) targetAnyUptoCard

/-- THE SECOND FORM's CARD OF 'depotlaw08.TargetPlain'. -/
def targetPlainUptoCard : Claim7 := { stood := { row := targetPlainUptoRow, standIns := [], harness := (true, "6396d23336c7428312f924c15c4c7eb62b2d41f76b3eb910af8a9ccc784ecd5a"), looks := false }, kinds := [], alts := [], laidByText := true, laidKinds := [.data, .data, .data, .data, .pinned, .pinned], laidTests := true, laidLooks := .later }
def TargetPlainUptoCardSaid : Prop := Claim7.holds Tryd.pinned (.plain (OpenSpec.upto targetPlainSpec)) targetPlainUptoCard

/-- THE SECOND FORM's CARD OF 'depotlaw08.TargetAgain'. -/
def targetAgainUptoCard : Claim7 := { stood := { row := targetAgainUptoRow, standIns := [], harness := (true, "6396d23336c7428312f924c15c4c7eb62b2d41f76b3eb910af8a9ccc784ecd5a"), looks := false }, kinds := [], alts := [], laidByText := true, laidKinds := [.data, .data, .data, .data, .pinned, .pinned], laidTests := true, laidLooks := .later }
def TargetAgainUptoCardSaid : Prop := Claim7.holds Tryd.pinned (.plain (OpenSpec.upto targetAgainSpec)) targetAgainUptoCard
end Rows
end Go.Proofs.YtcmppmbieebkpaaDoor
