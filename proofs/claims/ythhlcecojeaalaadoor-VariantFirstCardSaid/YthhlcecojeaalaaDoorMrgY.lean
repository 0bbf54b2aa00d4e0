/-
  Texts that the laws of this seat lean on, one behind the other.
-/
import Derived.Test.YthhlcecojeaalaaDoorMrgJ
import Derived.Test.YthhlcecojeaalaaDoorMrgL
import Derived.Test.YthhlcecojeaalaaDoorMrgM
import Derived.Test.YthhlcecojeaalaaDoorMrgX
import Derived.Deep.RegionHeld3
set_option linter.unusedSimpArgs false
set_option linter.unusedVariables false
/-
  Contracts of package fields' proper and Parse.
-/
section
namespace Go.Proofs.YthhlcecojeaalaaDoor
open Go.RowKit
set_option linter.unusedSimpArgs false

/-! ### One operation of a region that draws, taken by hand: one that is wanted, one that is not -/
end Go.Proofs.YthhlcecojeaalaaDoor
end

/-
  Contract of the reference's Parse (layer 9).
-/
section
namespace Go.Proofs.YthhlcecojeaalaaDoor
open Go.RowKit

end Go.Proofs.YthhlcecojeaalaaDoor
end
