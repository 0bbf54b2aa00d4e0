/-
  Texts that the laws of this seat lean on, one behind the other.
-/
import Derived.Test.YthhlcecojeaalaaDoorRows
import Derived.Test.YthhlcecojeaalaaDoorMrgB
import Derived.Test.YthhlcecojeaalaaDoorMrgC
import Derived.WalkKit
import Derived.Lib.Hide
import Derived.Lib.OthersKept
set_option linter.unusedSimpArgs false
set_option linter.unusedVariables false
/-
  Contracts of the small functions of package decimal: least, span, digit, Add, Less; and of the reference's held, Add, Less.
-/
section
namespace Go.Proofs.YthhlcecojeaalaaDoor
open Go.RowKit

def minI (a b : Int) : Int := if b < a then b else a

/-- What digit answers of a character: its worth, if it is a digit to the base. -/
def digN (b r : Int) : Int := if isD b r then digV r else 0

end Go.Proofs.YthhlcecojeaalaaDoor
end

/-
  Contracts of the readers of package decimal: read, number, Number, ReadHex, Seconds, for every text.
-/
section
namespace Go.Proofs.YthhlcecojeaalaaDoor
open Go.RowKit

def readN (b cut : Int) (l : List UInt8) : Int := if allB (isD b) l then cutV b cut l else 0
def readB (b : Int) (l : List UInt8) : Bool := allB (isD b) l && !l.isEmpty

end Go.Proofs.YthhlcecojeaalaaDoor
end

/-
  Contracts of number, Number, ReadHex and Seconds of package decimal, for every text.
-/
section
namespace Go.Proofs.YthhlcecojeaalaaDoor
open Go.RowKit


end Go.Proofs.YthhlcecojeaalaaDoor
end
