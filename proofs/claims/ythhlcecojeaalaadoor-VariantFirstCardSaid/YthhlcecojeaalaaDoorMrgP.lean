/-
  Texts that the laws of this seat lean on, one behind the other.
-/
import Derived.Test.YthhlcecojeaalaaDoorMrgO
import Derived.Deep.QuietTactic
import Derived.BigQuiet
import Derived.IntWalk
import Derived.Test.YthhlcecojeaalaaDoorMrgL
set_option linter.unusedSimpArgs false
set_option linter.unusedVariables false
/-
  Contracts of the reference's digits, Plain, Pad and Hex (layer 2).
-/
section
namespace Go.Proofs.YthhlcecojeaalaaDoor
open Go.RowKit

def allD : ByteArray := ⟨#[48, 49, 50, 51, 52, 53, 54, 55, 56, 57, 97, 98, 99, 100, 101, 102]⟩
end Go.Proofs.YthhlcecojeaalaaDoor
end

/-
  Contracts of the reference's Plain, Pad, Hex, read, Number, ReadHex and Seconds (layer 2).
-/
section
namespace Go.Proofs.YthhlcecojeaalaaDoor
open Go.RowKit

def strSz : Value → Nat | .string s => s.size | _ => 0

end Go.Proofs.YthhlcecojeaalaaDoor
end

/-
  Contracts of the reference's read, Number, ReadHex and Seconds (layer 2), for every text.
-/
section
namespace Go.Proofs.YthhlcecojeaalaaDoor
open Go.RowKit

end Go.Proofs.YthhlcecojeaalaaDoor
end
