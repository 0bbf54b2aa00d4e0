/-
  Texts that the laws of this seat lean on, one behind the other.
-/
import Derived.Test.YthhlcecojeaalaaDoorMrgC
import Derived.Test.YthhlcecojeaalaaDoorMrgM
import Derived.Test.YthhlcecojeaalaaDoorMrgN
import Derived.Test.YthhlcecojeaalaaDoorMrgD
import Derived.Test.YthhlcecojeaalaaDoorMrgP
set_option linter.unusedSimpArgs false
set_option linter.unusedVariables false
/-
  Contracts of quotedEnd and elementEnd of package items, for every text and every place in it.
-/
section
namespace Go.Proofs.YthhlcecojeaalaaDoor
open Go.RowKit

def posOk (o : Option Nat) : Bool := o.isSome
def posN (o : Option Nat) : Int := ((o.getD 0 : Nat) : Int)
end Go.Proofs.YthhlcecojeaalaaDoor
end

/-
  Contracts of the reference's names and forms (layer 7): day, month, clock, Format, Old, Plain.
-/
section
namespace Go.Proofs.YthhlcecojeaalaaDoor
open Go.RowKit

def dayVs : List Value := [.string ⟨#[83, 117, 110, 100, 97, 121]⟩, .string ⟨#[77, 111, 110, 100, 97, 121]⟩, .string ⟨#[84, 117, 101, 115, 100, 97, 121]⟩, .string ⟨#[87, 101, 100, 110, 101, 115, 100, 97, 121]⟩, .string ⟨#[84, 104, 117, 114, 115, 100, 97, 121]⟩, .string ⟨#[70, 114, 105, 100, 97, 121]⟩, .string ⟨#[83, 97, 116, 117, 114, 100, 97, 121]⟩]
def monB : ByteArray := ⟨#[74, 97, 110, 70, 101, 98, 77, 97, 114, 65, 112, 114, 77, 97, 121, 74, 117, 110, 74, 117, 108, 65, 117, 103, 83, 101, 112, 79, 99, 116, 78, 111, 118, 68, 101, 99]⟩
end Go.Proofs.YthhlcecojeaalaaDoor
end
