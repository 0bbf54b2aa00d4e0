/-
  Texts that the laws of this seat lean on, one behind the other.
-/
import Derived.Test.YtnembpklidcgoaaGreatDoorMrgF
import Derived.Test.YtnembpklidcgoaaGreatDoorMrgI
import Derived.Test.YtnembpklidcgoaaGreatDoorMrgJ
import Derived.Test.YtnembpklidcgoaaGreatDoorMrgX
import Derived.Deep.RegionHeld3
import Derived.Deep.QuietTactic
import Derived.BigQuiet
/-
  Contracts of package fields' proper and Parse.
-/
section
namespace Go.Proofs.YtnembpklidcgoaaGreatDoor
open Go.RowKit
set_option linter.unusedSimpArgs false

/-! ### One operation of a region that draws, taken by hand: one that is wanted, one that is not -/
end Go.Proofs.YtnembpklidcgoaaGreatDoor
end

/-
  Contract of the reference's Parse (layer 9).
-/
section
namespace Go.Proofs.YtnembpklidcgoaaGreatDoor
open Go.RowKit

end Go.Proofs.YtnembpklidcgoaaGreatDoor
end

/-
  Contracts of the reference's inner, Weak, Strong, Text (layer 14).
-/
section
namespace Go.Proofs.YtnembpklidcgoaaGreatDoor
open Go.RowKit
set_option linter.unusedSimpArgs false

end Go.Proofs.YtnembpklidcgoaaGreatDoor
end

/-
  Contract of the reference's Parse (layer 14).
-/
section
namespace Go.Proofs.YtnembpklidcgoaaGreatDoor
open Go.RowKit
set_option linter.unusedSimpArgs false

end Go.Proofs.YtnembpklidcgoaaGreatDoor
end

/-
  Contract of the reference's List (layer 14).
-/
section
namespace Go.Proofs.YtnembpklidcgoaaGreatDoor
open Go.RowKit
set_option linter.unusedSimpArgs false

/-- How the state stands for the list's. -/
def lsb (q : Bool) (p : ByteArray) (X : List Tg) (s : ByteArray) (k : Nat) : Option (List Tg) := if k ≤ s.size then lsR q p.data.toList X (s.data.toList.drop k) else some X
theorem offW_le (s : ByteArray) : (offW s).size ≤ s.size := by
  unfold offW
  split
  · simp
  · exact Nat.le_refl _
/-- The answer is tags, whether all are meant, and a code. -/
def IsTs (w : World) (L : List Tg) (any : Bool) (E : Int) (e : Ending) (w' : World) : Prop := ∃ A c, e = .returned (.tuple #[.slice A L.length c, .bool any, .int .i64 E]) ∧ SlT w' A L.length c L ∧ Below w.heap.size w w'

end Go.Proofs.YtnembpklidcgoaaGreatDoor
end

/-
  Contracts of the reference's Same, Match (layer 14).
-/
section
namespace Go.Proofs.YtnembpklidcgoaaGreatDoor
open Go.RowKit
set_option linter.unusedSimpArgs false

/-- The same tags. -/
def eqT (x y : Tg) : Bool := (x.1 == y.1) && (x.2.toList == y.2.toList)
def samT : List Tg → List Tg → Bool
  | x :: a, y :: b => eqT x y && samT a b
  | [], [] => true
  | _, _ => false
end Go.Proofs.YtnembpklidcgoaaGreatDoor
end
