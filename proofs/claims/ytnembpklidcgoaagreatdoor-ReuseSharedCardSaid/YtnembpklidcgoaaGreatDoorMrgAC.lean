/-
  Texts that the laws of this seat lean on, one behind the other.
-/
import Derived.Test.YtnembpklidcgoaaGreatDoorMrgAA
import Derived.Test.YtnembpklidcgoaaGreatDoorMrgAB
import Derived.Deep.RegionHeld3
import Derived.Test.YtnembpklidcgoaaGreatDoorMrgY
import Derived.Test.YtnembpklidcgoaaGreatDoorMrgW
/-
  Contracts of the reference's Date, Told, Lifetime, Age, Fresh, Left (layer 17).
-/
section
namespace Go.Proofs.YtnembpklidcgoaaGreatDoor
open Go.RowKit

theorem cel7 {W : World} {g t : Nat} {c0 c1 c2 c3 c4 c5 c6 : Value} (h : W.heap[g]? = some (.cells #[c0, c1, c2, c3, c4, c5, c6] t (0, 0))) :
    W.cell? ⟨g, 0, none⟩ = some c0 ∧ W.cell? ⟨g, 1, none⟩ = some c1 ∧ W.cell? ⟨g, 2, none⟩ = some c2 ∧ W.cell? ⟨g, 3, none⟩ = some c3 ∧ W.cell? ⟨g, 4, none⟩ = some c4 ∧ W.cell? ⟨g, 5, none⟩ = some c5 ∧ W.cell? ⟨g, 6, none⟩ = some c6 := by
  refine ⟨?_, ?_, ?_, ?_, ?_, ?_, ?_⟩ <;> (rw [cell_of_row W g _ _ _ _ h]; rfl)
theorem exS_le : exS.size ≤ maxLen := by decide
theorem agS_le : agS.size ≤ maxLen := by decide

theorem tol_snoc (V : List (List UInt8)) (k : Nat) (h : k < V.length) (m : Int) : ((V.take (k + 1)).flatMap splO).foldl tolF m = (splO V[k]).foldl tolF (((V.take k).flatMap splO).foldl tolF m) := by
  rw [List.take_succ_eq_append_getElem h, List.flatMap_append, List.foldl_append]
  simp
theorem tol_at (E : List (List UInt8)) (j : Nat) (h : j < E.length) (m : Int) : (E.take (j + 1)).foldl tolF m = max ((E.take j).foldl tolF m) (secN E[j]) := by
  rw [List.take_succ_eq_append_getElem h, List.foldl_append]
  rfl

/-- What the functions of layer 17 answer, at any world above. -/
structure LifC (w : World) (s : Stor) (A : Option Addr) (c : Nat) (B : Option Addr) (n d : Nat) : Prop where
  f : SlF w A s.f.length c s.f
  l : FwL s.f

end Go.Proofs.YtnembpklidcgoaaGreatDoor
end

/-
  Contracts of the reference's has, Tag, Validator, Passes, Invalidates (layer 18).
-/
section
namespace Go.Proofs.YtnembpklidcgoaaGreatDoor
open Go.RowKit
set_option linter.unusedSimpArgs false

theorem reu_le : etS.size ≤ maxLen ∧ rgS.size ≤ maxLen ∧ irS.size ≤ maxLen ∧ imS.size ≤ maxLen ∧ iuS.size ≤ maxLen ∧ auS.size ≤ maxLen := by decide
theorem cel5r {W : World} {g t : Nat} {c0 c1 c2 c3 c4 : Value} (h : W.heap[g]? = some (.cells #[c0, c1, c2, c3, c4] t (0, 0))) :
    W.cell? ⟨g, 0, none⟩ = some c0 ∧ W.cell? ⟨g, 1, none⟩ = some c1 ∧ W.cell? ⟨g, 2, none⟩ = some c2 ∧ W.cell? ⟨g, 3, none⟩ = some c3 ∧ W.cell? ⟨g, 4, none⟩ = some c4 := by
  refine ⟨?_, ?_, ?_, ?_, ?_⟩ <;> (rw [cell_of_row W g _ _ _ _ h]; rfl)

end Go.Proofs.YtnembpklidcgoaaGreatDoor
end
