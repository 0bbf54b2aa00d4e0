/-
  Texts that the laws of this seat lean on, one behind the other.
-/
import Derived.Test.YtnembpklidcgoaaGreatDoorMrgT
import Derived.Test.YtnembpklidcgoaaGreatDoorMrgE
import Derived.Test.YtnembpklidcgoaaGreatDoorMrgAA
/-
  Contract of the reference's elements (layer 13).
-/
section
namespace Go.Proofs.YtnembpklidcgoaaGreatDoor
open Go.RowKit

theorem dvs_snoc (V : List (List UInt8)) (k : Nat) (h : k < V.length) : dvs (V.take (k + 1)) = dvs (V.take k) ++ dvV V[k] := by
  unfold dvs
  rw [List.take_succ_eq_append_getElem h, List.flatMap_append]
  simp
theorem fnV_snoc (V : List (List UInt8)) (k : Nat) (h : k < V.length) : fnV (V.take (k + 1)) = (fnV (V.take k) && decide (splE V[k] = 0)) := by
  unfold fnV
  rw [List.take_succ_eq_append_getElem h, List.all_append]
  simp
theorem spl_sz {v : List UInt8} (h : v.length ≤ 10000) : (splO v).length ≤ 10001 ∧ ∀ x ∈ splO v, x.length ≤ 10000 := by
  unfold splO
  cases e : splitL v with
  | none => exact ⟨by simp, fun x hx => by simp at hx⟩
  | some L =>
    obtain ⟨g1, g2⟩ := split_good e
    exact ⟨by show L.length ≤ _; omega, fun x hx => by have := (g1 x hx).2; omega⟩

theorem ccS_le : ccS.size ≤ maxLen := by decide
end Go.Proofs.YtnembpklidcgoaaGreatDoor
end

/-
  Contracts of the reference's Parse, Asked (layer 13).
-/
section
namespace Go.Proofs.YtnembpklidcgoaaGreatDoor
open Go.RowKit

end Go.Proofs.YtnembpklidcgoaaGreatDoor
end
