/-
  Texts that the laws of this seat lean on, one behind the other.
-/
import Derived.Test.YtnembpklidcgoaaGreatDoorMrgU
/-
  Contract of the reference's Parse (layer 7).
-/
section
namespace Go.Proofs.YtnembpklidcgoaaGreatDoor
open Go.RowKit

theorem sum7_bd (y m d h i j : Int) : -1 ≤ sumN7 y m d h i j ∧ sumN7 y m d h i j ≤ 253402300799 := by
  have hv := dayV_bd y m d
  unfold sumN7
  split <;> omega
theorem timN_bd (s : ByteArray) (y a d k : Int) : -1 ≤ timN s y a d k ∧ timN s y a d k ≤ 253402300799 := by
  unfold timN
  split
  · split
    · omega
    · exact sum7_bd _ _ _ _ _ _
  · omega
/-- The place of the first comma, or the length. -/
def comL : List UInt8 → Nat
  | [] => 0
  | c :: r => if c = 44 then 0 else comL r + 1
def comN (s : ByteArray) : Nat := comL s.data.toList
def t1N (s : ByteArray) : Int := timN s (dgtN s 12 4) 8 (dgtN s 5 2) 17
def y2N (s : ByteArray) : Int := if 70 ≤ dgtN s ((comN s : Int) + 9) 2 then 1900 + dgtN s ((comN s : Int) + 9) 2 else 2000 + dgtN s ((comN s : Int) + 9) 2
def t2N (s : ByteArray) : Int := timN s (y2N s) ((comN s : Int) + 5) (dgtN s ((comN s : Int) + 2) 2) ((comN s : Int) + 12)
def d3N (s : ByteArray) : Int := if dgtN s 8 2 < 0 then dgtN s 9 1 else dgtN s 8 2
def t3N (s : ByteArray) : Int := timN s (dgtN s 20 4) 4 (d3N s) 11
def parT (s : ByteArray) : Int × Int :=
  if 0 ≤ t1N s ∧ fmtI (t1N s) = s.data.toList then (t1N s, 0)
  else if 0 ≤ t2N s ∧ oldI (t2N s) = s.data.toList then (t2N s, 0)
  else if 0 ≤ t3N s ∧ plnI (t3N s) = s.data.toList then (t3N s, 0)
  else (0, 24)
end Go.Proofs.YtnembpklidcgoaaGreatDoor
end
