/-
  Texts that the laws of this seat lean on, one behind the other.
-/
import Derived.Test.YthhlcecojeaalaaDoorMrgQ
import Derived.Deep.RegionHeld3
import Derived.Test.YthhlcecojeaalaaDoorMrgP
set_option linter.unusedSimpArgs false
set_option linter.unusedVariables false
/-
  Contracts of the reference's three forms (layer 7): Format, Old, Plain.
-/
section
namespace Go.Proofs.YthhlcecojeaalaaDoor
open Go.RowKit

/-- A time's parts: its day, the date of the day, and what contracts answer of them. -/
structure Parts (T Y M E : Nat) : Prop where
  date : IsDate Y M E (T / 86400)
  civ : civ (T / 86400) = (Y, M, E)
  le : T ≤ 253402300799
theorem Parts.bd {T Y M E : Nat} (h : Parts T Y M E) : (1970 ≤ Y ∧ Y ≤ 9999) ∧ (1 ≤ M ∧ M ≤ 12) ∧ 1 ≤ E ∧ E ≤ 31 := by
  have v := h.date.v
  have := long_bd Y M v.m0 v.m1
  have := v.d1
  exact ⟨⟨v.y0, v.y1⟩, ⟨v.m0, v.m1⟩, v.d0, by omega⟩
end Go.Proofs.YthhlcecojeaalaaDoor
end

/-
  Contract of the reference's Format (layer 7).
-/
section
namespace Go.Proofs.YthhlcecojeaalaaDoor
open Go.RowKit

end Go.Proofs.YthhlcecojeaalaaDoor
end

/-
  Contract of the reference's Plain (layer 7).
-/
section
namespace Go.Proofs.YthhlcecojeaalaaDoor
open Go.RowKit

end Go.Proofs.YthhlcecojeaalaaDoor
end

/-
  Contracts of the reference's digits and time (layer 7).
-/
section
namespace Go.Proofs.YthhlcecojeaalaaDoor
open Go.RowKit

/-- The number of n digits at a place of a text, or -1. -/
def dgtN (s : ByteArray) (a : Int) (n : Nat) : Int :=
  if 0 ≤ a ∧ a + n ≤ s.size then (if numE 10 18 9999 (piece s a.toNat (a.toNat + n)) = 0 then numN 10 18 9999 (piece s a.toNat (a.toNat + n)) else -1) else -1
/-- The month of a name, or 13. -/
def mFind (l : List UInt8) : Nat → Nat → Nat
  | 0, m => m
  | f + 1, m => if monL m = l then m else mFind l f (m + 1)
def mIdx (l : List UInt8) : Nat := mFind l 12 1
/-- What a month and a clock of a date come to, or -1. -/
def sumN7 (y m d h i j : Int) : Int := if dayB y m d = true ∧ 0 ≤ h ∧ h ≤ 23 ∧ 0 ≤ i ∧ i ≤ 59 ∧ 0 ≤ j ∧ j ≤ 59 then dayV y m d * 86400 + h * 3600 + i * 60 + j else -1
def timN (s : ByteArray) (y a d k : Int) : Int :=
  if 0 ≤ a ∧ a + 3 ≤ s.size then
    (if mIdx (piece s a.toNat (a.toNat + 3)) = 13 then -1 else sumN7 y (mIdx (piece s a.toNat (a.toNat + 3)) : Nat) d (dgtN s k 2) (dgtN s (k + 3) 2) (dgtN s (k + 6) 2))
  else -1
end Go.Proofs.YthhlcecojeaalaaDoor
end

/-
  Contract of the reference's Parse (layer 7).
-/
section
namespace Go.Proofs.YthhlcecojeaalaaDoor
open Go.RowKit

/-- The place of the first comma, or the length. -/
def comL : List UInt8 → Nat
  | [] => 0
  | c :: r => if c = 44 then 0 else comL r + 1
def comN (s : ByteArray) : Nat := comL s.data.toList
def t1N (s : ByteArray) : Int := timN s (dgtN s 12 4) 8 (dgtN s 5 2) 17
def y2N (s : ByteArray) : Int := if 70 ≤ dgtN s ((comN s : Int) + 9) 2 then 1900 + dgtN s ((comN s : Int) + 9) 2 else 2000 + dgtN s ((comN s : Int) + 9) 2
def t2N (s : ByteArray) : Int := timN s (y2N s) ((comN s : Int) + 5) (dgtN s ((comN s : Int) + 2) 2) ((comN s : Int) + 12)
def d3N (s : ByteArray) : Int := if dgtN s 8 2 < 0 then dgtN s 9 1 else dgtN s 8 2
def t3N (s : ByteArray) : Int := timN s (dgtN s 20 4) 4 (d3N s) 11
def parT (s : ByteArray) : Int × Int :=
  if 0 ≤ t1N s ∧ fmtI (t1N s) = s.data.toList then (t1N s, 0)
  else if 0 ≤ t2N s ∧ oldI (t2N s) = s.data.toList then (t2N s, 0)
  else if 0 ≤ t3N s ∧ plnI (t3N s) = s.data.toList then (t3N s, 0)
  else (0, 24)
end Go.Proofs.YthhlcecojeaalaaDoor
end
