/-
  Texts that the laws of this seat lean on, one behind the other.
-/
import Derived.Test.YtnembpklidcgoaaGreatDoorMrgN
import Derived.Deep.RegionHeld3
import Derived.Test.YtnembpklidcgoaaGreatDoorMrgM
/-
  Contracts of the reference's three forms (layer 7): Format, Old, Plain.
-/
section
namespace Go.Proofs.YtnembpklidcgoaaGreatDoor
open Go.RowKit

/-- A time's parts: its day, the date of the day, and what contracts answer of them. -/
structure Parts (T Y M E : Nat) : Prop where
  date : IsDate Y M E (T / 86400)
  civ : civ (T / 86400) = (Y, M, E)
  le : T ≤ 253402300799
theorem parts_of (T : Nat) (h : T ≤ 253402300799) : ∃ Y M E, Parts T Y M E := by
  have hd := civ_bd T h
  exact ⟨_, _, _, hd, rfl, h⟩
theorem Parts.civil {T Y M E : Nat} (h : Parts T Y M E) : civ1 ((T : Int) / 86400) = Y ∧ civ2 ((T : Int) / 86400) = M ∧ civ3 ((T : Int) / 86400) = E ∧ civB ((T : Int) / 86400) = true := by
  rw [show (T : Int) / 86400 = ((T / 86400 : Nat) : Int) by omega]
  exact civ_is h.date (by have := h.le; omega)
theorem Parts.bd {T Y M E : Nat} (h : Parts T Y M E) : (1970 ≤ Y ∧ Y ≤ 9999) ∧ (1 ≤ M ∧ M ≤ 12) ∧ 1 ≤ E ∧ E ≤ 31 := by
  have v := h.date.v
  have := long_bd Y M v.m0 v.m1
  have := v.d1
  exact ⟨⟨v.y0, v.y1⟩, ⟨v.m0, v.m1⟩, v.d0, by omega⟩
theorem day3 (n : Nat) : (mkS (dayL n)).extract 0 3 = mkS ((dayL n).take 3) := by rw [piece_ext]; rfl
theorem day_size (n : Nat) (h : n < 7) : 6 ≤ (mkS (dayL n)).size ∧ (mkS (dayL n)).size ≤ 9 := by
  have := day_len n h
  rw [mkS_size]; exact ⟨this.1, this.2.1⟩
theorem mon_size (m : Nat) (h0 : 1 ≤ m) (h1 : m ≤ 12) : (mkS (monL m)).size = 3 := by rw [mkS_size, mon_len m h0 h1]
theorem pad4_size (y : Nat) (h0 : 1970 ≤ y) (h1 : y ≤ 9999) : (mkS (padL (y : Int) 4)).size = 4 := by rw [mkS_size, pad_four (by omega) (by omega)]; rfl
theorem clk_size (t : Nat) : (mkS (clkL t)).size = 8 := by rw [mkS_size, clk_eq]; rfl

end Go.Proofs.YtnembpklidcgoaaGreatDoor
end

/-
  Contract of the reference's Format (layer 7).
-/
section
namespace Go.Proofs.YtnembpklidcgoaaGreatDoor
open Go.RowKit

end Go.Proofs.YtnembpklidcgoaaGreatDoor
end

/-
  Contract of the reference's Plain (layer 7).
-/
section
namespace Go.Proofs.YtnembpklidcgoaaGreatDoor
open Go.RowKit

end Go.Proofs.YtnembpklidcgoaaGreatDoor
end

/-
  Contracts of the reference's digits and time (layer 7).
-/
section
namespace Go.Proofs.YtnembpklidcgoaaGreatDoor
open Go.RowKit

/-- The number of n digits at a place of a text, or -1. -/
def dgtN (s : ByteArray) (a : Int) (n : Nat) : Int :=
  if 0 ≤ a ∧ a + n ≤ s.size then (if numE 10 18 9999 (piece s a.toNat (a.toNat + n)) = 0 then numN 10 18 9999 (piece s a.toNat (a.toNat + n)) else -1) else -1
/-- The month of a name, or 13. -/
def mFind (l : List UInt8) : Nat → Nat → Nat
  | 0, m => m
  | f + 1, m => if monL m = l then m else mFind l f (m + 1)
def mIdx (l : List UInt8) : Nat := mFind l 12 1
theorem mFind_hit (l : List UInt8) (f m : Nat) (h : monL m = l) : mFind l (f + 1) m = m := by simp [mFind, h]
theorem mFind_miss (l : List UInt8) (f m : Nat) (h : ¬ monL m = l) : mFind l (f + 1) m = mFind l f (m + 1) := by simp [mFind, h]

/-- What a month and a clock of a date come to, or -1. -/
def sumN7 (y m d h i j : Int) : Int := if dayB y m d = true ∧ 0 ≤ h ∧ h ≤ 23 ∧ 0 ≤ i ∧ i ≤ 59 ∧ 0 ≤ j ∧ j ≤ 59 then dayV y m d * 86400 + h * 3600 + i * 60 + j else -1
def timN (s : ByteArray) (y a d k : Int) : Int :=
  if 0 ≤ a ∧ a + 3 ≤ s.size then
    (if mIdx (piece s a.toNat (a.toNat + 3)) = 13 then -1 else sumN7 y (mIdx (piece s a.toNat (a.toNat + 3)) : Nat) d (dgtN s k 2) (dgtN s (k + 3) 2) (dgtN s (k + 6) 2))
  else -1
theorem dayV_bd (y m d : Int) : 0 ≤ dayV y m d ∧ dayV y m d ≤ 2932896 := by
  unfold dayV
  split
  · rename_i h
    have := h.nat.le
    omega
  · omega

end Go.Proofs.YtnembpklidcgoaaGreatDoor
end
