/-
  Contracts of the reference's Hex and Digit (layer 1), for every byte.
-/
import Derived.Test.YtdaoliobmgcmoaaRows
import Derived.Test.YtdaoliobmgcmoaaOctM
import Derived.WalkKit
import Derived.Lib.Hide
namespace Go.Proofs.Ytdaoliobmgcmoaa
open Go.RowKit

def sml (k : Nat) : Nat := [48, 49, 50, 51, 52, 53, 54, 55, 56, 57, 97, 98, 99, 100, 101, 102].getD k 0
def grt (k : Nat) : Nat := [48, 49, 50, 51, 52, 53, 54, 55, 56, 57, 65, 66, 67, 68, 69, 70].getD k 0
theorem sml_at : ∀ (k : Nat) (h : k < 16), (⟨#[48, 49, 50, 51, 52, 53, 54, 55, 56, 57, 97, 98, 99, 100, 101, 102]⟩ : ByteArray)[k].toNat = sml k := by decide +kernel
theorem grt_at : ∀ (k : Nat) (h : k < 16), (⟨#[48, 49, 50, 51, 52, 53, 54, 55, 56, 57, 65, 66, 67, 68, 69, 70]⟩ : ByteArray)[k].toNat = grt k := by decide +kernel
theorem hex_hit : ∀ n : Nat, n < 256 → ∀ k : Nat, k < 16 → (sml k = n ∨ grt k = n) → hexN n = k ∧ hexB n = true := by decide +kernel
theorem hex_miss : ∀ n : Nat, n < 256 → (∀ k : Nat, k < 16 → sml k ≠ n ∧ grt k ≠ n) → hexN n = 0 ∧ hexB n = false := by decide +kernel

end Go.Proofs.Ytdaoliobmgcmoaa
