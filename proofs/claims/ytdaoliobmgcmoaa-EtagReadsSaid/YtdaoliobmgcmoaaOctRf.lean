/-
  Contracts of the reference's functions on bytes (layer 1), for every byte.
-/
import Derived.Test.YtdaoliobmgcmoaaOctBy
import Derived.Test.YtdaoliobmgcmoaaOctS
import Derived.Test.YtdaoliobmgcmoaaOctRh
namespace Go.Proofs.Ytdaoliobmgcmoaa
open Go.RowKit

theorem r_blank (c : Int) (w : World) :
    Calls Try.prog 33 #[.int .u8 c] w fun e w' => e = .returned (.bool (blkB c)) ∧ w = w' := by
  unfold blkB
  by_cases h : (c == 32) = true
  · go_enter Try.func33, Try.ntmps33
    go_wp2
    go_ret
    exact ⟨by simp [h], rfl⟩
  · have h' : (c == 32) = false := by simpa using h
    go_enter Try.func33, Try.ntmps33
    go_wp2
    go_ret
    exact ⟨by simp [h'], rfl⟩

def mrk (k : Nat) : Nat := [33, 35, 36, 37, 38, 39, 42, 43, 45, 46, 94, 95, 96, 124, 126].getD k 0
theorem mrk_at : ∀ (k : Nat) (h : k < 15), (⟨#[33, 35, 36, 37, 38, 39, 42, 43, 45, 46, 94, 95, 96, 124, 126]⟩ : ByteArray)[k].toNat = mrk k := by decide +kernel
theorem tok_hit : ∀ n : Nat, n < 256 → ∀ k : Nat, k < 15 → mrk k = n → tokB n = true := by decide +kernel
theorem tok_miss : ∀ n : Nat, n < 256 → (rng 65 90 n || rng 97 122 n || rng 48 57 n) = false → (∀ k : Nat, k < 15 → mrk k ≠ n) → tokB n = false := by decide +kernel

end Go.Proofs.Ytdaoliobmgcmoaa
