/-
  Contracts of the reference's Hex and Digit (layer 1), for every byte.
-/
import Derived.Test.YtbmlldjkfpekkaaDoorRows
import Derived.Test.YtbmlldjkfpekkaaDoorOctM
import Derived.WalkKit
import Derived.Lib.Hide
namespace Go.Proofs.YtbmlldjkfpekkaaDoor
open Go.RowKit

def sml (k : Nat) : Nat := [48, 49, 50, 51, 52, 53, 54, 55, 56, 57, 97, 98, 99, 100, 101, 102].getD k 0
def grt (k : Nat) : Nat := [48, 49, 50, 51, 52, 53, 54, 55, 56, 57, 65, 66, 67, 68, 69, 70].getD k 0
theorem sml_at : ∀ (k : Nat) (h : k < 16), (⟨#[48, 49, 50, 51, 52, 53, 54, 55, 56, 57, 97, 98, 99, 100, 101, 102]⟩ : ByteArray)[k].toNat = sml k := by decide +kernel
theorem grt_at : ∀ (k : Nat) (h : k < 16), (⟨#[48, 49, 50, 51, 52, 53, 54, 55, 56, 57, 65, 66, 67, 68, 69, 70]⟩ : ByteArray)[k].toNat = grt k := by decide +kernel
theorem hex_hit : ∀ n : Nat, n < 256 → ∀ k : Nat, k < 16 → (sml k = n ∨ grt k = n) → hexN n = k ∧ hexB n = true := by decide +kernel
theorem hex_miss : ∀ n : Nat, n < 256 → (∀ k : Nat, k < 16 → sml k ≠ n ∧ grt k ≠ n) → hexN n = 0 ∧ hexB n = false := by decide +kernel

theorem r_hex (n : Nat) (hn : n < 256) (w : World) :
    Calls Tryd.prog 50 #[.int .u8 n] w fun e w' => e = .returned (.tuple #[.int .i64 (hexN n), .bool (hexB n)]) ∧ w = w' := by
  go_enter Tryd.func50, Tryd.ntmps50
  go_wp2
  go_loop [6] (fun i => ∃ k : Nat, k ≤ 16 ∧ i = .int .i64 k ∧ Hid (∀ j : Nat, j < k → sml j ≠ n ∧ grt j ≠ n)) (fun i => 16 - (intOf i).toNat)
  case atStart => exact ⟨0, by omega, rfl, fun j h => absurd h (by omega)⟩
  case round =>
    obtain ⟨k, hk, rfl, hf⟩ := hrel
    by_cases hlt : k < 16
    · have ha := Lib.hid (sml_at k hlt)
      have hb := Lib.hid (grt_at k hlt)
      by_cases e1 : ((((⟨#[48, 49, 50, 51, 52, 53, 54, 55, 56, 57, 97, 98, 99, 100, 101, 102]⟩ : ByteArray)[k]'hlt).toNat : Int) == (n : Int)) = true
      · have HH := Lib.hid (hex_hit n hn k hlt (.inl (by have := ha.out; simp only [beq_iff_eq] at e1; omega)))
        clear hf
        go_wp2
        go_ret2
        exact ⟨by rw [HH.out.1, HH.out.2]; rfl, rfl⟩
      · have e1' : ((((⟨#[48, 49, 50, 51, 52, 53, 54, 55, 56, 57, 97, 98, 99, 100, 101, 102]⟩ : ByteArray)[k]'hlt).toNat : Int) == (n : Int)) = false := by simpa using e1
        clear e1
        by_cases e2 : ((((⟨#[48, 49, 50, 51, 52, 53, 54, 55, 56, 57, 65, 66, 67, 68, 69, 70]⟩ : ByteArray)[k]'hlt).toNat : Int) == (n : Int)) = true
        · have HH := Lib.hid (hex_hit n hn k hlt (.inr (by have := hb.out; simp only [beq_iff_eq] at e2; omega)))
          clear hf
          go_wp2
          go_ret2
          exact ⟨by rw [HH.out.1, HH.out.2]; rfl, rfl⟩
        · have e2' : ((((⟨#[48, 49, 50, 51, 52, 53, 54, 55, 56, 57, 65, 66, 67, 68, 69, 70]⟩ : ByteArray)[k]'hlt).toNat : Int) == (n : Int)) = false := by simpa using e2
          clear e2
          have HF : Hid (∀ j : Nat, j < k + 1 → sml j ≠ n ∧ grt j ≠ n) := fun j hj => by
            by_cases e : j = k
            · subst e
              have h1 := ha.out
              have h2 := hb.out
              simp only [beq_eq_false_iff_ne, ne_eq] at e1' e2'
              omega
            · exact hf.out j (by omega)
          clear hf
          go_wp2
          go_round
          case rel => exact ⟨k + 1, by omega, by go_num, HF⟩
          case measure => simp [intOf]; omega
    · have HH := Lib.hid (hex_miss n hn (fun j hj => hf.out j (by omega)))
      clear hf
      go_wp2
      go_ret2
      exact ⟨by rw [HH.out.1, HH.out.2]; rfl, rfl⟩

end Go.Proofs.YtbmlldjkfpekkaaDoor
