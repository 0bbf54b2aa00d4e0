/-
  Contracts of the reference's letter, in and Authority (layer 8).
-/
import Derived.Test.YtcmppmbieebkpaaDoorRows
import Derived.Test.YtcmppmbieebkpaaDoorTarN
import Derived.Test.YtcmppmbieebkpaaDoorOctRt
import Derived.Test.YtcmppmbieebkpaaDoorOctRl
import Derived.Test.YtcmppmbieebkpaaDoorDecW
namespace Go.Proofs.YtcmppmbieebkpaaDoor
open Go.RowKit

theorem let_cases (n : Nat) : (n < 48 ∧ letB n = false) ∨ (48 ≤ n ∧ n ≤ 57 ∧ letB n = true) ∨ (58 ≤ n ∧ n ≤ 64 ∧ letB n = false) ∨ (65 ≤ n ∧ n ≤ 90 ∧ letB n = true) ∨ (91 ≤ n ∧ n ≤ 96 ∧ letB n = false) ∨ (97 ≤ n ∧ n ≤ 122 ∧ letB n = true) ∨ (123 ≤ n ∧ letB n = false) := by
  have h : letB n = true ↔ (97 ≤ n ∧ n ≤ 122) ∨ (65 ≤ n ∧ n ≤ 90) ∨ (48 ≤ n ∧ n ≤ 57) := by
    unfold letB
    simp only [Bool.or_eq_true, rng_true]
    omega
  cases hb : letB n with
  | true => have := h.1 hb; simp; omega
  | false =>
    have : ¬ ((97 ≤ n ∧ n ≤ 122) ∨ (65 ≤ n ∧ n ≤ 90) ∨ (48 ≤ n ∧ n ≤ 57)) := fun h' => by have := h.2 h'; rw [hb] at this; cases this
    simp; omega
theorem has_snoc (l : List UInt8) (c : UInt8) (n : Int) : hasB (l ++ [c]) n = (hasB l n || (c.toNat : Int) == n) := by simp [hasB]
end Go.Proofs.YtcmppmbieebkpaaDoor
