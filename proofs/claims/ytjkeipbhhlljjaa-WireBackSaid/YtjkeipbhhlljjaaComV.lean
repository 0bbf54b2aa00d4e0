/-
  Slices of integers that came in: what a slice reads as, nil or not.
-/
import Derived.Test.YtjkeipbhhlljjaaComU
namespace Go.Proofs.Ytjkeipbhhlljjaa
open Go.RowKit

/-- The slice of n integers at A, of capacity c, reads as z. -/
structure Sl64 (w : World) (A : Option Addr) (n c : Nat) (z : List Int) : Prop where
  len : z.length = n
  cap : n ≤ c
  cm : c ≤ maxLen
  at_ : 0 < n → ∃ ad, A = some ad ∧ ∀ j x, z[j]? = some x → w.cell? (ad.add j) = some (.int .i64 x)
  bd : ∀ x ∈ z, -9223372036854775808 ≤ x ∧ x ≤ 9223372036854775807
theorem Sl64.below {w w' : World} {A : Option Addr} {n c : Nat} {z : List Int} (h : Sl64 w A n c z) (hb : Below w.heap.size w w') : Sl64 w' A n c z :=
  ⟨h.len, h.cap, h.cm, fun hn => by
    obtain ⟨ad, e, hc⟩ := h.at_ hn
    exact ⟨ad, e, fun j x hx => cell_kept hb (hc j x hx)⟩, h.bd⟩
theorem Sl64.of_row {w : World} {A : Option Addr} {n c : Nat} {z : List Int} (h : (A = none ∧ n = 0 ∧ c = 0 ∧ z = []) ∨ ∃ x, A = some x ∧ n ≤ c ∧ c ≤ maxLen ∧ z.length = c ∧ (∀ i, i < z.length → w.cell? (x.add i) = some (.int .i64 (z.getD i 0))) ∧ ∀ n ∈ z, (Lit.int .i64 n).wf = true) :
    ∃ l, Sl64 w A n c l := by
  rcases h with ⟨rfl, rfl, rfl, rfl⟩ | ⟨ad, rfl, hl, hm, hz, hc, hw⟩
  · exact ⟨[], rfl, Nat.le_refl _, Nat.zero_le _, fun h => absurd h (by omega), fun x hx => by cases hx⟩
  · refine ⟨z.take n, by rw [List.length_take]; omega, hl, hm, fun _ => ⟨ad, rfl, fun j x hx => ?_⟩, fun x hx => wf_i64 (hw x (List.mem_of_mem_take hx))⟩
    rw [List.getElem?_take] at hx
    split at hx
    · obtain ⟨hj, _⟩ := List.getElem?_eq_some_iff.1 hx
      rw [hc j hj]
      simp [List.getD, hx]
    · cases hx

end Go.Proofs.Ytjkeipbhhlljjaa
