/-
  Contract of the reference's Authority (layer 8).
-/
import Derived.Test.YtcmppmbieebkpaaDoorTarR
namespace Go.Proofs.YtcmppmbieebkpaaDoor
open Go.RowKit

def authH (s : ByteArray) : List UInt8 := ((authO s).map (·.1)).getD []
def authP (s : ByteArray) : Int := ((authO s).map (·.2)).getD 0
def authE (s : ByteArray) : Int := if (authO s).isSome then 0 else 26
theorem auth_none {s : ByteArray} (h : authO s = none) : authH s = [] ∧ authP s = 0 ∧ authE s = 26 := by simp [authH, authP, authE, h]
theorem auth_some {s : ByteArray} {a : List UInt8} {p : Int} (h : authO s = some (a, p)) : authH s = a ∧ authP s = p ∧ authE s = 0 := by simp [authH, authP, authE, h]
theorem ret_sii {k l : IntKind} {a b : ByteArray} {c d e f : Int} (h : a = b) (g : c = d) (i : e = f) : Ending.returned (.tuple #[.string a, .int k c, .int l e]) = .returned (.tuple #[.string b, .int k d, .int l f]) := by rw [h, g, i]
theorem empty_str {s : ByteArray} (h : s.size = 0) : s.toList.isEmpty = true := by
  rw [Lib.toList_data, List.isEmpty_iff, ← List.length_eq_zero_iff, ← Lib.size_eq]; exact h
theorem full_str {s : ByteArray} (h : s.size ≠ 0) : s.toList.isEmpty = false := by
  rw [Lib.toList_data, ← Bool.not_eq_true, List.isEmpty_iff, ← List.length_eq_zero_iff, ← Lib.size_eq]; exact h
theorem cut_sizes (s : ByteArray) (c : UInt8) : (cutA s (c.toNat : Int)).size ≤ s.size ∧ (cutZ s (c.toNat : Int)).size ≤ s.size ∧ (cutOk s (c.toNat : Int) = false → (cutZ s (c.toNat : Int)).size = 0) := by
  have hs := Lib.size_eq s
  rcases cut_form s c with ⟨h1, _, h2, h3⟩ | ⟨a, b, hl, _, h1, h2, h3⟩
  · rw [h2, h3]
    exact ⟨Nat.le_refl _, Nat.zero_le _, fun _ => rfl⟩
  · rw [h2, h3, h1]
    rw [hl] at hs
    simp only [List.length_append, List.length_cons] at hs
    refine ⟨by rw [mkS_size]; omega, by rw [mkS_size]; omega, fun h => by cases h⟩

end Go.Proofs.YtcmppmbieebkpaaDoor
