/-
  Contract of the reference's plain (layer 8): bytes checked, escapes made plain.
-/
import Derived.Test.YtcmppmbieebkpaaDoorTarA
import Derived.Test.YtcmppmbieebkpaaDoorComT
import Derived.Deep.QuietTactic
import Derived.BigQuiet
import Derived.Deep.RegionHeld3
import Derived.IntWalk
namespace Go.Proofs.YtcmppmbieebkpaaDoor
open Go.RowKit

def plnS (more : List UInt8) (s : ByteArray) : List UInt8 := (plnO more s.data.toList).getD []
def plnB (more : List UInt8) (s : ByteArray) : Bool := (plnO more s.data.toList).isSome
theorem pln_none {more : List UInt8} {s : ByteArray} (h : plnO more s.data.toList = none) : plnS more s = [] ∧ plnB more s = false := by simp [plnS, plnB, h]
theorem pln_some {more : List UInt8} {s : ByteArray} {x : List UInt8} (h : plnO more s.data.toList = some x) : plnS more s = x ∧ plnB more s = true := by simp [plnS, plnB, h]
/-- What is left to be made plain. -/
def plnK (more : List UInt8) (s P : ByteArray) (k : Nat) : Prop := plnO more s.data.toList = (plnO more (s.data.toList.drop k)).map fun x => P.data.toList ++ x
theorem plnK_zero (more : List UInt8) (s : ByteArray) : plnK more s ⟨#[]⟩ 0 := by
  unfold plnK
  rw [List.drop_zero]
  cases plnO more s.data.toList <;> simp
theorem plnK_end {more : List UInt8} {s P : ByteArray} {k : Nat} (h : plnK more s P k) (hk : s.size ≤ k) : plnO more s.data.toList = some P.data.toList := by
  rw [h, List.drop_eq_nil_of_le (by rw [← Lib.size_eq]; exact hk), plnO_nil]; simp
theorem plnK_byte {more : List UInt8} {s P : ByteArray} {k : Nat} (h : plnK more s P k) (hk : k < s.size) (h1 : s[k] ≠ 37) (h2 : (letB (s[k].toNat : Int) || hasB more (s[k].toNat : Int)) = true) : plnK more s (P ++ s.extract k (k + 1)) (k + 1) := by
  unfold plnK at h ⊢
  have e : (P ++ s.extract k (k + 1)).data.toList = P.data.toList ++ [s[k]] := by
    rw [append_list, piece_ext, mkS_list, piece_snoc s k k (Nat.le_refl _) hk, piece_none]; rfl
  rw [h, drop_at s k hk, plnO_byte h1 h2, e]
  cases plnO more (s.data.toList.drop (k + 1)) <;> simp
theorem plnK_bad {more : List UInt8} {s P : ByteArray} {k : Nat} (h : plnK more s P k) (hk : k < s.size) (h1 : s[k] ≠ 37) (h2 : (letB (s[k].toNat : Int) || hasB more (s[k].toNat : Int)) = false) : plnO more s.data.toList = none := by
  unfold plnK at h
  rw [h, drop_at s k hk, plnO_bad h1 h2]; rfl
theorem plnK_short {more : List UInt8} {s P : ByteArray} {k : Nat} (h : plnK more s P k) (hk : k < s.size) (h1 : s[k] = 37) (h2 : s.size ≤ k + 2) : plnO more s.data.toList = none := by
  unfold plnK at h
  rw [h, drop_at s k hk, h1, plnO_short]; rfl
  rw [List.length_drop, ← Lib.size_eq]; omega
theorem plnK_esc {more : List UInt8} {s P : ByteArray} {k : Nat} (h : plnK more s P k) (hk : k + 2 < s.size) (h1 : s[k] = 37) (h2 : hexB (s[k + 1].toNat : Int) = true) (h3 : hexB (s[k + 2].toNat : Int) = true) {Q : ByteArray} (hQ : Q.data.toList = P.data.toList ++ escL8 s[k + 1] s[k + 2]) : plnK more s Q (k + 3) := by
  unfold plnK at h ⊢
  rw [h, drop_at s k (by omega), drop_at s (k + 1) (by omega), drop_at s (k + 2) hk, h1, plnO_esc h2 h3, hQ]
  cases plnO more (s.data.toList.drop (k + 2 + 1)) <;> simp
theorem plnK_noesc {more : List UInt8} {s P : ByteArray} {k : Nat} (h : plnK more s P k) (hk : k + 2 < s.size) (h1 : s[k] = 37) (h2 : (hexB (s[k + 1].toNat : Int) && hexB (s[k + 2].toNat : Int)) = false) : plnO more s.data.toList = none := by
  unfold plnK at h
  rw [h, drop_at s k (by omega), drop_at s (k + 1) (by omega), drop_at s (k + 2) hk, h1, plnO_noesc h2]; rfl
theorem ret_sb {a b : ByteArray} {c d : Bool} (h : a = b) (g : c = d) : Ending.returned (.tuple #[.string a, .bool c]) = .returned (.tuple #[.string b, .bool d]) := by rw [h, g]
theorem great_cut : ∀ n : Nat, n < 16 → (⟨#[48, 49, 50, 51, 52, 53, 54, 55, 56, 57, 65, 66, 67, 68, 69, 70]⟩ : ByteArray).extract n (n + 1) = mkS [hexD n] := by decide +kernel

end Go.Proofs.YtcmppmbieebkpaaDoor
