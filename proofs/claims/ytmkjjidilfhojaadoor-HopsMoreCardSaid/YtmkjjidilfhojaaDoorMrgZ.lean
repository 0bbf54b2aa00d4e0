/-
  Texts that the laws of this seat lean on, one behind the other.
-/
import Derived.Test.YtmkjjidilfhojaaDoorMrgY
import Derived.Test.YtmkjjidilfhojaaDoorMrgP
import Derived.Test.YtmkjjidilfhojaaDoorMrgQ
import Derived.Test.YtmkjjidilfhojaaDoorMrgT
import Derived.Test.YtmkjjidilfhojaaDoorMrgX
import Derived.Test.YtmkjjidilfhojaaDoorMrgU
/-
  Contracts of value and Param of package items.
-/
section
namespace Go.Proofs.YtmkjjidilfhojaaDoor
open Go.RowKit

def isTok (x : ByteArray) : Bool := !x.toList.isEmpty && allB tokB x.data.toList
theorem isTok_list (x : ByteArray) : isTok x = tokL x.data.toList := by unfold isTok tokL; rw [Lib.toList_data]
def valO (z : ByteArray) : ByteArray := if isTok z then z else mkS (unqO z.data.toList)
def valE (z : ByteArray) : Int := if isTok z then 0 else unqE z.data.toList
def parE (s : ByteArray) : Int := if isTok (cutA s 61) then (if cutOk s 61 then valE (cutZ s 61) else 0) else 5
def parN (s : ByteArray) : ByteArray := if parE s = 0 then mkS (lowL (cutA s 61).data.toList) else ⟨#[]⟩
def parV (s : ByteArray) : ByteArray := if parE s = 0 ∧ cutOk s 61 = true then valO (cutZ s 61) else ⟨#[]⟩
def parH (s : ByteArray) : Bool := if parE s = 0 then cutOk s 61 else false
theorem unqE_two (l : List UInt8) : unqE l = 0 ∨ unqE l = 5 := by unfold unqE; split <;> simp
theorem valE_two (z : ByteArray) : valE z = 0 ∨ valE z = 5 := by unfold valE; split <;> simp [unqE_two]

theorem cutA_le (s : ByteArray) (c : Int) : (cutA s c).size ≤ s.size := by
  unfold cutA
  split
  · exact Nat.le_refl _
  · rw [ByteArray.size_extract]; omega
theorem cutZ_le (s : ByteArray) (c : Int) : (cutZ s c).size ≤ s.size := by
  unfold cutZ
  split
  · exact Nat.zero_le _
  · rw [ByteArray.size_extract]; omega
theorem par_tok {s : ByteArray} (h : isTok (cutA s 61) = false) : parN s = ⟨#[]⟩ ∧ parV s = ⟨#[]⟩ ∧ parH s = false ∧ parE s = 5 := by
  have e : parE s = 5 := by simp [parE, h]
  simp [parN, parV, parH, e]
theorem par_bare {s : ByteArray} (h : isTok (cutA s 61) = true) (k : cutOk s 61 = false) : parN s = mkS (lowL (cutA s 61).data.toList) ∧ parV s = ⟨#[]⟩ ∧ parH s = false ∧ parE s = 0 := by
  have e : parE s = 0 := by simp [parE, h, k]
  simp [parN, parV, parH, e, k]
theorem par_bad {s : ByteArray} (h : isTok (cutA s 61) = true) (k : cutOk s 61 = true) (v : valE (cutZ s 61) = 5) : parN s = ⟨#[]⟩ ∧ parV s = ⟨#[]⟩ ∧ parH s = false ∧ parE s = 5 := by
  have e : parE s = 5 := by simp [parE, h, k, v]
  simp [parN, parV, parH, e]
theorem par_good {s : ByteArray} (h : isTok (cutA s 61) = true) (k : cutOk s 61 = true) (v : valE (cutZ s 61) = 0) : parN s = mkS (lowL (cutA s 61).data.toList) ∧ parV s = valO (cutZ s 61) ∧ parH s = true ∧ parE s = 0 := by
  have e : parE s = 0 := by simp [parE, h, k, v]
  simp [parN, parV, parH, e, k]

end Go.Proofs.YtmkjjidilfhojaaDoor
end

/-
  Contracts of the reference's Unquote and Param (layer 6).
-/
section
namespace Go.Proofs.YtmkjjidilfhojaaDoor
open Go.RowKit

theorem unq_short (s : ByteArray) (h : s.size < 2) : unqO s.data.toList = [] ∧ unqE s.data.toList = 5 := by
  have hl := Lib.size_eq s
  have : unqL s.data.toList = none := by
    cases e : s.data.toList with
    | nil => rfl
    | cons c r =>
      have : r = [] := by
        rw [e] at hl
        simp only [List.length_cons] at hl
        exact List.eq_nil_of_length_eq_zero (by omega)
      subst this
      simp [unqL, unqR]
  simp [unqO, unqE, this]
/-- How the reference's state stands for the list's. -/
def unb (p s : ByteArray) (k : Nat) : Option (List UInt8) := unqR 1 p.data.toList (s.data.toList.drop k)
theorem unb_start (s : ByteArray) (h : 0 < s.size) (hc : s[0] = 34) : unqL s.data.toList = unb ⟨#[]⟩ s 1 := by
  have e := drop_at s 0 h
  rw [List.drop_zero, hc] at e
  unfold unb
  rw [e]; simp [unqL]
theorem unb_close (s p : ByteArray) (k : Nat) (h : k < s.size) (hc : s[k] = 34) : unb p s k = if k + 1 = s.size then some p.data.toList else none := by
  unfold unb
  rw [drop_at s k h, hc]
  have : s.data.toList.drop (k + 1) = [] ↔ k + 1 = s.size := by
    rw [List.drop_eq_nil_iff, ← Lib.size_eq]; omega
  simp only [unqR, and_self, if_true, this]
theorem unb_esc (s p : ByteArray) (k : Nat) (h : k + 1 < s.size) (hc : s[k]'(by omega) = 92) : unb p s k = unb (p ++ s.extract (k + 1) (k + 2)) s (k + 2) := by
  unfold unb
  rw [ext_one s p (k + 1) h, drop_at s k (by omega), drop_at s (k + 1) h, hc]
  simp [unqR]
theorem unb_stop (s p : ByteArray) (k : Nat) (h : k < s.size) (hc : s[k] = 92) (h2 : s.size ≤ k + 2) : unb p s k = none := by
  unfold unb
  rw [drop_at s k h, hc]
  by_cases h3 : k + 1 < s.size
  · rw [drop_at s (k + 1) h3, List.drop_eq_nil_of_le (by rw [← Lib.size_eq]; omega)]
    simp [unqR]
  · rw [List.drop_eq_nil_of_le (by rw [← Lib.size_eq]; omega)]
    simp [unqR]
theorem unb_in (s p : ByteArray) (k : Nat) (h : k < s.size) (h1 : s[k] ≠ 34) (h2 : s[k] ≠ 92) : unb p s k = unb (p ++ s.extract k (k + 1)) s (k + 1) := by
  unfold unb
  rw [ext_one s p k h, drop_at s k h]
  simp [unqR, h1, h2]
theorem unb_none (s p : ByteArray) (k : Nat) (h : s.size ≤ k) : unb p s k = none := by
  unfold unb
  rw [List.drop_eq_nil_of_le (by rw [← Lib.size_eq]; exact h)]; rfl
theorem unq_some {l t : List UInt8} (h : unqL l = some t) : unqO l = t ∧ unqE l = 0 := by simp [unqO, unqE, h]
theorem unq_none {l : List UInt8} (h : unqL l = none) : unqO l = [] ∧ unqE l = 5 := by simp [unqO, unqE, h]

theorem par_plain {s : ByteArray} (h : isTok (cutA s 61) = true) (k : cutOk s 61 = true) (v : isTok (cutZ s 61) = true) : parN s = mkS (lowL (cutA s 61).data.toList) ∧ parV s = cutZ s 61 ∧ parH s = true ∧ parE s = 0 := by
  have e : valE (cutZ s 61) = 0 := by simp [valE, v]
  have := par_good h k e
  rw [show valO (cutZ s 61) = cutZ s 61 by simp [valO, v]] at this
  exact this
theorem par_unq {s : ByteArray} (h : isTok (cutA s 61) = true) (k : cutOk s 61 = true) (v : isTok (cutZ s 61) = false) (u : unqE (cutZ s 61).data.toList = 0) : parN s = mkS (lowL (cutA s 61).data.toList) ∧ parV s = mkS (unqO (cutZ s 61).data.toList) ∧ parH s = true ∧ parE s = 0 := by
  have e : valE (cutZ s 61) = 0 := by simp [valE, v, u]
  have := par_good h k e
  rw [show valO (cutZ s 61) = mkS (unqO (cutZ s 61).data.toList) by simp [valO, v]] at this
  exact this
theorem par_unbad {s : ByteArray} (h : isTok (cutA s 61) = true) (k : cutOk s 61 = true) (v : isTok (cutZ s 61) = false) (u : unqE (cutZ s 61).data.toList = 5) : parN s = ⟨#[]⟩ ∧ parV s = ⟨#[]⟩ ∧ parH s = false ∧ parE s = 5 :=
  par_bad h k (by simp [valE, v, u])
theorem cut_none {s : ByteArray} (k : cutOk s 61 = false) : cutZ s 61 = ⟨#[]⟩ := by
  unfold cutOk at k
  unfold cutZ
  simp at k
  simp [k]

end Go.Proofs.YtmkjjidilfhojaaDoor
end
