/-
  Texts that the laws of this seat lean on, one behind the other.
-/
import Derived.Test.YtnembpklidcgoaaGreatDoorMrhY
import Derived.Lib.Strings
/-
  Plain facts that the walks of package etag lean on: a tag's text between the library's CutPrefix and CutSuffix, and a list's elements one by one.
-/
section
namespace Go.Proofs.YtnembpklidcgoaaGreatDoor
open Go.RowKit

/-- What stands between the quotes. -/
def unB (s : ByteArray) : Bool := frmB s && allB innB (midL s).data.toList
def unO (s : ByteArray) : ByteArray := if unB s then midL s else ⟨#[]⟩
theorem tgB_un (s : ByteArray) : tgB s = unB (offW s) := rfl
theorem un_no {s : ByteArray} (h : unB s = false) : unO s = ⟨#[]⟩ := by unfold unO; rw [h]; rfl
theorem un_yes {s : ByteArray} (h : unB s = true) : unO s = midL s := by unfold unO; rw [h]; rfl
theorem tgO_yes {s : ByteArray} (h : unB (offW s) = true) : tgO s = (wkB s, unO (offW s)) := by unfold tgO; rw [tgB_un, h, un_yes h]; rfl
theorem tgO_no {s : ByteArray} (h : unB (offW s) = false) : tgO s = (false, ⟨#[]⟩) := by unfold tgO; rw [tgB_un, h]; rfl

theorem wk_list : (⟨#[87, 47]⟩ : ByteArray).data.toList = [87, 47] := rfl
theorem qt_list : (⟨#[34]⟩ : ByteArray).data.toList = [34] := rfl
theorem pre_wk (s : ByteArray) : Lib.hasPrefix s.data.toList (⟨#[87, 47]⟩ : ByteArray).data.toList = wkB s := by
  rw [← Lib.hasPrefix_raw, Lib.toList_data ⟨#[87, 47]⟩, wk_list]; rfl
theorem pre_off (s : ByteArray) : mkS (Lib.trimPrefix s.data.toList (⟨#[87, 47]⟩ : ByteArray).data.toList) = offW s := by
  unfold offW
  rw [← pre_wk]
  unfold Lib.trimPrefix
  split
  · rw [piece_ext, piece_all]; rfl
  · exact mkS_self s
/-- A text that a quote opens, and one that a quote closes. -/
def opB (s : ByteArray) : Bool := Lib.hasPrefix s.data.toList (⟨#[34]⟩ : ByteArray).data.toList
def opR (s : ByteArray) : ByteArray := mkS (Lib.trimPrefix s.data.toList (⟨#[34]⟩ : ByteArray).data.toList)
def clB (s : ByteArray) : Bool := Lib.hasSuffix s.data.toList (⟨#[34]⟩ : ByteArray).data.toList
def clR (s : ByteArray) : ByteArray := mkS (Lib.trimSuffix s.data.toList (⟨#[34]⟩ : ByteArray).data.toList)
theorem op_iff (s : ByteArray) : opB s = true ↔ ∃ r, s.data.toList = 34 :: r := by
  unfold opB Lib.hasPrefix
  rw [qt_list]
  cases s.data.toList with
  | nil => simp [List.isPrefixOf]
  | cons c r => simp only [List.isPrefixOf, Bool.and_true, beq_iff_eq, List.cons.injEq]; exact ⟨fun h => ⟨r, h.symm, rfl⟩, fun ⟨_, h, _⟩ => h.symm⟩
theorem cl_iff (s : ByteArray) : clB s = true ↔ ∃ r, s.data.toList = r ++ [34] := by
  unfold clB Lib.hasSuffix
  rw [qt_list, List.isSuffixOf_iff_suffix]
  exact ⟨fun ⟨r, h⟩ => ⟨r, h.symm⟩, fun ⟨r, h⟩ => ⟨r, h.symm⟩⟩
theorem op_yes {s : ByteArray} {r : List UInt8} (h : s.data.toList = 34 :: r) : opR s = mkS r := by
  have ho : Lib.hasPrefix s.data.toList (⟨#[34]⟩ : ByteArray).data.toList = true := (op_iff s).2 ⟨r, h⟩
  unfold opR Lib.trimPrefix
  rw [if_pos ho, h]; rfl
theorem cl_yes {s : ByteArray} {r : List UInt8} (h : s.data.toList = r ++ [34]) : clR s = mkS r := by
  have ho : Lib.hasSuffix s.data.toList (⟨#[34]⟩ : ByteArray).data.toList = true := (cl_iff s).2 ⟨r, h⟩
  unfold clR Lib.trimSuffix
  rw [if_pos ho, h, qt_list]; simp
theorem frm_list {s : ByteArray} : frmB s = true ↔ ∃ r, s.data.toList = 34 :: (r ++ [34]) := by
  unfold frmB
  constructor
  · intro hf
    split at hf
    · rename_i h2
      rw [Bool.and_eq_true, beq_iff_eq, beq_iff_eq] at hf
      obtain ⟨m, hm⟩ : ∃ m, s.size = m + 2 := ⟨s.size - 2, by omega⟩
      have e0 : s[0] = 34 := UInt8.toNat_inj.1 hf.1
      have e1 : s[m + 1] = 34 := by
        have : s[s.size - 1] = 34 := UInt8.toNat_inj.1 hf.2
        have e : s.size - 1 = m + 1 := by omega
        simp only [e] at this
        exact this
      have p1 := piece_snoc s 1 (m + 1) (by omega) (by omega)
      rw [show m + 1 + 1 = s.size by omega, piece_all, e1] at p1
      have d0 := drop_at s 0 (by omega)
      rw [List.drop_zero, e0] at d0
      exact ⟨_, by rw [d0, p1]⟩
    · cases hf
  · rintro ⟨r, h⟩
    have hz : s.size = r.length + 2 := by rw [Lib.size_eq, h]; simp
    have h2 : 2 ≤ s.size := by omega
    rw [dif_pos h2]
    obtain rfl := mkS_eq h
    have e : (mkS (34 :: (r ++ [34]))).size - 1 = r.length + 1 := by omega
    have hl : (mkS (34 :: (r ++ [34])))[r.length + 1]'(by omega) = 34 := by
      show (34 :: (r ++ [34])).toArray[r.length + 1]'(by simp) = 34
      simp
    simp only [e]
    rw [hl]
    rfl
theorem mid_list {s : ByteArray} {r : List UInt8} (h : s.data.toList = 34 :: (r ++ [34])) : midL s = mkS r := by
  have hz : s.size = r.length + 2 := by rw [Lib.size_eq, h]; simp
  unfold midL
  rw [piece_ext]
  unfold piece
  rw [hz, h, show r.length + 2 - 1 = r.length + 1 by omega]
  simp
theorem un_op {s : ByteArray} (h : opB s = false) : unB s = false := by
  cases hf : frmB s with
  | false => unfold unB; rw [hf]; rfl
  | true =>
    obtain ⟨r, e⟩ := frm_list.1 hf
    rw [(op_iff s).2 ⟨_, e⟩] at h; cases h
theorem un_cl {s : ByteArray} (h : clB (opR s) = false) : unB s = false := by
  cases hf : frmB s with
  | false => unfold unB; rw [hf]; rfl
  | true =>
    obtain ⟨r, e⟩ := frm_list.1 hf
    rw [op_yes e, (cl_iff _).2 ⟨r, rfl⟩] at h; cases h
theorem un_both {s : ByteArray} (ho : opB s = true) (h : clB (opR s) = true) : unB s = allB innB (clR (opR s)).data.toList ∧ midL s = clR (opR s) := by
  obtain ⟨r, e⟩ := (op_iff s).1 ho
  rw [op_yes e] at h ⊢
  obtain ⟨q, f⟩ := (cl_iff _).1 h
  rw [cl_yes f]
  rw [mkS_list] at f
  rw [f] at e
  have hm := mid_list e
  refine ⟨?_, hm⟩
  unfold unB
  rw [frm_list.2 ⟨q, e⟩, hm]; rfl
theorem clR_le (s : ByteArray) : (clR s).size ≤ s.size := by unfold clR; rw [mkS_size, Lib.size_eq]; exact Lib.trimSuffix_le _ _
theorem opR_le (s : ByteArray) : (opR s).size ≤ s.size := by unfold opR; rw [mkS_size, Lib.size_eq]; exact Lib.trimPrefix_le _ _

/-- P14.3: a list's first element, and what stands behind the comma that ends it. -/
def cuL (q : Bool) (p : List UInt8) : List UInt8 → List UInt8 × Option (List UInt8)
  | [] => (p, none)
  | c :: r => if c = 34 then cuL (!q) (p ++ [c]) r else if c = 44 ∧ q = false then (p, some r) else cuL q (p ++ [c]) r
/-- Where a list's first element ends. -/
def nxE (s : ByteArray) : ByteArray := mkS (trimL (cuL false [] s.data.toList).1)
def nxR (s : ByteArray) : ByteArray := mkS ((cuL false [] s.data.toList).2.getD [])
def nxM (s : ByteArray) : Bool := (cuL false [] s.data.toList).2.isSome
/-- How the list stands for what is left of it. -/
def lsN (more : Bool) (X : List Tg) (s : ByteArray) : Option (List Tg) := if more then lsR false [] X s.data.toList else some X
def cuS (q : Bool) (s : ByteArray) (k : Nat) : List UInt8 × Option (List UInt8) := cuL q (s.data.toList.take k) (s.data.toList.drop k)
end Go.Proofs.YtnembpklidcgoaaGreatDoor
end
