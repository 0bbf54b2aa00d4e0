/-
  Plain functions of layer 10, without the program: what a request line and a status line are.
-/
import Derived.Test.YtbmlldjkfpekkaaDoorComB
import Derived.Test.YtbmlldjkfpekkaaDoorOctE
import Derived.Test.YtbmlldjkfpekkaaDoorDecM
namespace Go.Proofs.YtbmlldjkfpekkaaDoor
open Go.RowKit

def ht0 : List UInt8 := [72, 84, 84, 80, 47, 49, 46, 48]
def ht1 : List UInt8 := [72, 84, 84, 80, 47, 49, 46, 49]
/-- The minor version of a version's text, or -1. -/
def verI (s : ByteArray) : Int := if s.toList == ht0 then 0 else if s.toList == ht1 then 1 else -1
def visB (c : Int) : Bool := decide (33 ≤ c) && decide (c ≤ 126)
def tokS (s : ByteArray) : Bool := !s.toList.isEmpty && allB tokB s.data.toList
def rqM (s : ByteArray) : ByteArray := cutA s 32
def rqT (s : ByteArray) : ByteArray := cutA (cutZ s 32) 32
def rqL (s : ByteArray) : ByteArray := cutZ (cutZ s 32) 32
def rqH (s : ByteArray) : Bool := (tokS (rqM s) && !(rqT s).toList.isEmpty) && decide (0 ≤ verI (rqL s))
def rqO (s : ByteArray) : Bool := rqH s && allB visB (rqT s).data.toList
def rqE (s : ByteArray) : Int := if 8192 < s.size then 4 else if rqO s then 0 else 20
def rqA (s : ByteArray) : ByteArray := if rqE s = 0 then rqM s else ⟨#[]⟩
def rqB (s : ByteArray) : ByteArray := if rqE s = 0 then rqT s else ⟨#[]⟩
def rqV (s : ByteArray) : Int := if rqE s = 0 then verI (rqL s) else 0
theorem rq_long {s : ByteArray} (h : 8192 < s.size) : rqA s = ⟨#[]⟩ ∧ rqB s = ⟨#[]⟩ ∧ rqV s = 0 ∧ rqE s = 4 := by simp [rqA, rqB, rqV, rqE, h]
theorem rq_no {s : ByteArray} (h : ¬ 8192 < s.size) (ho : rqO s = false) : rqA s = ⟨#[]⟩ ∧ rqB s = ⟨#[]⟩ ∧ rqV s = 0 ∧ rqE s = 20 := by simp [rqA, rqB, rqV, rqE, h, ho]
theorem rq_yes {s : ByteArray} (h : ¬ 8192 < s.size) (ho : rqO s = true) : rqA s = rqM s ∧ rqB s = rqT s ∧ rqV s = verI (rqL s) ∧ rqE s = 0 := by simp [rqA, rqB, rqV, rqE, h, ho]

/-- A status line's parts. -/
def stC (s : ByteArray) : Int := numN 10 18 599 (s.extract 9 12).data.toList
def stX (s : ByteArray) : Int := numE 10 18 599 (s.extract 9 12).data.toList
def stR (s : ByteArray) : ByteArray := s.extract 13 s.size
def byteI (s : ByteArray) (k : Nat) : Int := ((s.data.toList[k]?).getD 0).toNat
def stH (s : ByteArray) : Bool := ((decide (13 ≤ s.size) && decide (0 ≤ verI (s.extract 0 8))) && (byteI s 8 == 32)) && (byteI s 12 == 32)
def stO (s : ByteArray) : Bool := stH s && (((stX s == 0) && decide (100 ≤ stC s)) && allB txtB (stR s).data.toList)
def stE (s : ByteArray) : Int := if 8192 < s.size then 4 else if stO s then 0 else 20
def stN (s : ByteArray) : Int := if stE s = 0 then stC s else 0
def stB (s : ByteArray) : ByteArray := if stE s = 0 then stR s else ⟨#[]⟩
def stV' (s : ByteArray) : Int := if stE s = 0 then verI (s.extract 0 8) else 0
theorem st_long {s : ByteArray} (h : 8192 < s.size) : stN s = 0 ∧ stB s = ⟨#[]⟩ ∧ stV' s = 0 ∧ stE s = 4 := by simp [stN, stB, stV', stE, h]
theorem st_no {s : ByteArray} (h : ¬ 8192 < s.size) (ho : stO s = false) : stN s = 0 ∧ stB s = ⟨#[]⟩ ∧ stV' s = 0 ∧ stE s = 20 := by simp [stN, stB, stV', stE, h, ho]
theorem st_yes {s : ByteArray} (h : ¬ 8192 < s.size) (ho : stO s = true) : stN s = stC s ∧ stB s = stR s ∧ stV' s = verI (s.extract 0 8) ∧ stE s = 0 := by simp [stN, stB, stV', stE, h, ho]

def prqS (m t : ByteArray) (v : Int) : ByteArray := m ++ (⟨#[32]⟩ : ByteArray) ++ t ++ (⟨#[32, 72, 84, 84, 80, 47, 49, 46]⟩ : ByteArray) ++ mkS (plainL v)
def pstS (c : Int) (r : ByteArray) (v : Int) : ByteArray := (⟨#[72, 84, 84, 80, 47, 49, 46]⟩ : ByteArray) ++ mkS (plainL v) ++ (⟨#[32]⟩ : ByteArray) ++ mkS (plainL c) ++ (⟨#[32]⟩ : ByteArray) ++ r
def safeB (m : ByteArray) : Bool := ((m.toList == [71, 69, 84] || m.toList == [72, 69, 65, 68]) || m.toList == [79, 80, 84, 73, 79, 78, 83]) || m.toList == [84, 82, 65, 67, 69]
def usuS (c : Int) : ByteArray :=
  if c = 200 then ⟨#[79, 75]⟩ else if c = 304 then ⟨#[78, 111, 116, 32, 77, 111, 100, 105, 102, 105, 101, 100]⟩ else if c = 400 then ⟨#[66, 97, 100, 32, 82, 101, 113, 117, 101, 115, 116]⟩
  else if c = 502 then ⟨#[66, 97, 100, 32, 71, 97, 116, 101, 119, 97, 121]⟩ else if c = 504 then ⟨#[71, 97, 116, 101, 119, 97, 121, 32, 84, 105, 109, 101, 111, 117, 116]⟩ else ⟨#[]⟩

theorem nil_str {s : ByteArray} (h : s.size = 0) : s.toList.isEmpty = true := by
  rw [Lib.toList_data, List.isEmpty_iff, ← List.length_eq_zero_iff, ← Lib.size_eq]; exact h
theorem non_str {s : ByteArray} (h : s.size ≠ 0) : s.toList.isEmpty = false := by
  rw [Lib.toList_data, ← Bool.not_eq_true, List.isEmpty_iff, ← List.length_eq_zero_iff, ← Lib.size_eq]; exact h
theorem str_eq {s : ByteArray} {l : List UInt8} (h : (s.toList == l) = true) : s = mkS l := by
  have := eq_of_beq h
  rw [Lib.toList_data] at this
  exact mkS_eq this
theorem byteI_at {s : ByteArray} {k : Nat} (h : k < s.size) : byteI s k = (s[k].toNat : Int) := by
  unfold byteI
  rw [List.getElem?_eq_getElem (by rw [← Lib.size_eq]; exact h)]; rfl

end Go.Proofs.YtbmlldjkfpekkaaDoor
