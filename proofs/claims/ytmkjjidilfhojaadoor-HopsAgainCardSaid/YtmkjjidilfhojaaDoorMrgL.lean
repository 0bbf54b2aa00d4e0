/-
  Texts that the laws of this seat lean on, one behind the other.
-/
import Derived.Test.YtmkjjidilfhojaaDoorMrgK
import Derived.Test.YtmkjjidilfhojaaDoorMrgC
/-
  Plain facts of a field and its line (layer 9), without items: prpF, lineS, what Parse answers; a variable of two cells.
-/
section
namespace Go.Proofs.YtmkjjidilfhojaaDoor
open Go.RowKit

/-- May a field be, but for its length? -/
def prpF (x : Fd) : Bool := ((!x.1.toList.isEmpty && allB tokB x.1.data.toList) && allB txtB x.2.data.toList) && ((mkS (trimL x.2.data.toList)).toList == x.2.toList)
def lineS (x : Fd) : ByteArray := x.1 ++ (⟨#[58, 32]⟩ : ByteArray) ++ x.2
def lngF (x : Fd) : Bool := decide (8192 < x.1.size + 2 + x.2.size)
theorem line_list (x : Fd) : (lineS x).data.toList = x.1.data.toList ++ [58, 32] ++ x.2.data.toList := by
  unfold lineS
  rw [append_list, append_list]
theorem line_size (x : Fd) : (lineS x).size = x.1.size + 2 + x.2.size := by
  unfold lineS
  rw [ByteArray.size_append, ByteArray.size_append]; rfl

/-! ### Parse -/
def flT (s : ByteArray) : Fd := (cutA s 58, mkS (trimL (cutZ s 58).data.toList))
def flO (s : ByteArray) : Bool := cutOk s 58 && ((!(flT s).1.toList.isEmpty && allB tokB (flT s).1.data.toList) && allB txtB (flT s).2.data.toList)
def flF (s : ByteArray) : Fd := if 8192 < s.size then (⟨#[]⟩, ⟨#[]⟩) else if flO s then flT s else (⟨#[]⟩, ⟨#[]⟩)
def flX (s : ByteArray) : Int := if 8192 < s.size then 4 else if flO s then 0 else 21
theorem fl_prp (s : ByteArray) : (cutOk s 58 && prpF (flT s)) = flO s := by
  have h : ((mkS (trimL (flT s).2.data.toList)).toList == (flT s).2.toList) = true := by
    show ((mkS (trimL (mkS (trimL (cutZ s 58).data.toList)).data.toList)).toList == (mkS (trimL (cutZ s 58).data.toList)).toList) = true
    rw [mkS_list, trim_of_edge (trim_edge _)]
    simp
  unfold prpF flO
  rw [h, Bool.and_true]
theorem fl_no {s : ByteArray} (h : ¬ 8192 < s.size) (ho : flO s = false) : flF s = (⟨#[]⟩, ⟨#[]⟩) ∧ flX s = 21 := by simp [flF, flX, h, ho]
theorem fl_yes {s : ByteArray} (h : ¬ 8192 < s.size) (ho : flO s = true) : flF s = flT s ∧ flX s = 0 := by simp [flF, flX, h, ho]
theorem fl_long {s : ByteArray} (h : 8192 < s.size) : flF s = (⟨#[]⟩, ⟨#[]⟩) ∧ flX s = 4 := by simp [flF, flX, h]
theorem fd_cells {W : World} {g t : Nat} {c0 c1 : Value} (h : W.heap[g]? = some (.cells #[c0, c1] t (0, 0))) :
    W.cell? ⟨g, 0, none⟩ = some c0 ∧ W.cell? ⟨g, 1, none⟩ = some c1 ∧ W.frozen? ⟨g, 0, none⟩ = false ∧ W.frozen? ⟨g, 1, none⟩ = false := by
  refine ⟨(zero_two h).1, (zero_two h).2, ?_, ?_⟩
  all_goals simp [World.frozen?, h]
theorem fd_set {W : World} {g t : Nat} {d0 d1 c0 c1 : Value} (h : W.heap[g]? = some (.cells #[d0, d1] t (0, 0))) :
    ((W.setCell ⟨g, 0, none⟩ c0).setCell ⟨g, 1, none⟩ c1).heap[g]? = some (.cells #[c0, c1] t (0, 0)) := by
  simp [World.setCell, Array.getElem?_modify, h]
theorem below_set2 {B g : Nat} {w W : World} {c0 c1 : Value} (h : Below B w W) (hg : B ≤ g) : Below B w ((W.setCell ⟨g, 0, none⟩ c0).setCell ⟨g, 1, none⟩ c1) :=
  (h.setCell (p := ⟨g, 0, none⟩) hg _).setCell (p := ⟨g, 1, none⟩) hg _
theorem flA_le (s : ByteArray) (c : Int) : (cutA s c).size ≤ s.size := by
  unfold cutA
  split
  · exact Nat.le_refl _
  · rw [ByteArray.size_extract]; omega
theorem flZ_le (s : ByteArray) (c : Int) : (cutZ s c).size ≤ s.size := by
  unfold cutZ
  split
  · exact Nat.zero_le _
  · rw [ByteArray.size_extract]; omega
theorem rdw_le (l : List UInt8) : (rdw l).length ≤ l.length := (rdw_prefix l).length_le
theorem trim_le (l : List UInt8) : (trimL l).length ≤ l.length := Nat.le_trans (rdw_le _) (List.IsSuffix.length_le (List.dropWhile_suffix _))
theorem flT_le (s : ByteArray) : (flT s).1.size ≤ s.size ∧ (flT s).2.size ≤ s.size := by
  refine ⟨flA_le s 58, ?_⟩
  show (mkS (trimL (cutZ s 58).data.toList)).size ≤ _
  rw [mkS_size]
  refine Nat.le_trans (trim_le _) ?_
  rw [← Lib.size_eq]
  exact flZ_le s 58

end Go.Proofs.YtmkjjidilfhojaaDoor
end
