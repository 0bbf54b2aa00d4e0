/-
  What the rows' list of variables gives the walks of layer 10: the program's tables and the library's.
-/
import Derived.Test.YtbmlldjkfpekkaaDoorLinA
import Derived.Test.YtbmlldjkfpekkaaDoorRows
namespace Go.Proofs.YtbmlldjkfpekkaaDoor
open Go.RowKit

theorem pow_data : (Rows.laid_internal_strconv_uint64pow10 : DataW Unit) = Lib.tabData .u64 Lib.pow10Tab := by kernel_rfl
theorem linTabs {W : World} (h : laidMetH Tryd.prog Rows.lineReadsRow.laid W) : LinTabs W := by
  rw [MakeChecks.laidMetH_plain _ _ _ (by kernel_rfl)] at h
  exact ⟨tab_in (n := 20) h (.tail _ (.tail _ (.head _))) pow_data (g := 3) (by kernel_rfl) (t := 95) (by kernel_rfl) Tryd.underlying95 Tryd.underlying60 (by kernel_rfl) (by kernel_rfl),
    var_in h (.tail _ (.tail _ (.tail _ (.head _)))) (g := 0) (by kernel_rfl) (t := 48) (by kernel_rfl) (by kernel_rfl),
    var_in h (.tail _ (.tail _ (.tail _ (.tail _ (.head _))))) (g := 1) (by kernel_rfl) (t := 51) (by kernel_rfl) (by kernel_rfl)⟩

end Go.Proofs.YtbmlldjkfpekkaaDoor
