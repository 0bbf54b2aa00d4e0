/-
  What the rows' list of variables gives the walks of layer 2: the library's tables.
-/
import Derived.Test.YtecfcaigohilkaaDoorDecEx
import Derived.Test.YtecfcaigohilkaaDoorRows
import Derived.Test.YtecfcaigohilkaaDoorComL
namespace Go.Proofs.YtecfcaigohilkaaDoor
open Go.RowKit

def brTab : List Int := [0, 1, 56, 2, 57, 49, 28, 3, 61, 58, 42, 50, 38, 29, 17, 4, 62, 47, 59, 36, 45, 43, 51, 22, 53, 39, 33, 30, 24, 18, 12, 5, 63, 55, 48, 27, 60, 41, 37, 16, 46, 35, 44, 21, 52, 32, 23, 11, 54, 26, 40, 15, 34, 20, 31, 10, 25, 14, 19, 9, 13, 8, 7, 6]
theorem pow_data : (Rows.laid_internal_strconv_uint64pow10 : DataW Unit) = Lib.tabData .u64 Lib.pow10Tab := by kernel_rfl

theorem decTabs {W : World} (h : laidMetH Tryd.prog Rows.decimalReadsRow.laid W) : DecTabs W := by
  rw [MakeChecks.laidMetH_plain _ _ _ (by kernel_rfl)] at h
  refine ⟨tab_in (n := 20) h (.tail _ (.tail _ (.head _))) pow_data (g := 0) (by kernel_rfl) (t := 79) (by kernel_rfl) Tryd.underlying79 Tryd.underlying37 (by kernel_rfl) (by kernel_rfl), ?_⟩
  have hB := tab_in (k := .u8) (zs := brTab) (n := 64) h (.tail _ (.head _)) (by kernel_rfl) (g := 3) (by kernel_rfl) (t := 85) (by kernel_rfl) Tryd.underlying85 Tryd.underlying5 (by kernel_rfl) (by kernel_rfl)
  exact hB.cell (by kernel_rfl) 15 (by decide)

end Go.Proofs.YtecfcaigohilkaaDoor
