/-
  What the rows' list of variables gives the walks of layer 7: the program's tables and the library's.
-/
import Derived.Test.YtamhipgeeidlcaaDoorDatB
import Derived.Test.YtamhipgeeidlcaaDoorRows
import Derived.Test.YtamhipgeeidlcaaDoorComY
namespace Go.Proofs.YtamhipgeeidlcaaDoor
open Go.RowKit

theorem pow_data : (Rows.laid_internal_strconv_uint64pow10 : DataW Unit) = Lib.tabData .u64 Lib.pow10Tab := by kernel_rfl
theorem datTabs {W : World} (h : laidMetH Tryd.prog Rows.dateDaysRow.laid W) : DatTabs W := by
  rw [MakeChecks.laidMetH_plain _ _ _ (by kernel_rfl)] at h
  exact ⟨tab_in (n := 20) h (.tail _ (.tail _ (.head _))) pow_data (g := 4) (by kernel_rfl) (t := 111) (by kernel_rfl) Tryd.underlying111 Tryd.underlying59 (by kernel_rfl) (by kernel_rfl),
    var_in h (.tail _ (.tail _ (.tail _ (.tail _ (.head _))))) (g := 2) (by kernel_rfl) (t := 55) (by kernel_rfl) (by kernel_rfl),
    var_in h (.tail _ (.tail _ (.tail _ (.tail _ (.tail _ (.head _)))))) (g := 1) (by kernel_rfl) (t := 53) (by kernel_rfl) (by kernel_rfl),
    var_in h (.tail _ (.tail _ (.tail _ (.tail _ (.tail _ (.tail _ (.head _))))))) (g := 0) (by kernel_rfl) (t := 47) (by kernel_rfl) (by kernel_rfl)⟩

end Go.Proofs.YtamhipgeeidlcaaDoor
