/-
  What the rows' list of variables gives the walks of layer 8: the library's table of powers of ten.
-/
import Derived.Test.YtcmppmbieebkpaaDoorTgtG
import Derived.Test.YtcmppmbieebkpaaDoorRows
import Derived.Test.YtcmppmbieebkpaaDoorComL
namespace Go.Proofs.YtcmppmbieebkpaaDoor
open Go.RowKit

theorem pow_data : (Rows.laid_internal_strconv_uint64pow10 : DataW Unit) = Lib.tabData .u64 Lib.pow10Tab := by kernel_rfl
theorem powTabs {W : World} (h : laidMetH Tryd.prog Rows.targetAnyRow.laid W) : Pow10 W := by
  rw [MakeChecks.laidMetH_plain _ _ _ (by kernel_rfl)] at h
  exact tab_in (n := 20) h (.tail _ (.tail _ (.head _))) pow_data (g := 2) (by kernel_rfl) (t := 122) (by kernel_rfl) Tryd.underlying122 Tryd.underlying52 (by kernel_rfl) (by kernel_rfl)

end Go.Proofs.YtcmppmbieebkpaaDoor
