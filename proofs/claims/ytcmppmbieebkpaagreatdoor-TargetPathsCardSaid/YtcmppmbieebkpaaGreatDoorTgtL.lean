/-
  What the rows' list of variables gives the walks of layer 8: the library's table of powers of ten.
-/
import Derived.Test.YtcmppmbieebkpaaGreatDoorTgtG
import Derived.Test.YtcmppmbieebkpaaGreatDoorRows
import Derived.Test.YtcmppmbieebkpaaGreatDoorComL
namespace Go.Proofs.YtcmppmbieebkpaaGreatDoor
open Go.RowKit

theorem pow_data : (Rows.laid_internal_strconv_uint64pow10 : DataW Unit) = Lib.tabData .u64 Lib.pow10Tab := by kernel_rfl
theorem powTabs {W : World} (h : laidMetH Tryz.prog Rows.targetPathsRow.laid W) : Pow10 W := by
  rw [MakeChecks.laidMetH_plain _ _ _ (by kernel_rfl)] at h
  exact tab_in (n := 20) h (.tail _ (.tail _ (.head _))) pow_data (g := 4) (by kernel_rfl) (t := 141) (by kernel_rfl) Tryz.underlying141 Tryz.underlying78 (by kernel_rfl) (by kernel_rfl)

end Go.Proofs.YtcmppmbieebkpaaGreatDoor
