/-
  Contracts of the reference's functions on texts (layer 1): IsToken, IsText, Trim, Cut.
-/
import Derived.Test.YtcmppmbieebkpaaDoorOctRf
import Derived.Deep.QuietTactic
import Derived.BigQuiet
import Derived.WalkSmall
namespace Go.Proofs.YtcmppmbieebkpaaDoor
open Go.RowKit

theorem byte_lt (b : UInt8) : b.toNat < 256 := b.toNat_lt

/-- How long a text in a slot is. -/
def strOf : Value → Nat | .string t => t.size | _ => 0

end Go.Proofs.YtcmppmbieebkpaaDoor
