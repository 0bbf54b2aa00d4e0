/-
  Contracts of the reference's Lower and Same (layer 1), for every text.
-/
import Derived.Test.YtcmppmbieebkpaaDoorOctLo
namespace Go.Proofs.YtcmppmbieebkpaaDoor
open Go.RowKit

end Go.Proofs.YtcmppmbieebkpaaDoor
