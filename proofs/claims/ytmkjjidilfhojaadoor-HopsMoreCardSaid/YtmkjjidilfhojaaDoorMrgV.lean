/-
  Texts that the laws of this seat lean on, one behind the other.
-/
import Derived.Test.YtmkjjidilfhojaaDoorProg

section
namespace Go.Proofs.YtmkjjidilfhojaaDoor
end Go.Proofs.YtmkjjidilfhojaaDoor
end
