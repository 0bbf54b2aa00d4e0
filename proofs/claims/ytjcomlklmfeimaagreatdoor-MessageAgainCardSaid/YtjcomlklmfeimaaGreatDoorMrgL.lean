/-
  Texts that the laws of this seat lean on, one behind the other.
-/
import Derived.Test.YtjcomlklmfeimaaGreatDoorProg

section
namespace Go.Proofs.YtjcomlklmfeimaaGreatDoor
end Go.Proofs.YtjcomlklmfeimaaGreatDoor
end
