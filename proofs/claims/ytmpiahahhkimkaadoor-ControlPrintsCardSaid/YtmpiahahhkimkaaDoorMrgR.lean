/-
  Texts that the laws of this seat lean on, one behind the other.
-/
import Derived.Test.YtmpiahahhkimkaaDoorMrgC
import Derived.Test.YtmpiahahhkimkaaDoorMrgL
import Derived.Deep.QuietTactic
import Derived.BigQuiet
import Derived.IntWalk
/-
  Contracts of Plain and Pad of package decimal, and of the reference's digits, Plain, Pad and Hex.
-/
section
namespace Go.Proofs.YtmpiahahhkimkaaDoor
open Go.RowKit

abbrev Pow10 (w : World) : Prop := Lib.TabIs Tryd.prog w "internal/strconv.uint64pow10" .u64 Lib.pow10Tab

theorem plain_any (n : Int) (h0 : -9223372036854775808 ≤ n) (h1 : n ≤ 9223372036854775807) (w : World) (ht : Pow10 w) :
    Calls Tryd.prog 27 #[.int .i64 n] w fun e w' => e = .returned (.string (mkS (plainL n))) ∧ Below w.heap.size w w' := by
  have HL := Lib.hid (plainL_itoa n)
  have c := Lib.hid (Tryd.strconv_Itoa n h0 h1 w ht)
  clear ht
  go_enter Tryd.func27, Tryd.ntmps27
  go_wp2_with fail
  refine (c.out).mono ?_
  rintro e w' ⟨he, k, os, rfl⟩
  rw [HL.out] at he
  subst he
  go_wp2_with fail
  go_ret
  exact ⟨rfl, below_grow _ _ _⟩


end Go.Proofs.YtmpiahahhkimkaaDoor
end
