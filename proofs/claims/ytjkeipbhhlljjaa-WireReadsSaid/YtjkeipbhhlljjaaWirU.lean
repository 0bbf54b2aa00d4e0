/-
  Contracts of the reference's Put, PutText and Same.
-/
import Derived.Test.YtjkeipbhhlljjaaWirT
namespace Go.Proofs.Ytjkeipbhhlljjaa
open Go.RowKit

theorem r_same (A A' : Option Addr) (n n' c c' : Nat) (l l' : List UInt8) (w : World) (h : Sl8 w A n c l) (h' : Sl8 w A' n' c' l') :
    Calls Try.prog 14 #[.slice A n c, .slice A' n' c'] w fun e w' => e = .returned (.bool (l == l')) ∧ w = w' := by
  have k1 := run_str Try.prog w 22 5 Try.underlying22 Try.underlying5 h 9 Try.underlying9
  have k2 := run_str Try.prog w 22 5 Try.underlying22 Try.underlying5 h' 9 Try.underlying9
  have hl := Lib.hid (same_list l l')
  go_enter Try.func14, Try.ntmps14
  go_wp2
  go_ret
  exact ⟨ret_bool hl.out, rfl⟩

end Go.Proofs.Ytjkeipbhhlljjaa
