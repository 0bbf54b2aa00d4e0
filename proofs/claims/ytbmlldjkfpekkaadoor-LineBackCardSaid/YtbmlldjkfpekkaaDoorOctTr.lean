/-
  Contracts of Trim and Cut of package octet, for every text.
-/
import Derived.Test.YtbmlldjkfpekkaaDoorOctBy
import Derived.Test.YtbmlldjkfpekkaaDoorOctS
import Derived.Deep.QuietTactic
import Derived.BigQuiet
import Derived.WalkSmall
namespace Go.Proofs.YtbmlldjkfpekkaaDoor
open Go.RowKit

theorem cut_any (s : ByteArray) (c : Int) (w : World) (hs : s.size ≤ maxLen) (h0 : 0 ≤ c) (h1 : c ≤ 255) :
    Calls Tryd.prog 37 #[.string s, .int .u8 c] w fun e w' => e = .returned (.tuple #[.string (cutA s c), .string (cutZ s c), .bool (cutOk s c)]) ∧ Below w.heap.size w w' := by
  unfold maxLen at hs
  rcases idx_cases s c h0 h1 with ⟨hn, _⟩ | ⟨i, hi, hlt, _, _⟩
  · have HC := Lib.hid (cut_miss hn)
    have HI := Lib.hid hn
    clear hn
    go_enter Tryd.func37, Tryd.ntmps37
    go_wp2_with (go_at_call 48; refine (idx_ext _ _ _).mono ?_; rintro e w' ⟨he, rfl⟩; rw [show Lib.indexByte s.data.toList c.toNat.toUInt8 = -1 from HI.out] at he; subst he)
    go_ret3
    exact ⟨by rw [HC.out.1, HC.out.2.1, HC.out.2.2]; rfl, Below.refl _ _⟩
  · have HC := Lib.hid (cut_hit hi)
    have HI := Lib.hid hi
    clear hi
    have hx0 : (i : Int) ≤ (s.size : Int) := by omega
    have hx1 : (i : Int) + 1 ≤ (s.size : Int) := by omega
    have hx2 : (0 : Int) ≤ (i : Int) + 1 := by omega
    have hx3 : IntKind.i64.wrap ((i : Int) + 1) = (i : Int) + 1 := IntWalk.i64_in _ (by omega)
    have hx4 : ((i : Int) + 1).toNat = i + 1 := by omega
    go_enter Tryd.func37, Tryd.ntmps37
    go_wp2_with (go_at_call 48; refine (idx_ext _ _ _).mono ?_; rintro e w' ⟨he, rfl⟩; rw [show Lib.indexByte s.data.toList c.toNat.toUInt8 = i from HI.out] at he; subst he)
    go_quiet (fail)
    clear hx3 hx4
    go_wp2
    go_ret3
    exact ⟨by rw [HC.out.1, HC.out.2.1, HC.out.2.2]; rfl, below_drewN (Below.refl _ _) _⟩

end Go.Proofs.YtbmlldjkfpekkaaDoor
