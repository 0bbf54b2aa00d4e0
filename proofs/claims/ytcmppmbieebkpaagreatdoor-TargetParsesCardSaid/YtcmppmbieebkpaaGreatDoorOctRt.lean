/-
  Contracts of the reference's functions on texts (layer 1): IsToken, IsText, Trim, Cut.
-/
import Derived.Test.YtcmppmbieebkpaaGreatDoorOctRf
import Derived.Deep.QuietTactic
import Derived.BigQuiet
import Derived.WalkSmall
namespace Go.Proofs.YtcmppmbieebkpaaGreatDoor
open Go.RowKit

theorem byte_lt (b : UInt8) : b.toNat < 256 := b.toNat_lt

theorem r_cut (s : ByteArray) (c : Int) (w : World) (hs : s.size ≤ maxLen) (h0 : 0 ≤ c) (h1 : c ≤ 255) :
    Calls Tryz.prog 23 #[.string s, .int .u8 c] w fun e w' => e = .returned (.tuple #[.string (cutA s c), .string (cutZ s c), .bool (cutOk s c)]) ∧ Below w.heap.size w w' := by
  unfold maxLen at hs
  go_enter Tryz.func23, Tryz.ntmps23
  go_wp2
  go_loop [7] (fun i => ∃ k : Nat, k ≤ s.size ∧ i = .int .i64 k ∧ Hid (∀ (j : Nat) (h : j < s.size), j < k → (s[j].toNat : Int) ≠ c)) (fun i => s.size - (intOf i).toNat)
  case atStart => exact ⟨0, Nat.zero_le _, rfl, fun j _ h => absurd h (by omega)⟩
  case round =>
    obtain ⟨k, hk, rfl, hf⟩ := hrel
    by_cases hlt : k < s.size
    · by_cases e1 : ((s[k].toNat : Int) == c) = true
      · have HC := Lib.hid (cut_hit (idx_first s c h0 h1 k hlt (by simpa using e1) (fun j hj => hf.out j (by omega) hj)))
        have hx0 : (k : Int) ≤ (s.size : Int) := by omega
        have hx1 : (k : Int) + 1 ≤ (s.size : Int) := by omega
        have hx2 : (0 : Int) ≤ (k : Int) + 1 := by omega
        have hx3 : IntKind.i64.wrap ((k : Int) + 1) = (k : Int) + 1 := IntWalk.i64_in _ (by omega)
        have hx4 : ((k : Int) + 1).toNat = k + 1 := by omega
        clear hf
        go_wp2
        go_quiet (fail)
        clear hx3 hx4
        go_wp2
        go_ret3
        exact ⟨by rw [HC.out.1, HC.out.2.1, HC.out.2.2]; rfl, below_drewN (Below.refl _ _) _⟩
      · have e1' : ((s[k].toNat : Int) == c) = false := by simpa using e1
        clear e1
        have HF : Hid (∀ (j : Nat) (h : j < s.size), j < k + 1 → (s[j].toNat : Int) ≠ c) := fun j h hj => by
          by_cases e : j = k
          · subst e
            simpa using e1'
          · exact hf.out j h (by omega)
        clear hf
        go_wp2
        go_round
        case rel => exact ⟨k + 1, by omega, by go_num, HF⟩
        case measure => simp [intOf]; omega
    · have HC := Lib.hid (cut_miss (idx_none s c h0 h1 (fun j hj => hf.out j hj (by omega))))
      clear hf
      go_wp2
      go_ret3
      exact ⟨by rw [HC.out.1, HC.out.2.1, HC.out.2.2]; rfl, Below.refl _ _⟩

/-- How long a text in a slot is. -/
def strOf : Value → Nat | .string t => t.size | _ => 0

end Go.Proofs.YtcmppmbieebkpaaGreatDoor
