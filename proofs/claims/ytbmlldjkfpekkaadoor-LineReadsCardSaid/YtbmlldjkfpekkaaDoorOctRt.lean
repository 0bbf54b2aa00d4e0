/-
  Contracts of the reference's functions on texts (layer 1): IsToken, IsText, Trim, Cut.
-/
import Derived.Test.YtbmlldjkfpekkaaDoorOctRf
import Derived.Deep.QuietTactic
import Derived.BigQuiet
import Derived.WalkSmall
namespace Go.Proofs.YtbmlldjkfpekkaaDoor
open Go.RowKit

theorem byte_lt (b : UInt8) : b.toNat < 256 := b.toNat_lt

theorem r_isToken (s : ByteArray) (w : World) (hs : s.size ≤ maxLen) :
    Calls Tryd.prog 26 #[.string s] w fun e w' => e = .returned (.bool (!s.toList.isEmpty && allB tokB s.data.toList)) ∧ w = w' := by
  unfold maxLen at hs
  go_enter Tryd.func26, Tryd.ntmps26
  go_wp2
  go_loop [3] (fun i => ∃ k : Nat, k ≤ s.size ∧ i = .int .i64 k ∧ Hid (allB tokB (s.data.toList.take k) = true)) (fun i => s.size - (intOf i).toNat)
  case atStart => exact ⟨0, Nat.zero_le _, rfl, rfl⟩
  case round =>
    obtain ⟨k, hk, rfl, hf⟩ := hrel
    by_cases hlt : k < s.size
    · have hbd := byte_lt s[k]
      by_cases hin : tokB (s[k].toNat : Int) = true
      · have HA : Hid (allB tokB (s.data.toList.take (k + 1)) = true) := by show _ = _; rw [allB_take tokB s k hlt, hf.out, hin]; rfl
        have HI := Lib.hid hin
        clear hin hf
        go_wp2_with (go_at_call 38; refine (r_token _ hbd _).mono ?_; rintro e w1 ⟨he, rfl⟩; rw [HI.out] at he; subst he)
        go_round
        case rel => exact ⟨k + 1, by omega, by go_num, HA⟩
        case measure => simp [intOf]; omega
      · have hin' : tokB (s[k].toNat : Int) = false := by simpa using hin
        have HA : Hid (allB tokB s.data.toList = false) := allB_false tokB s k hlt hin'
        have HI := Lib.hid hin'
        clear hin hin' hf
        go_wp2_with (go_at_call 38; refine (r_token _ hbd _).mono ?_; rintro e w1 ⟨he, rfl⟩; rw [HI.out] at he; subst he)
        go_ret
        exact ⟨by rw [HA.out, Bool.and_false]; rfl, rfl⟩
    · have HA : Hid (allB tokB s.data.toList = true) := allB_full tokB s k (by omega) hf.out
      have HE : Hid ((!s.toList.isEmpty) = decide (0 < s.size)) := by
        show _ = _
        rw [Lib.toList_data, Bool.eq_iff_iff, Lib.size_eq]
        cases s.data.toList <;> simp
      clear hf
      go_wp2
      go_ret
      exact ⟨by rw [HA.out, HE.out, Bool.and_true]; rfl, rfl⟩

theorem r_isText (s : ByteArray) (w : World) (hs : s.size ≤ maxLen) :
    Calls Tryd.prog 29 #[.string s] w fun e w' => e = .returned (.bool (allB txtB s.data.toList)) ∧ w = w' := by
  unfold maxLen at hs
  go_enter Tryd.func29, Tryd.ntmps29
  go_wp2
  go_loop [3] (fun i => ∃ k : Nat, k ≤ s.size ∧ i = .int .i64 k ∧ Hid (allB txtB (s.data.toList.take k) = true)) (fun i => s.size - (intOf i).toNat)
  case atStart => exact ⟨0, Nat.zero_le _, rfl, rfl⟩
  case round =>
    obtain ⟨k, hk, rfl, hf⟩ := hrel
    by_cases hlt : k < s.size
    · have hbd := byte_wf s[k]
      by_cases hin : txtB (s[k].toNat : Int) = true
      · have HA : Hid (allB txtB (s.data.toList.take (k + 1)) = true) := by show _ = _; rw [allB_take txtB s k hlt, hf.out, hin]; rfl
        have HI := Lib.hid hin
        clear hin hf
        go_wp2_with (go_at_call 41; refine (r_text _ hbd.1 hbd.2 _).mono ?_; rintro e w1 ⟨he, rfl⟩; rw [HI.out] at he; subst he)
        go_round
        case rel => exact ⟨k + 1, by omega, by go_num, HA⟩
        case measure => simp [intOf]; omega
      · have hin' : txtB (s[k].toNat : Int) = false := by simpa using hin
        have HA : Hid (allB txtB s.data.toList = false) := allB_false txtB s k hlt hin'
        have HI := Lib.hid hin'
        clear hin hin' hf
        go_wp2_with (go_at_call 41; refine (r_text _ hbd.1 hbd.2 _).mono ?_; rintro e w1 ⟨he, rfl⟩; rw [HI.out] at he; subst he)
        go_ret
        exact ⟨by rw [HA.out]; rfl, rfl⟩
    · have HA : Hid (allB txtB s.data.toList = true) := allB_full txtB s k (by omega) hf.out
      clear hf
      go_wp2
      go_ret
      exact ⟨by rw [HA.out]; rfl, rfl⟩

theorem r_cut (s : ByteArray) (c : Int) (w : World) (hs : s.size ≤ maxLen) (h0 : 0 ≤ c) (h1 : c ≤ 255) :
    Calls Tryd.prog 24 #[.string s, .int .u8 c] w fun e w' => e = .returned (.tuple #[.string (cutA s c), .string (cutZ s c), .bool (cutOk s c)]) ∧ Below w.heap.size w w' := by
  unfold maxLen at hs
  go_enter Tryd.func24, Tryd.ntmps24
  go_wp2
  go_loop [7] (fun i => ∃ k : Nat, k ≤ s.size ∧ i = .int .i64 k ∧ Hid (∀ (j : Nat) (h : j < s.size), j < k → (s[j].toNat : Int) ≠ c)) (fun i => s.size - (intOf i).toNat)
  case atStart => exact ⟨0, Nat.zero_le _, rfl, fun j _ h => absurd h (by omega)⟩
  case round =>
    obtain ⟨k, hk, rfl, hf⟩ := hrel
    by_cases hlt : k < s.size
    · by_cases e1 : ((s[k].toNat : Int) == c) = true
      · have HC := Lib.hid (cut_hit (idx_first s c h0 h1 k hlt (by simpa using e1) (fun j hj => hf.out j (by omega) hj)))
        have hx0 : (k : Int) ≤ (s.size : Int) := by omega
        have hx1 : (k : Int) + 1 ≤ (s.size : Int) := by omega
        have hx2 : (0 : Int) ≤ (k : Int) + 1 := by omega
        have hx3 : IntKind.i64.wrap ((k : Int) + 1) = (k : Int) + 1 := IntWalk.i64_in _ (by omega)
        have hx4 : ((k : Int) + 1).toNat = k + 1 := by omega
        clear hf
        go_wp2
        go_quiet (fail)
        clear hx3 hx4
        go_wp2
        go_ret3
        exact ⟨by rw [HC.out.1, HC.out.2.1, HC.out.2.2]; rfl, below_drewN (Below.refl _ _) _⟩
      · have e1' : ((s[k].toNat : Int) == c) = false := by simpa using e1
        clear e1
        have HF : Hid (∀ (j : Nat) (h : j < s.size), j < k + 1 → (s[j].toNat : Int) ≠ c) := fun j h hj => by
          by_cases e : j = k
          · subst e
            simpa using e1'
          · exact hf.out j h (by omega)
        clear hf
        go_wp2
        go_round
        case rel => exact ⟨k + 1, by omega, by go_num, HF⟩
        case measure => simp [intOf]; omega
    · have HC := Lib.hid (cut_miss (idx_none s c h0 h1 (fun j hj => hf.out j hj (by omega))))
      clear hf
      go_wp2
      go_ret3
      exact ⟨by rw [HC.out.1, HC.out.2.1, HC.out.2.2]; rfl, Below.refl _ _⟩

/-- How long a text in a slot is. -/
def strOf : Value → Nat | .string t => t.size | _ => 0

end Go.Proofs.YtbmlldjkfpekkaaDoor
