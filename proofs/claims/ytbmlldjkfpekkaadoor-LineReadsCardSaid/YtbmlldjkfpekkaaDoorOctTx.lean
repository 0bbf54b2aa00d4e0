/-
  Contracts of the functions on texts of package octet: every, IsToken, IsText, Trim, Cut.
-/
import Derived.Test.YtbmlldjkfpekkaaDoorOctBy
namespace Go.Proofs.YtbmlldjkfpekkaaDoor
open Go.RowKit

theorem every_tok (s : ByteArray) (w : World) (hs : s.size ≤ maxLen) :
    Calls Tryd.prog 34 #[.string s, .func (.func 35) #[] #[]] w fun e w' => e = .returned (.bool (allB tokB s.data.toList)) ∧ Below w.heap.size w w' := by
  unfold maxLen at hs
  go_enter Tryd.func34, Tryd.ntmps34
  go_wp2
  go_loopw [4, 8] (fun r i wr => ∃ k : Nat, k ≤ s.size ∧ i = .int .i64 k ∧ r = .bool false ∧ Hid (allB tokB (s.data.toList.take k) = true) ∧ Below w.heap.size w wr) (fun _ i _ => s.size - (intOf i).toNat)
  case atStart => exact ⟨0, Nat.zero_le _, rfl, rfl, rfl, Below.refl _ _⟩
  case round =>
    obtain ⟨k, hk, rfl, rfl, hf, hbel⟩ := hrel
    by_cases hlt : k < s.size
    · have hbd := byte_wf s[k]
      by_cases hin : tokB (s[k].toNat : Int) = true
      · have HA : Hid (allB tokB (s.data.toList.take (k + 1)) = true) := by show _ = _; rw [allB_take tokB s k hlt, hf.out, hin]; rfl
        have HI := Lib.hid hin
        clear hin hf
        go_wp2_with (go_at_call 35; refine (token_any _ hbd.1 hbd.2 _).mono ?_; rintro e w1 ⟨he, hb1⟩; rw [HI.out] at he; subst he)
        go_roundw
        case rel => exact ⟨k + 1, by omega, by go_num, rfl, HA, hbel.trans (hb1.mono hbel.size)⟩
        case measure => simp [intOf]; omega
      · have hin' : tokB (s[k].toNat : Int) = false := by simpa using hin
        have HA : Hid (allB tokB s.data.toList = false) := allB_false tokB s k hlt hin'
        have HI := Lib.hid hin'
        clear hin hin' hf
        go_wp2_with (go_at_call 35; refine (token_any _ hbd.1 hbd.2 _).mono ?_; rintro e w1 ⟨he, hb1⟩; rw [HI.out] at he; subst he)
        go_ret
        exact ⟨by rw [HA.out]; rfl, hbel.trans (hb1.mono hbel.size)⟩
    · have HA : Hid (allB tokB s.data.toList = true) := allB_full tokB s k (by omega) hf.out
      clear hf
      go_wp2
      go_ret
      exact ⟨by rw [HA.out]; rfl, hbel⟩

theorem every_txt (s : ByteArray) (w : World) (hs : s.size ≤ maxLen) :
    Calls Tryd.prog 34 #[.string s, .func (.func 36) #[] #[]] w fun e w' => e = .returned (.bool (allB txtB s.data.toList)) ∧ Below w.heap.size w w' := by
  unfold maxLen at hs
  go_enter Tryd.func34, Tryd.ntmps34
  go_wp2
  go_loopw [4, 8] (fun r i wr => ∃ k : Nat, k ≤ s.size ∧ i = .int .i64 k ∧ r = .bool false ∧ Hid (allB txtB (s.data.toList.take k) = true) ∧ Below w.heap.size w wr) (fun _ i _ => s.size - (intOf i).toNat)
  case atStart => exact ⟨0, Nat.zero_le _, rfl, rfl, rfl, Below.refl _ _⟩
  case round =>
    obtain ⟨k, hk, rfl, rfl, hf, hbel⟩ := hrel
    by_cases hlt : k < s.size
    · have hbd := byte_wf s[k]
      by_cases hin : txtB (s[k].toNat : Int) = true
      · have HA : Hid (allB txtB (s.data.toList.take (k + 1)) = true) := by show _ = _; rw [allB_take txtB s k hlt, hf.out, hin]; rfl
        have HI := Lib.hid hin
        clear hin hf
        go_wp2_with (go_at_call 36; refine (text_any _ hbd.1 hbd.2 _).mono ?_; rintro e w1 ⟨he, hb1⟩; rw [HI.out] at he; subst he)
        go_roundw
        case rel => exact ⟨k + 1, by omega, by go_num, rfl, HA, hbel.trans (hb1.mono hbel.size)⟩
        case measure => simp [intOf]; omega
      · have hin' : txtB (s[k].toNat : Int) = false := by simpa using hin
        have HA : Hid (allB txtB s.data.toList = false) := allB_false txtB s k hlt hin'
        have HI := Lib.hid hin'
        clear hin hin' hf
        go_wp2_with (go_at_call 36; refine (text_any _ hbd.1 hbd.2 _).mono ?_; rintro e w1 ⟨he, hb1⟩; rw [HI.out] at he; subst he)
        go_ret
        exact ⟨by rw [HA.out]; rfl, hbel.trans (hb1.mono hbel.size)⟩
    · have HA : Hid (allB txtB s.data.toList = true) := allB_full txtB s k (by omega) hf.out
      clear hf
      go_wp2
      go_ret
      exact ⟨by rw [HA.out]; rfl, hbel⟩

theorem isToken_any (s : ByteArray) (w : World) (hs : s.size ≤ maxLen) :
    Calls Tryd.prog 19 #[.string s] w fun e w' => e = .returned (.bool (!s.toList.isEmpty && allB tokB s.data.toList)) ∧ Below w.heap.size w w' := by
  by_cases h : s.toList.isEmpty = true
  · have h2 : (!s.toList.isEmpty) = false := by simp [h]
    have H := Lib.hid h2
    go_enter Tryd.func19, Tryd.ntmps19
    go_wp2_with fail
    go_ret
    exact ⟨by rw [H.out]; rfl, Below.refl _ _⟩
  · have h2 : (!s.toList.isEmpty) = true := by simpa using h
    have h3 : s.toList.isEmpty = false := by simpa using h
    have H := Lib.hid h2
    clear h
    go_enter Tryd.func19, Tryd.ntmps19
    go_wp2_with (go_at_call 34; refine (every_tok _ _ hs).mono ?_; rintro e w1 ⟨rfl, hb1⟩)
    go_ret
    exact ⟨by rw [H.out]; rfl, hb1⟩

theorem isText_any (s : ByteArray) (w : World) (hs : s.size ≤ maxLen) :
    Calls Tryd.prog 20 #[.string s] w fun e w' => e = .returned (.bool (allB txtB s.data.toList)) ∧ Below w.heap.size w w' := by
  go_enter Tryd.func20, Tryd.ntmps20
  go_wp2_with (go_at_call 34; refine (every_txt _ _ hs).mono ?_; rintro e w1 ⟨rfl, hb1⟩)
  go_ret
  exact ⟨rfl, hb1⟩

end Go.Proofs.YtbmlldjkfpekkaaDoor
