/-
  Texts that the laws of this seat lean on, one behind the other.
-/
import Derived.Test.YtmkjjidilfhojaaDoorMrgP
import Derived.Deep.QuietTactic
import Derived.BigQuiet
import Derived.WalkSmall
/-
  Contracts of the reference's functions on texts (layer 1): IsToken, IsText, Trim, Cut.
-/
section
namespace Go.Proofs.YtmkjjidilfhojaaDoor
open Go.RowKit

theorem byte_lt (b : UInt8) : b.toNat < 256 := b.toNat_lt

/-- How long a text in a slot is. -/
def strOf : Value → Nat | .string t => t.size | _ => 0

theorem r_trim (s : ByteArray) (w : World) (hs : s.size ≤ maxLen) :
    Calls Tryd.prog 34 #[.string s] w fun e w' => e = .returned (.string (mkS (trimL s.data.toList))) ∧ w = w' := by
  unfold maxLen at hs
  go_enter Tryd.func34, Tryd.ntmps34
  go_wp2
  go_loop [0] (fun v => ∃ t : ByteArray, t.size ≤ 9223372036854775807 ∧ v = .string t ∧ Hid (t.data.toList.dropWhile blkU = s.data.toList.dropWhile blkU)) (fun v => strOf v)
  case atStart => exact ⟨s, by omega, rfl, rfl⟩
  case round =>
    obtain ⟨t, ht, rfl, hf⟩ := hrel
    by_cases hlt : 0 < t.size
    · by_cases hin : blkB (t[0].toNat : Int) = true
      · have HI := Lib.hid hin
        have HA : Hid ((t.extract 1 t.size).data.toList.dropWhile blkU = s.data.toList.dropWhile blkU) := (dw_tail t hlt hin).trans hf.out
        clear hin hf
        go_wp2_with (go_at_call 44; refine (r_blank _ _).mono ?_; rintro e w1 ⟨he, rfl⟩; rw [HI.out] at he; subst he)
        go_round
        case rel => exact ⟨_, by simp; omega, rfl, HA⟩
        case measure => simp [strOf]; omega
      · have hin' : blkB (t[0].toNat : Int) = false := by simpa using hin
        have HI := Lib.hid hin'
        have HT : Hid (rdw t.data.toList = trimL s.data.toList) := by
          show _ = _
          unfold trimL
          rw [← hf.out, dw_keep t hlt hin']
        clear hin hin' hf
        go_wp2_with (go_at_call 44; refine (r_blank _ _).mono ?_; rintro e w1 ⟨he, rfl⟩; rw [HI.out] at he; subst he)
        go_loop [0] (fun v => ∃ x : ByteArray, x.size ≤ 9223372036854775807 ∧ v = .string x ∧ Hid (rdw x.data.toList = trimL s.data.toList)) (fun v => strOf v)
        case atStart => exact ⟨t, ht, rfl, HT⟩
        case round =>
          clear HT
          obtain ⟨x, hx, rfl, hg⟩ := hrel
          by_cases hpos : 0 < x.size
          · obtain ⟨j, hj⟩ : ∃ j, x.size = j + 1 := ⟨x.size - 1, by omega⟩
            have HJ := Lib.hid hj
            have hj1 : x.size ≤ j + 1 := by omega
            have hj2 : j + 1 ≤ x.size := by omega
            have hjl : j < x.size := by omega
            by_cases hin2 : blkB (x[j].toNat : Int) = true
            · have HI2 := Lib.hid hin2
              have HB : Hid (rdw (x.extract 0 j).data.toList = trimL s.data.toList) := (rdw_tail x j hj hin2).trans hg.out
              clear hin2 hg hj
              have hix : (x.size : Int) - 1 = (j : Int) := by omega
              go_wp2_with (go_at_call 44; refine (r_blank _ _).mono ?_; rintro e w1 ⟨he, rfl⟩; rw [HI2.out] at he; subst he)
              go_round
              case rel => exact ⟨_, by simp; omega, rfl, HB⟩
              case measure => simp [strOf]; omega
            · have hin3 : blkB (x[j].toNat : Int) = false := by simpa using hin2
              have HI2 := Lib.hid hin3
              have HB : Hid (x = mkS (trimL s.data.toList)) := by
                show _ = _
                exact mkS_eq ((rdw_keep x j hj hin3).symm.trans hg.out)
              clear hin2 hin3 hg hj
              have hix : (x.size : Int) - 1 = (j : Int) := by omega
              go_wp2_with (go_at_call 44; refine (r_blank _ _).mono ?_; rintro e w1 ⟨he, rfl⟩; rw [HI2.out] at he; subst he)
              go_ret
              exact ⟨by rw [← HB.out]; rfl, rfl⟩
          · have HB : Hid (x = mkS (trimL s.data.toList)) := by
              show _ = _
              exact mkS_eq ((rdw_empty x (by omega)).symm.trans hg.out)
            clear hg
            go_wp2_with fail
            go_ret
            exact ⟨by rw [← HB.out]; rfl, rfl⟩
    · have HT : Hid (rdw t.data.toList = trimL s.data.toList) := by
        show _ = _
        unfold trimL
        rw [← hf.out, dw_empty t (by omega)]
      clear hf
      go_wp2_with fail
      go_loop [0] (fun v => ∃ x : ByteArray, x.size ≤ 9223372036854775807 ∧ v = .string x ∧ Hid (rdw x.data.toList = trimL s.data.toList)) (fun v => strOf v)
      case atStart => exact ⟨t, ht, rfl, HT⟩
      case round =>
        clear HT
        obtain ⟨x, hx, rfl, hg⟩ := hrel
        by_cases hpos : 0 < x.size
        · obtain ⟨j, hj⟩ : ∃ j, x.size = j + 1 := ⟨x.size - 1, by omega⟩
          have HJ := Lib.hid hj
          have hj1 : x.size ≤ j + 1 := by omega
          have hj2 : j + 1 ≤ x.size := by omega
          have hjl : j < x.size := by omega
          by_cases hin2 : blkB (x[j].toNat : Int) = true
          · have HI2 := Lib.hid hin2
            have HB : Hid (rdw (x.extract 0 j).data.toList = trimL s.data.toList) := (rdw_tail x j hj hin2).trans hg.out
            clear hin2 hg hj
            have hix : (x.size : Int) - 1 = (j : Int) := by omega
            go_wp2_with (go_at_call 44; refine (r_blank _ _).mono ?_; rintro e w1 ⟨he, rfl⟩; rw [HI2.out] at he; subst he)
            go_round
            case rel => exact ⟨_, by simp; omega, rfl, HB⟩
            case measure => simp [strOf]; omega
          · have hin3 : blkB (x[j].toNat : Int) = false := by simpa using hin2
            have HI2 := Lib.hid hin3
            have HB : Hid (x = mkS (trimL s.data.toList)) := by
              show _ = _
              exact mkS_eq ((rdw_keep x j hj hin3).symm.trans hg.out)
            clear hin2 hin3 hg hj
            have hix : (x.size : Int) - 1 = (j : Int) := by omega
            go_wp2_with (go_at_call 44; refine (r_blank _ _).mono ?_; rintro e w1 ⟨he, rfl⟩; rw [HI2.out] at he; subst he)
            go_ret
            exact ⟨by rw [← HB.out]; rfl, rfl⟩
        · have HB : Hid (x = mkS (trimL s.data.toList)) := by
            show _ = _
            exact mkS_eq ((rdw_empty x (by omega)).symm.trans hg.out)
          clear hg
          go_wp2_with fail
          go_ret
          exact ⟨by rw [← HB.out]; rfl, rfl⟩

end Go.Proofs.YtmkjjidilfhojaaDoor
end
