/-
  Texts that the laws of this seat lean on, one behind the other.
-/
import Derived.Test.YtjkfdjolhmgemaaGreatDoorMrgI
import Derived.Test.YtjkfdjolhmgemaaGreatDoorMrgA
import Derived.Deep.QuietTactic
import Derived.BigQuiet
import Derived.WalkSmall
set_option linter.unusedSimpArgs false
set_option linter.unusedVariables false
/-
  Contracts of Trim and Cut of package octet, for every text.
-/
section
namespace Go.Proofs.YtjkfdjolhmgemaaGreatDoor
open Go.RowKit

theorem trim_any (s : ByteArray) (w : World) (hs : s.size ≤ maxLen) :
    Calls Tryz.prog 81 #[.string s] w fun e w' => e = .returned (.string (mkS (trimL s.data.toList))) ∧ Below w.heap.size w w' := by
  unfold maxLen at hs
  go_enter Tryz.func81, Tryz.ntmps81
  go_wp2
  go_loopw [3] (fun i wr => ∃ k : Nat, k ≤ s.size ∧ i = .int .i64 k ∧ Hid (s.data.toList.dropWhile blkU = (s.data.toList.drop k).dropWhile blkU) ∧ Below w.heap.size w wr) (fun i _ => s.size - (intOf i).toNat)
  case atStart => exact ⟨0, Nat.zero_le _, rfl, rfl, Below.refl _ _⟩
  case round =>
    obtain ⟨k, hk, rfl, hf, hbel⟩ := hrel
    by_cases hlt : k < s.size
    · have hbd := byte_wf s[k]
      by_cases hin : blkB (s[k].toNat : Int) = true
      · have HA : Hid (s.data.toList.dropWhile blkU = (s.data.toList.drop (k + 1)).dropWhile blkU) := hf.out.trans (dw_yes s k hlt hin)
        have HI := Lib.hid hin
        clear hin hf
        go_wp2_with (go_at_call 107; refine (blank_any _ hbd.1 hbd.2 _).mono ?_; rintro e w1 ⟨he, hb1⟩; rw [HI.out] at he; subst he)
        go_roundw
        case rel => exact ⟨k + 1, by omega, by go_num, HA, hbel.trans (hb1.mono hbel.size)⟩
        case measure => simp [intOf]; omega
      · have hin' : blkB (s[k].toNat : Int) = false := by simpa using hin
        have HA : Hid (trimL s.data.toList = rdw (piece s k s.size)) := trim_front s k (hf.out.trans (dw_no s k hlt hin'))
        have HI := Lib.hid hin'
        clear hin hin' hf
        go_wp2_with (go_at_call 107; refine (blank_any _ hbd.1 hbd.2 _).mono ?_; rintro e w1 ⟨he, hb1⟩; rw [HI.out] at he; subst he)
        go_loopw [4] (fun i wx => ∃ m : Nat, k ≤ m ∧ m ≤ s.size ∧ i = .int .i64 m ∧ Hid (trimL s.data.toList = rdw (piece s k m)) ∧ Below w.heap.size w wx) (fun i _ => (intOf i).toNat)
        case atStart => exact ⟨s.size, by omega, Nat.le_refl _, rfl, HA, hbel.trans (hb1.mono hbel.size)⟩
        case round =>
          obtain ⟨m, hkm, hms, rfl, hg, hbe⟩ := hrel
          by_cases hmk : k < m
          · obtain ⟨j, rfl⟩ : ∃ j, m = j + 1 := ⟨m - 1, by omega⟩
            have hj : j < s.size := by omega
            have hbd := byte_wf s[j]
            by_cases hin : blkB (s[j].toNat : Int) = true
            · have HB : Hid (trimL s.data.toList = rdw (piece s k j)) := by
                show _ = _
                rw [hg.out, piece_snoc s k j (by omega) hj, rdw_snoc_yes _ _ hin]
              have HI := Lib.hid hin
              clear hin hg
              go_wp2_with (go_at_call 107; refine (blank_any _ hbd.1 hbd.2 _).mono ?_; rintro e w2 ⟨he, hb2⟩; rw [HI.out] at he; subst he)
              go_roundw
              case rel => exact ⟨j, by omega, by omega, by go_num, HB, hbe.trans (hb2.mono hbe.size)⟩
              case measure => simp [intOf]
            · have hin' : blkB (s[j].toNat : Int) = false := by simpa using hin
              have HB : Hid (mkS (trimL s.data.toList) = s.extract k (j + 1)) := by
                show _ = _
                rw [hg.out, piece_snoc s k j (by omega) hj, rdw_snoc_no _ _ hin', ← piece_snoc s k j (by omega) hj, piece_ext]
              have HI := Lib.hid hin'
              have hx1 : (k : Int) ≤ (j : Int) + 1 := by omega
              have hx2 : (j : Int) + 1 ≤ (s.size : Int) := by omega
              clear hin hin' hg
              go_wp2_with (go_at_call 107; refine (blank_any _ hbd.1 hbd.2 _).mono ?_; rintro e w2 ⟨he, hb2⟩; rw [HI.out] at he; subst he)
              go_ret
              exact ⟨by rw [HB.out]; rfl, hbe.trans (hb2.mono hbe.size)⟩
          · have HB : Hid (mkS (trimL s.data.toList) = s.extract k m) := by
              show _ = _
              rw [hg.out, show m = k by omega, piece_none, rdw_nil, piece_ext, piece_none]
            clear hg
            go_wp2_with fail
            go_ret
            exact ⟨by rw [HB.out]; rfl, hbe⟩
    · have HA : Hid (trimL s.data.toList = rdw (piece s k s.size)) := trim_front s k (hf.out.trans (dw_end s k (by omega)))
      clear hf
      go_wp2_with fail
      go_loopw [4] (fun i wx => ∃ m : Nat, k ≤ m ∧ m ≤ s.size ∧ i = .int .i64 m ∧ Hid (trimL s.data.toList = rdw (piece s k m)) ∧ Below w.heap.size w wx) (fun i _ => (intOf i).toNat)
      case atStart => exact ⟨s.size, by omega, Nat.le_refl _, rfl, HA, hbel⟩
      case round =>
        obtain ⟨m, hkm, hms, rfl, hg, hbe⟩ := hrel
        by_cases hmk : k < m
        · exact absurd hmk (by omega)
        · have HB : Hid (mkS (trimL s.data.toList) = s.extract k m) := by
            show _ = _
            rw [hg.out, show m = k by omega, piece_none, rdw_nil, piece_ext, piece_none]
          clear hg
          go_wp2_with fail
          go_ret
          exact ⟨by rw [HB.out]; rfl, hbe⟩

end Go.Proofs.YtjkfdjolhmgemaaGreatDoor
end

/-
  Contracts of the reference's functions on texts (layer 1): IsToken, IsText, Trim, Cut.
-/
section
namespace Go.Proofs.YtjkfdjolhmgemaaGreatDoor
open Go.RowKit

/-- How long a text in a slot is. -/
def strOf : Value → Nat | .string t => t.size | _ => 0

theorem r_trim (s : ByteArray) (w : World) (hs : s.size ≤ maxLen) :
    Calls Tryz.prog 63 #[.string s] w fun e w' => e = .returned (.string (mkS (trimL s.data.toList))) ∧ w = w' := by
  unfold maxLen at hs
  go_enter Tryz.func63, Tryz.ntmps63
  go_wp2
  go_loop [0] (fun v => ∃ t : ByteArray, t.size ≤ 9223372036854775807 ∧ v = .string t ∧ Hid (t.data.toList.dropWhile blkU = s.data.toList.dropWhile blkU)) (fun v => strOf v)
  case atStart => exact ⟨s, by omega, rfl, rfl⟩
  case round =>
    obtain ⟨t, ht, rfl, hf⟩ := hrel
    by_cases hlt : 0 < t.size
    · by_cases hin : blkB (t[0].toNat : Int) = true
      · have HI := Lib.hid hin
        have HA : Hid ((t.extract 1 t.size).data.toList.dropWhile blkU = s.data.toList.dropWhile blkU) := (dw_tail t hlt hin).trans hf.out
        clear hin hf
        go_wp2_with (go_at_call 86; refine (r_blank _ _).mono ?_; rintro e w1 ⟨he, rfl⟩; rw [HI.out] at he; subst he)
        go_round
        case rel => exact ⟨_, by simp; omega, rfl, HA⟩
        case measure => simp [strOf]; omega
      · have hin' : blkB (t[0].toNat : Int) = false := by simpa using hin
        have HI := Lib.hid hin'
        have HT : Hid (rdw t.data.toList = trimL s.data.toList) := by
          show _ = _
          unfold trimL
          rw [← hf.out, dw_keep t hlt hin']
        clear hin hin' hf
        go_wp2_with (go_at_call 86; refine (r_blank _ _).mono ?_; rintro e w1 ⟨he, rfl⟩; rw [HI.out] at he; subst he)
        go_loop [0] (fun v => ∃ x : ByteArray, x.size ≤ 9223372036854775807 ∧ v = .string x ∧ Hid (rdw x.data.toList = trimL s.data.toList)) (fun v => strOf v)
        case atStart => exact ⟨t, ht, rfl, HT⟩
        case round =>
          clear HT
          obtain ⟨x, hx, rfl, hg⟩ := hrel
          by_cases hpos : 0 < x.size
          · obtain ⟨j, hj⟩ : ∃ j, x.size = j + 1 := ⟨x.size - 1, by omega⟩
            have HJ := Lib.hid hj
            have hj1 : x.size ≤ j + 1 := by omega
            have hj2 : j + 1 ≤ x.size := by omega
            have hjl : j < x.size := by omega
            by_cases hin2 : blkB (x[j].toNat : Int) = true
            · have HI2 := Lib.hid hin2
              have HB : Hid (rdw (x.extract 0 j).data.toList = trimL s.data.toList) := (rdw_tail x j hj hin2).trans hg.out
              clear hin2 hg hj
              have hix : (x.size : Int) - 1 = (j : Int) := by omega
              go_wp2_with (go_at_call 86; refine (r_blank _ _).mono ?_; rintro e w1 ⟨he, rfl⟩; rw [HI2.out] at he; subst he)
              go_round
              case rel => exact ⟨_, by simp; omega, rfl, HB⟩
              case measure => simp [strOf]; omega
            · have hin3 : blkB (x[j].toNat : Int) = false := by simpa using hin2
              have HI2 := Lib.hid hin3
              have HB : Hid (x = mkS (trimL s.data.toList)) := by
                show _ = _
                exact mkS_eq ((rdw_keep x j hj hin3).symm.trans hg.out)
              clear hin2 hin3 hg hj
              have hix : (x.size : Int) - 1 = (j : Int) := by omega
              go_wp2_with (go_at_call 86; refine (r_blank _ _).mono ?_; rintro e w1 ⟨he, rfl⟩; rw [HI2.out] at he; subst he)
              go_ret
              exact ⟨by rw [← HB.out]; rfl, rfl⟩
          · have HB : Hid (x = mkS (trimL s.data.toList)) := by
              show _ = _
              exact mkS_eq ((rdw_empty x (by omega)).symm.trans hg.out)
            clear hg
            go_wp2_with fail
            go_ret
            exact ⟨by rw [← HB.out]; rfl, rfl⟩
    · have HT : Hid (rdw t.data.toList = trimL s.data.toList) := by
        show _ = _
        unfold trimL
        rw [← hf.out, dw_empty t (by omega)]
      clear hf
      go_wp2_with fail
      go_loop [0] (fun v => ∃ x : ByteArray, x.size ≤ 9223372036854775807 ∧ v = .string x ∧ Hid (rdw x.data.toList = trimL s.data.toList)) (fun v => strOf v)
      case atStart => exact ⟨t, ht, rfl, HT⟩
      case round =>
        clear HT
        obtain ⟨x, hx, rfl, hg⟩ := hrel
        by_cases hpos : 0 < x.size
        · obtain ⟨j, hj⟩ : ∃ j, x.size = j + 1 := ⟨x.size - 1, by omega⟩
          have HJ := Lib.hid hj
          have hj1 : x.size ≤ j + 1 := by omega
          have hj2 : j + 1 ≤ x.size := by omega
          have hjl : j < x.size := by omega
          by_cases hin2 : blkB (x[j].toNat : Int) = true
          · have HI2 := Lib.hid hin2
            have HB : Hid (rdw (x.extract 0 j).data.toList = trimL s.data.toList) := (rdw_tail x j hj hin2).trans hg.out
            clear hin2 hg hj
            have hix : (x.size : Int) - 1 = (j : Int) := by omega
            go_wp2_with (go_at_call 86; refine (r_blank _ _).mono ?_; rintro e w1 ⟨he, rfl⟩; rw [HI2.out] at he; subst he)
            go_round
            case rel => exact ⟨_, by simp; omega, rfl, HB⟩
            case measure => simp [strOf]; omega
          · have hin3 : blkB (x[j].toNat : Int) = false := by simpa using hin2
            have HI2 := Lib.hid hin3
            have HB : Hid (x = mkS (trimL s.data.toList)) := by
              show _ = _
              exact mkS_eq ((rdw_keep x j hj hin3).symm.trans hg.out)
            clear hin2 hin3 hg hj
            have hix : (x.size : Int) - 1 = (j : Int) := by omega
            go_wp2_with (go_at_call 86; refine (r_blank _ _).mono ?_; rintro e w1 ⟨he, rfl⟩; rw [HI2.out] at he; subst he)
            go_ret
            exact ⟨by rw [← HB.out]; rfl, rfl⟩
        · have HB : Hid (x = mkS (trimL s.data.toList)) := by
            show _ = _
            exact mkS_eq ((rdw_empty x (by omega)).symm.trans hg.out)
          clear hg
          go_wp2_with fail
          go_ret
          exact ⟨by rw [← HB.out]; rfl, rfl⟩

end Go.Proofs.YtjkfdjolhmgemaaGreatDoor
end
