/-
  Texts that the laws of this seat lean on, one behind the other.
-/
import Derived.Test.YtnembpklidcgoaaGreatDoorMrgI
import Derived.Test.YtnembpklidcgoaaGreatDoorMrgA
import Derived.Deep.QuietTactic
import Derived.BigQuiet
import Derived.WalkSmall
/-
  Contracts of Trim and Cut of package octet, for every text.
-/
section
namespace Go.Proofs.YtnembpklidcgoaaGreatDoor
open Go.RowKit

theorem trim_any (s : ByteArray) (w : World) (hs : s.size ≤ maxLen) :
    Calls Tryz.prog 189 #[.string s] w fun e w' => e = .returned (.string (mkS (trimL s.data.toList))) ∧ Below w.heap.size w w' := by
  unfold maxLen at hs
  go_enter Tryz.func189, Tryz.ntmps189
  go_wp2
  go_loopw [3] (fun i wr => ∃ k : Nat, k ≤ s.size ∧ i = .int .i64 k ∧ Hid (s.data.toList.dropWhile blkU = (s.data.toList.drop k).dropWhile blkU) ∧ Below w.heap.size w wr) (fun i _ => s.size - (intOf i).toNat)
  case atStart => exact ⟨0, Nat.zero_le _, rfl, rfl, Below.refl _ _⟩
  case round =>
    obtain ⟨k, hk, rfl, hf, hbel⟩ := hrel
    by_cases hlt : k < s.size
    · have hbd := byte_wf s[k]
      by_cases hin : blkB (s[k].toNat : Int) = true
      · have HA : Hid (s.data.toList.dropWhile blkU = (s.data.toList.drop (k + 1)).dropWhile blkU) := hf.out.trans (dw_yes s k hlt hin)
        have HI := Lib.hid hin
        clear hin hf
        go_wp2_with (go_at_call 222; refine (blank_any _ hbd.1 hbd.2 _).mono ?_; rintro e w1 ⟨he, hb1⟩; rw [HI.out] at he; subst he)
        go_roundw
        case rel => exact ⟨k + 1, by omega, by go_num, HA, hbel.trans (hb1.mono hbel.size)⟩
        case measure => simp [intOf]; omega
      · have hin' : blkB (s[k].toNat : Int) = false := by simpa using hin
        have HA : Hid (trimL s.data.toList = rdw (piece s k s.size)) := trim_front s k (hf.out.trans (dw_no s k hlt hin'))
        have HI := Lib.hid hin'
        clear hin hin' hf
        go_wp2_with (go_at_call 222; refine (blank_any _ hbd.1 hbd.2 _).mono ?_; rintro e w1 ⟨he, hb1⟩; rw [HI.out] at he; subst he)
        go_loopw [4] (fun i wx => ∃ m : Nat, k ≤ m ∧ m ≤ s.size ∧ i = .int .i64 m ∧ Hid (trimL s.data.toList = rdw (piece s k m)) ∧ Below w.heap.size w wx) (fun i _ => (intOf i).toNat)
        case atStart => exact ⟨s.size, by omega, Nat.le_refl _, rfl, HA, hbel.trans (hb1.mono hbel.size)⟩
        case round =>
          obtain ⟨m, hkm, hms, rfl, hg, hbe⟩ := hrel
          by_cases hmk : k < m
          · obtain ⟨j, rfl⟩ : ∃ j, m = j + 1 := ⟨m - 1, by omega⟩
            have hj : j < s.size := by omega
            have hbd := byte_wf s[j]
            by_cases hin : blkB (s[j].toNat : Int) = true
            · have HB : Hid (trimL s.data.toList = rdw (piece s k j)) := by
                show _ = _
                rw [hg.out, piece_snoc s k j (by omega) hj, rdw_snoc_yes _ _ hin]
              have HI := Lib.hid hin
              clear hin hg
              go_wp2_with (go_at_call 222; refine (blank_any _ hbd.1 hbd.2 _).mono ?_; rintro e w2 ⟨he, hb2⟩; rw [HI.out] at he; subst he)
              go_roundw
              case rel => exact ⟨j, by omega, by omega, by go_num, HB, hbe.trans (hb2.mono hbe.size)⟩
              case measure => simp [intOf]
            · have hin' : blkB (s[j].toNat : Int) = false := by simpa using hin
              have HB : Hid (mkS (trimL s.data.toList) = s.extract k (j + 1)) := by
                show _ = _
                rw [hg.out, piece_snoc s k j (by omega) hj, rdw_snoc_no _ _ hin', ← piece_snoc s k j (by omega) hj, piece_ext]
              have HI := Lib.hid hin'
              have hx1 : (k : Int) ≤ (j : Int) + 1 := by omega
              have hx2 : (j : Int) + 1 ≤ (s.size : Int) := by omega
              clear hin hin' hg
              go_wp2_with (go_at_call 222; refine (blank_any _ hbd.1 hbd.2 _).mono ?_; rintro e w2 ⟨he, hb2⟩; rw [HI.out] at he; subst he)
              go_ret
              exact ⟨by rw [HB.out]; rfl, hbe.trans (hb2.mono hbe.size)⟩
          · have HB : Hid (mkS (trimL s.data.toList) = s.extract k m) := by
              show _ = _
              rw [hg.out, show m = k by omega, piece_none, rdw_nil, piece_ext, piece_none]
            clear hg
            go_wp2_with fail
            go_ret
            exact ⟨by rw [HB.out]; rfl, hbe⟩
    · have HA : Hid (trimL s.data.toList = rdw (piece s k s.size)) := trim_front s k (hf.out.trans (dw_end s k (by omega)))
      clear hf
      go_wp2_with fail
      go_loopw [4] (fun i wx => ∃ m : Nat, k ≤ m ∧ m ≤ s.size ∧ i = .int .i64 m ∧ Hid (trimL s.data.toList = rdw (piece s k m)) ∧ Below w.heap.size w wx) (fun i _ => (intOf i).toNat)
      case atStart => exact ⟨s.size, by omega, Nat.le_refl _, rfl, HA, hbel⟩
      case round =>
        obtain ⟨m, hkm, hms, rfl, hg, hbe⟩ := hrel
        by_cases hmk : k < m
        · exact absurd hmk (by omega)
        · have HB : Hid (mkS (trimL s.data.toList) = s.extract k m) := by
            show _ = _
            rw [hg.out, show m = k by omega, piece_none, rdw_nil, piece_ext, piece_none]
          clear hg
          go_wp2_with fail
          go_ret
          exact ⟨by rw [HB.out]; rfl, hbe⟩

theorem cut_any (s : ByteArray) (c : Int) (w : World) (hs : s.size ≤ maxLen) (h0 : 0 ≤ c) (h1 : c ≤ 255) :
    Calls Tryz.prog 152 #[.string s, .int .u8 c] w fun e w' => e = .returned (.tuple #[.string (cutA s c), .string (cutZ s c), .bool (cutOk s c)]) ∧ Below w.heap.size w w' := by
  unfold maxLen at hs
  rcases idx_cases s c h0 h1 with ⟨hn, _⟩ | ⟨i, hi, hlt, _, _⟩
  · have HC := Lib.hid (cut_miss hn)
    have HI := Lib.hid hn
    clear hn
    go_enter Tryz.func152, Tryz.ntmps152
    go_wp2_with (go_at_call 190; refine (idx_ext _ _ _).mono ?_; rintro e w' ⟨he, rfl⟩; rw [show Lib.indexByte s.data.toList c.toNat.toUInt8 = -1 from HI.out] at he; subst he)
    go_ret3
    exact ⟨by rw [HC.out.1, HC.out.2.1, HC.out.2.2]; rfl, Below.refl _ _⟩
  · have HC := Lib.hid (cut_hit hi)
    have HI := Lib.hid hi
    clear hi
    have hx0 : (i : Int) ≤ (s.size : Int) := by omega
    have hx1 : (i : Int) + 1 ≤ (s.size : Int) := by omega
    have hx2 : (0 : Int) ≤ (i : Int) + 1 := by omega
    have hx3 : IntKind.i64.wrap ((i : Int) + 1) = (i : Int) + 1 := IntWalk.i64_in _ (by omega)
    have hx4 : ((i : Int) + 1).toNat = i + 1 := by omega
    go_enter Tryz.func152, Tryz.ntmps152
    go_wp2_with (go_at_call 190; refine (idx_ext _ _ _).mono ?_; rintro e w' ⟨he, rfl⟩; rw [show Lib.indexByte s.data.toList c.toNat.toUInt8 = i from HI.out] at he; subst he)
    go_quiet (fail)
    clear hx3 hx4
    go_wp2
    go_ret3
    exact ⟨by rw [HC.out.1, HC.out.2.1, HC.out.2.2]; rfl, below_drewN (Below.refl _ _) _⟩

end Go.Proofs.YtnembpklidcgoaaGreatDoor
end

/-
  Contracts of the reference's functions on texts (layer 1): IsToken, IsText, Trim, Cut.
-/
section
namespace Go.Proofs.YtnembpklidcgoaaGreatDoor
open Go.RowKit

/-- How long a text in a slot is. -/
def strOf : Value → Nat | .string t => t.size | _ => 0

end Go.Proofs.YtnembpklidcgoaaGreatDoor
end
