/-
  Texts that the laws of this seat lean on, one behind the other.
-/
import Derived.Test.YtmpiahahhkimkaaGreatDoorMrgC
import Derived.Deep.QuietTactic
import Derived.BigQuiet
import Derived.IntWalk
import Derived.Test.YtmpiahahhkimkaaGreatDoorMrgG
/-
  Contracts of the reference's digits, Plain, Pad and Hex (layer 2).
-/
section
namespace Go.Proofs.YtmpiahahhkimkaaGreatDoor
open Go.RowKit

def allD : ByteArray := ⟨#[48, 49, 50, 51, 52, 53, 54, 55, 56, 57, 97, 98, 99, 100, 101, 102]⟩
theorem allD_cut : ∀ d : Nat, d < 16 → (allD.extract d (d + 1)).data.toList = [dch d] := by decide +kernel
theorem allD_at (d : Nat) (h : d < 16) : allD.extract d (d + 1) = mkS [dch d] := mkS_eq (allD_cut d h)

theorem slice_allD (W : World) (d : Nat) (h : d < 16) : (Instr.slice 9 (.string ⟨#[48, 49, 50, 51, 52, 53, 54, 55, 56, 57, 97, 98, 99, 100, 101, 102]⟩) (some (.int .u64 (d : Int))) (some (.int .u64 ((d : Int) + 1))) none).run Tryz.prog W = .ok (.string (mkS [dch d])) W := by
  have hz : (⟨#[48, 49, 50, 51, 52, 53, 54, 55, 56, 57, 97, 98, 99, 100, 101, 102]⟩ : ByteArray).size = 16 := rfl
  rw [run_slice_string W 9 _ .u64 .u64 (d : Int) ((d : Int) + 1) Tryz.underlying9 (by omega) (by omega) (by rw [hz]; omega)]
  rw [show ((d : Int)).toNat = d by omega, show ((d : Int) + 1).toNat = d + 1 by omega]
  have := allD_at d h
  unfold allD at this
  rw [this]

theorem tmod_nat (m b r : Nat) (h : m % b = r) : (m : Int).tmod (b : Int) = (r : Int) := by
  rw [Int.tmod_eq_emod_of_nonneg (by omega), ← h]
  rw [← Int.natCast_emod]

theorem ext_size (d : Nat) : (mkS [dch d]).size ≤ 1 := by rw [mkS_size]; simp

theorem digs_short {u b : Nat} (hu : u < 18446744073709551616) (hb : 2 ≤ b) : (digs b u).length ≤ 64 := by
  refine digs_len b 63 u hb ?_
  have h1 : 2 ^ 64 ≤ b ^ 64 := Nat.pow_le_pow_left hb 64
  have h2 : (2 : Nat) ^ 64 = 18446744073709551616 := by decide +kernel
  show u < b ^ 64
  omega

end Go.Proofs.YtmpiahahhkimkaaGreatDoor
end

/-
  Contracts of the reference's Plain, Pad, Hex, read, Number, ReadHex and Seconds (layer 2).
-/
section
namespace Go.Proofs.YtmpiahahhkimkaaGreatDoor
open Go.RowKit

def strSz : Value → Nat | .string s => s.size | _ => 0

theorem pad_step {k : Nat} {s : ByteArray} {l : List UInt8} (h : s.data.toList = List.replicate k 48 ++ l) : ((⟨#[48]⟩ : ByteArray) ++ s).data.toList = List.replicate (k + 1) 48 ++ l := by
  rw [append_list, h]; rfl

end Go.Proofs.YtmpiahahhkimkaaGreatDoor
end

/-
  Contracts of the reference's read, Number, ReadHex and Seconds (layer 2), for every text.
-/
section
namespace Go.Proofs.YtmpiahahhkimkaaGreatDoor
open Go.RowKit

/-- The value of the longest texts. -/
theorem val_fitTen (s : ByteArray) (h : s.size ≤ 18) (k : Nat) (hk : k < s.size) (ha : allB (isD 10) (s.data.toList.take k) = true) : 0 ≤ valV 10 (s.data.toList.take k) ∧ valV 10 (s.data.toList.take k) * 10 + 16 ≤ 9223372036854775807 := by
  have := (num10_fit s h).out k hk ha
  have hl : (s.data.toList.take k).length = k := by rw [List.length_take, ← Lib.size_eq]; omega
  have hp : 10 ^ k ≤ 10 ^ 18 := Nat.pow_le_pow_right (by omega) (by omega)
  have hq : 10 ^ 18 ≤ 9223372036854775807 := by decide +kernel
  have h2 : cutV 10 9223372036854775807 (s.data.toList.take k) = valV 10 (s.data.toList.take k) := cutV_val 10 9223372036854775807 _ (by omega) ha (by rw [hl]; omega)
  rwa [h2] at this
theorem val_fitHex (s : ByteArray) (h : s.size ≤ 15) (k : Nat) (hk : k < s.size) (ha : allB (isD 16) (s.data.toList.take k) = true) : 0 ≤ valV 16 (s.data.toList.take k) ∧ valV 16 (s.data.toList.take k) * 16 + 16 ≤ 9223372036854775807 := by
  have := (num16_fit s h).out k hk ha
  have hl : (s.data.toList.take k).length = k := by rw [List.length_take, ← Lib.size_eq]; omega
  have hp : 16 ^ k ≤ 16 ^ 15 := Nat.pow_le_pow_right (by omega) (by omega)
  have hq : 16 ^ 15 ≤ 9223372036854775807 := by decide +kernel
  have h2 : cutV 16 9223372036854775807 (s.data.toList.take k) = valV 16 (s.data.toList.take k) := cutV_val 16 9223372036854775807 _ (by omega) ha (by rw [hl]; omega)
  rwa [h2] at this

theorem r_seconds (s : ByteArray) (w : World) (hs : s.size ≤ maxLen) :
    Calls Tryz.prog 44 #[.string s] w fun e w' => e = .returned (.tuple #[.int .i64 (secN s.data.toList), .bool (secB s.data.toList)]) ∧ w = w' := by
  unfold maxLen at hs
  go_enter Tryz.func44, Tryz.ntmps44
  go_wp2_with fail
  go_loop [4, 5] (fun n i => ∃ (k : Nat) (x : Int), k ≤ s.size ∧ 0 ≤ x ∧ x ≤ 2147483648 ∧ i = .int .i64 k ∧ n = .int .i64 x ∧ Hid (cutV 10 2147483648 (s.data.toList.take k) = x) ∧ Hid (allB (isD 10) (s.data.toList.take k) = true)) (fun _ i => s.size - (intOf i).toNat)
  case atStart => exact ⟨0, 0, Nat.zero_le _, by omega, by omega, rfl, rfl, rfl, rfl⟩
  case round =>
    obtain ⟨k, x, hk, x0, x1, rfl, rfl, hx, ha⟩ := hrel
    by_cases hlt : k < s.size
    · have hbd := byte_wf s[k]
      have hdb := dig_digV (s[k]'hlt).toNat (s[k]'hlt).toNat_lt
      by_cases hd : isD 10 ((s[k]'hlt).toNat : Int) = true
      · have hval := dig_val (s[k]'hlt).toNat (s[k]'hlt).toNat_lt (hdb.trans hd)
        have hdn := digV_nn ((s[k]'hlt).toNat : Int)
        have hd2 := isD_true.1 hd
        rw [hval] at hdn hd2
        have HX : Hid (cutV 10 2147483648 (s.data.toList.take (k + 1)) = if x * 10 + (((s[k]'hlt).toNat : Int) - 48) < 2147483648 then x * 10 + (((s[k]'hlt).toNat : Int) - 48) else 2147483648) := by show _ = _; rw [cutV_take _ _ s k hlt, hx.out, hval]
        have HA : Hid (allB (isD 10) (s.data.toList.take (k + 1)) = true) := by show _ = _; rw [allB_take _ s k hlt, ha.out, hd]; rfl
        have HB := Lib.hid (hdb.trans hd)
        clear hd hx ha hdb hval
        go_wp2_with fail
        refine (r_digit (s[k]'hlt).toNat (s[k]'hlt).toNat_lt _).mono ?_
        rintro e w' ⟨he, rfl⟩
        rw [HB.out] at he
        subst he
        go_wp2
        all_goals
          go_round
          case rel => exact ⟨k + 1, _, by omega, by omega, by omega, by go_num, rfl, by show _ = _; rw [HX.out]; split <;> omega, HA⟩
          case measure => simp [intOf]; omega
      · have hd' : isD 10 ((s[k]'hlt).toNat : Int) = false := by simpa using hd
        have hf := allB_false (isD 10) s k hlt hd'
        have E : Hid (secN s.data.toList = 0 ∧ secB s.data.toList = false) := by constructor <;> simp [secN, secB, hf]
        have HB := Lib.hid (hdb.trans hd')
        clear hd hd' hx ha hdb hf
        go_wp2_with fail
        refine (r_digit (s[k]'hlt).toNat (s[k]'hlt).toNat_lt _).mono ?_
        rintro e w' ⟨he, rfl⟩
        rw [HB.out] at he
        subst he
        go_wp2
        go_ret2
        exact ⟨ret_int_bool E.out.1.symm E.out.2.symm, rfl⟩
    · have hfull : s.data.toList.take k = s.data.toList := List.take_of_length_le (by rw [← Lib.size_eq]; omega)
      rw [hfull] at hx ha
      have E : Hid (secN s.data.toList = x ∧ secB s.data.toList = !s.data.toList.isEmpty) := by
        unfold secN secB
        rw [ha.out, if_pos rfl]
        exact ⟨hx.out, rfl⟩
      clear hx ha hfull
      have hem : Hid ((!s.data.toList.isEmpty) = decide ((0 : Int) < (s.size : Int))) := by
        show _ = _
        have := Lib.size_eq s
        cases hh : s.data.toList with
        | nil => rw [hh] at this; simp at this; simp [this]
        | cons a r => rw [hh] at this; simp at this; simp; omega
      go_wp2
      go_ret2
      exact ⟨ret_int_bool E.out.1.symm (by rw [E.out.2, hem.out]; exact decide_eq_decide.2 (by omega)), rfl⟩

end Go.Proofs.YtmpiahahhkimkaaGreatDoor
end
