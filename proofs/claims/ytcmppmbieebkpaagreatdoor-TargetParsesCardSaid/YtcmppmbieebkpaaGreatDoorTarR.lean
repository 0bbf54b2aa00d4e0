/-
  Contracts of the reference's letter, in and Authority (layer 8).
-/
import Derived.Test.YtcmppmbieebkpaaGreatDoorRows
import Derived.Test.YtcmppmbieebkpaaGreatDoorTarN
import Derived.Test.YtcmppmbieebkpaaGreatDoorOctRt
import Derived.Test.YtcmppmbieebkpaaGreatDoorOctRl
import Derived.Test.YtcmppmbieebkpaaGreatDoorDecW
namespace Go.Proofs.YtcmppmbieebkpaaGreatDoor
open Go.RowKit

theorem let_cases (n : Nat) : (n < 48 ∧ letB n = false) ∨ (48 ≤ n ∧ n ≤ 57 ∧ letB n = true) ∨ (58 ≤ n ∧ n ≤ 64 ∧ letB n = false) ∨ (65 ≤ n ∧ n ≤ 90 ∧ letB n = true) ∨ (91 ≤ n ∧ n ≤ 96 ∧ letB n = false) ∨ (97 ≤ n ∧ n ≤ 122 ∧ letB n = true) ∨ (123 ≤ n ∧ letB n = false) := by
  have h : letB n = true ↔ (97 ≤ n ∧ n ≤ 122) ∨ (65 ≤ n ∧ n ≤ 90) ∨ (48 ≤ n ∧ n ≤ 57) := by
    unfold letB
    simp only [Bool.or_eq_true, rng_true]
    omega
  cases hb : letB n with
  | true => have := h.1 hb; simp; omega
  | false =>
    have : ¬ ((97 ≤ n ∧ n ≤ 122) ∨ (65 ≤ n ∧ n ≤ 90) ∨ (48 ≤ n ∧ n ≤ 57)) := fun h' => by have := h.2 h'; rw [hb] at this; cases this
    simp; omega
set_option maxHeartbeats 1000000 in
theorem r_letter (n : Nat) (w : World) :
    Calls Tryz.prog 30 #[.int .u8 n] w fun e w' => e = .returned (.bool (letB n)) ∧ w = w' := by
  rcases let_cases n with ⟨a, h⟩ | ⟨a, b, h⟩ | ⟨a, b, h⟩ | ⟨a, b, h⟩ | ⟨a, b, h⟩ | ⟨a, b, h⟩ | ⟨a, h⟩
  · have f1 : ¬ 97 ≤ (n : Int) := by omega
    have f3 : ¬ 65 ≤ (n : Int) := by omega
    have f5 : ¬ 48 ≤ (n : Int) := by omega
    have HL := Lib.hid h
    clear h a
    go_enter Tryz.func30, Tryz.ntmps30
    go_wp2
    go_ret
    exact ⟨by rw [HL.out]; rfl, rfl⟩
  · have f1 : ¬ 97 ≤ (n : Int) := by omega
    have f3 : ¬ 65 ≤ (n : Int) := by omega
    have f5 : 48 ≤ (n : Int) := by omega
    have f6 : (n : Int) ≤ 57 := by omega
    have HL := Lib.hid h
    clear h a b
    go_enter Tryz.func30, Tryz.ntmps30
    go_wp2
    go_ret
    exact ⟨by rw [HL.out]; rfl, rfl⟩
  · have f1 : ¬ 97 ≤ (n : Int) := by omega
    have f3 : ¬ 65 ≤ (n : Int) := by omega
    have f5 : 48 ≤ (n : Int) := by omega
    have f6 : ¬ (n : Int) ≤ 57 := by omega
    have HL := Lib.hid h
    clear h a b
    go_enter Tryz.func30, Tryz.ntmps30
    go_wp2
    go_ret
    exact ⟨by rw [HL.out]; rfl, rfl⟩
  · have f1 : ¬ 97 ≤ (n : Int) := by omega
    have f3 : 65 ≤ (n : Int) := by omega
    have f4 : (n : Int) ≤ 90 := by omega
    have HL := Lib.hid h
    clear h a b
    go_enter Tryz.func30, Tryz.ntmps30
    go_wp2
    go_ret
    exact ⟨by rw [HL.out]; rfl, rfl⟩
  · have f1 : ¬ 97 ≤ (n : Int) := by omega
    have f3 : 65 ≤ (n : Int) := by omega
    have f4 : ¬ (n : Int) ≤ 90 := by omega
    have f5 : 48 ≤ (n : Int) := by omega
    have f6 : ¬ (n : Int) ≤ 57 := by omega
    have HL := Lib.hid h
    clear h a b
    go_enter Tryz.func30, Tryz.ntmps30
    go_wp2
    go_ret
    exact ⟨by rw [HL.out]; rfl, rfl⟩
  · have f1 : 97 ≤ (n : Int) := by omega
    have f2 : (n : Int) ≤ 122 := by omega
    have HL := Lib.hid h
    clear h a b
    go_enter Tryz.func30, Tryz.ntmps30
    go_wp2
    go_ret
    exact ⟨by rw [HL.out]; rfl, rfl⟩
  · have f1 : 97 ≤ (n : Int) := by omega
    have f2 : ¬ (n : Int) ≤ 122 := by omega
    have f3 : 65 ≤ (n : Int) := by omega
    have f4 : ¬ (n : Int) ≤ 90 := by omega
    have f5 : 48 ≤ (n : Int) := by omega
    have f6 : ¬ (n : Int) ≤ 57 := by omega
    have HL := Lib.hid h
    clear h a
    go_enter Tryz.func30, Tryz.ntmps30
    go_wp2
    go_ret
    exact ⟨by rw [HL.out]; rfl, rfl⟩

theorem has_snoc (l : List UInt8) (c : UInt8) (n : Int) : hasB (l ++ [c]) n = (hasB l n || (c.toNat : Int) == n) := by simp [hasB]
theorem r_in (n : Nat) (s : ByteArray) (w : World) (hs : s.size ≤ 1000000000) :
    Calls Tryz.prog 31 #[.int .u8 n, .string s] w fun e w' => e = .returned (.bool (hasB s.data.toList n)) ∧ w = w' := by
  have hsz := Lib.hid (Lib.size_eq s)
  go_enter Tryz.func31, Tryz.ntmps31
  go_wp2
  go_loop [5] (fun i => ∃ k : Nat, k ≤ s.size ∧ i = .int .i64 k ∧ Hid (hasB (s.data.toList.take k) n = false)) (fun i => s.size - (intOf i).toNat)
  case atStart => exact ⟨0, Nat.zero_le _, rfl, rfl⟩
  case round =>
    obtain ⟨k, hk, rfl, hf⟩ := hrel
    by_cases hlt : k < s.size
    · have HN : Hid (hasB (s.data.toList.take (k + 1)) n = ((s[k].toNat : Int) == (n : Int))) := by
        show _ = _
        rw [take_snoc s k hlt, has_snoc, hf.out, Bool.false_or]
      have HT : Hid (((s[k].toNat : Int) == (n : Int)) = true → hasB s.data.toList n = true) := fun h => by
        unfold hasB
        rw [List.any_eq_true]
        exact ⟨s[k], by simp [ByteArray.getElem_eq_getElem_data], h⟩
      clear hf
      rcases Bool.eq_false_or_eq_true ((s[k].toNat : Int) == (n : Int)) with e | e
      · have HR := Lib.hid (HT.out e)
        clear HT HN
        go_wp2
        go_ret
        exact ⟨by rw [HR.out]; rfl, rfl⟩
      · have HR := Lib.hid (HN.out.trans e)
        clear HT HN
        go_wp2
        go_round
        case rel => exact ⟨k + 1, by omega, by go_num, HR⟩
        case measure => simp [intOf]; omega
    · have HR : Hid (hasB s.data.toList n = false) := by
        have := hf.out
        rwa [List.take_of_length_le (by have := hsz.out; omega)] at this
      clear hf
      go_wp2
      go_ret
      exact ⟨by rw [HR.out]; rfl, rfl⟩

end Go.Proofs.YtcmppmbieebkpaaGreatDoor
