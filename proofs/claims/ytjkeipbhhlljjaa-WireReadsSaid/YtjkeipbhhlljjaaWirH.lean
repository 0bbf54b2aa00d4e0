/-
  Contract of Get of the reference.
-/
import Derived.Test.YtjkeipbhhlljjaaWirG
namespace Go.Proofs.Ytjkeipbhhlljjaa
open Go.RowKit

theorem deL_drop (l : List UInt8) (j : Nat) (h : j < l.length) : (deL (l.drop j) : Int) = 256 * (deL (l.drop (j + 1)) : Int) + (l[j].toNat : Int) := by
  rw [List.drop_eq_getElem_cons h, deL]
  omega

set_option maxHeartbeats 1000000 in
set_option maxRecDepth 100000 in
theorem r_get (A : Option Addr) (n c : Nat) (l : List UInt8) (i k : Int) (w : World) (h : Sl8 w A n c l) (hi0 : -9223372036854775808 ≤ i) (hi1 : i ≤ 9223372036854775807) (hk0 : -9223372036854775808 ≤ k) (hk1 : k ≤ 9223372036854775807) :
    Calls Try.prog 11 #[.slice A n c, .int .i64 i, .int .i64 k] w fun e w' => e = .returned (.tuple #[.int .i64 (getV l i k), .int .i64 (getE l i k)]) ∧ w = w' := by
  have hm := h.cm
  have hcap := h.cap
  have hln := h.len
  unfold maxLen at hm
  rcases Bool.eq_false_or_eq_true (wideB k) with hw | hw
  · have hwk := wideB_yes.1 hw
    by_cases hr : i < 0 ∨ (l.length : Int) < i + k
    · have HG := Lib.hid (get_short hw hr)
      clear hw
      by_cases hr0 : i < 0
      · go_enter Try.func11, Try.ntmps11
        go_wp2_with fail
        go_ret2
        exact ⟨ret2_int HG.out.2.symm HG.out.1.symm, rfl⟩
      · by_cases hr1 : (n : Int) < i
        · go_enter Try.func11, Try.ntmps11
          go_wp2_with fail
          go_ret2
          exact ⟨ret2_int HG.out.2.symm HG.out.1.symm, rfl⟩
        · have hr2 : (n : Int) - i < k := by omega
          go_enter Try.func11, Try.ntmps11
          go_wp2_with fail
          go_ret2
          exact ⟨ret2_int HG.out.2.symm HG.out.1.symm, rfl⟩
    · have hgo := get_ok hw hr
      have hr1 : 0 ≤ i := by omega
      have hr2 : i + k ≤ n := by omega
      clear hr
      obtain ⟨I, rfl⟩ := Int.eq_ofNat_of_zero_le hr1
      obtain ⟨K, rfl⟩ := Int.eq_ofNat_of_zero_le (show 0 ≤ k by omega)
      obtain ⟨ad, rfl, hc⟩ := h.at_ (by omega)
      simp only [Int.toNat_natCast] at hgo
      obtain ⟨X, hX⟩ : ∃ X : List UInt8, X = (l.drop I).take K := ⟨_, rfl⟩
      rw [← hX] at hgo
      have hXl : X.length = K := by rw [hX, List.length_take, List.length_drop]; omega
      have hXc : ∀ j x, X[j]? = some x → w.cell? (ad.add (I + j)) = some (byV x) := fun j x hx => by
        rw [hX, List.getElem?_take] at hx
        split at hx
        · rw [List.getElem?_drop] at hx
          exact hc _ x hx
        · cases hx
      have HG := Lib.hid hgo
      have HC := Lib.hid hXc
      have HL := Lib.hid hXl
      clear hgo hc hw hln hr1 hX hXc hXl
      have hr3 : ¬ (n : Int) < (I : Int) := by omega
      have hr4 : ¬ (n : Int) - (I : Int) < (K : Int) := by omega
      go_enter Try.func11, Try.ntmps11
      go_wp2_with fail
      go_loop [8, 9] (fun v i => ∃ j : Nat, j ≤ K ∧ i = .int .i64 ((j : Int) - 1) ∧ v = .int .i64 (deL (X.drop j) : Int)) (fun _ i => (intOf i + 1).toNat)
      case atStart => exact ⟨K, Nat.le_refl _, rfl, by rw [List.drop_of_length_le (by rw [HL.out]; exact Nat.le_refl _)]; rfl⟩
      case round =>
        obtain ⟨j, hj, rfl, rfl⟩ := hrel
        by_cases hlt : 1 ≤ j
        · obtain ⟨m, rfl⟩ : ∃ m, j = m + 1 := ⟨j - 1, by omega⟩
          have hmX : m < X.length := by rw [HL.out]; omega
          have hcell := HC.out m _ (List.getElem?_eq_getElem hmX)
          unfold byV at hcell
          have hd := deL_lt (X.drop (m + 1))
          have hdl : (X.drop (m + 1)).length ≤ 6 := by rw [List.length_drop, HL.out]; omega
          have hp : 256 ^ (X.drop (m + 1)).length ≤ 281474976710656 := pow_mono (b := 6) hdl
          have hd2 : (deL (X.drop (m + 1)) : Int) < 281474976710656 := by omega
          have hd3 : (0 : Int) ≤ (deL (X.drop (m + 1)) : Int) := Int.natCast_nonneg _
          have HS := Lib.hid (deL_drop X m hmX)
          clear hd hp hdl
          have hbx := byte_wf X[m]
          go_wp2_with fail
          go_round
          case rel => exact ⟨m, by omega, rfl, by rw [HS.out]⟩
          case measure => simp [intOf]
        · obtain rfl : j = 0 := by omega
          go_wp2_with fail
          go_ret2
          exact ⟨ret2_int (by rw [HG.out.2]) HG.out.1.symm, rfl⟩
  · have HG := Lib.hid (get_wide (l := l) (i := i) hw)
    rcases wideB_no.1 hw with h1 | h1
    · clear hw
      go_enter Try.func11, Try.ntmps11
      go_wp2_with fail
      go_ret2
      exact ⟨ret2_int HG.out.2.symm HG.out.1.symm, rfl⟩
    · clear hw
      go_enter Try.func11, Try.ntmps11
      go_wp2_with fail
      go_ret2
      exact ⟨ret2_int HG.out.2.symm HG.out.1.symm, rfl⟩

end Go.Proofs.Ytjkeipbhhlljjaa
