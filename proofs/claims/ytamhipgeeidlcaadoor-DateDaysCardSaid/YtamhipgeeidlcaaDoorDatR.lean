/-
  Contracts of the reference's calendar (layer 7): leap, long, year, Days, Civil, Weekday.
-/
import Derived.Test.YtamhipgeeidlcaaDoorRows
import Derived.Test.YtamhipgeeidlcaaDoorDatM
import Derived.Test.YtamhipgeeidlcaaDoorComR
import Derived.Lib.Hide
namespace Go.Proofs.YtamhipgeeidlcaaDoor
open Go.RowKit

theorem tm_nat (m b : Nat) : (m : Int).tmod (b : Int) = ((m % b : Nat) : Int) := by
  rw [Int.tmod_eq_emod_of_nonneg (by omega)]; rfl
theorem tm_yes {m b : Nat} (h : m % b = 0) : (m : Int).tmod (b : Int) = 0 := by rw [tm_nat, h]; rfl
theorem tm_no {m b : Nat} (h : ¬ m % b = 0) : ¬ (m : Int).tmod (b : Int) = 0 := by rw [tm_nat]; omega

theorem r_leap (y : Nat) (w : World) :
    Calls Tryd.prog 41 #[.int .i64 y] w fun e w' => e = .returned (.bool (leapN y)) ∧ w = w' := by
  by_cases h4 : y % 4 = 0
  · have e4 : (y : Int).tmod 4 = 0 := tm_yes h4
    by_cases h100 : y % 100 = 0
    · have e100 : (y : Int).tmod 100 = 0 := tm_yes h100
      by_cases h400 : y % 400 = 0
      · have e400 : ((y : Int).tmod 400 == 0) = true := by rw [beq_iff_eq]; exact tm_yes h400
        have HL : Hid (leapN y = true) := by show _ = _; simp [leapN, h4, h100, h400]
        clear h4 h100 h400
        go_enter Tryd.func41, Tryd.ntmps41
        go_wp2
        go_ret
        exact ⟨by rw [HL.out]; exact congrArg (fun b => Ending.returned (.bool b)) e400, rfl⟩
      · have e400 : ((y : Int).tmod 400 == 0) = false := by rw [beq_eq_false_iff_ne]; exact tm_no h400
        have HL : Hid (leapN y = false) := by show _ = _; simp [leapN, h4, h100, h400]
        clear h4 h100 h400
        go_enter Tryd.func41, Tryd.ntmps41
        go_wp2
        go_ret
        exact ⟨by rw [HL.out]; exact congrArg (fun b => Ending.returned (.bool b)) e400, rfl⟩
    · have e100 : ¬ (y : Int).tmod 100 = 0 := tm_no h100
      have HL : Hid (leapN y = true) := by show _ = _; simp [leapN, h4, h100]
      clear h4 h100
      go_enter Tryd.func41, Tryd.ntmps41
      go_wp2
      go_ret
      exact ⟨by rw [HL.out]; rfl, rfl⟩
  · have e4 : ¬ (y : Int).tmod 4 = 0 := tm_no h4
    have HL : Hid (leapN y = false) := by show _ = _; simp [leapN, h4]
    clear h4
    go_enter Tryd.func41, Tryd.ntmps41
    go_wp2
    go_ret
    exact ⟨by rw [HL.out]; rfl, rfl⟩

theorem r_year (y : Nat) (w : World) :
    Calls Tryd.prog 27 #[.int .i64 y] w fun e w' => e = .returned (.int .i64 (yearN y)) ∧ w = w' := by
  rcases Bool.eq_false_or_eq_true (leapN y) with h | h
  · have HN : Hid (yearN y = 366) := by show _ = _; simp [yearN, h]
    have HL := Lib.hid h
    clear h
    go_enter Tryd.func27, Tryd.ntmps27
    go_wp2_with (go_at_call 41; refine (r_leap y _).mono ?_; rintro e w' ⟨he, rfl⟩; rw [HL.out] at he; subst he)
    go_ret
    exact ⟨by rw [HN.out]; rfl, rfl⟩
  · have HN : Hid (yearN y = 365) := by show _ = _; simp [yearN, h]
    have HL := Lib.hid h
    clear h
    go_enter Tryd.func27, Tryd.ntmps27
    go_wp2_with (go_at_call 41; refine (r_leap y _).mono ?_; rintro e w' ⟨he, rfl⟩; rw [HL.out] at he; subst he)
    go_ret
    exact ⟨by rw [HN.out]; rfl, rfl⟩

def longV : List Value := [.int .i64 31, .int .i64 28, .int .i64 31, .int .i64 30, .int .i64 31, .int .i64 30, .int .i64 31, .int .i64 31, .int .i64 30, .int .i64 31, .int .i64 30, .int .i64 31]
theorem longV_at : ∀ k : Nat, k < 12 → longV[k]? = some (.int .i64 ((longs.getD k 0 : Nat) : Int))
  | 0, _ | 1, _ | 2, _ | 3, _ | 4, _ | 5, _ | 6, _ | 7, _ | 8, _ | 9, _ | 10, _ | 11, _ => rfl
  | n + 12, h => by omega

theorem r_long (y m : Nat) (h0 : 1 ≤ m) (h1 : m ≤ 12) (w : World) :
    Calls Tryd.prog 26 #[.int .i64 y, .int .i64 m] w fun e w' => e = .returned (.int .i64 (longN y m)) ∧ Below w.heap.size w w' := by
  by_cases h2 : m = 2
  · subst h2
    rcases Bool.eq_false_or_eq_true (leapN y) with h | h
    · have HN : Hid (longN y 2 = 29) := by show _ = _; simp [longN, h]
      have HL := Lib.hid h
      clear h
      go_enter Tryd.func26, Tryd.ntmps26
      go_wp2_with (go_at_call 41; refine (r_leap y _).mono ?_; rintro e w' ⟨he, rfl⟩; rw [HL.out] at he; subst he)
      go_ret
      exact ⟨by rw [HN.out]; rfl, Below.refl _ _⟩
    · have HN : Hid (longN y 2 = 28) := by show _ = _; simp [longN, h, longs]
      have HL := Lib.hid h
      clear h
      go_enter Tryd.func26, Tryd.ntmps26
      go_wp2_with (go_at_call 41; refine (r_leap y _).mono ?_; rintro e w' ⟨he, rfl⟩; rw [HL.out] at he; subst he)
      go_ret
      exact ⟨by rw [HN.out]; rfl, (Below.refl _ _).alloc (Nat.le_refl _) _⟩
  · have HN : Hid (longN y m = longs.getD (m - 1) 0) := by show _ = _; simp [longN, h2]
    have h2b : ((m : Int) == 2) = false := by rw [beq_eq_false_iff_ne]; omega
    obtain ⟨V, hV⟩ : ∃ V : Nat, V = longs.getD (m - 1) 0 := ⟨_, rfl⟩
    have ht := longV_at (m - 1) (by omega)
    unfold longV at ht
    rw [← hV] at ht HN
    clear h2 hV
    go_enter Tryd.func26, Tryd.ntmps26
    go_wp2
    go_ret
    exact ⟨by rw [HN.out]; rfl, (Below.refl _ _).alloc (Nat.le_refl _) _⟩

/-- Is there such a date, and which day is it? -/
def ValidI (y m d : Int) : Prop := 1970 ≤ y ∧ y ≤ 9999 ∧ 1 ≤ m ∧ m ≤ 12 ∧ 1 ≤ d ∧ d ≤ (longN y.toNat m.toNat : Int)
instance (y m d : Int) : Decidable (ValidI y m d) := by unfold ValidI; infer_instance
def dayB (y m d : Int) : Bool := decide (ValidI y m d)
def dayV (y m d : Int) : Int := if ValidI y m d then (daysN y.toNat m.toNat d.toNat : Int) else 0
theorem day_no {y m d : Int} (h : ¬ ValidI y m d) : dayV y m d = 0 ∧ dayB y m d = false := by simp [dayV, dayB, h]
theorem day_yes {y m d : Int} (h : ValidI y m d) : dayV y m d = (daysN y.toNat m.toNat d.toNat : Int) ∧ dayB y m d = true := by simp [dayV, dayB, h]
theorem ValidI.nat {y m d : Int} (h : ValidI y m d) : Valid y.toNat m.toNat d.toNat := by
  obtain ⟨h1, h2, h3, h4, h5, h6⟩ := h
  exact ⟨by omega, by omega, by omega, by omega, by omega, by omega⟩

theorem ysum_bd (n : Nat) : ysum n ≤ 366 * n := by
  induction n with
  | zero => exact Nat.le_refl _
  | succ n ih =>
    have := yearN_cs (1970 + n)
    rw [ysum_succ]; omega

set_option maxHeartbeats 1000000 in
theorem r_days (y m d : Int) (hy : -9223372036854775808 ≤ y ∧ y ≤ 9223372036854775807) (hm : -9223372036854775808 ≤ m ∧ m ≤ 9223372036854775807) (hd : -9223372036854775808 ≤ d ∧ d ≤ 9223372036854775807) (w : World) :
    Calls Tryd.prog 9 #[.int .i64 y, .int .i64 m, .int .i64 d] w fun e w' => e = .returned (.tuple #[.int .i64 (dayV y m d), .bool (dayB y m d)]) ∧ Below w.heap.size w w' := by
  by_cases k1 : y < 1970
  · have HR := Lib.hid (day_no (y := y) (m := m) (d := d) (fun h => by have := h.1; omega))
    go_enter Tryd.func9, Tryd.ntmps9
    go_wp2_with fail
    go_ret2
    exact ⟨by rw [HR.out.1, HR.out.2]; rfl, Below.refl _ _⟩
  by_cases k2 : 9999 < y
  · have HR := Lib.hid (day_no (y := y) (m := m) (d := d) (fun h => by have := h.2.1; omega))
    go_enter Tryd.func9, Tryd.ntmps9
    go_wp2_with fail
    go_ret2
    exact ⟨by rw [HR.out.1, HR.out.2]; rfl, Below.refl _ _⟩
  by_cases k3 : m < 1
  · have HR := Lib.hid (day_no (y := y) (m := m) (d := d) (fun h => by have := h.2.2.1; omega))
    go_enter Tryd.func9, Tryd.ntmps9
    go_wp2_with fail
    go_ret2
    exact ⟨by rw [HR.out.1, HR.out.2]; rfl, Below.refl _ _⟩
  by_cases k4 : 12 < m
  · have HR := Lib.hid (day_no (y := y) (m := m) (d := d) (fun h => by have := h.2.2.2.1; omega))
    go_enter Tryd.func9, Tryd.ntmps9
    go_wp2_with fail
    go_ret2
    exact ⟨by rw [HR.out.1, HR.out.2]; rfl, Below.refl _ _⟩
  by_cases k5 : d < 1
  · have HR := Lib.hid (day_no (y := y) (m := m) (d := d) (fun h => by have := h.2.2.2.2.1; omega))
    go_enter Tryd.func9, Tryd.ntmps9
    go_wp2_with fail
    go_ret2
    exact ⟨by rw [HR.out.1, HR.out.2]; rfl, Below.refl _ _⟩
  obtain ⟨Y, rfl⟩ := Int.eq_ofNat_of_zero_le (show 0 ≤ y by omega)
  obtain ⟨M, rfl⟩ := Int.eq_ofNat_of_zero_le (show 0 ≤ m by omega)
  have hb := long_bd Y M (by omega) (by omega)
  by_cases k6 : (longN Y M : Int) < d
  · have HR := Lib.hid (day_no (y := Y) (m := M) (d := d) (fun h => by have := h.2.2.2.2.2; simp only [Int.toNat_natCast] at this; omega))
    go_enter Tryd.func9, Tryd.ntmps9
    go_wp2_with (go_at_call 26; refine (r_long Y M (by omega) (by omega) _).mono ?_; rintro e w1 ⟨rfl, hb1⟩)
    go_ret2
    exact ⟨by rw [HR.out.1, HR.out.2]; rfl, hb1⟩
  obtain ⟨D, rfl⟩ := Int.eq_ofNat_of_zero_le (show 0 ≤ d by omega)
  have HR := day_yes (y := Y) (m := M) (d := D) ⟨by omega, by omega, by omega, by omega, by omega, by simp only [Int.toNat_natCast]; omega⟩
  simp only [Int.toNat_natCast] at HR
  have HR := Lib.hid HR
  go_enter Tryd.func9, Tryd.ntmps9
  go_wp2_with (go_at_call 26; refine (r_long Y M (by omega) (by omega) _).mono ?_; rintro e w1 ⟨rfl, hb1⟩)
  have HB := Lib.hid hb1
  clear hb1
  have hdc : decide (longN Y M < D) = false := decide_eq_false (by omega)
  rw [hdc]
  clear hdc
  go_loopw [8, 9] (fun n k wr => ∃ j S : Nat, j ≤ Y - 1970 ∧ S ≤ 31 + 366 * j ∧ k = .int .i64 ((1970 + j : Nat) : Int) ∧ n = .int .i64 (S : Int) ∧ Hid (S = D - 1 + ysum j) ∧ Below w.heap.size w wr) (fun _ k _ => Y - (intOf k).toNat)
  case atStart => exact ⟨0, D - 1, by omega, by omega, rfl, by rw [show ((D - 1 : Nat) : Int) = (D : Int) - 1 by omega], rfl, HB.out⟩
  case round =>
    clear HB
    obtain ⟨j, S, hj, hS, rfl, rfl, hf, hbw⟩ := hrel
    by_cases hlt : j < Y - 1970
    · have hc : ((1970 + j : Nat) : Int) < (Y : Int) := by omega
      have HN : Hid (S + yearN (1970 + j) = D - 1 + ysum (j + 1)) := by
        show _ = _
        rw [hf.out, ysum_succ]; omega
      have hyn := yearN_cs (1970 + j)
      have hyr := fun W => r_year (1970 + j) W
      generalize yearN (1970 + j) = Z at *
      have HY := Lib.hid hyr
      clear hyr hf
      obtain ⟨K, hK⟩ : ∃ K, K = 1970 + j := ⟨_, rfl⟩
      rw [← hK] at hc HY
      have hKi : ((1970 + j : Nat) : Int) = (K : Int) := by omega
      rw [hKi]
      go_wp2_with (go_at_call 27; refine (HY.out _).mono ?_; rintro e w' ⟨rfl, rfl⟩)
      go_roundw
      case rel => exact ⟨j + 1, S + Z, by omega, by omega, by go_num, by go_num, HN, hbw⟩
      case measure => simp [intOf]; omega
    · have hc : ¬ ((1970 + j : Nat) : Int) < (Y : Int) := by omega
      have hKi : ((1970 + j : Nat) : Int) = (Y : Int) := by omega
      have hfe : Hid (S = D - 1 + ysum (Y - 1970)) := by
        show _ = _
        rw [hf.out, show j = Y - 1970 by omega]
      rw [hKi]
      clear hc hKi hf
      have hS2 : S ≤ 3000000 := by omega
      go_wp2_with fail
      go_loopw [8, 10] (fun n k wr => ∃ j T : Nat, j ≤ M - 1 ∧ T ≤ S + 31 * j ∧ k = .int .i64 ((1 + j : Nat) : Int) ∧ n = .int .i64 (T : Int) ∧ Hid (T = S + msum Y j) ∧ Below w.heap.size w wr) (fun _ k _ => M - (intOf k).toNat)
      case atStart => exact ⟨0, S, by omega, by omega, rfl, rfl, rfl, hbw⟩
      case round =>
        obtain ⟨j, T, hj, hT, rfl, rfl, hg, hbel⟩ := hrel
        by_cases hlt : j < M - 1
        · have hc : ((1 + j : Nat) : Int) < (M : Int) := by omega
          have HN : Hid (T + longN Y (1 + j) = S + msum Y (j + 1)) := by
            show _ = _
            rw [hg.out, msum_succ, Nat.add_comm 1 j]; omega
          have hyn := (long_bd Y (1 + j) (by omega) (by omega)).2
          have hyr := fun W => r_long Y (1 + j) (by omega) (by omega) W
          generalize longN Y (1 + j) = Z at *
          have HY := Lib.hid hyr
          clear hyr hg
          obtain ⟨K, hK⟩ : ∃ K, K = 1 + j := ⟨_, rfl⟩
          rw [← hK] at hc HY
          have hKi : ((1 + j : Nat) : Int) = (K : Int) := by omega
          rw [hKi]
          go_wp2_with (go_at_call 26; refine (HY.out _).mono ?_; rintro e w2 ⟨rfl, hb2⟩)
          go_roundw
          case rel => exact ⟨j + 1, T + Z, by omega, by omega, by go_num, by go_num, HN, hbel.trans (hb2.mono hbel.size)⟩
          case measure => simp [intOf]; omega
        · have HF : Hid (T = daysN Y M D) := by
            show _ = _
            unfold daysN
            rw [hg.out, hfe.out, show j = M - 1 by omega]; omega
          have hc : ¬ ((1 + j : Nat) : Int) < (M : Int) := by omega
          have hKi : ((1 + j : Nat) : Int) = (M : Int) := by omega
          rw [hKi]
          clear hc hKi hg
          go_wp2_with fail
          go_ret2
          exact ⟨by rw [HR.out.1, HR.out.2, ← HF.out]; rfl, hbel⟩

end Go.Proofs.YtamhipgeeidlcaaDoor
