/-
  Texts that the laws of this seat lean on, one behind the other.
-/
import Derived.Test.YtjkfdjolhmgemaaGreatDoorMrgK
import Derived.Test.YtjkfdjolhmgemaaGreatDoorMrgN
import Derived.Test.YtjkfdjolhmgemaaGreatDoorMrgAJ
import Derived.Test.YtjkfdjolhmgemaaGreatDoorMrgAK
set_option linter.unusedSimpArgs false
set_option linter.unusedVariables false
/-
  Contracts of package date's calendar: leap, leaps, yearStart, monthDays, exists, Days, Civil, Weekday.
-/
section
namespace Go.Proofs.YtjkfdjolhmgemaaGreatDoor
open Go.RowKit

def monVs : List Value := [.string ⟨#[74, 97, 110]⟩, .int .i64 31, .string ⟨#[70, 101, 98]⟩, .int .i64 28, .string ⟨#[77, 97, 114]⟩, .int .i64 31, .string ⟨#[65, 112, 114]⟩, .int .i64 30, .string ⟨#[77, 97, 121]⟩, .int .i64 31, .string ⟨#[74, 117, 110]⟩, .int .i64 30, .string ⟨#[74, 117, 108]⟩, .int .i64 31, .string ⟨#[65, 117, 103]⟩, .int .i64 31, .string ⟨#[83, 101, 112]⟩, .int .i64 30, .string ⟨#[79, 99, 116]⟩, .int .i64 31, .string ⟨#[78, 111, 118]⟩, .int .i64 30, .string ⟨#[68, 101, 99]⟩, .int .i64 31]
def layVs : List Value := [.int .i64 24, .int .i64 0, .int .i64 3, .int .i64 7, .int .i64 4, .int .i64 12, .int .i64 22, .int .i64 0, .int .i64 3, .int .i64 7, .int .i64 2, .int .i64 10, .int .i64 20, .int .i64 4, .int .i64 0, .int .i64 16, .int .i64 4, .int .i64 7]
/-- The package's tables, and decimal's. -/
structure DatTabs (w : World) : Prop where
  pow : Pow10 w
  days : w.var? Tryz.prog "depot/date.weekdays" = some dayVs.toArray
  mons : w.var? Tryz.prog "depot/date.months" = some monVs.toArray
  lays : w.var? Tryz.prog "depot/date.layouts" = some layVs.toArray
theorem DatTabs.kept {w w' : World} (h : DatTabs w) (hb : Below w.heap.size w w') : DatTabs w' :=
  ⟨tab_below h.pow hb, var_below h.days hb, var_below h.mons hb, var_below h.lays hb⟩

theorem mon_days : ∀ m : Nat, m < 12 → monVs[m * 2 + 1]? = some (.int .i64 ((longs.getD m 0 : Nat) : Int))
  | 0, _ | 1, _ | 2, _ | 3, _ | 4, _ | 5, _ | 6, _ | 7, _ | 8, _ | 9, _ | 10, _ | 11, _ => rfl
  | n + 12, h => by omega
theorem mon_names : ∀ m : Nat, m < 12 → monVs[m * 2]? = some (.string (mkS (monL (m + 1))))
  | 0, _ | 1, _ | 2, _ | 3, _ | 4, _ | 5, _ | 6, _ | 7, _ | 8, _ | 9, _ | 10, _ | 11, _ => rfl
  | n + 12, h => by omega
theorem DatTabs.mon_day {w : World} (h : DatTabs w) (m : Nat) (hm : m < 12) : w.cell? ⟨3, m * 2 + 1, none⟩ = some (.int .i64 ((longs.getD m 0 : Nat) : Int)) := by
  rw [World.var?_cell (by kernel_rfl) h.mons (m * 2 + 1)]
  have := mon_days m hm
  simpa using this
theorem DatTabs.mon_name {w : World} (h : DatTabs w) (m : Nat) (hm : m < 12) : w.cell? ⟨3, m * 2, none⟩ = some (.string (mkS (monL (m + 1)))) := by
  rw [World.var?_cell (by kernel_rfl) h.mons (m * 2)]
  have := mon_names m hm
  simpa using this

theorem p_leap (y : Nat) (w : World) :
    Calls Tryz.prog 173 #[.int .i64 y] w fun e w' => e = .returned (.bool (leapN y)) ∧ w = w' := by
  by_cases h4 : y % 4 = 0
  · have e4 : (y : Int) % 4 = 0 := by omega
    by_cases h100 : y % 100 = 0
    · have e100 : (y : Int) % 100 = 0 := by omega
      have HL : Hid (leapN y = ((y : Int) % 400 == 0)) := by
        show _ = _
        rw [Bool.eq_iff_iff]
        simp [leapN, h4, h100]; omega
      clear h4 h100
      go_enter Tryz.func173, Tryz.ntmps173
      go_wp2
      go_ret
      exact ⟨by rw [HL.out]; rfl, rfl⟩
    · have e100 : ¬ (y : Int) % 100 = 0 := by omega
      have HL : Hid (leapN y = true) := by show _ = _; simp [leapN, h4, h100]
      clear h4 h100
      go_enter Tryz.func173, Tryz.ntmps173
      go_wp2
      go_ret
      exact ⟨by rw [HL.out]; rfl, rfl⟩
  · have e4 : ¬ (y : Int) % 4 = 0 := by omega
    have HL : Hid (leapN y = false) := by show _ = _; simp [leapN, h4]
    clear h4
    go_enter Tryz.func173, Tryz.ntmps173
    go_wp2
    go_ret
    exact ⟨by rw [HL.out]; rfl, rfl⟩

def leapsN (y : Nat) : Nat := y / 4 - y / 100 + y / 400
theorem leapsN_succ (y : Nat) : leapsN (y + 1) = leapsN y + (yearN (y + 1) - 365) := by
  have h : leapN (y + 1) = true ↔ (y + 1) % 4 = 0 ∧ (¬ (y + 1) % 100 = 0 ∨ (y + 1) % 400 = 0) := by simp [leapN]
  unfold leapsN yearN
  by_cases hl : leapN (y + 1) = true
  · rw [if_pos hl]
    have := h.1 hl
    omega
  · rw [if_neg hl]
    have : ¬ ((y + 1) % 4 = 0 ∧ (¬ (y + 1) % 100 = 0 ∨ (y + 1) % 400 = 0)) := fun h' => hl (h.2 h')
    omega
theorem ysum_closed : ∀ k : Nat, ysum k + 477 = 365 * k + leapsN (1969 + k)
  | 0 => by decide
  | k + 1 => by
    have ih := ysum_closed k
    have h1 := leapsN_succ (1969 + k)
    have h2 := yearN_cs (1970 + k)
    rw [show 1969 + k + 1 = 1970 + k by omega] at h1
    rw [ysum_succ, show 1969 + (k + 1) = 1970 + k by omega]
    omega

theorem ysum_lo : ∀ k : Nat, 365 * k ≤ ysum k
  | 0 => Nat.le_refl _
  | k + 1 => by
    have := ysum_lo k
    have := yearN_cs (1970 + k)
    rw [ysum_succ]; omega

theorem p_leaps (z : Int) (y : Nat) (hz : z = y) (hy : y ≤ 100000) (w : World) :
    Calls Tryz.prog 172 #[.int .i64 z] w fun e w' => e = .returned (.int .i64 (leapsN y)) ∧ w = w' := by
  subst hz
  have HR : Hid ((leapsN y : Int) = (y : Int) / 4 - (y : Int) / 100 + (y : Int) / 400) := by
    show _ = _
    unfold leapsN; omega
  go_enter Tryz.func172, Tryz.ntmps172
  go_wp2_with fail
  go_ret
  exact ⟨by rw [HR.out]; rfl, rfl⟩

theorem p_yearStart (y : Nat) (h0 : 1970 ≤ y) (h1 : y ≤ 20000) (w : World) :
    Calls Tryz.prog 156 #[.int .i64 y] w fun e w' => e = .returned (.int .i64 (ysum (y - 1970) : Nat)) ∧ w = w' := by
  have hc := ysum_closed (y - 1970)
  rw [show 1969 + (y - 1970) = y - 1 by omega] at hc
  have hb := ysum_bd (y - 1970)
  have c1 := fun W => p_leaps ((y : Int) - 1) (y - 1) (by omega) (by omega) W
  have c2 := fun W => p_leaps 1969 1969 rfl (by omega) W
  rw [show leapsN 1969 = 477 by decide] at c2
  have HR : Hid ((ysum (y - 1970) : Int) = ((y : Int) - 1970) * 365 + (leapsN (y - 1) : Int) - 477) := by
    show _ = _
    omega
  generalize leapsN (y - 1) = L at *
  generalize ysum (y - 1970) = S at *
  have C1 := Lib.hid c1
  have C2 := Lib.hid c2
  clear c1 c2
  go_enter Tryz.func156, Tryz.ntmps156
  go_wp2_with fail
  refine (C1.out _).mono ?_
  rintro e w1 ⟨rfl, rfl⟩
  go_wp2_with fail
  refine (C2.out _).mono ?_
  rintro e w1 ⟨rfl, rfl⟩
  go_wp2_with fail
  go_ret
  exact ⟨by rw [HR.out]; rfl, rfl⟩

theorem p_monthDays (y m : Nat) (h0 : 1 ≤ m) (h1 : m ≤ 12) (w : World) (HT : DatTabs w) :
    Calls Tryz.prog 157 #[.int .i64 y, .int .i64 m] w fun e w' => e = .returned (.int .i64 (longN y m : Nat)) ∧ w = w' := by
  have hcell := HT.mon_day (m - 1) (by omega)
  clear HT
  by_cases h2 : m = 2
  · subst h2
    have hc : w.cell? ⟨3, 3, none⟩ = some (.int .i64 28) := hcell
    clear hcell
    rcases Bool.eq_false_or_eq_true (leapN y) with h | h
    · have HN : Hid (longN y 2 = 29) := by show _ = _; simp [longN, h]
      have HL := Lib.hid h
      clear h
      go_enter Tryz.func157, Tryz.ntmps157
      go_wp2_with (go_at_call 173; refine (p_leap y _).mono ?_; rintro e w' ⟨he, rfl⟩; rw [HL.out] at he; subst he)
      go_ret
      exact ⟨by rw [HN.out]; rfl, rfl⟩
    · have HN : Hid (longN y 2 = 28) := by show _ = _; simp [longN, h, longs]
      have HL := Lib.hid h
      clear h
      go_enter Tryz.func157, Tryz.ntmps157
      go_wp2_with (go_at_call 173; refine (p_leap y _).mono ?_; rintro e w' ⟨he, rfl⟩; rw [HL.out] at he; subst he)
      go_ret
      exact ⟨by rw [HN.out]; rfl, rfl⟩
  · have HN : Hid (longN y m = longs.getD (m - 1) 0) := by show _ = _; simp [longN, h2]
    have h2b : ((m : Int) == 2) = false := by rw [beq_eq_false_iff_ne]; omega
    obtain ⟨V, hV⟩ : ∃ V : Nat, V = longs.getD (m - 1) 0 := ⟨_, rfl⟩
    rw [← hV] at hcell HN
    clear h2 hV
    go_enter Tryz.func157, Tryz.ntmps157
    go_wp2_with fail
    go_ret
    exact ⟨by rw [HN.out]; rfl, rfl⟩

theorem p_exists (y m d : Int) (w : World) (HT : DatTabs w) :
    Calls Tryz.prog 155 #[.int .i64 y, .int .i64 m, .int .i64 d] w fun e w' => e = .returned (.bool (dayB y m d)) ∧ w = w' := by
  by_cases k1 : y < 1970
  · have HR := Lib.hid (day_no (y := y) (m := m) (d := d) (fun h => by have := h.1; omega)).2
    have k1' : ¬ 1970 ≤ y := by omega
    go_enter Tryz.func155, Tryz.ntmps155
    go_wp2_with fail
    go_ret
    exact ⟨by rw [HR.out]; rfl, rfl⟩
  have j1 : 1970 ≤ y := by omega
  by_cases k2 : 9999 < y
  · have HR := Lib.hid (day_no (y := y) (m := m) (d := d) (fun h => by have := h.2.1; omega)).2
    have k2' : ¬ y ≤ 9999 := by omega
    go_enter Tryz.func155, Tryz.ntmps155
    go_wp2_with fail
    go_ret
    exact ⟨by rw [HR.out]; rfl, rfl⟩
  have j2 : y ≤ 9999 := by omega
  by_cases k3 : m < 1
  · have HR := Lib.hid (day_no (y := y) (m := m) (d := d) (fun h => by have := h.2.2.1; omega)).2
    have k3' : ¬ 1 ≤ m := by omega
    go_enter Tryz.func155, Tryz.ntmps155
    go_wp2_with fail
    go_ret
    exact ⟨by rw [HR.out]; rfl, rfl⟩
  have j3 : 1 ≤ m := by omega
  by_cases k4 : 12 < m
  · have HR := Lib.hid (day_no (y := y) (m := m) (d := d) (fun h => by have := h.2.2.2.1; omega)).2
    have k4' : ¬ m ≤ 12 := by omega
    go_enter Tryz.func155, Tryz.ntmps155
    go_wp2_with fail
    go_ret
    exact ⟨by rw [HR.out]; rfl, rfl⟩
  have j4 : m ≤ 12 := by omega
  by_cases k5 : d < 1
  · have HR := Lib.hid (day_no (y := y) (m := m) (d := d) (fun h => by have := h.2.2.2.2.1; omega)).2
    have k5' : ¬ 1 ≤ d := by omega
    go_enter Tryz.func155, Tryz.ntmps155
    go_wp2_with fail
    go_ret
    exact ⟨by rw [HR.out]; rfl, rfl⟩
  have j5 : 1 ≤ d := by omega
  obtain ⟨Y, rfl⟩ := Int.eq_ofNat_of_zero_le (show 0 ≤ y by omega)
  obtain ⟨M, rfl⟩ := Int.eq_ofNat_of_zero_le (show 0 ≤ m by omega)
  have c := fun W hW => p_monthDays Y M (by omega) (by omega) W hW
  have hb := long_bd Y M (by omega) (by omega)
  have HR : Hid (dayB (Y : Int) (M : Int) d = decide (d ≤ (longN Y M : Int))) := by
    show _ = _
    rw [Bool.eq_iff_iff, decide_eq_true_iff]
    unfold dayB
    rw [decide_eq_true_iff]
    unfold ValidI
    simp only [Int.toNat_natCast]
    omega
  generalize longN Y M = V at *
  have C := Lib.hid c
  have HT := Lib.hid HT
  clear c
  go_enter Tryz.func155, Tryz.ntmps155
  go_wp2_with (go_at_call 157; refine (C.out _ HT.out).mono ?_; rintro e w' ⟨rfl, rfl⟩)
  go_ret
  exact ⟨by rw [HR.out]; rfl, rfl⟩

set_option maxHeartbeats 2000000 in
set_option maxRecDepth 100000 in
theorem days_any (y m d : Int) (hy : -9223372036854775808 ≤ y ∧ y ≤ 9223372036854775807) (hm : -9223372036854775808 ≤ m ∧ m ≤ 9223372036854775807) (hd : -9223372036854775808 ≤ d ∧ d ≤ 9223372036854775807) (w : World) (HT : DatTabs w) :
    Calls Tryz.prog 134 #[.int .i64 y, .int .i64 m, .int .i64 d] w fun e w' => e = .returned (.tuple #[.int .i64 (dayV y m d), .bool (dayB y m d)]) ∧ Below w.heap.size w w' := by
  have HT := Lib.hid HT
  by_cases hv : ValidI y m d
  · have hz := hv
    obtain ⟨h1, h2, h3, h4, h5, h6⟩ := hz
    obtain ⟨Y, rfl⟩ := Int.eq_ofNat_of_zero_le (show 0 ≤ y by omega)
    obtain ⟨M, rfl⟩ := Int.eq_ofNat_of_zero_le (show 0 ≤ m by omega)
    obtain ⟨D, rfl⟩ := Int.eq_ofNat_of_zero_le (show 0 ≤ d by omega)
    simp only [Int.toNat_natCast] at h6
    have hlb := long_bd Y M (by omega) (by omega)
    have HR := day_yes hv
    simp only [Int.toNat_natCast] at HR
    have HB := Lib.hid HR.2
    have hyb := ysum_bd (Y - 1970)
    have HS : Hid (daysN Y M D = ysum (Y - 1970) + D - 1 + msum Y (M - 1)) := by
      show _ = _
      unfold daysN; omega
    have HR := Lib.hid HR
    have c1 := Lib.hid (fun W => p_yearStart Y (by omega) (by omega) W)
    generalize ysum (Y - 1970) = S at *
    have hDb : D ≤ 31 := by omega
    clear hv h6
    go_enter Tryz.func134, Tryz.ntmps134
    go_wp2_with fail
    refine (p_exists _ _ _ _ HT.out).mono ?_
    rintro e w1 ⟨he, rfl⟩
    rw [HB.out] at he
    subst he
    go_wp2_with fail
    refine (c1.out _).mono ?_
    rintro e w1 ⟨rfl, rfl⟩
    go_wp2_with fail
    go_loopw [8, 9] (fun n k wr => ∃ j T : Nat, j ≤ M - 1 ∧ T ≤ S + 31 + 31 * j ∧ k = .int .i64 ((1 + j : Nat) : Int) ∧ n = .int .i64 (T : Int) ∧ Hid (T = S + D - 1 + msum Y j) ∧ w = wr) (fun _ k _ => M - (intOf k).toNat)
    case atStart => exact ⟨0, S + D - 1, by omega, by omega, rfl, by rw [show ((S + D - 1 : Nat) : Int) = (S : Int) + D - 1 by omega], rfl, rfl⟩
    case round =>
      obtain ⟨j, T, hj, hT, rfl, rfl, hg, rfl⟩ := hrel
      by_cases hlt : j < M - 1
      · have hc : ((1 + j : Nat) : Int) < (M : Int) := by omega
        have HN : Hid (T + longN Y (1 + j) = S + D - 1 + msum Y (j + 1)) := by
          show _ = _
          rw [hg.out, msum_succ, Nat.add_comm 1 j]; omega
        have hyn := (long_bd Y (1 + j) (by omega) (by omega)).2
        have hyr := fun W hW => p_monthDays Y (1 + j) (by omega) (by omega) W hW
        generalize longN Y (1 + j) = Z at *
        have HY := Lib.hid hyr
        clear hyr hg
        obtain ⟨K, hK⟩ : ∃ K, K = 1 + j := ⟨_, rfl⟩
        rw [← hK] at hc HY
        have hKi : ((1 + j : Nat) : Int) = (K : Int) := by omega
        rw [hKi]
        go_wp2_with (go_at_call 157; refine (HY.out _ HT.out).mono ?_; rintro e w2 ⟨rfl, rfl⟩)
        go_roundw
        case rel => exact ⟨j + 1, T + Z, by omega, by omega, by go_num, by go_num, HN, by trivial⟩
        case measure => simp [intOf]; omega
      · have HF : Hid (T = daysN Y M D) := by
          show _ = _
          rw [HS.out, hg.out, show j = M - 1 by omega]
        have hc : ¬ ((1 + j : Nat) : Int) < (M : Int) := by omega
        have hKi : ((1 + j : Nat) : Int) = (M : Int) := by omega
        rw [hKi]
        clear hc hKi hg
        go_wp2_with fail
        go_ret2
        exact ⟨by rw [HR.out.1, HR.out.2, ← HF.out]; rfl, Below.refl _ _⟩
  · have HR := day_no hv
    have HB := Lib.hid HR.2
    have HR := Lib.hid HR
    clear hv
    go_enter Tryz.func134, Tryz.ntmps134
    go_wp2_with fail
    refine (p_exists _ _ _ _ HT.out).mono ?_
    rintro e w1 ⟨he, rfl⟩
    rw [HB.out] at he
    subst he
    go_wp2_with fail
    go_ret2
    exact ⟨by rw [HR.out.1, HR.out.2]; rfl, Below.refl _ _⟩

set_option maxHeartbeats 2000000 in
set_option maxRecDepth 100000 in
theorem civil_any (n : Int) (_hn : -9223372036854775808 ≤ n ∧ n ≤ 9223372036854775807) (w : World) (HT : DatTabs w) :
    Calls Tryz.prog 158 #[.int .i64 n] w fun e w' => e = .returned (.tuple #[.int .i64 (civ1 n), .int .i64 (civ2 n), .int .i64 (civ3 n), .bool (civB n)]) ∧ Below w.heap.size w w' := by
  have HT := Lib.hid HT
  by_cases h0 : n < 0
  · have HR := Lib.hid (civ_no (n := n) (fun h => by omega))
    go_enter Tryz.func158, Tryz.ntmps158
    go_wp2_with fail
    (try simp only [Exit.inBlock, Exit.then]); refine bodyPost_ret (results_tmp4 rfl _ _ _) rfl ?_
    exact ⟨by rw [HR.out.1, HR.out.2.1, HR.out.2.2.1, HR.out.2.2.2]; rfl, Below.refl _ _⟩
  by_cases h1 : 2932896 < n
  · have HR := Lib.hid (civ_no (n := n) (fun h => by omega))
    go_enter Tryz.func158, Tryz.ntmps158
    go_wp2_with fail
    (try simp only [Exit.inBlock, Exit.then]); refine bodyPost_ret (results_tmp4 rfl _ _ _) rfl ?_
    exact ⟨by rw [HR.out.1, HR.out.2.1, HR.out.2.2.1, HR.out.2.2.2]; rfl, Below.refl _ _⟩
  obtain ⟨N, rfl⟩ := Int.eq_ofNat_of_zero_le (show 0 ≤ n by omega)
  have hN : N ≤ 2932896 := by omega
  go_enter Tryz.func158, Tryz.ntmps158
  go_wp2_with fail
  go_loopw [6] (fun y wr => ∃ Y : Nat, 1970 ≤ Y ∧ Y ≤ 12000 ∧ y = .int .i64 (Y : Int) ∧ Hid (N < ysum (Y + 1 - 1970)) ∧ w = wr) (fun y _ => (intOf y).toNat)
  case atStart =>
    refine ⟨1970 + N / 365, by omega, by omega, ?_, ?_, rfl⟩
    · congr 1
    · show _ < _
      have := ysum_lo (1970 + N / 365 + 1 - 1970)
      omega
  case round =>
    obtain ⟨Y, hY, hYb, rfl, hf, rfl⟩ := hrel
    have hyr := fun W => p_yearStart Y hY (by omega) W
    have hzero : Y = 1970 → ysum (Y - 1970) = 0 := fun h => by subst h; rfl
    have HN : Hid (ysum (Y - 1970) = ysum (Y - 1 + 1 - 1970)) := by show _ = _; rw [show Y - 1 + 1 = Y by omega]
    have HY : Hid (ysum (Y + 1 - 1970) = ysum (Y - 1970) + yearN Y) := by
      show _ = _
      rw [show Y + 1 - 1970 = Y - 1970 + 1 by omega, ysum_succ, show 1970 + (Y - 1970) = Y by omega]
    have HQ : ∀ S, ysum (Y - 1970) = S → S ≤ N → Y - 1970 < 8030 := fun S hS h => year_lt (Y := Y) (R := N - S) (n := N) (by omega) hN
    have hyc := yearN_cs Y
    obtain ⟨S, hS⟩ : ∃ S, S = ysum (Y - 1970) := ⟨_, rfl⟩
    have HQ := HQ S hS.symm
    rw [← hS] at hyr HN hzero HY
    have HS := Lib.hid hS
    have C := Lib.hid hyr
    clear hyr hS
    by_cases hle : S ≤ N
    · have hle2 : ¬ (N : Int) < (S : Int) := by omega
      have hY8 := HQ hle
      have hR : N - S < yearN Y := by
        have h1 := hf.out
        have h2 := HY.out
        omega
      have hYN := Lib.hid hR
      obtain ⟨R, hRR⟩ : ∃ R, R = N - S := ⟨_, rfl⟩
      have hNS : N = S + R := by omega
      have HNS := Lib.hid hNS
      rw [← hRR] at hYN
      have hRb : R ≤ 366 := by omega
      clear HQ hR hf HY hyc hRR
      go_wp2_with fail
      refine (C.out _).mono ?_
      rintro e w1 ⟨rfl, rfl⟩
      go_wp2_with fail
      refine (C.out _).mono ?_
      rintro e w1 ⟨rfl, rfl⟩
      go_wp2_with fail
      go_loopw [7, 8] (fun m d wx => ∃ M T : Nat, 1 ≤ M ∧ d = .int .i64 (T : Int) ∧ m = .int .i64 (M : Int) ∧ Hid (msum Y (M - 1) + T = R) ∧ w = wx) (fun _ d _ => (intOf d).toNat)
      case atStart => exact ⟨1, R, by omega, by congr 1; omega, rfl, by show _ = _; simp [msum], rfl⟩
      case round =>
        obtain ⟨M, T, hM, rfl, rfl, hg, rfl⟩ := hrel
        have hM2 := month_le (y := Y) hg.out hYN.out
        have hT : T ≤ R := by have := hg.out; omega
        have hlr := fun W hW => p_monthDays Y M hM hM2 W hW
        have hlb := long_bd Y M hM hM2
        obtain ⟨X, hX⟩ : ∃ X, X = longN Y M := ⟨_, rfl⟩
        rw [← hX] at hlr hlb
        have HL := Lib.hid hlr
        have HX := Lib.hid hX
        clear hlr hX
        by_cases hle2 : X ≤ T
        · have HN : Hid (msum Y (M + 1 - 1) + (T - X) = R) := by
            show _ = _
            rw [show M + 1 - 1 = M - 1 + 1 by omega, msum_succ, show M - 1 + 1 = M by omega, ← HX.out, ← hg.out]
            omega
          clear hg
          go_wp2_with fail
          refine (HL.out _ HT.out).mono ?_
          rintro e w2 ⟨rfl, rfl⟩
          go_wp2_with fail
          refine (HL.out _ HT.out).mono ?_
          rintro e w3 ⟨rfl, rfl⟩
          go_wp2_with fail
          go_roundw
          case rel => exact ⟨M + 1, T - X, by omega, by go_num, by go_num, HN, by trivial⟩
          case measure => simp [intOf]; omega
        · have HF := Lib.hid (civ_is (y := Y) (m := M) (d := T + 1) (n := N) ⟨⟨hY, by omega, hM, hM2, by omega, by rw [← HX.out]; omega⟩, by unfold daysN; rw [← HS.out, Nat.add_sub_cancel, HNS.out, ← hg.out]; omega⟩ hN)
          clear hg
          go_wp2_with (go_at_call 157; refine (HL.out _ HT.out).mono ?_; rintro e w2 ⟨rfl, rfl⟩)
          (try simp only [Exit.inBlock, Exit.then]); refine bodyPost_ret (results_tmp4 rfl _ _ _) rfl ?_
          exact ⟨by rw [HF.out.1, HF.out.2.1, HF.out.2.2.1, HF.out.2.2.2]; rfl, Below.refl _ _⟩
    · have hlt : (N : Int) < (S : Int) := by omega
      have h70 : 1971 ≤ Y := by
        refine Classical.byContradiction fun hc => ?_
        have := hzero (by omega)
        omega
      have HNN : Hid (N < ysum (Y - 1 + 1 - 1970)) := by show _ < _; rw [← HN.out]; omega
      clear HQ hzero HN HY hf
      go_wp2_with (go_at_call 156; refine (C.out _).mono ?_; rintro e w1 ⟨rfl, rfl⟩)
      go_roundw
      case rel => exact ⟨Y - 1, by omega, by omega, by go_num, HNN, by trivial⟩
      case measure => simp [intOf]; omega

end Go.Proofs.YtjkfdjolhmgemaaGreatDoor
end
