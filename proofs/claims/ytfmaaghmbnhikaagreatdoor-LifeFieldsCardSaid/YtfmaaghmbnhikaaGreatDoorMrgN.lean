/-
  Texts that the laws of this seat lean on, one behind the other.
-/
import Derived.Test.YtfmaaghmbnhikaaGreatDoorMrgM
/-
  Contracts of the reference's Civil and Weekday (layer 7).
-/
section
namespace Go.Proofs.YtfmaaghmbnhikaaGreatDoor
open Go.RowKit


def civB (n : Int) : Bool := decide (0 ≤ n ∧ n ≤ 2932896)
def civ1 (n : Int) : Int := if civB n then ((civ n.toNat).1 : Int) else 0
def civ2 (n : Int) : Int := if civB n then ((civ n.toNat).2.1 : Int) else 0
def civ3 (n : Int) : Int := if civB n then ((civ n.toNat).2.2 : Int) else 0
theorem civ_no {n : Int} (h : ¬ (0 ≤ n ∧ n ≤ 2932896)) : civ1 n = 0 ∧ civ2 n = 0 ∧ civ3 n = 0 ∧ civB n = false := by
  have e : civB n = false := by simp [civB]; omega
  simp [civ1, civ2, civ3, e]
theorem civ_is {y m d n : Nat} (h : IsDate y m d n) (hn : n ≤ 2932896) : civ1 n = y ∧ civ2 n = m ∧ civ3 n = d ∧ civB n = true := by
  have e : civB n = true := by simp [civB]; omega
  simp [civ1, civ2, civ3, e, civ_of h hn]

theorem year_lt {Y R n : Nat} (h : ysum (Y - 1970) + R = n) (hn : n ≤ 2932896) : Y - 1970 < 8030 := by
  refine Classical.byContradiction fun hc => ?_
  have := ysum_le (show 8030 ≤ Y - 1970 by omega)
  rw [ysum_all] at this
  omega
theorem month_le {y m r R : Nat} (h : msum y (m - 1) + r = R) (hR : R < yearN y) : m ≤ 12 := by
  refine Classical.byContradiction fun hc => ?_
  have := msum_le (y := y) (show 12 ≤ m - 1 by omega)
  rw [msum_year] at this
  omega

set_option maxHeartbeats 1000000 in
theorem r_civil (n : Int) (w : World) :
    Calls Tryz.prog 106 #[.int .i64 n] w fun e w' => e = .returned (.tuple #[.int .i64 (civ1 n), .int .i64 (civ2 n), .int .i64 (civ3 n), .bool (civB n)]) ∧ Below w.heap.size w w' := by
  by_cases h0 : n < 0
  · have HR := Lib.hid (civ_no (n := n) (fun h => by omega))
    go_enter Tryz.func106, Tryz.ntmps106
    go_wp2_with fail
    (try simp only [Exit.inBlock, Exit.then]); refine bodyPost_ret (results_tmp4 rfl _ _ _) rfl ?_
    exact ⟨by rw [HR.out.1, HR.out.2.1, HR.out.2.2.1, HR.out.2.2.2]; rfl, Below.refl _ _⟩
  by_cases h1 : 2932896 < n
  · have HR := Lib.hid (civ_no (n := n) (fun h => by omega))
    go_enter Tryz.func106, Tryz.ntmps106
    go_wp2_with fail
    (try simp only [Exit.inBlock, Exit.then]); refine bodyPost_ret (results_tmp4 rfl _ _ _) rfl ?_
    exact ⟨by rw [HR.out.1, HR.out.2.1, HR.out.2.2.1, HR.out.2.2.2]; rfl, Below.refl _ _⟩
  obtain ⟨N, rfl⟩ := Int.eq_ofNat_of_zero_le (show 0 ≤ n by omega)
  have hN : N ≤ 2932896 := by omega
  go_enter Tryz.func106, Tryz.ntmps106
  go_wp2_with fail
  have hd1 : decide ((N : Int) < 0) = false := decide_eq_false (by omega)
  have hd2 : decide (2932896 < (N : Int)) = false := decide_eq_false (by omega)
  try rw [hd1]
  try rw [hd2]
  clear hd1 hd2
  go_loopw [0, 6] (fun d y wr => ∃ Y R : Nat, 1970 ≤ Y ∧ d = .int .i64 (R : Int) ∧ y = .int .i64 (Y : Int) ∧ Hid (ysum (Y - 1970) + R = N) ∧ Below w.heap.size w wr) (fun d _ _ => (intOf d).toNat)
  case atStart => exact ⟨1970, N, by omega, rfl, rfl, by show _ = _; simp [ysum], Below.refl _ _⟩
  case round =>
    obtain ⟨Y, R, hY, rfl, rfl, hf, hbel⟩ := hrel
    have hYl := year_lt hf.out hN
    have hR : R ≤ 2932896 := by have := hf.out; omega
    have hyr := fun W => r_year Y W
    have hyc := yearN_cs Y
    obtain ⟨Z, hZ⟩ : ∃ Z, Z = yearN Y := ⟨_, rfl⟩
    rw [← hZ] at hyr hyc
    have HY := Lib.hid hyr
    have HZ := Lib.hid hZ
    clear hyr hZ
    by_cases hle : Z ≤ R
    · have HN : Hid (ysum (Y + 1 - 1970) + (R - Z) = N) := by
        show _ = _
        rw [show Y + 1 - 1970 = Y - 1970 + 1 by omega, ysum_succ, show 1970 + (Y - 1970) = Y by omega, ← HZ.out, ← hf.out]
        omega
      clear hf
      go_wp2_with (go_at_call 142; refine (HY.out _).mono ?_; rintro e w' ⟨rfl, rfl⟩)
      go_roundw
      case rel => exact ⟨Y + 1, R - Z, by omega, by go_num, by go_num, HN, hbel⟩
      case measure => simp [intOf]; omega
    · have hlt : R < Z := by omega
      go_wp2_with (go_at_call 142; refine (HY.out _).mono ?_; rintro e w' ⟨rfl, rfl⟩)
      go_loopw [0, 7] (fun d m wx => ∃ M T : Nat, 1 ≤ M ∧ d = .int .i64 (T : Int) ∧ m = .int .i64 (M : Int) ∧ Hid (msum Y (M - 1) + T = R) ∧ Below w.heap.size w wx) (fun d _ _ => (intOf d).toNat)
      case atStart => exact ⟨1, R, by omega, rfl, rfl, by show _ = _; simp [msum], hbel⟩
      case round =>
        clear hbel
        obtain ⟨M, T, hM, rfl, rfl, hg, hbel⟩ := hrel
        have hM2 := month_le (y := Y) hg.out (by rw [← HZ.out]; exact hlt)
        have hT : T ≤ R := by have := hg.out; omega
        have hlr := fun W => r_long Y M hM hM2 W
        have hlb := long_bd Y M hM hM2
        obtain ⟨X, hX⟩ : ∃ X, X = longN Y M := ⟨_, rfl⟩
        rw [← hX] at hlr hlb
        have HL := Lib.hid hlr
        have HX := Lib.hid hX
        clear hlr hX
        by_cases hle2 : X ≤ T
        · have HN : Hid (msum Y (M + 1 - 1) + (T - X) = R) := by
            show _ = _
            rw [show M + 1 - 1 = M - 1 + 1 by omega, msum_succ, show M - 1 + 1 = M by omega, ← HX.out, ← hg.out]
            omega
          clear hg
          go_wp2_with fail
          refine (HL.out _).mono ?_
          rintro e w2 ⟨rfl, hb2⟩
          have hbel := hbel.trans (hb2.mono hbel.size)
          clear hb2
          go_wp2_with fail
          refine (HL.out _).mono ?_
          rintro e w3 ⟨rfl, hb3⟩
          have hbel := hbel.trans (hb3.mono hbel.size)
          clear hb3
          go_wp2_with fail
          go_roundw
          case rel => exact ⟨M + 1, T - X, by omega, by go_num, by go_num, HN, hbel⟩
          case measure => simp [intOf]; omega
        · have HF := Lib.hid (civ_is (y := Y) (m := M) (d := T + 1) (n := N) ⟨⟨hY, by omega, hM, hM2, by omega, by rw [← HX.out]; omega⟩, by unfold daysN; rw [← hf.out, ← hg.out]; omega⟩ hN)
          clear hf hg
          go_wp2_with (go_at_call 141; refine (HL.out _).mono ?_; rintro e w2 ⟨rfl, hb2⟩)
          (try simp only [Exit.inBlock, Exit.then]); refine bodyPost_ret (results_tmp4 rfl _ _ _) rfl ?_
          exact ⟨by rw [HF.out.1, HF.out.2.1, HF.out.2.2.1, HF.out.2.2.2]; rfl, hbel.trans (hb2.mono hbel.size)⟩

theorem r_weekday (n : Int) (h1 : n ≤ 9223372036854775807) (w : World) :
    Calls Tryz.prog 108 #[.int .i64 n] w fun e w' => e = .returned (.int .i64 (wdN n)) ∧ w = w' := by
  by_cases h0 : n < 0
  · have HR : Hid (wdN n = 0) := by show _ = _; simp [wdN, h0]
    go_enter Tryz.func108, Tryz.ntmps108
    go_wp2_with fail
    go_ret
    exact ⟨by rw [HR.out]; rfl, rfl⟩
  · obtain ⟨N, rfl⟩ := Int.eq_ofNat_of_zero_le (show 0 ≤ n by omega)
    have HR : Hid (wdN (N : Int) = ((N : Int) + 4) % 7) := by
      show _ = _
      unfold wdN
      rw [if_neg (by omega)]
      omega
    go_enter Tryz.func108, Tryz.ntmps108
    go_wp2_with fail
    go_ret
    exact ⟨by rw [HR.out]; rfl, rfl⟩

end Go.Proofs.YtfmaaghmbnhikaaGreatDoor
end
