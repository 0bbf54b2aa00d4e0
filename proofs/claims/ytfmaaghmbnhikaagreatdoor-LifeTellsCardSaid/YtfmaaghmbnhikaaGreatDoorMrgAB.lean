/-
  Texts that the laws of this seat lean on, one behind the other.
-/
import Derived.Test.YtfmaaghmbnhikaaGreatDoorMrgS
import Derived.Deep.RegionHeld3
/-
  Contracts of the reference's three forms (layer 7): Format, Old, Plain.
-/
section
namespace Go.Proofs.YtfmaaghmbnhikaaGreatDoor
open Go.RowKit

/-- A time's parts: its day, the date of the day, and what contracts answer of them. -/
structure Parts (T Y M E : Nat) : Prop where
  date : IsDate Y M E (T / 86400)
  civ : civ (T / 86400) = (Y, M, E)
  le : T ≤ 253402300799
theorem parts_of (T : Nat) (h : T ≤ 253402300799) : ∃ Y M E, Parts T Y M E := by
  have hd := civ_bd T h
  exact ⟨_, _, _, hd, rfl, h⟩
theorem Parts.civil {T Y M E : Nat} (h : Parts T Y M E) : civ1 ((T : Int) / 86400) = Y ∧ civ2 ((T : Int) / 86400) = M ∧ civ3 ((T : Int) / 86400) = E ∧ civB ((T : Int) / 86400) = true := by
  rw [show (T : Int) / 86400 = ((T / 86400 : Nat) : Int) by omega]
  exact civ_is h.date (by have := h.le; omega)
theorem Parts.wd {T Y M E : Nat} (_h : Parts T Y M E) : wdN ((T : Int) / 86400) = ((wdD (T / 86400) : Nat) : Int) := by
  rw [show (T : Int) / 86400 = ((T / 86400 : Nat) : Int) by omega]
  exact wd_int _
theorem Parts.bd {T Y M E : Nat} (h : Parts T Y M E) : (1970 ≤ Y ∧ Y ≤ 9999) ∧ (1 ≤ M ∧ M ≤ 12) ∧ 1 ≤ E ∧ E ≤ 31 := by
  have v := h.date.v
  have := long_bd Y M v.m0 v.m1
  have := v.d1
  exact ⟨⟨v.y0, v.y1⟩, ⟨v.m0, v.m1⟩, v.d0, by omega⟩
theorem day3 (n : Nat) : (mkS (dayL n)).extract 0 3 = mkS ((dayL n).take 3) := by rw [piece_ext]; rfl
theorem day_size (n : Nat) (h : n < 7) : 6 ≤ (mkS (dayL n)).size ∧ (mkS (dayL n)).size ≤ 9 := by
  have := day_len n h
  rw [mkS_size]; exact ⟨this.1, this.2.1⟩
theorem mon_size (m : Nat) (h0 : 1 ≤ m) (h1 : m ≤ 12) : (mkS (monL m)).size = 3 := by rw [mkS_size, mon_len m h0 h1]
theorem pad4_size (y : Nat) (h0 : 1970 ≤ y) (h1 : y ≤ 9999) : (mkS (padL (y : Int) 4)).size = 4 := by rw [mkS_size, pad_four (by omega) (by omega)]; rfl
theorem clk_size (t : Nat) : (mkS (clkL t)).size = 8 := by rw [mkS_size, clk_eq]; rfl

set_option maxHeartbeats 1000000 in
theorem r_old (t : Int) (h0 : -9223372036854775808 ≤ t ∧ t ≤ 9223372036854775807) (w : World) :
    Calls Tryz.prog 69 #[.int .i64 t] w fun e w' => e = .returned (.string (mkS (oldI t))) ∧ Below w.heap.size w w' := by
  by_cases k0 : t < 0
  · have HR : Hid (oldI t = []) := by show _ = _; unfold oldI; rw [if_neg (by omega)]
    go_enter Tryz.func69, Tryz.ntmps69
    go_wp2_with fail
    go_ret
    exact ⟨by rw [HR.out]; rfl, Below.refl _ _⟩
  by_cases k1 : 3155759999 < t
  · have HR : Hid (oldI t = []) := by show _ = _; unfold oldI; rw [if_neg (by omega)]
    go_enter Tryz.func69, Tryz.ntmps69
    go_wp2_with fail
    go_ret
    exact ⟨by rw [HR.out]; rfl, Below.refl _ _⟩
  obtain ⟨T, rfl⟩ := Int.eq_ofNat_of_zero_le (show 0 ≤ t by omega)
  obtain ⟨Y, M, E, hp⟩ := parts_of T (by omega)
  have hc := hp.civil
  have hw := hp.wd
  obtain ⟨⟨b1, b2⟩, ⟨b3, b4⟩, b5, b6⟩ := hp.bd
  have hci := hp.civ
  have hle := hp.le
  have hwl := wd_lt (T / 86400)
  have HR : Hid (mkS (oldI (T : Int)) = mkS (dayL (wdD (T / 86400))) ++ (⟨#[44, 32]⟩ : ByteArray) ++ mkS (padL (E : Int) 2) ++ (⟨#[45]⟩ : ByteArray) ++ mkS (monL M) ++ (⟨#[45]⟩ : ByteArray) ++ mkS (padL ((Y % 100 : Nat) : Int) 2) ++ (⟨#[32]⟩ : ByteArray) ++ mkS (clkL T) ++ (⟨#[32, 71, 77, 84]⟩ : ByteArray)) := by
    show _ = _
    unfold oldI
    rw [if_pos ⟨by omega, by omega⟩, Int.toNat_natCast]
    unfold oldL
    rw [hci, show (⟨#[45]⟩ : ByteArray) = mkS [45] from rfl, show (⟨#[44, 32]⟩ : ByteArray) = mkS [44, 32] from rfl, show (⟨#[32]⟩ : ByteArray) = mkS [32] from rfl, show (⟨#[32, 71, 77, 84]⟩ : ByteArray) = mkS [32, 71, 77, 84] from rfl]
    simp only [mkS_append]
  have a1 := day_size _ hwl
  have a2 := pad2_size E (by omega)
  have a3 := mon_size M b3 b4
  have a4 := pad2_size (Y % 100) (by omega)
  have a5 := clk_size T
  have c1 := fun W => r_day (wdD (T / 86400)) hwl W
  have c2 := fun W => r_pad (E : Int) 2 (by omega) (by omega) W
  have c3 := fun W => r_month M b3 b4 W
  have c4 := fun W => r_pad ((Y % 100 : Nat) : Int) 2 (by omega) (by omega) W
  have c5 := fun W => r_clock T hle W
  generalize mkS (dayL (wdD (T / 86400))) = N at *
  generalize mkS (padL (E : Int) 2) = A at *
  generalize mkS (monL M) = B at *
  generalize mkS (padL ((Y % 100 : Nat) : Int) 2) = C at *
  generalize mkS (clkL T) = K at *
  generalize wdD (T / 86400) = V at *
  have HC := Lib.hid hc
  have HW := Lib.hid hw
  have C1 := Lib.hid c1
  have C2 := Lib.hid c2
  have C3 := Lib.hid c3
  have C4 := Lib.hid c4
  have C5 := Lib.hid c5
  clear hc hw hci hp c1 c2 c3 c4 c5
  go_enter Tryz.func69, Tryz.ntmps69
  go_wp2_with fail
  refine (r_civil _ _).mono ?_
  rintro e w1 ⟨he, hb⟩
  rw [HC.out.1, HC.out.2.1, HC.out.2.2.1, HC.out.2.2.2] at he
  subst he
  go_wp2_with fail
  refine (r_weekday ((T : Int) / 86400) (by omega) _).mono ?_
  rintro e w' ⟨he, rfl⟩
  rw [HW.out] at he
  subst he
  go_wp2_with fail
  refine (C1.out _).mono ?_
  rintro e w2 ⟨rfl, hb2⟩
  have hb := below_then hb hb2
  clear hb2
  go_wp2_with fail
  refine (C2.out _).mono ?_
  rintro e w3 ⟨rfl, hb3⟩
  have hb := below_then hb hb3
  clear hb3
  go_wp2_with fail
  refine (C3.out _).mono ?_
  rintro e w' ⟨rfl, rfl⟩
  go_wp2_with fail
  rw [show ((Y : Int) % 100) = ((Y % 100 : Nat) : Int) by omega]
  refine (C4.out _).mono ?_
  rintro e w4 ⟨rfl, hb4⟩
  have hb := below_then hb hb4
  clear hb4
  go_wp2_with fail
  refine (C5.out _).mono ?_
  rintro e w5 ⟨rfl, hb5⟩
  have hb := below_then hb hb5
  clear hb5
  go_wp2_with fail
  go_ret
  exact ⟨by rw [HR.out]; rfl, hb⟩

end Go.Proofs.YtfmaaghmbnhikaaGreatDoor
end

/-
  Contract of the reference's Format (layer 7).
-/
section
namespace Go.Proofs.YtfmaaghmbnhikaaGreatDoor
open Go.RowKit

set_option maxHeartbeats 3000000 in
set_option maxRecDepth 100000 in
theorem r_format (t : Int) (h0 : -9223372036854775808 ≤ t ∧ t ≤ 9223372036854775807) (w : World) :
    Calls Tryz.prog 68 #[.int .i64 t] w fun e w' => e = .returned (.string (mkS (fmtI t))) ∧ Below w.heap.size w w' := by
  by_cases k0 : t < 0
  · have HR : Hid (fmtI t = []) := by show _ = _; unfold fmtI; rw [if_neg (by omega)]
    go_enter Tryz.func68, Tryz.ntmps68
    go_wp2_with fail
    go_ret
    exact ⟨by rw [HR.out]; rfl, Below.refl _ _⟩
  by_cases k1 : 253402300799 < t
  · have HR : Hid (fmtI t = []) := by show _ = _; unfold fmtI; rw [if_neg (by omega)]
    go_enter Tryz.func68, Tryz.ntmps68
    go_wp2_with fail
    go_ret
    exact ⟨by rw [HR.out]; rfl, Below.refl _ _⟩
  obtain ⟨T, rfl⟩ := Int.eq_ofNat_of_zero_le (show 0 ≤ t by omega)
  obtain ⟨Y, M, E, hp⟩ := parts_of T (by omega)
  have hc := hp.civil
  have hw := hp.wd
  obtain ⟨⟨b1, b2⟩, ⟨b3, b4⟩, b5, b6⟩ := hp.bd
  have hci := hp.civ
  have hle := hp.le
  have hwl := wd_lt (T / 86400)
  have HR : Hid (mkS (fmtI (T : Int)) = (mkS (dayL (wdD (T / 86400)))).extract 0 3 ++ (⟨#[44, 32]⟩ : ByteArray) ++ mkS (padL (E : Int) 2) ++ (⟨#[32]⟩ : ByteArray) ++ mkS (monL M) ++ (⟨#[32]⟩ : ByteArray) ++ mkS (padL (Y : Int) 4) ++ (⟨#[32]⟩ : ByteArray) ++ mkS (clkL T) ++ (⟨#[32, 71, 77, 84]⟩ : ByteArray)) := by
    show _ = _
    unfold fmtI
    rw [if_pos ⟨by omega, by omega⟩, Int.toNat_natCast]
    unfold fmtL
    rw [hci, day3, show (⟨#[44, 32]⟩ : ByteArray) = mkS [44, 32] from rfl, show (⟨#[32]⟩ : ByteArray) = mkS [32] from rfl, show (⟨#[32, 71, 77, 84]⟩ : ByteArray) = mkS [32, 71, 77, 84] from rfl]
    simp only [mkS_append]
  have a1 := day_size _ hwl
  have a2 := pad2_size E (by omega)
  have a3 := mon_size M b3 b4
  have a4 := pad4_size Y b1 b2
  have a5 := clk_size T
  have c1 := fun W => r_day (wdD (T / 86400)) hwl W
  have c3 := fun W => r_month M b3 b4 W
  have c5 := fun W => r_clock T hle W
  generalize mkS (dayL (wdD (T / 86400))) = N at *
  generalize hA : mkS (padL (E : Int) 2) = A at *
  have HA := Lib.hid hA
  clear hA
  generalize mkS (monL M) = B at *
  generalize hCC : mkS (padL (Y : Int) 4) = C at *
  have HCC := Lib.hid hCC
  clear hCC
  generalize mkS (clkL T) = K at *
  generalize wdD (T / 86400) = V at *
  have HC := Lib.hid hc
  have HW := Lib.hid hw
  have C1 := Lib.hid c1
  have C3 := Lib.hid c3
  have C5 := Lib.hid c5
  clear hc hw hci hp c1 c3 c5
  go_enter Tryz.func68, Tryz.ntmps68
  go_wp2_with fail
  refine (r_civil _ _).mono ?_
  rintro e w1 ⟨he, hb⟩
  rw [HC.out.1, HC.out.2.1, HC.out.2.2.1, HC.out.2.2.2] at he
  subst he
  have hb := hb.drew
  go_wp2_with fail
  have hs3 : (3 : Int) ≤ (N.size : Int) := by omega
  have hmin : min 3 N.size = 3 := by omega
  have hwr : IntKind.i64.wrap ((T : Int) / 86400) = (T : Int) / 86400 := IntWalk.i64_in _ (by omega)
  go_region_held3 (fun _ => True) (trivial) (first
    | (go_at_call 108; refine (r_weekday ((T : Int) / 86400) (by omega) _).mono ?_; rintro e w' ⟨he, rfl⟩; rw [HW.out] at he; subst he)
    | (go_at_call 107; refine (C1.out _).mono ?_; rintro e w2 ⟨rfl, hb2⟩; have hb := below_then hb hb2; clear hb2)
    | (go_at_call 109; refine (r_pad _ _ (by omega) (by omega) _).mono ?_; rintro e w3 ⟨he, hb3⟩; have hb := below_then hb hb3; clear hb3; first | (rw [HA.out] at he; subst he) | (rw [HCC.out] at he; subst he))
    | (go_at_call 103; refine (C3.out _).mono ?_; rintro e w' ⟨rfl, rfl⟩)
    | (go_at_call 110; refine (C5.out _).mono ?_; rintro e w5 ⟨rfl, hb5⟩; have hb := below_then hb hb5; clear hb5))
  go_wp2_with fail
  go_ret
  exact ⟨by rw [HR.out]; rfl, hb⟩

end Go.Proofs.YtfmaaghmbnhikaaGreatDoor
end

/-
  Contract of the reference's Plain (layer 7).
-/
section
namespace Go.Proofs.YtfmaaghmbnhikaaGreatDoor
open Go.RowKit

set_option maxHeartbeats 3000000 in
set_option maxRecDepth 100000 in
theorem r_plain7 (t : Int) (h0 : -9223372036854775808 ≤ t ∧ t ≤ 9223372036854775807) (w : World) :
    Calls Tryz.prog 70 #[.int .i64 t] w fun e w' => e = .returned (.string (mkS (plnI t))) ∧ Below w.heap.size w w' := by
  by_cases k0 : t < 0
  · have HR : Hid (plnI t = []) := by show _ = _; unfold plnI; rw [if_neg (by omega)]
    go_enter Tryz.func70, Tryz.ntmps70
    go_wp2_with fail
    go_ret
    exact ⟨by rw [HR.out]; rfl, Below.refl _ _⟩
  by_cases k1 : 253402300799 < t
  · have HR : Hid (plnI t = []) := by show _ = _; unfold plnI; rw [if_neg (by omega)]
    go_enter Tryz.func70, Tryz.ntmps70
    go_wp2_with fail
    go_ret
    exact ⟨by rw [HR.out]; rfl, Below.refl _ _⟩
  obtain ⟨T, rfl⟩ := Int.eq_ofNat_of_zero_le (show 0 ≤ t by omega)
  obtain ⟨Y, M, E, hp⟩ := parts_of T (by omega)
  have hc := hp.civil
  have hw := hp.wd
  obtain ⟨⟨b1, b2⟩, ⟨b3, b4⟩, b5, b6⟩ := hp.bd
  have hci := hp.civ
  have hle := hp.le
  have hwl := wd_lt (T / 86400)
  have HR : Hid (mkS (plnI (T : Int)) = (mkS (dayL (wdD (T / 86400)))).extract 0 3 ++ (⟨#[32]⟩ : ByteArray) ++ mkS (monL M) ++ (⟨#[32]⟩ : ByteArray) ++ mkS (twoL E) ++ (⟨#[32]⟩ : ByteArray) ++ mkS (clkL T) ++ (⟨#[32]⟩ : ByteArray) ++ mkS (padL (Y : Int) 4)) := by
    show _ = _
    unfold plnI
    rw [if_pos ⟨by omega, by omega⟩, Int.toNat_natCast]
    unfold plnL
    rw [hci, day3, show (⟨#[32]⟩ : ByteArray) = mkS [32] from rfl]
    simp only [mkS_append]
  have a1 := day_size _ hwl
  have a2 : (mkS (twoL E)).size = 2 := by rw [mkS_size, two_of (by omega)]
  have a3 := mon_size M b3 b4
  have a4 := pad4_size Y b1 b2
  have a5 := clk_size T
  have c1 := fun W => r_day (wdD (T / 86400)) hwl W
  have c2 := fun W => r_plain (E : Int) (by omega) (by omega) W
  have htwo : (E < 10 ∧ mkS (twoL E) = (⟨#[32]⟩ : ByteArray) ++ mkS (plainL (E : Int)) ∧ (mkS (plainL (E : Int))).size = 1) ∨ (10 ≤ E ∧ mkS (twoL E) = mkS (plainL (E : Int)) ∧ (mkS (plainL (E : Int))).size = 2) := by
    unfold twoL
    by_cases h : E < 10
    · refine .inl ⟨h, ?_, by rw [mkS_size, plain_one h]; rfl⟩
      rw [if_pos h, show (⟨#[32]⟩ : ByteArray) = mkS [32] from rfl, mkS_append]; rfl
    · exact .inr ⟨by omega, by rw [if_neg h], by rw [mkS_size, plain_two (by omega) (by omega)]; rfl⟩
  have c3 := fun W => r_month M b3 b4 W
  have c4 := fun W => r_pad (Y : Int) 4 (by omega) (by omega) W
  have c5 := fun W => r_clock T hle W
  generalize mkS (dayL (wdD (T / 86400))) = N at *
  generalize mkS (twoL E) = A at *
  generalize mkS (plainL (E : Int)) = X at *
  generalize mkS (monL M) = B at *
  generalize mkS (padL (Y : Int) 4) = C at *
  generalize mkS (clkL T) = K at *
  generalize wdD (T / 86400) = V at *
  have HC := Lib.hid hc
  have HW := Lib.hid hw
  have C1 := Lib.hid c1
  have C2 := Lib.hid c2
  have C3 := Lib.hid c3
  have C4 := Lib.hid c4
  have C5 := Lib.hid c5
  clear hc hw hci hp c1 c2 c3 c4 c5
  go_enter Tryz.func70, Tryz.ntmps70
  go_wp2_with fail
  refine (r_civil _ _).mono ?_
  rintro e w1 ⟨he, hb⟩
  rw [HC.out.1, HC.out.2.1, HC.out.2.2.1, HC.out.2.2.2] at he
  subst he
  go_wp2_with fail
  refine (C2.out _).mono ?_
  rintro e w2 ⟨rfl, hb2⟩
  have hb := below_then hb hb2
  clear hb2
  rcases htwo with ⟨ht1, ht2, ht3⟩ | ⟨ht1, ht2, ht3⟩
  all_goals
    subst ht2
    have hb := hb.drew
    go_wp2_with fail
    have hs3 : (3 : Int) ≤ (N.size : Int) := by omega
    have hmin : min 3 N.size = 3 := by omega
    have hwr : IntKind.i64.wrap ((T : Int) / 86400) = (T : Int) / 86400 := IntWalk.i64_in _ (by omega)
    go_region_held3 (fun _ => True) (trivial) (first
      | (go_at_call 108; refine (r_weekday ((T : Int) / 86400) (by omega) _).mono ?_; rintro e w' ⟨he, rfl⟩; rw [HW.out] at he; subst he)
      | (go_at_call 107; refine (C1.out _).mono ?_; rintro e w2 ⟨rfl, hb2⟩; have hb := below_then hb hb2; clear hb2)
      | (go_at_call 103; refine (C3.out _).mono ?_; rintro e w' ⟨rfl, rfl⟩)
      | (go_at_call 110; refine (C5.out _).mono ?_; rintro e w5 ⟨rfl, hb5⟩; have hb := below_then hb hb5; clear hb5)
      | (go_at_call 109; refine (C4.out _).mono ?_; rintro e w4 ⟨rfl, hb4⟩; have hb := below_then hb hb4; clear hb4))
    go_wp2_with fail
    go_ret
    exact ⟨by rw [HR.out]; rfl, hb⟩

end Go.Proofs.YtfmaaghmbnhikaaGreatDoor
end
