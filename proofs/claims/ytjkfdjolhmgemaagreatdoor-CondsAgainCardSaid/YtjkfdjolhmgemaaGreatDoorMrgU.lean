/-
  Texts that the laws of this seat lean on, one behind the other.
-/
import Derived.Test.YtjkfdjolhmgemaaGreatDoorMrgN
import Derived.Deep.RegionHeld3
import Derived.Test.YtjkfdjolhmgemaaGreatDoorMrgM
set_option linter.unusedSimpArgs false
set_option linter.unusedVariables false
/-
  Contracts of the reference's three forms (layer 7): Format, Old, Plain.
-/
section
namespace Go.Proofs.YtjkfdjolhmgemaaGreatDoor
open Go.RowKit

/-- A time's parts: its day, the date of the day, and what contracts answer of them. -/
structure Parts (T Y M E : Nat) : Prop where
  date : IsDate Y M E (T / 86400)
  civ : civ (T / 86400) = (Y, M, E)
  le : T ≤ 253402300799
theorem parts_of (T : Nat) (h : T ≤ 253402300799) : ∃ Y M E, Parts T Y M E := by
  have hd := civ_bd T h
  exact ⟨_, _, _, hd, rfl, h⟩
theorem Parts.civil {T Y M E : Nat} (h : Parts T Y M E) : civ1 ((T : Int) / 86400) = Y ∧ civ2 ((T : Int) / 86400) = M ∧ civ3 ((T : Int) / 86400) = E ∧ civB ((T : Int) / 86400) = true := by
  rw [show (T : Int) / 86400 = ((T / 86400 : Nat) : Int) by omega]
  exact civ_is h.date (by have := h.le; omega)
theorem Parts.wd {T Y M E : Nat} (_h : Parts T Y M E) : wdN ((T : Int) / 86400) = ((wdD (T / 86400) : Nat) : Int) := by
  rw [show (T : Int) / 86400 = ((T / 86400 : Nat) : Int) by omega]
  exact wd_int _
theorem Parts.bd {T Y M E : Nat} (h : Parts T Y M E) : (1970 ≤ Y ∧ Y ≤ 9999) ∧ (1 ≤ M ∧ M ≤ 12) ∧ 1 ≤ E ∧ E ≤ 31 := by
  have v := h.date.v
  have := long_bd Y M v.m0 v.m1
  have := v.d1
  exact ⟨⟨v.y0, v.y1⟩, ⟨v.m0, v.m1⟩, v.d0, by omega⟩
theorem day3 (n : Nat) : (mkS (dayL n)).extract 0 3 = mkS ((dayL n).take 3) := by rw [piece_ext]; rfl
theorem day_size (n : Nat) (h : n < 7) : 6 ≤ (mkS (dayL n)).size ∧ (mkS (dayL n)).size ≤ 9 := by
  have := day_len n h
  rw [mkS_size]; exact ⟨this.1, this.2.1⟩
theorem mon_size (m : Nat) (h0 : 1 ≤ m) (h1 : m ≤ 12) : (mkS (monL m)).size = 3 := by rw [mkS_size, mon_len m h0 h1]
theorem pad4_size (y : Nat) (h0 : 1970 ≤ y) (h1 : y ≤ 9999) : (mkS (padL (y : Int) 4)).size = 4 := by rw [mkS_size, pad_four (by omega) (by omega)]; rfl
theorem clk_size (t : Nat) : (mkS (clkL t)).size = 8 := by rw [mkS_size, clk_eq]; rfl

set_option maxHeartbeats 1000000 in
theorem r_old (t : Int) (h0 : -9223372036854775808 ≤ t ∧ t ≤ 9223372036854775807) (w : World) :
    Calls Tryz.prog 91 #[.int .i64 t] w fun e w' => e = .returned (.string (mkS (oldI t))) ∧ Below w.heap.size w w' := by
  by_cases k0 : t < 0
  · have HR : Hid (oldI t = []) := by show _ = _; unfold oldI; rw [if_neg (by omega)]
    go_enter Tryz.func91, Tryz.ntmps91
    go_wp2_with fail
    go_ret
    exact ⟨by rw [HR.out]; rfl, Below.refl _ _⟩
  by_cases k1 : 3155759999 < t
  · have HR : Hid (oldI t = []) := by show _ = _; unfold oldI; rw [if_neg (by omega)]
    go_enter Tryz.func91, Tryz.ntmps91
    go_wp2_with fail
    go_ret
    exact ⟨by rw [HR.out]; rfl, Below.refl _ _⟩
  obtain ⟨T, rfl⟩ := Int.eq_ofNat_of_zero_le (show 0 ≤ t by omega)
  obtain ⟨Y, M, E, hp⟩ := parts_of T (by omega)
  have hc := hp.civil
  have hw := hp.wd
  obtain ⟨⟨b1, b2⟩, ⟨b3, b4⟩, b5, b6⟩ := hp.bd
  have hci := hp.civ
  have hle := hp.le
  have hwl := wd_lt (T / 86400)
  have HR : Hid (mkS (oldI (T : Int)) = mkS (dayL (wdD (T / 86400))) ++ (⟨#[44, 32]⟩ : ByteArray) ++ mkS (padL (E : Int) 2) ++ (⟨#[45]⟩ : ByteArray) ++ mkS (monL M) ++ (⟨#[45]⟩ : ByteArray) ++ mkS (padL ((Y % 100 : Nat) : Int) 2) ++ (⟨#[32]⟩ : ByteArray) ++ mkS (clkL T) ++ (⟨#[32, 71, 77, 84]⟩ : ByteArray)) := by
    show _ = _
    unfold oldI
    rw [if_pos ⟨by omega, by omega⟩, Int.toNat_natCast]
    unfold oldL
    rw [hci, show (⟨#[45]⟩ : ByteArray) = mkS [45] from rfl, show (⟨#[44, 32]⟩ : ByteArray) = mkS [44, 32] from rfl, show (⟨#[32]⟩ : ByteArray) = mkS [32] from rfl, show (⟨#[32, 71, 77, 84]⟩ : ByteArray) = mkS [32, 71, 77, 84] from rfl]
    simp only [mkS_append]
  have a1 := day_size _ hwl
  have a2 := pad2_size E (by omega)
  have a3 := mon_size M b3 b4
  have a4 := pad2_size (Y % 100) (by omega)
  have a5 := clk_size T
  have c1 := fun W => r_day (wdD (T / 86400)) hwl W
  have c2 := fun W => r_pad (E : Int) 2 (by omega) (by omega) W
  have c3 := fun W => r_month M b3 b4 W
  have c4 := fun W => r_pad ((Y % 100 : Nat) : Int) 2 (by omega) (by omega) W
  have c5 := fun W => r_clock T hle W
  generalize mkS (dayL (wdD (T / 86400))) = N at *
  generalize mkS (padL (E : Int) 2) = A at *
  generalize mkS (monL M) = B at *
  generalize mkS (padL ((Y % 100 : Nat) : Int) 2) = C at *
  generalize mkS (clkL T) = K at *
  generalize wdD (T / 86400) = V at *
  have HC := Lib.hid hc
  have HW := Lib.hid hw
  have C1 := Lib.hid c1
  have C2 := Lib.hid c2
  have C3 := Lib.hid c3
  have C4 := Lib.hid c4
  have C5 := Lib.hid c5
  clear hc hw hci hp c1 c2 c3 c4 c5
  go_enter Tryz.func91, Tryz.ntmps91
  go_wp2_with fail
  refine (r_civil _ _).mono ?_
  rintro e w1 ⟨he, hb⟩
  rw [HC.out.1, HC.out.2.1, HC.out.2.2.1, HC.out.2.2.2] at he
  subst he
  go_wp2_with fail
  refine (r_weekday ((T : Int) / 86400) (by omega) _).mono ?_
  rintro e w' ⟨he, rfl⟩
  rw [HW.out] at he
  subst he
  go_wp2_with fail
  refine (C1.out _).mono ?_
  rintro e w2 ⟨rfl, hb2⟩
  have hb := below_then hb hb2
  clear hb2
  go_wp2_with fail
  refine (C2.out _).mono ?_
  rintro e w3 ⟨rfl, hb3⟩
  have hb := below_then hb hb3
  clear hb3
  go_wp2_with fail
  refine (C3.out _).mono ?_
  rintro e w' ⟨rfl, rfl⟩
  go_wp2_with fail
  rw [show ((Y : Int) % 100) = ((Y % 100 : Nat) : Int) by omega]
  refine (C4.out _).mono ?_
  rintro e w4 ⟨rfl, hb4⟩
  have hb := below_then hb hb4
  clear hb4
  go_wp2_with fail
  refine (C5.out _).mono ?_
  rintro e w5 ⟨rfl, hb5⟩
  have hb := below_then hb hb5
  clear hb5
  go_wp2_with fail
  go_ret
  exact ⟨by rw [HR.out]; rfl, hb⟩

end Go.Proofs.YtjkfdjolhmgemaaGreatDoor
end

/-
  Contract of the reference's Format (layer 7).
-/
section
namespace Go.Proofs.YtjkfdjolhmgemaaGreatDoor
open Go.RowKit

set_option maxHeartbeats 3000000 in
set_option maxRecDepth 100000 in
theorem r_format (t : Int) (h0 : -9223372036854775808 ≤ t ∧ t ≤ 9223372036854775807) (w : World) :
    Calls Tryz.prog 90 #[.int .i64 t] w fun e w' => e = .returned (.string (mkS (fmtI t))) ∧ Below w.heap.size w w' := by
  by_cases k0 : t < 0
  · have HR : Hid (fmtI t = []) := by show _ = _; unfold fmtI; rw [if_neg (by omega)]
    go_enter Tryz.func90, Tryz.ntmps90
    go_wp2_with fail
    go_ret
    exact ⟨by rw [HR.out]; rfl, Below.refl _ _⟩
  by_cases k1 : 253402300799 < t
  · have HR : Hid (fmtI t = []) := by show _ = _; unfold fmtI; rw [if_neg (by omega)]
    go_enter Tryz.func90, Tryz.ntmps90
    go_wp2_with fail
    go_ret
    exact ⟨by rw [HR.out]; rfl, Below.refl _ _⟩
  obtain ⟨T, rfl⟩ := Int.eq_ofNat_of_zero_le (show 0 ≤ t by omega)
  obtain ⟨Y, M, E, hp⟩ := parts_of T (by omega)
  have hc := hp.civil
  have hw := hp.wd
  obtain ⟨⟨b1, b2⟩, ⟨b3, b4⟩, b5, b6⟩ := hp.bd
  have hci := hp.civ
  have hle := hp.le
  have hwl := wd_lt (T / 86400)
  have HR : Hid (mkS (fmtI (T : Int)) = (mkS (dayL (wdD (T / 86400)))).extract 0 3 ++ (⟨#[44, 32]⟩ : ByteArray) ++ mkS (padL (E : Int) 2) ++ (⟨#[32]⟩ : ByteArray) ++ mkS (monL M) ++ (⟨#[32]⟩ : ByteArray) ++ mkS (padL (Y : Int) 4) ++ (⟨#[32]⟩ : ByteArray) ++ mkS (clkL T) ++ (⟨#[32, 71, 77, 84]⟩ : ByteArray)) := by
    show _ = _
    unfold fmtI
    rw [if_pos ⟨by omega, by omega⟩, Int.toNat_natCast]
    unfold fmtL
    rw [hci, day3, show (⟨#[44, 32]⟩ : ByteArray) = mkS [44, 32] from rfl, show (⟨#[32]⟩ : ByteArray) = mkS [32] from rfl, show (⟨#[32, 71, 77, 84]⟩ : ByteArray) = mkS [32, 71, 77, 84] from rfl]
    simp only [mkS_append]
  have a1 := day_size _ hwl
  have a2 := pad2_size E (by omega)
  have a3 := mon_size M b3 b4
  have a4 := pad4_size Y b1 b2
  have a5 := clk_size T
  have c1 := fun W => r_day (wdD (T / 86400)) hwl W
  have c3 := fun W => r_month M b3 b4 W
  have c5 := fun W => r_clock T hle W
  generalize mkS (dayL (wdD (T / 86400))) = N at *
  generalize hA : mkS (padL (E : Int) 2) = A at *
  have HA := Lib.hid hA
  clear hA
  generalize mkS (monL M) = B at *
  generalize hCC : mkS (padL (Y : Int) 4) = C at *
  have HCC := Lib.hid hCC
  clear hCC
  generalize mkS (clkL T) = K at *
  generalize wdD (T / 86400) = V at *
  have HC := Lib.hid hc
  have HW := Lib.hid hw
  have C1 := Lib.hid c1
  have C3 := Lib.hid c3
  have C5 := Lib.hid c5
  clear hc hw hci hp c1 c3 c5
  go_enter Tryz.func90, Tryz.ntmps90
  go_wp2_with fail
  refine (r_civil _ _).mono ?_
  rintro e w1 ⟨he, hb⟩
  rw [HC.out.1, HC.out.2.1, HC.out.2.2.1, HC.out.2.2.2] at he
  subst he
  have hb := hb.drew
  go_wp2_with fail
  have hs3 : (3 : Int) ≤ (N.size : Int) := by omega
  have hmin : min 3 N.size = 3 := by omega
  have hwr : IntKind.i64.wrap ((T : Int) / 86400) = (T : Int) / 86400 := IntWalk.i64_in _ (by omega)
  go_region_held3 (fun _ => True) (trivial) (first
    | (go_at_call 118; refine (r_weekday ((T : Int) / 86400) (by omega) _).mono ?_; rintro e w' ⟨he, rfl⟩; rw [HW.out] at he; subst he)
    | (go_at_call 117; refine (C1.out _).mono ?_; rintro e w2 ⟨rfl, hb2⟩; have hb := below_then hb hb2; clear hb2)
    | (go_at_call 119; refine (r_pad _ _ (by omega) (by omega) _).mono ?_; rintro e w3 ⟨he, hb3⟩; have hb := below_then hb hb3; clear hb3; first | (rw [HA.out] at he; subst he) | (rw [HCC.out] at he; subst he))
    | (go_at_call 113; refine (C3.out _).mono ?_; rintro e w' ⟨rfl, rfl⟩)
    | (go_at_call 120; refine (C5.out _).mono ?_; rintro e w5 ⟨rfl, hb5⟩; have hb := below_then hb hb5; clear hb5))
  go_wp2_with fail
  go_ret
  exact ⟨by rw [HR.out]; rfl, hb⟩

end Go.Proofs.YtjkfdjolhmgemaaGreatDoor
end

/-
  Contract of the reference's Plain (layer 7).
-/
section
namespace Go.Proofs.YtjkfdjolhmgemaaGreatDoor
open Go.RowKit

set_option maxHeartbeats 3000000 in
set_option maxRecDepth 100000 in
theorem r_plain7 (t : Int) (h0 : -9223372036854775808 ≤ t ∧ t ≤ 9223372036854775807) (w : World) :
    Calls Tryz.prog 92 #[.int .i64 t] w fun e w' => e = .returned (.string (mkS (plnI t))) ∧ Below w.heap.size w w' := by
  by_cases k0 : t < 0
  · have HR : Hid (plnI t = []) := by show _ = _; unfold plnI; rw [if_neg (by omega)]
    go_enter Tryz.func92, Tryz.ntmps92
    go_wp2_with fail
    go_ret
    exact ⟨by rw [HR.out]; rfl, Below.refl _ _⟩
  by_cases k1 : 253402300799 < t
  · have HR : Hid (plnI t = []) := by show _ = _; unfold plnI; rw [if_neg (by omega)]
    go_enter Tryz.func92, Tryz.ntmps92
    go_wp2_with fail
    go_ret
    exact ⟨by rw [HR.out]; rfl, Below.refl _ _⟩
  obtain ⟨T, rfl⟩ := Int.eq_ofNat_of_zero_le (show 0 ≤ t by omega)
  obtain ⟨Y, M, E, hp⟩ := parts_of T (by omega)
  have hc := hp.civil
  have hw := hp.wd
  obtain ⟨⟨b1, b2⟩, ⟨b3, b4⟩, b5, b6⟩ := hp.bd
  have hci := hp.civ
  have hle := hp.le
  have hwl := wd_lt (T / 86400)
  have HR : Hid (mkS (plnI (T : Int)) = (mkS (dayL (wdD (T / 86400)))).extract 0 3 ++ (⟨#[32]⟩ : ByteArray) ++ mkS (monL M) ++ (⟨#[32]⟩ : ByteArray) ++ mkS (twoL E) ++ (⟨#[32]⟩ : ByteArray) ++ mkS (clkL T) ++ (⟨#[32]⟩ : ByteArray) ++ mkS (padL (Y : Int) 4)) := by
    show _ = _
    unfold plnI
    rw [if_pos ⟨by omega, by omega⟩, Int.toNat_natCast]
    unfold plnL
    rw [hci, day3, show (⟨#[32]⟩ : ByteArray) = mkS [32] from rfl]
    simp only [mkS_append]
  have a1 := day_size _ hwl
  have a2 : (mkS (twoL E)).size = 2 := by rw [mkS_size, two_of (by omega)]
  have a3 := mon_size M b3 b4
  have a4 := pad4_size Y b1 b2
  have a5 := clk_size T
  have c1 := fun W => r_day (wdD (T / 86400)) hwl W
  have c2 := fun W => r_plain (E : Int) (by omega) (by omega) W
  have htwo : (E < 10 ∧ mkS (twoL E) = (⟨#[32]⟩ : ByteArray) ++ mkS (plainL (E : Int)) ∧ (mkS (plainL (E : Int))).size = 1) ∨ (10 ≤ E ∧ mkS (twoL E) = mkS (plainL (E : Int)) ∧ (mkS (plainL (E : Int))).size = 2) := by
    unfold twoL
    by_cases h : E < 10
    · refine .inl ⟨h, ?_, by rw [mkS_size, plain_one h]; rfl⟩
      rw [if_pos h, show (⟨#[32]⟩ : ByteArray) = mkS [32] from rfl, mkS_append]; rfl
    · exact .inr ⟨by omega, by rw [if_neg h], by rw [mkS_size, plain_two (by omega) (by omega)]; rfl⟩
  have c3 := fun W => r_month M b3 b4 W
  have c4 := fun W => r_pad (Y : Int) 4 (by omega) (by omega) W
  have c5 := fun W => r_clock T hle W
  generalize mkS (dayL (wdD (T / 86400))) = N at *
  generalize mkS (twoL E) = A at *
  generalize mkS (plainL (E : Int)) = X at *
  generalize mkS (monL M) = B at *
  generalize mkS (padL (Y : Int) 4) = C at *
  generalize mkS (clkL T) = K at *
  generalize wdD (T / 86400) = V at *
  have HC := Lib.hid hc
  have HW := Lib.hid hw
  have C1 := Lib.hid c1
  have C2 := Lib.hid c2
  have C3 := Lib.hid c3
  have C4 := Lib.hid c4
  have C5 := Lib.hid c5
  clear hc hw hci hp c1 c2 c3 c4 c5
  go_enter Tryz.func92, Tryz.ntmps92
  go_wp2_with fail
  refine (r_civil _ _).mono ?_
  rintro e w1 ⟨he, hb⟩
  rw [HC.out.1, HC.out.2.1, HC.out.2.2.1, HC.out.2.2.2] at he
  subst he
  go_wp2_with fail
  refine (C2.out _).mono ?_
  rintro e w2 ⟨rfl, hb2⟩
  have hb := below_then hb hb2
  clear hb2
  rcases htwo with ⟨ht1, ht2, ht3⟩ | ⟨ht1, ht2, ht3⟩
  all_goals
    subst ht2
    have hb := hb.drew
    go_wp2_with fail
    have hs3 : (3 : Int) ≤ (N.size : Int) := by omega
    have hmin : min 3 N.size = 3 := by omega
    have hwr : IntKind.i64.wrap ((T : Int) / 86400) = (T : Int) / 86400 := IntWalk.i64_in _ (by omega)
    go_region_held3 (fun _ => True) (trivial) (first
      | (go_at_call 118; refine (r_weekday ((T : Int) / 86400) (by omega) _).mono ?_; rintro e w' ⟨he, rfl⟩; rw [HW.out] at he; subst he)
      | (go_at_call 117; refine (C1.out _).mono ?_; rintro e w2 ⟨rfl, hb2⟩; have hb := below_then hb hb2; clear hb2)
      | (go_at_call 113; refine (C3.out _).mono ?_; rintro e w' ⟨rfl, rfl⟩)
      | (go_at_call 120; refine (C5.out _).mono ?_; rintro e w5 ⟨rfl, hb5⟩; have hb := below_then hb hb5; clear hb5)
      | (go_at_call 119; refine (C4.out _).mono ?_; rintro e w4 ⟨rfl, hb4⟩; have hb := below_then hb hb4; clear hb4))
    go_wp2_with fail
    go_ret
    exact ⟨by rw [HR.out]; rfl, hb⟩

end Go.Proofs.YtjkfdjolhmgemaaGreatDoor
end

/-
  Contracts of the reference's digits and time (layer 7).
-/
section
namespace Go.Proofs.YtjkfdjolhmgemaaGreatDoor
open Go.RowKit

/-- The number of n digits at a place of a text, or -1. -/
def dgtN (s : ByteArray) (a : Int) (n : Nat) : Int :=
  if 0 ≤ a ∧ a + n ≤ s.size then (if numE 10 18 9999 (piece s a.toNat (a.toNat + n)) = 0 then numN 10 18 9999 (piece s a.toNat (a.toNat + n)) else -1) else -1
theorem numN_bd (l : List UInt8) (h : numE 10 18 9999 l = 0) : 0 ≤ numN 10 18 9999 l ∧ numN 10 18 9999 l ≤ 9999 := by
  have hv := valV_nn (b := 10) (by omega) l
  unfold numE at h
  unfold numN
  split at h
  · cases h
  · split at h
    · cases h
    · split <;> omega
theorem dgtN_bd (s : ByteArray) (a : Int) (n : Nat) : -1 ≤ dgtN s a n ∧ dgtN s a n ≤ 9999 := by
  unfold dgtN
  split
  · split
    · rename_i h
      have := numN_bd _ h
      omega
    · omega
  · omega

theorem r_digits7 (s : ByteArray) (a : Int) (n : Nat) (hs : s.size ≤ 1000000000) (ha : -2000000000 ≤ a ∧ a ≤ 2000000000) (hn : n ≤ 4) (w : World) :
    Calls Tryz.prog 89 #[.string s, .int .i64 a, .int .i64 n] w fun e w' => e = .returned (.int .i64 (dgtN s a n)) ∧ w = w' := by
  by_cases h0 : a < 0
  · have HR : Hid (dgtN s a n = -1) := by show _ = _; unfold dgtN; rw [if_neg (by omega)]
    go_enter Tryz.func89, Tryz.ntmps89
    go_wp2_with fail
    go_ret
    exact ⟨by rw [HR.out]; rfl, rfl⟩
  by_cases h1 : (s.size : Int) < a + n
  · have HR : Hid (dgtN s a n = -1) := by show _ = _; unfold dgtN; rw [if_neg (by omega)]
    go_enter Tryz.func89, Tryz.ntmps89
    go_wp2_with fail
    go_ret
    exact ⟨by rw [HR.out]; rfl, rfl⟩
  obtain ⟨A, rfl⟩ := Int.eq_ofNat_of_zero_le (show 0 ≤ a by omega)
  have hx1 : (A : Int) + n ≤ (s.size : Int) := by omega
  have hx2 : (A : Int) ≤ (A : Int) + n := by omega
  have hx3 : (0 : Int) ≤ (A : Int) + n := by omega
  have hx4 : ((A : Int) + n).toNat = A + n := by omega
  have hp : (s.extract A (A + n)).data.toList = piece s A (A + n) := by rw [piece_ext]; rfl
  have c1 := fun W => r_number_any (s.extract A (A + n)) 9999 W (by unfold maxLen; simp; omega)
  rw [hp] at c1
  have hd : dgtN s (A : Int) n = if numE 10 18 9999 (piece s A (A + n)) = 0 then numN 10 18 9999 (piece s A (A + n)) else -1 := by
    unfold dgtN
    rw [if_pos ⟨by omega, by omega⟩, Int.toNat_natCast]
  rw [hd]
  clear hd hp
  generalize numN 10 18 9999 (piece s A (A + n)) = N at *
  generalize numE 10 18 9999 (piece s A (A + n)) = E at *
  have C1 := Lib.hid c1
  clear c1
  by_cases hE : E = 0
  · subst hE
    rw [if_pos rfl]
    go_enter Tryz.func89, Tryz.ntmps89
    go_wp2_with fail
    refine (C1.out _).mono ?_
    rintro e w' ⟨rfl, rfl⟩
    go_wp2_with fail
    go_ret
    exact ⟨rfl, rfl⟩
  · rw [if_neg hE]
    have hEb : (E == 0) = false := by rw [beq_eq_false_iff_ne]; exact hE
    go_enter Tryz.func89, Tryz.ntmps89
    go_wp2_with fail
    refine (C1.out _).mono ?_
    rintro e w' ⟨rfl, rfl⟩
    go_wp2_with fail
    go_ret
    exact ⟨rfl, rfl⟩

/-- The month of a name, or 13. -/
def mFind (l : List UInt8) : Nat → Nat → Nat
  | 0, m => m
  | f + 1, m => if monL m = l then m else mFind l f (m + 1)
def mIdx (l : List UInt8) : Nat := mFind l 12 1
theorem mFind_hit (l : List UInt8) (f m : Nat) (h : monL m = l) : mFind l (f + 1) m = m := by simp [mFind, h]
theorem mFind_miss (l : List UInt8) (f m : Nat) (h : ¬ monL m = l) : mFind l (f + 1) m = mFind l f (m + 1) := by simp [mFind, h]

/-- What a month and a clock of a date come to, or -1. -/
def sumN7 (y m d h i j : Int) : Int := if dayB y m d = true ∧ 0 ≤ h ∧ h ≤ 23 ∧ 0 ≤ i ∧ i ≤ 59 ∧ 0 ≤ j ∧ j ≤ 59 then dayV y m d * 86400 + h * 3600 + i * 60 + j else -1
def timN (s : ByteArray) (y a d k : Int) : Int :=
  if 0 ≤ a ∧ a + 3 ≤ s.size then
    (if mIdx (piece s a.toNat (a.toNat + 3)) = 13 then -1 else sumN7 y (mIdx (piece s a.toNat (a.toNat + 3)) : Nat) d (dgtN s k 2) (dgtN s (k + 3) 2) (dgtN s (k + 6) 2))
  else -1
theorem dayV_bd (y m d : Int) : 0 ≤ dayV y m d ∧ dayV y m d ≤ 2932896 := by
  unfold dayV
  split
  · rename_i h
    have := h.nat.le
    omega
  · omega

set_option maxHeartbeats 8000000 in
set_option maxRecDepth 100000 in
theorem r_time (s : ByteArray) (y a d k : Int) (hs : s.size ≤ 1000000000) (hy : -1000000 ≤ y ∧ y ≤ 1000000) (ha : -1000000000 ≤ a ∧ a ≤ 1000000100) (hd : -1000000 ≤ d ∧ d ≤ 1000000) (hk : -1000000000 ≤ k ∧ k ≤ 1000000100) (w : World) :
    Calls Tryz.prog 88 #[.string s, .int .i64 y, .int .i64 a, .int .i64 d, .int .i64 k] w fun e w' => e = .returned (.int .i64 (timN s y a d k)) ∧ Below w.heap.size w w' := by
  by_cases h0 : a < 0
  · have HR : Hid (timN s y a d k = -1) := by show _ = _; unfold timN; rw [if_neg (by omega)]
    go_enter Tryz.func88, Tryz.ntmps88
    go_wp2_with fail
    go_ret
    exact ⟨by rw [HR.out]; rfl, Below.refl _ _⟩
  by_cases h1 : (s.size : Int) < a + 3
  · have HR : Hid (timN s y a d k = -1) := by show _ = _; unfold timN; rw [if_neg (by omega)]
    go_enter Tryz.func88, Tryz.ntmps88
    go_wp2_with fail
    go_ret
    exact ⟨by rw [HR.out]; rfl, Below.refl _ _⟩
  obtain ⟨A, rfl⟩ := Int.eq_ofNat_of_zero_le (show 0 ≤ a by omega)
  have hx1 : (A : Int) + 3 ≤ (s.size : Int) := by omega
  have hx2 : (A : Int) ≤ (A : Int) + 3 := by omega
  have hx4 : ((A : Int) + 3).toNat = A + 3 := by omega
  have hx3 : (0 : Int) ≤ (A : Int) + 3 := by omega
  have hxw := Lib.hid (show IntKind.i64.wrap ((A : Int) + 3) = (A : Int) + 3 from IntWalk.i64_in _ (by omega))
  have ht : timN s y (A : Int) d k = if mIdx (piece s A (A + 3)) = 13 then -1 else sumN7 y (mIdx (piece s A (A + 3)) : Nat) d (dgtN s k 2) (dgtN s (k + 3) 2) (dgtN s (k + 6) 2) := by
    unfold timN
    rw [if_pos ⟨by omega, by omega⟩, Int.toNat_natCast]
  rw [ht]
  have HX := Lib.hid (piece_ext s A (A + 3))
  obtain ⟨l, hl⟩ : ∃ l, l = piece s A (A + 3) := ⟨_, rfl⟩
  rw [← hl] at HX ⊢
  clear ht hl
  have c1 := fun W => r_digits7 s k 2 hs (by omega) (by omega) W
  have c2 := fun W => r_digits7 s (k + 3) 2 hs (by omega) (by omega) W
  have c3 := fun W => r_digits7 s (k + 6) 2 hs (by omega) (by omega) W
  have d1 := dgtN_bd s k 2
  have d2 := dgtN_bd s (k + 3) 2
  have d3 := dgtN_bd s (k + 6) 2
  generalize dgtN s k 2 = H at *
  generalize dgtN s (k + 3) 2 = I at *
  generalize dgtN s (k + 6) 2 = J at *
  have C1 := Lib.hid c1
  have C2 := Lib.hid c2
  have C3 := Lib.hid c3
  clear c1 c2 c3
  obtain ⟨R, hR⟩ : ∃ R : Int, R = (if mIdx l = 13 then -1 else sumN7 y (mIdx l : Nat) d H I J) := ⟨_, rfl⟩
  rw [← hR]
  have HRR := Lib.hid hR
  clear hR
  go_enter Tryz.func88, Tryz.ntmps88
  go_wp2_with fail
  go_loopw [11] (fun i wr => ∃ m : Nat, 1 ≤ m ∧ m ≤ 13 ∧ i = .int .i64 m ∧ Hid (mIdx l = mFind l (13 - m) m) ∧ Below w.heap.size w wr) (fun i _ => 13 - (intOf i).toNat)
  case atStart => exact ⟨1, by omega, by omega, rfl, rfl, Below.refl _ _⟩
  case round =>
    obtain ⟨m, hm1, hm2, rfl, hf, hbel⟩ := hrel
    by_cases hm12 : m ≤ 12
    · have HC := same_list (monL m) l
      rw [← HX.out] at HC
      by_cases hmon : monL m = l
      · have hcmp : ((mkS (monL m)).toList == (s.extract A (A + 3)).toList) = true := by rw [HC, hmon]; simp
        have HM : Hid (mIdx l = m) := by
          show _ = _
          rw [hf.out, show 13 - m = (12 - m) + 1 by omega, mFind_hit _ _ _ hmon]
        have hv := dayV_bd y (m : Int) d
        have D1 := fun W => r_days y (m : Int) d (by omega) (by omega) (by omega) W
        obtain ⟨V, hV⟩ : ∃ V, V = dayV y (m : Int) d := ⟨_, rfl⟩
        obtain ⟨B, hB⟩ : ∃ B, B = dayB y (m : Int) d := ⟨_, rfl⟩
        have HV := Lib.hid hV
        have HBB := Lib.hid hB
        rw [← hV] at hv D1
        rw [← hB] at D1
        have D1 := Lib.hid D1
        have HI : Hid (R = sumN7 y (m : Nat) d H I J) := by
          show _ = _
          rw [HRR.out, HM.out, if_neg (by omega)]
        clear HC hmon hf hV hB
        cases B with
        | false =>
          have HS : Hid (sumN7 y (m : Nat) d H I J = -1) := by
            show _ = _
            unfold sumN7
            rw [if_neg (fun h => by have h1 := h.1; rw [← HBB.out] at h1; cases h1)]
          go_wp2_with fail
          have hbel := hbel.drew
          have hxv : IntKind.i64.wrap ((A : Int) + 3) = (A : Int) + 3 := hxw.out
          go_region_held3 (fun _ => True) (trivial) ((go_at_call 113; refine (r_month m hm1 hm12 _).mono ?_; rintro e w' ⟨rfl, rfl⟩))
          clear hxv
          go_wp2_with fail
          refine (D1.out _).mono ?_
          rintro e w2 ⟨rfl, hb2⟩
          have hbel := hbel.trans (hb2.mono hbel.size)
          clear hb2
          go_wp2_with fail
          refine (C1.out _).mono ?_
          rintro e w' ⟨rfl, rfl⟩
          go_wp2_with fail
          refine (C2.out _).mono ?_
          rintro e w' ⟨rfl, rfl⟩
          go_wp2_with fail
          refine (C3.out _).mono ?_
          rintro e w' ⟨rfl, rfl⟩
          go_wp2_with fail
          go_ret
          exact ⟨by rw [HI.out, HS.out]; rfl, hbel⟩
        | true =>
          by_cases k2 : H < 0
          · have HS : Hid (sumN7 y (m : Nat) d H I J = -1) := by
              show _ = _
              unfold sumN7
              rw [if_neg (fun h => by have h1 := h.2; omega)]
            go_wp2_with fail
            have hbel := hbel.drew
            have hxv : IntKind.i64.wrap ((A : Int) + 3) = (A : Int) + 3 := hxw.out
            go_region_held3 (fun _ => True) (trivial) ((go_at_call 113; refine (r_month m hm1 hm12 _).mono ?_; rintro e w' ⟨rfl, rfl⟩))
            clear hxv
            go_wp2_with fail
            refine (D1.out _).mono ?_
            rintro e w2 ⟨rfl, hb2⟩
            have hbel := hbel.trans (hb2.mono hbel.size)
            clear hb2
            go_wp2_with fail
            refine (C1.out _).mono ?_
            rintro e w' ⟨rfl, rfl⟩
            go_wp2_with fail
            refine (C2.out _).mono ?_
            rintro e w' ⟨rfl, rfl⟩
            go_wp2_with fail
            refine (C3.out _).mono ?_
            rintro e w' ⟨rfl, rfl⟩
            go_wp2_with fail
            go_ret
            exact ⟨by rw [HI.out, HS.out]; rfl, hbel⟩
          by_cases k3 : 23 < H
          · have HS : Hid (sumN7 y (m : Nat) d H I J = -1) := by
              show _ = _
              unfold sumN7
              rw [if_neg (fun h => by have h1 := h.2; omega)]
            go_wp2_with fail
            have hbel := hbel.drew
            have hxv : IntKind.i64.wrap ((A : Int) + 3) = (A : Int) + 3 := hxw.out
            go_region_held3 (fun _ => True) (trivial) ((go_at_call 113; refine (r_month m hm1 hm12 _).mono ?_; rintro e w' ⟨rfl, rfl⟩))
            clear hxv
            go_wp2_with fail
            refine (D1.out _).mono ?_
            rintro e w2 ⟨rfl, hb2⟩
            have hbel := hbel.trans (hb2.mono hbel.size)
            clear hb2
            go_wp2_with fail
            refine (C1.out _).mono ?_
            rintro e w' ⟨rfl, rfl⟩
            go_wp2_with fail
            refine (C2.out _).mono ?_
            rintro e w' ⟨rfl, rfl⟩
            go_wp2_with fail
            refine (C3.out _).mono ?_
            rintro e w' ⟨rfl, rfl⟩
            go_wp2_with fail
            go_ret
            exact ⟨by rw [HI.out, HS.out]; rfl, hbel⟩
          by_cases k4 : I < 0
          · have HS : Hid (sumN7 y (m : Nat) d H I J = -1) := by
              show _ = _
              unfold sumN7
              rw [if_neg (fun h => by have h1 := h.2; omega)]
            go_wp2_with fail
            have hbel := hbel.drew
            have hxv : IntKind.i64.wrap ((A : Int) + 3) = (A : Int) + 3 := hxw.out
            go_region_held3 (fun _ => True) (trivial) ((go_at_call 113; refine (r_month m hm1 hm12 _).mono ?_; rintro e w' ⟨rfl, rfl⟩))
            clear hxv
            go_wp2_with fail
            refine (D1.out _).mono ?_
            rintro e w2 ⟨rfl, hb2⟩
            have hbel := hbel.trans (hb2.mono hbel.size)
            clear hb2
            go_wp2_with fail
            refine (C1.out _).mono ?_
            rintro e w' ⟨rfl, rfl⟩
            go_wp2_with fail
            refine (C2.out _).mono ?_
            rintro e w' ⟨rfl, rfl⟩
            go_wp2_with fail
            refine (C3.out _).mono ?_
            rintro e w' ⟨rfl, rfl⟩
            go_wp2_with fail
            go_ret
            exact ⟨by rw [HI.out, HS.out]; rfl, hbel⟩
          by_cases k5 : 59 < I
          · have HS : Hid (sumN7 y (m : Nat) d H I J = -1) := by
              show _ = _
              unfold sumN7
              rw [if_neg (fun h => by have h1 := h.2; omega)]
            go_wp2_with fail
            have hbel := hbel.drew
            have hxv : IntKind.i64.wrap ((A : Int) + 3) = (A : Int) + 3 := hxw.out
            go_region_held3 (fun _ => True) (trivial) ((go_at_call 113; refine (r_month m hm1 hm12 _).mono ?_; rintro e w' ⟨rfl, rfl⟩))
            clear hxv
            go_wp2_with fail
            refine (D1.out _).mono ?_
            rintro e w2 ⟨rfl, hb2⟩
            have hbel := hbel.trans (hb2.mono hbel.size)
            clear hb2
            go_wp2_with fail
            refine (C1.out _).mono ?_
            rintro e w' ⟨rfl, rfl⟩
            go_wp2_with fail
            refine (C2.out _).mono ?_
            rintro e w' ⟨rfl, rfl⟩
            go_wp2_with fail
            refine (C3.out _).mono ?_
            rintro e w' ⟨rfl, rfl⟩
            go_wp2_with fail
            go_ret
            exact ⟨by rw [HI.out, HS.out]; rfl, hbel⟩
          by_cases k6 : J < 0
          · have HS : Hid (sumN7 y (m : Nat) d H I J = -1) := by
              show _ = _
              unfold sumN7
              rw [if_neg (fun h => by have h1 := h.2; omega)]
            go_wp2_with fail
            have hbel := hbel.drew
            have hxv : IntKind.i64.wrap ((A : Int) + 3) = (A : Int) + 3 := hxw.out
            go_region_held3 (fun _ => True) (trivial) ((go_at_call 113; refine (r_month m hm1 hm12 _).mono ?_; rintro e w' ⟨rfl, rfl⟩))
            clear hxv
            go_wp2_with fail
            refine (D1.out _).mono ?_
            rintro e w2 ⟨rfl, hb2⟩
            have hbel := hbel.trans (hb2.mono hbel.size)
            clear hb2
            go_wp2_with fail
            refine (C1.out _).mono ?_
            rintro e w' ⟨rfl, rfl⟩
            go_wp2_with fail
            refine (C2.out _).mono ?_
            rintro e w' ⟨rfl, rfl⟩
            go_wp2_with fail
            refine (C3.out _).mono ?_
            rintro e w' ⟨rfl, rfl⟩
            go_wp2_with fail
            go_ret
            exact ⟨by rw [HI.out, HS.out]; rfl, hbel⟩
          by_cases k7 : 59 < J
          · have HS : Hid (sumN7 y (m : Nat) d H I J = -1) := by
              show _ = _
              unfold sumN7
              rw [if_neg (fun h => by have h1 := h.2; omega)]
            go_wp2_with fail
            have hbel := hbel.drew
            have hxv : IntKind.i64.wrap ((A : Int) + 3) = (A : Int) + 3 := hxw.out
            go_region_held3 (fun _ => True) (trivial) ((go_at_call 113; refine (r_month m hm1 hm12 _).mono ?_; rintro e w' ⟨rfl, rfl⟩))
            clear hxv
            go_wp2_with fail
            refine (D1.out _).mono ?_
            rintro e w2 ⟨rfl, hb2⟩
            have hbel := hbel.trans (hb2.mono hbel.size)
            clear hb2
            go_wp2_with fail
            refine (C1.out _).mono ?_
            rintro e w' ⟨rfl, rfl⟩
            go_wp2_with fail
            refine (C2.out _).mono ?_
            rintro e w' ⟨rfl, rfl⟩
            go_wp2_with fail
            refine (C3.out _).mono ?_
            rintro e w' ⟨rfl, rfl⟩
            go_wp2_with fail
            go_ret
            exact ⟨by rw [HI.out, HS.out]; rfl, hbel⟩
          have HS : Hid (sumN7 y (m : Nat) d H I J = V * 86400 + H * 3600 + I * 60 + J) := by
            show _ = _
            unfold sumN7
            rw [if_pos ⟨HBB.out.symm, by omega, by omega, by omega, by omega, by omega, by omega⟩, ← HV.out]
          go_wp2_with fail
          have hbel := hbel.drew
          have hxv : IntKind.i64.wrap ((A : Int) + 3) = (A : Int) + 3 := hxw.out
          go_region_held3 (fun _ => True) (trivial) ((go_at_call 113; refine (r_month m hm1 hm12 _).mono ?_; rintro e w' ⟨rfl, rfl⟩))
          clear hxv
          go_wp2_with fail
          refine (D1.out _).mono ?_
          rintro e w2 ⟨rfl, hb2⟩
          have hbel := hbel.trans (hb2.mono hbel.size)
          clear hb2
          go_wp2_with fail
          refine (C1.out _).mono ?_
          rintro e w' ⟨rfl, rfl⟩
          go_wp2_with fail
          refine (C2.out _).mono ?_
          rintro e w' ⟨rfl, rfl⟩
          go_wp2_with fail
          refine (C3.out _).mono ?_
          rintro e w' ⟨rfl, rfl⟩
          go_wp2_with fail
          go_ret
          exact ⟨by rw [HI.out, HS.out]; rfl, hbel⟩
      · have hcmp : ((mkS (monL m)).toList == (s.extract A (A + 3)).toList) = false := by rw [HC]; simpa using hmon
        have HM : Hid (mIdx l = mFind l (13 - (m + 1)) (m + 1)) := by
          show _ = _
          rw [hf.out, show 13 - m = (13 - (m + 1)) + 1 by omega, mFind_miss _ _ _ hmon]
        clear HC hmon hf
        go_wp2_with fail
        have hbel := hbel.drew
        have hxv : IntKind.i64.wrap ((A : Int) + 3) = (A : Int) + 3 := hxw.out
        go_region_held3 (fun _ => True) (trivial) ((go_at_call 113; refine (r_month m hm1 hm12 _).mono ?_; rintro e w' ⟨rfl, rfl⟩))
        clear hxv
        go_wp2_with fail
        go_roundw
        case rel => exact ⟨m + 1, by omega, by omega, by go_num, HM, hbel⟩
        case measure => simp [intOf]; omega
    · have HI : Hid (R = -1) := by
        show _ = _
        have h13 : m = 13 := by omega
        rw [HRR.out, hf.out, h13]; rfl
      clear hf
      go_wp2_with fail
      go_ret
      exact ⟨by rw [HI.out]; rfl, hbel⟩

end Go.Proofs.YtjkfdjolhmgemaaGreatDoor
end
