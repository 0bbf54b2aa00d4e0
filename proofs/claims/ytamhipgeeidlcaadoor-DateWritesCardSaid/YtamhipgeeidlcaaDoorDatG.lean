/-
  Contracts of the reference's three forms (layer 7): Format, Old, Plain.
-/
import Derived.Test.YtamhipgeeidlcaaDoorDatF
import Derived.Deep.RegionHeld3
namespace Go.Proofs.YtamhipgeeidlcaaDoor
open Go.RowKit

/-- A time's parts: its day, the date of the day, and what contracts answer of them. -/
structure Parts (T Y M E : Nat) : Prop where
  date : IsDate Y M E (T / 86400)
  civ : civ (T / 86400) = (Y, M, E)
  le : T ≤ 253402300799
theorem parts_of (T : Nat) (h : T ≤ 253402300799) : ∃ Y M E, Parts T Y M E := by
  have hd := civ_bd T h
  exact ⟨_, _, _, hd, rfl, h⟩
theorem Parts.civil {T Y M E : Nat} (h : Parts T Y M E) : civ1 ((T : Int) / 86400) = Y ∧ civ2 ((T : Int) / 86400) = M ∧ civ3 ((T : Int) / 86400) = E ∧ civB ((T : Int) / 86400) = true := by
  rw [show (T : Int) / 86400 = ((T / 86400 : Nat) : Int) by omega]
  exact civ_is h.date (by have := h.le; omega)
theorem Parts.wd {T Y M E : Nat} (_h : Parts T Y M E) : wdN ((T : Int) / 86400) = ((wdD (T / 86400) : Nat) : Int) := by
  rw [show (T : Int) / 86400 = ((T / 86400 : Nat) : Int) by omega]
  exact wd_int _
theorem Parts.bd {T Y M E : Nat} (h : Parts T Y M E) : (1970 ≤ Y ∧ Y ≤ 9999) ∧ (1 ≤ M ∧ M ≤ 12) ∧ 1 ≤ E ∧ E ≤ 31 := by
  have v := h.date.v
  have := long_bd Y M v.m0 v.m1
  have := v.d1
  exact ⟨⟨v.y0, v.y1⟩, ⟨v.m0, v.m1⟩, v.d0, by omega⟩
theorem day3 (n : Nat) : (mkS (dayL n)).extract 0 3 = mkS ((dayL n).take 3) := by rw [piece_ext]; rfl
theorem day_size (n : Nat) (h : n < 7) : 6 ≤ (mkS (dayL n)).size ∧ (mkS (dayL n)).size ≤ 9 := by
  have := day_len n h
  rw [mkS_size]; exact ⟨this.1, this.2.1⟩
theorem mon_size (m : Nat) (h0 : 1 ≤ m) (h1 : m ≤ 12) : (mkS (monL m)).size = 3 := by rw [mkS_size, mon_len m h0 h1]
theorem pad4_size (y : Nat) (h0 : 1970 ≤ y) (h1 : y ≤ 9999) : (mkS (padL (y : Int) 4)).size = 4 := by rw [mkS_size, pad_four (by omega) (by omega)]; rfl
theorem clk_size (t : Nat) : (mkS (clkL t)).size = 8 := by rw [mkS_size, clk_eq]; rfl

set_option maxHeartbeats 1000000 in
theorem r_old (t : Int) (h0 : -9223372036854775808 ≤ t ∧ t ≤ 9223372036854775807) (w : World) :
    Calls Tryd.prog 18 #[.int .i64 t] w fun e w' => e = .returned (.string (mkS (oldI t))) ∧ Below w.heap.size w w' := by
  by_cases k0 : t < 0
  · have HR : Hid (oldI t = []) := by show _ = _; unfold oldI; rw [if_neg (by omega)]
    go_enter Tryd.func18, Tryd.ntmps18
    go_wp2_with fail
    go_ret
    exact ⟨by rw [HR.out]; rfl, Below.refl _ _⟩
  by_cases k1 : 3155759999 < t
  · have HR : Hid (oldI t = []) := by show _ = _; unfold oldI; rw [if_neg (by omega)]
    go_enter Tryd.func18, Tryd.ntmps18
    go_wp2_with fail
    go_ret
    exact ⟨by rw [HR.out]; rfl, Below.refl _ _⟩
  obtain ⟨T, rfl⟩ := Int.eq_ofNat_of_zero_le (show 0 ≤ t by omega)
  obtain ⟨Y, M, E, hp⟩ := parts_of T (by omega)
  have hc := hp.civil
  have hw := hp.wd
  obtain ⟨⟨b1, b2⟩, ⟨b3, b4⟩, b5, b6⟩ := hp.bd
  have hci := hp.civ
  have hle := hp.le
  have hwl := wd_lt (T / 86400)
  have HR : Hid (mkS (oldI (T : Int)) = mkS (dayL (wdD (T / 86400))) ++ (⟨#[44, 32]⟩ : ByteArray) ++ mkS (padL (E : Int) 2) ++ (⟨#[45]⟩ : ByteArray) ++ mkS (monL M) ++ (⟨#[45]⟩ : ByteArray) ++ mkS (padL ((Y % 100 : Nat) : Int) 2) ++ (⟨#[32]⟩ : ByteArray) ++ mkS (clkL T) ++ (⟨#[32, 71, 77, 84]⟩ : ByteArray)) := by
    show _ = _
    unfold oldI
    rw [if_pos ⟨by omega, by omega⟩, Int.toNat_natCast]
    unfold oldL
    rw [hci, show (⟨#[45]⟩ : ByteArray) = mkS [45] from rfl, show (⟨#[44, 32]⟩ : ByteArray) = mkS [44, 32] from rfl, show (⟨#[32]⟩ : ByteArray) = mkS [32] from rfl, show (⟨#[32, 71, 77, 84]⟩ : ByteArray) = mkS [32, 71, 77, 84] from rfl]
    simp only [mkS_append]
  have a1 := day_size _ hwl
  have a2 := pad2_size E (by omega)
  have a3 := mon_size M b3 b4
  have a4 := pad2_size (Y % 100) (by omega)
  have a5 := clk_size T
  have c1 := fun W => r_day (wdD (T / 86400)) hwl W
  have c2 := fun W => r_pad (E : Int) 2 (by omega) (by omega) W
  have c3 := fun W => r_month M b3 b4 W
  have c4 := fun W => r_pad ((Y % 100 : Nat) : Int) 2 (by omega) (by omega) W
  have c5 := fun W => r_clock T hle W
  generalize mkS (dayL (wdD (T / 86400))) = N at *
  generalize mkS (padL (E : Int) 2) = A at *
  generalize mkS (monL M) = B at *
  generalize mkS (padL ((Y % 100 : Nat) : Int) 2) = C at *
  generalize mkS (clkL T) = K at *
  generalize wdD (T / 86400) = V at *
  have HC := Lib.hid hc
  have HW := Lib.hid hw
  have C1 := Lib.hid c1
  have C2 := Lib.hid c2
  have C3 := Lib.hid c3
  have C4 := Lib.hid c4
  have C5 := Lib.hid c5
  clear hc hw hci hp c1 c2 c3 c4 c5
  go_enter Tryd.func18, Tryd.ntmps18
  go_wp2_with fail
  refine (r_civil _ _).mono ?_
  rintro e w1 ⟨he, hb⟩
  rw [HC.out.1, HC.out.2.1, HC.out.2.2.1, HC.out.2.2.2] at he
  subst he
  go_wp2_with fail
  refine (r_weekday ((T : Int) / 86400) (by omega) _).mono ?_
  rintro e w' ⟨he, rfl⟩
  rw [HW.out] at he
  subst he
  go_wp2_with fail
  refine (C1.out _).mono ?_
  rintro e w2 ⟨rfl, hb2⟩
  have hb := below_then hb hb2
  clear hb2
  go_wp2_with fail
  refine (C2.out _).mono ?_
  rintro e w3 ⟨rfl, hb3⟩
  have hb := below_then hb hb3
  clear hb3
  go_wp2_with fail
  refine (C3.out _).mono ?_
  rintro e w' ⟨rfl, rfl⟩
  go_wp2_with fail
  rw [show ((Y : Int) % 100) = ((Y % 100 : Nat) : Int) by omega]
  refine (C4.out _).mono ?_
  rintro e w4 ⟨rfl, hb4⟩
  have hb := below_then hb hb4
  clear hb4
  go_wp2_with fail
  refine (C5.out _).mono ?_
  rintro e w5 ⟨rfl, hb5⟩
  have hb := below_then hb hb5
  clear hb5
  go_wp2_with fail
  go_ret
  exact ⟨by rw [HR.out]; rfl, hb⟩

end Go.Proofs.YtamhipgeeidlcaaDoor
