/-
  Contract of the reference's Plain (layer 7).
-/
import Derived.Test.YtamhipgeeidlcaaDoorDatG
namespace Go.Proofs.YtamhipgeeidlcaaDoor
open Go.RowKit

set_option maxHeartbeats 3000000 in
set_option maxRecDepth 100000 in
theorem r_plain7 (t : Int) (h0 : -9223372036854775808 ≤ t ∧ t ≤ 9223372036854775807) (w : World) :
    Calls Tryd.prog 20 #[.int .i64 t] w fun e w' => e = .returned (.string (mkS (plnI t))) ∧ Below w.heap.size w w' := by
  by_cases k0 : t < 0
  · have HR : Hid (plnI t = []) := by show _ = _; unfold plnI; rw [if_neg (by omega)]
    go_enter Tryd.func20, Tryd.ntmps20
    go_wp2_with fail
    go_ret
    exact ⟨by rw [HR.out]; rfl, Below.refl _ _⟩
  by_cases k1 : 253402300799 < t
  · have HR : Hid (plnI t = []) := by show _ = _; unfold plnI; rw [if_neg (by omega)]
    go_enter Tryd.func20, Tryd.ntmps20
    go_wp2_with fail
    go_ret
    exact ⟨by rw [HR.out]; rfl, Below.refl _ _⟩
  obtain ⟨T, rfl⟩ := Int.eq_ofNat_of_zero_le (show 0 ≤ t by omega)
  obtain ⟨Y, M, E, hp⟩ := parts_of T (by omega)
  have hc := hp.civil
  have hw := hp.wd
  obtain ⟨⟨b1, b2⟩, ⟨b3, b4⟩, b5, b6⟩ := hp.bd
  have hci := hp.civ
  have hle := hp.le
  have hwl := wd_lt (T / 86400)
  have HR : Hid (mkS (plnI (T : Int)) = (mkS (dayL (wdD (T / 86400)))).extract 0 3 ++ (⟨#[32]⟩ : ByteArray) ++ mkS (monL M) ++ (⟨#[32]⟩ : ByteArray) ++ mkS (twoL E) ++ (⟨#[32]⟩ : ByteArray) ++ mkS (clkL T) ++ (⟨#[32]⟩ : ByteArray) ++ mkS (padL (Y : Int) 4)) := by
    show _ = _
    unfold plnI
    rw [if_pos ⟨by omega, by omega⟩, Int.toNat_natCast]
    unfold plnL
    rw [hci, day3, show (⟨#[32]⟩ : ByteArray) = mkS [32] from rfl]
    simp only [mkS_append]
  have a1 := day_size _ hwl
  have a2 : (mkS (twoL E)).size = 2 := by rw [mkS_size, two_of (by omega)]
  have a3 := mon_size M b3 b4
  have a4 := pad4_size Y b1 b2
  have a5 := clk_size T
  have c1 := fun W => r_day (wdD (T / 86400)) hwl W
  have c2 := fun W => r_plain (E : Int) (by omega) (by omega) W
  have htwo : (E < 10 ∧ mkS (twoL E) = (⟨#[32]⟩ : ByteArray) ++ mkS (plainL (E : Int)) ∧ (mkS (plainL (E : Int))).size = 1) ∨ (10 ≤ E ∧ mkS (twoL E) = mkS (plainL (E : Int)) ∧ (mkS (plainL (E : Int))).size = 2) := by
    unfold twoL
    by_cases h : E < 10
    · refine .inl ⟨h, ?_, by rw [mkS_size, plain_one h]; rfl⟩
      rw [if_pos h, show (⟨#[32]⟩ : ByteArray) = mkS [32] from rfl, mkS_append]; rfl
    · exact .inr ⟨by omega, by rw [if_neg h], by rw [mkS_size, plain_two (by omega) (by omega)]; rfl⟩
  have c3 := fun W => r_month M b3 b4 W
  have c4 := fun W => r_pad (Y : Int) 4 (by omega) (by omega) W
  have c5 := fun W => r_clock T hle W
  generalize mkS (dayL (wdD (T / 86400))) = N at *
  generalize mkS (twoL E) = A at *
  generalize mkS (plainL (E : Int)) = X at *
  generalize mkS (monL M) = B at *
  generalize mkS (padL (Y : Int) 4) = C at *
  generalize mkS (clkL T) = K at *
  generalize wdD (T / 86400) = V at *
  have HC := Lib.hid hc
  have HW := Lib.hid hw
  have C1 := Lib.hid c1
  have C2 := Lib.hid c2
  have C3 := Lib.hid c3
  have C4 := Lib.hid c4
  have C5 := Lib.hid c5
  clear hc hw hci hp c1 c2 c3 c4 c5
  go_enter Tryd.func20, Tryd.ntmps20
  go_wp2_with fail
  refine (r_civil _ _).mono ?_
  rintro e w1 ⟨he, hb⟩
  rw [HC.out.1, HC.out.2.1, HC.out.2.2.1, HC.out.2.2.2] at he
  subst he
  go_wp2_with fail
  refine (C2.out _).mono ?_
  rintro e w2 ⟨rfl, hb2⟩
  have hb := below_then hb hb2
  clear hb2
  rcases htwo with ⟨ht1, ht2, ht3⟩ | ⟨ht1, ht2, ht3⟩
  all_goals
    subst ht2
    have hb := hb.drew
    go_wp2_with fail
    have hs3 : (3 : Int) ≤ (N.size : Int) := by omega
    have hmin : min 3 N.size = 3 := by omega
    have hwr : IntKind.i64.wrap ((T : Int) / 86400) = (T : Int) / 86400 := IntWalk.i64_in _ (by omega)
    go_region_held3 (fun _ => True) (trivial) (first
      | (go_at_call 13; refine (r_weekday ((T : Int) / 86400) (by omega) _).mono ?_; rintro e w' ⟨he, rfl⟩; rw [HW.out] at he; subst he)
      | (go_at_call 30; refine (C1.out _).mono ?_; rintro e w2 ⟨rfl, hb2⟩; have hb := below_then hb hb2; clear hb2)
      | (go_at_call 32; refine (C3.out _).mono ?_; rintro e w' ⟨rfl, rfl⟩)
      | (go_at_call 33; refine (C5.out _).mono ?_; rintro e w5 ⟨rfl, hb5⟩; have hb := below_then hb hb5; clear hb5)
      | (go_at_call 31; refine (C4.out _).mono ?_; rintro e w4 ⟨rfl, hb4⟩; have hb := below_then hb hb4; clear hb4))
    go_wp2_with fail
    go_ret
    exact ⟨by rw [HR.out]; rfl, hb⟩

end Go.Proofs.YtamhipgeeidlcaaDoor
