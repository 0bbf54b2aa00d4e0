/-
  The page's example (function dates of the law's package) holds.
-/
import Derived.Test.YtamhipgeeidlcaaDoorDatV
import Derived.Test.YtamhipgeeidlcaaDoorDatZ
namespace Go.Proofs.YtamhipgeeidlcaaDoor
open Go.RowKit

theorem ex_date : IsDate 1994 11 6 9075 := ⟨⟨by decide, by decide, by decide, by decide, by decide, by decide⟩, by decide +kernel⟩
theorem ex_parts : Parts 784111777 1994 11 6 := ⟨ex_date, civ_of ex_date (by decide), by decide⟩
def xA : List UInt8 := [83, 117, 110, 44, 32, 48, 54, 32, 78, 111, 118, 32, 49, 57, 57, 52, 32, 48, 56, 58, 52, 57, 58, 51, 55, 32, 71, 77, 84]
def xB : List UInt8 := [83, 117, 110, 100, 97, 121, 44, 32, 48, 54, 45, 78, 111, 118, 45, 57, 52, 32, 48, 56, 58, 52, 57, 58, 51, 55, 32, 71, 77, 84]
def xC : List UInt8 := [83, 117, 110, 32, 78, 111, 118, 32, 32, 54, 32, 48, 56, 58, 52, 57, 58, 51, 55, 32, 49, 57, 57, 52]
def xD : List UInt8 := [77, 111, 110, 44, 32, 48, 54, 32, 78, 111, 118, 32, 49, 57, 57, 52, 32, 48, 56, 58, 52, 57, 58, 51, 55, 32, 71, 77, 84]
theorem fmt_ex : fmtL 784111777 = xA := by
  unfold fmtL
  rw [show 784111777 / 86400 = 9075 from rfl, civ_of ex_date (by decide), clk_eq]
  simp only []
  rw [show ((6 : Nat) : Int) = ((6 : Nat) : Int) from rfl, pad_two (n := 6) (by decide), pad_four (n := 1994) (by decide) (by decide)]
  decide
theorem old_ex : oldL 784111777 = xB := by
  unfold oldL
  rw [show 784111777 / 86400 = 9075 from rfl, civ_of ex_date (by decide), clk_eq]
  simp only []
  rw [pad_two (n := 6) (by decide), pad_two (n := 1994 % 100) (by decide)]
  decide
theorem pln_ex : plnL 784111777 = xC := by
  unfold plnL twoL
  rw [show 784111777 / 86400 = 9075 from rfl, civ_of ex_date (by decide), clk_eq]
  simp only []
  rw [if_pos (by decide), plain_one (n := 6) (by decide), pad_four (n := 1994) (by decide) (by decide)]
  decide
theorem pA : parT (mkS xA) = (784111777, 0) := parT_at (t := 784111777) (.inl ⟨by decide, .inl fmt_ex⟩)
theorem pB : parT (mkS xB) = (784111777, 0) := parT_at (t := 784111777) (.inr ⟨by decide, old_ex⟩)
theorem pC : parT (mkS xC) = (784111777, 0) := parT_at (t := 784111777) (.inl ⟨by decide, .inr pln_ex⟩)
theorem pD : parT (mkS xD) = (0, 24) := by
  rcases parT_spec (mkS xD) with ⟨u, hu, hr⟩ | ⟨h, _⟩
  · exfalso
    rcases hr with ⟨hb, h | h⟩ | ⟨hb, h⟩
    · have h1 := t1_back (s := mkS xD) hb h.symm
      have hs : (mkS xD).data.toList = xD := rfl
      have g1 := dgt_at hs 12 12 4 rfl (by decide) (four 1994) (by decide) 1994 (num_four 1994 (by decide))
      have g2 := dgt_at hs 5 5 2 rfl (by decide) (two 6) (by decide) 6 (num_two 6 (by decide))
      have h2 : t1N (mkS xD) = (784111777 : Nat) := by
        unfold t1N
        exact tim_at hs ex_parts _ _ _ _ 8 17 g1 rfl g2 rfl (by decide) (by decide) (by decide) (by decide) (by decide) (by decide)
      have h3 : u = 784111777 := by omega
      rw [h3, fmt_ex] at h
      exact absurd h (by decide)
    · have := pln_len hb
      rw [h] at this
      exact absurd this (by decide)
    · have := old_len hb
      rw [h] at this
      exact absurd this.1 (by decide)
  · exact h
theorem fI : mkS (fmtI 784111777) = ⟨#[83, 117, 110, 44, 32, 48, 54, 32, 78, 111, 118, 32, 49, 57, 57, 52, 32, 48, 56, 58, 52, 57, 58, 51, 55, 32, 71, 77, 84]⟩ := by
  have := fmtI_nat 784111777 (by decide)
  rw [show ((784111777 : Nat) : Int) = 784111777 from rfl] at this
  rw [this, fmt_ex]; rfl
theorem dI : dayV 1970 1 1 = 0 ∧ dayB 1970 1 1 = true := by decide +kernel

set_option maxHeartbeats 2000000 in
set_option maxRecDepth 100000 in
theorem ex_any (w : World) (HT : DatTabs w) :
    Calls Tryd.prog 14 #[] w fun e w' => e = .returned (.bool true) ∧ Below w.heap.size w w' := by
  have TT := Lib.hid HT
  clear HT
  have hb := Below.refl w.heap.size w
  go_enter Tryd.func14, Tryd.ntmps14
  go_wp2_with fail
  refine (days_any 1970 1 1 (by decide) (by decide) (by decide) _ (TT.out.kept hb)).mono ?_
  rintro e w1 ⟨he, hb1⟩
  have hb := below_then hb hb1
  clear hb1
  rw [dI.1, dI.2] at he
  subst he
  go_wp2_with fail
  refine (parse_any (mkS xA) (by decide) _ (TT.out.kept hb)).mono ?_
  rintro e w2 ⟨he, hb2⟩
  rw [pA] at he
  subst he
  have hb := below_then hb hb2
  clear hb2
  go_wp2_with fail
  refine (parse_any (mkS xB) (by decide) _ (TT.out.kept hb)).mono ?_
  rintro e w3 ⟨he, hb3⟩
  rw [pB] at he
  subst he
  have hb := below_then hb hb3
  clear hb3
  go_wp2_with fail
  refine (parse_any (mkS xC) (by decide) _ (TT.out.kept hb)).mono ?_
  rintro e w4 ⟨he, hb4⟩
  rw [pC] at he
  subst he
  have hb := below_then hb hb4
  clear hb4
  go_wp2_with fail
  refine (parse_any (mkS xD) (by decide) _ (TT.out.kept hb)).mono ?_
  rintro e w5 ⟨he, hb5⟩
  rw [pD] at he
  subst he
  have hb := below_then hb hb5
  clear hb5
  go_wp2_with fail
  refine (format_any 784111777 (by decide) _ (TT.out.kept hb)).mono ?_
  rintro e w6 ⟨he, hb6⟩
  rw [fI] at he
  subst he
  have hb := below_then hb hb6
  clear hb6
  go_wp2_with fail
  refine (weekday_any 0 (by decide) _).mono ?_
  rintro e w7 ⟨he, hb7⟩
  rw [show wdN 0 = 4 by decide] at he
  subst he
  have hb := below_then hb hb7
  clear hb7
  go_wp2_with fail
  go_ret
  exact ⟨rfl, hb⟩

end Go.Proofs.YtamhipgeeidlcaaDoor
