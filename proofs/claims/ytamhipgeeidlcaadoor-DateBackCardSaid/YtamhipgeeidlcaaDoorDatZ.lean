/-
  Plain facts on days and times (layer 7): the day after, Days behind Civil, forms that differ (P7.4).
-/
import Derived.Test.YtamhipgeeidlcaaDoorDatS
namespace Go.Proofs.YtamhipgeeidlcaaDoor

theorem long_dec (y : Nat) : longN y 12 = 31 := by simp [longN, longs]
theorem msum_last (y m : Nat) (h : 1 ≤ m) : msum y m = msum y (m - 1) + longN y m := by
  have := msum_succ y (m - 1)
  rwa [show m - 1 + 1 = m by omega] at this
theorem next_date {y m d n : Nat} (h : IsDate y m d n) (hn : n + 1 ≤ 2932896) :
    IsDate y m (d + 1) (n + 1) ∨ (IsDate y (m + 1) 1 (n + 1) ∧ 28 ≤ d) ∨ (IsDate (y + 1) 1 1 (n + 1) ∧ m = 12 ∧ d = 31) := by
  have v := h.v
  have e := h.e
  have v1 := v.y0
  have v2 := v.m0
  have v3 := v.m1
  have v4 := v.d0
  have v5 := v.d1
  have hl := msum_last y m v2
  have hb := long_bd y m v2 v3
  by_cases hd : d < longN y m
  · exact .inl ⟨⟨v1, v.y1, v2, v3, by omega, by omega⟩, by unfold daysN at e ⊢; omega⟩
  have hde : d = longN y m := by omega
  by_cases hm : m < 12
  · have hb2 := long_bd y (m + 1) (by omega) (by omega)
    refine .inr (.inl ⟨⟨⟨v1, v.y1, by omega, by omega, by omega, by omega⟩, ?_⟩, by omega⟩)
    unfold daysN at e ⊢
    rw [show m + 1 - 1 = m by omega]
    omega
  · have hm12 : m = 12 := by omega
    subst hm12
    rw [long_dec] at hde
    have hy := ysum_succ (y - 1970)
    rw [show 1970 + (y - 1970) = y by omega] at hy
    have hme := msum_year y
    have hlt : y + 1 ≤ 9999 := by
      refine Classical.byContradiction fun hc => ?_
      have hy9 : y = 9999 := by have := v.y1; omega
      subst hy9
      have h9 : ysum (9999 - 1970 + 1) = 2932897 := ysum_all
      unfold daysN at e
      omega
    have hb1 := long_bd (y + 1) 1 (by omega) (by omega)
    refine .inr (.inr ⟨⟨⟨by omega, hlt, by omega, by omega, by omega, by omega⟩, ?_⟩, rfl, hde⟩)
    unfold daysN at e ⊢
    rw [show y + 1 - 1970 = y - 1970 + 1 by omega, hy]
    simp only [Nat.sub_self, msum]
    omega
/-- Days behind Civil. -/
theorem day_back {y m d n : Nat} (h : IsDate y m d n) : dayV y m d = n ∧ dayB y m d = true := by
  have v := h.v
  have hv : ValidI (y : Int) (m : Int) (d : Int) := ⟨by have := v.y0; omega, by have := v.y1; omega, by have := v.m0; omega, by have := v.m1; omega, by have := v.d0; omega, by have := v.d1; simp only [Int.toNat_natCast]; omega⟩
  have := day_yes hv
  simp only [Int.toNat_natCast] at this
  rw [h.e] at this
  exact this
theorem wd_next (n : Nat) : (wdN (n : Int) + 1) % 7 = wdN ((n : Int) + 1) := by
  unfold wdN
  rw [if_neg (by omega), if_neg (by omega)]
  omega
/-- Whose forms are alike. -/
theorem fmt_same {t u : Int} (h0 : 0 ≤ t) (h1 : t ≤ 253402300799) : fmtI u = fmtI t ↔ u = t := by
  constructor
  · intro h
    obtain ⟨T, rfl⟩ := Int.eq_ofNat_of_zero_le h0
    rw [fmtI_nat T (by omega)] at h
    by_cases hu : 0 ≤ u ∧ u ≤ 253402300799
    · obtain ⟨U, rfl⟩ := Int.eq_ofNat_of_zero_le hu.1
      rw [fmtI_nat U (by omega)] at h
      rw [fmt_inj (by omega) (by omega) h]
    · have := fmt_len (t := T) (by omega)
      unfold fmtI at h
      rw [if_neg hu] at h
      rw [← h] at this
      simp at this
  · rintro rfl; rfl

end Go.Proofs.YtamhipgeeidlcaaDoor
