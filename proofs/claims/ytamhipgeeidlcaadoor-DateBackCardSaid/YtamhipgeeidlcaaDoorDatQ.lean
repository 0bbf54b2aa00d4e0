/-
  Plain facts on what package date's read finds in the three forms, and on what its Parse answers.
-/
import Derived.Test.YtamhipgeeidlcaaDoorDatL
import Derived.Test.YtamhipgeeidlcaaDoorDatS
namespace Go.Proofs.YtamhipgeeidlcaaDoor
open Go.RowKit

def layF : Lay := ⟨24, 0, 3, 7, 4, 12⟩
def layO : Lay := ⟨22, 0, 3, 7, 2, 10⟩
def layP : Lay := ⟨20, 4, 0, 16, 4, 7⟩
theorem layF_ok : layF.Ok := ⟨by decide, by decide, by decide, by decide, by decide, by decide, by decide, by decide, by decide, by decide⟩
theorem layO_ok : layO.Ok := ⟨by decide, by decide, by decide, by decide, by decide, by decide, by decide, by decide, by decide, by decide⟩
theorem layP_ok : layP.Ok := ⟨by decide, by decide, by decide, by decide, by decide, by decide, by decide, by decide, by decide, by decide⟩

theorem lastB_list (s : ByteArray) (z : Int) : (lastB s z).data.toList = s.data.toList.drop (s.size - z.toNat) := by
  unfold lastB
  rw [piece_ext]
  unfold piece
  rw [List.take_of_length_le (by rw [List.length_drop, ← Lib.size_eq]; omega)]; rfl
theorem nbr_at {t : ByteArray} {l : List UInt8} (ht : t.data.toList = l) (a n : Int) (A k : Nat) (ha : a = A) (hn : n = k) (p : List UInt8) (hp : (l.drop A).take k = p) (v : Nat) (hv : numN 10 18 9999 (p.dropWhile (· == 32)) = v) : nbrI t a n = v := by
  subst ha hn
  unfold nbrI nbrN piece
  rw [ht, Int.toNat_natCast, Int.toNat_natCast, Nat.add_sub_cancel_left, hp, hv]
theorem mon_at {t : ByteArray} {l : List UInt8} (ht : t.data.toList = l) (a : Int) (A : Nat) (ha : a = A) (M : Nat) (h0 : 1 ≤ M) (h1 : M ≤ 12) (hp : (l.drop A).take 3 = monL M) : monI t a = M := by
  subst ha
  unfold monI monN
  rw [ht, Int.toNat_natCast, hp, mIdx_mon M (by omega) h0, if_neg (by omega)]
theorem dch_ink : ∀ d : Nat, d < 10 → (dch d == 32) = false := by decide
theorem two_drop (n : Nat) (h : n < 100) : numN 10 18 9999 ((two n).dropWhile (· == 32)) = n := by
  have e : (two n).dropWhile (· == 32) = two n := by
    unfold two
    rw [List.dropWhile_cons, dch_ink _ (by omega)]; rfl
  rw [e, (num_two n h).1]
theorem four_drop (n : Nat) (h : n < 10000) : numN 10 18 9999 ((four n).dropWhile (· == 32)) = n := by
  have e : (four n).dropWhile (· == 32) = four n := by
    unfold four
    rw [List.dropWhile_cons, dch_ink _ (by omega)]; rfl
  rw [e, (num_four n h).1]
theorem twoL_drop (n : Nat) (h : n < 100) : numN 10 18 9999 ((twoL n).dropWhile (· == 32)) = n := by
  unfold twoL
  by_cases h10 : n < 10
  · rw [if_pos h10, plain_one h10, List.dropWhile_cons, List.dropWhile_cons, dch_ink n h10]
    exact (num_one n h10).1
  · rw [if_neg h10, plain_two (by omega) h]
    exact two_drop n h

theorem rd_at {t : ByteArray} (L : Lay) {T Y M E : Nat} (hp : Parts T Y M E) (hY : rdY t L = Y) (hM : monI t L.m = M) (hD : nbrI t L.d 2 = E) (hH : nbrI t L.c 2 = ((T % 86400 / 3600 : Nat) : Int)) (hI : nbrI t (L.c + 3) 2 = ((T % 86400 / 60 % 60 : Nat) : Int)) (hJ : nbrI t (L.c + 6) 2 = ((T % 86400 % 60 : Nat) : Int)) :
    rdB t L = true ∧ rdV t L = T := by
  have v := hp.date.v
  have hv : ValidI (Y : Int) (M : Int) (E : Int) := ⟨by have := v.y0; omega, by have := v.y1; omega, by have := v.m0; omega, by have := v.m1; omega, by have := v.d0; omega, by have := v.d1; simp only [Int.toNat_natCast]; omega⟩
  have hday := day_yes hv
  simp only [Int.toNat_natCast] at hday
  have he := hp.date.e
  unfold rdB rdV
  rw [hY, hM, hD, hH, hI, hJ, hday.1, hday.2, he]
  exact ⟨rfl, by omega⟩
theorem rd12 {s : ByteArray} {L : Lay} {T : Int} (hz : L.z ≤ (s.size : Int)) (h : rdB (lastB s L.z) L = true ∧ rdV (lastB s L.z) L = T) : rd1 s L = T ∧ rd2 s L = true := by
  unfold rd1 rd2
  rw [if_neg (by rw [h.1]; rintro (h' | h'); omega; cases h'), h.2, h.1, decide_eq_true hz]
  exact ⟨rfl, rfl⟩

theorem f_back {s : ByteArray} {T : Nat} (h : T ≤ 253402300799) (hs : s.data.toList = fmtL T) : rd1 s layF = T ∧ rd2 s layF = true := by
  obtain ⟨Y, M, E, hp⟩ := parts_of T h
  obtain ⟨⟨b1, b2⟩, ⟨b3, b4⟩, b5, b6⟩ := hp.bd
  have hlen := fmt_len h
  have hz : s.size = 29 := by rw [Lib.size_eq, hs, hlen]
  obtain ⟨a, b, c, x, y, z, hm, hl⟩ := fmt_list hp
  have ht : (lastB s layF.z).data.toList = two E ++ [32, x, y, z, 32] ++ four Y ++ [32] ++ two (T % 86400 / 3600) ++ [58] ++ two (T % 86400 / 60 % 60) ++ [58] ++ two (T % 86400 % 60) ++ [32, 71, 77, 84] := by
    rw [lastB_list, hz, hs, hl]; rfl
  refine rd12 (by rw [hz]; decide) (rd_at layF hp ?_ ?_ ?_ ?_ ?_ ?_)
  · show (if (4 : Int) = 2 then _ else _) = _
    rw [if_neg (by decide)]
    exact nbr_at ht _ _ 7 4 rfl rfl (four Y) rfl Y (four_drop Y (by omega))
  · exact mon_at ht _ 3 rfl M b3 b4 (by rw [hm]; rfl)
  · exact nbr_at ht _ _ 0 2 rfl rfl (two E) rfl E (two_drop E (by omega))
  · exact nbr_at ht _ _ 12 2 rfl rfl _ rfl _ (two_drop _ (by omega))
  · exact nbr_at ht _ _ 15 2 rfl rfl _ rfl _ (two_drop _ (by omega))
  · exact nbr_at ht _ _ 18 2 rfl rfl _ rfl _ (two_drop _ (by omega))
theorem o_back {s : ByteArray} {T : Nat} (h : T ≤ 3155759999) (hs : s.data.toList = oldL T) : rd1 s layO = T ∧ rd2 s layO = true := by
  obtain ⟨Y, M, E, hp⟩ := parts_of T (by omega)
  obtain ⟨⟨b1, b2⟩, ⟨b3, b4⟩, b5, b6⟩ := hp.bd
  have hY := old_year hp h
  obtain ⟨x, y, z, hm, hl⟩ := old_list hp
  have hd := day_len _ (wd_lt (T / 86400))
  obtain ⟨D, hD⟩ : ∃ D, D = dayL (wdD (T / 86400)) := ⟨_, rfl⟩
  rw [← hD] at hl hd
  obtain ⟨R, hR⟩ : ∃ R, R = two E ++ [45, x, y, z, 45] ++ two (Y % 100) ++ [32] ++ two (T % 86400 / 3600) ++ [58] ++ two (T % 86400 / 60 % 60) ++ [58] ++ two (T % 86400 % 60) ++ [32, 71, 77, 84] := ⟨_, rfl⟩
  have hl2 : oldL T = D ++ [44, 32] ++ R := by rw [hl, hR]; simp
  have hRl : R.length = 22 := by rw [hR]; simp [two]
  have hz : s.size = D.length + 24 := by rw [Lib.size_eq, hs, hl2]; simp [hRl]
  have ht : (lastB s layO.z).data.toList = R := by
    rw [lastB_list, hz, hs, hl2, show D.length + 24 - layO.z.toNat = (D ++ [44, 32]).length by simp [layO], List.drop_left]
  rw [hR] at ht
  refine rd12 (by rw [hz]; show (22 : Int) ≤ _; omega) (rd_at layO hp ?_ ?_ ?_ ?_ ?_ ?_)
  · show (if (2 : Int) = 2 then fullY (nbrI _ 7 2) else _) = _
    rw [if_pos rfl, nbr_at ht 7 2 7 2 rfl rfl (two (Y % 100)) rfl (Y % 100) (two_drop _ (by omega))]
    unfold fullY
    split <;> omega
  · exact mon_at ht _ 3 rfl M b3 b4 (by rw [hm]; rfl)
  · exact nbr_at ht _ _ 0 2 rfl rfl (two E) rfl E (two_drop E (by omega))
  · exact nbr_at ht _ _ 10 2 rfl rfl _ rfl _ (two_drop _ (by omega))
  · exact nbr_at ht _ _ 13 2 rfl rfl _ rfl _ (two_drop _ (by omega))
  · exact nbr_at ht _ _ 16 2 rfl rfl _ rfl _ (two_drop _ (by omega))
theorem p_back {s : ByteArray} {T : Nat} (h : T ≤ 253402300799) (hs : s.data.toList = plnL T) : rd1 s layP = T ∧ rd2 s layP = true := by
  obtain ⟨Y, M, E, hp⟩ := parts_of T h
  obtain ⟨⟨b1, b2⟩, ⟨b3, b4⟩, b5, b6⟩ := hp.bd
  have hlen := pln_len h
  have hz : s.size = 24 := by rw [Lib.size_eq, hs, hlen]
  obtain ⟨a, b, c, x, y, z, u, v, hm, hu, hl⟩ := pln_list hp
  have ht : (lastB s layP.z).data.toList = [x, y, z, 32, u, v, 32] ++ two (T % 86400 / 3600) ++ [58] ++ two (T % 86400 / 60 % 60) ++ [58] ++ two (T % 86400 % 60) ++ [32] ++ four Y := by
    rw [lastB_list, hz, hs, hl]; rfl
  refine rd12 (by rw [hz]; decide) (rd_at layP hp ?_ ?_ ?_ ?_ ?_ ?_)
  · show (if (4 : Int) = 2 then _ else _) = _
    rw [if_neg (by decide)]
    exact nbr_at ht _ _ 16 4 rfl rfl (four Y) rfl Y (four_drop Y (by omega))
  · exact mon_at ht _ 0 rfl M b3 b4 (by rw [hm]; rfl)
  · exact nbr_at ht _ _ 4 2 rfl rfl (twoL E) (by rw [hu]; rfl) E (twoL_drop E (by omega))
  · exact nbr_at ht _ _ 7 2 rfl rfl _ rfl _ (two_drop _ (by omega))
  · exact nbr_at ht _ _ 10 2 rfl rfl _ rfl _ (two_drop _ (by omega))
  · exact nbr_at ht _ _ 13 2 rfl rfl _ rfl _ (two_drop _ (by omega))

/-- Is a text one of the forms of a time? -/
def oneB (l : List UInt8) (t : Int) : Bool := l == fmtI t || (l == oldI t || l == plnI t)
def hitB (s : ByteArray) (L : Lay) : Bool := rd2 s L && oneB s.data.toList (rd1 s L)
theorem one_reads {l : List UInt8} {t : Int} (hl : l ≠ []) (h : oneB l t = true) : ∃ T : Nat, t = T ∧ Reads l T := by
  unfold oneB at h
  simp only [Bool.or_eq_true, beq_iff_eq] at h
  rcases h with h | h | h
  · unfold fmtI at h
    split at h
    · rename_i hb
      exact ⟨t.toNat, by omega, .inl ⟨by omega, .inl h.symm⟩⟩
    · exact absurd h hl
  · unfold oldI at h
    split at h
    · rename_i hb
      exact ⟨t.toNat, by omega, .inr ⟨by omega, h.symm⟩⟩
    · exact absurd h hl
  · unfold plnI at h
    split at h
    · rename_i hb
      exact ⟨t.toNat, by omega, .inl ⟨by omega, .inr h.symm⟩⟩
    · exact absurd h hl
theorem parT_at {s : ByteArray} {t : Nat} (h : Reads s.data.toList t) : parT s = ((t : Int), 0) := by
  rcases parT_spec s with ⟨u, hu, hr⟩ | ⟨_, hn⟩
  · rw [hu, hr.uniq h]
  · exact absurd h (hn t)
theorem hit_par {s : ByteArray} {L : Lay} (hz : 1 ≤ L.z) (h : hitB s L = true) : parT s = (rd1 s L, 0) := by
  unfold hitB at h
  rw [Bool.and_eq_true] at h
  have hs : s.data.toList ≠ [] := by
    intro e
    have h1 := h.1
    unfold rd2 at h1
    rw [Bool.and_eq_true, decide_eq_true_iff, Lib.size_eq, e] at h1
    have := h1.1
    simp at this
    omega
  obtain ⟨T, hT, hr⟩ := one_reads hs h.2
  rw [parT_at hr, hT]
theorem hit_no {s : ByteArray} (h1 : hitB s layF = false) (h2 : hitB s layO = false) (h3 : hitB s layP = false) : parT s = (0, 24) := by
  rcases parT_spec s with ⟨T, _, hr⟩ | ⟨h, _⟩
  · exfalso
    rcases hr with ⟨hb, h | h⟩ | ⟨hb, h⟩
    · obtain ⟨r1, r2⟩ := f_back hb h.symm
      unfold hitB at h1
      rw [r1, r2] at h1
      simp [oneB, fmtI_nat T hb, h] at h1
    · obtain ⟨r1, r2⟩ := p_back hb h.symm
      unfold hitB at h3
      rw [r1, r2] at h3
      simp [oneB, plnI_nat T hb, h] at h3
    · obtain ⟨r1, r2⟩ := o_back hb h.symm
      unfold hitB at h2
      rw [r1, r2] at h2
      simp [oneB, oldI_nat T hb, h] at h2
  · exact h

end Go.Proofs.YtamhipgeeidlcaaDoor
