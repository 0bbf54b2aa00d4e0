/-
  Texts that the laws of this seat lean on, one behind the other.
-/
import Derived.Test.YtfmaaghmbnhikaaGreatDoorMrgO
/-
  Contracts of number, Number, ReadHex and Seconds of package decimal, for every text.
-/
section
namespace Go.Proofs.YtfmaaghmbnhikaaGreatDoor
open Go.RowKit


theorem num10_fit (s : ByteArray) (h : s.size ≤ 18) : Hid (∀ k, k < s.size → allB (isD 10) (s.data.toList.take k) = true → 0 ≤ cutV 10 9223372036854775807 (s.data.toList.take k) ∧ cutV 10 9223372036854775807 (s.data.toList.take k) * 10 + 16 ≤ 9223372036854775807) := by
  intro k hk ha
  have hl : (s.data.toList.take k).length = k := by rw [List.length_take, ← Lib.size_eq]; omega
  have hp : 10 ^ k ≤ 10 ^ 17 := Nat.pow_le_pow_right (by omega) (by omega)
  have hq : 10 ^ 17 = 100000000000000000 := by decide +kernel
  have h1 : valV 10 (s.data.toList.take k) < ((10 ^ (s.data.toList.take k).length : Nat) : Int) := valV_lt 10 _ (by omega) ha
  rw [hl] at h1
  have h2 : cutV 10 9223372036854775807 (s.data.toList.take k) = valV 10 (s.data.toList.take k) := cutV_val 10 9223372036854775807 _ (by omega) ha (by rw [hl]; omega)
  have h3 := valV_nn (b := 10) (by omega) (s.data.toList.take k)
  have h4 : valV 10 (s.data.toList.take k) < 100000000000000000 := by
    rw [hq] at hp
    generalize 10 ^ k = p at *
    omega
  rw [h2]
  omega

theorem num10_all (s : ByteArray) (h : s.size ≤ 18) (ha : allB (isD 10) s.data.toList = true) : cutV 10 9223372036854775807 s.data.toList = valV 10 s.data.toList := by
  have hp : 10 ^ s.data.toList.length ≤ 10 ^ 18 := Nat.pow_le_pow_right (by omega) (by rw [← Lib.size_eq]; omega)
  have hq : 10 ^ 18 ≤ 9223372036854775807 := by decide +kernel
  exact cutV_val 10 9223372036854775807 _ (by omega) ha (by omega)

theorem num10_any (s : ByteArray) (most : Int) (w : World) :
    Calls Tryz.prog 156 #[.string s, .int .i64 10, .int .i64 18, .int .i64 most] w fun e w' => e = .returned (.tuple #[.int .i64 (numN 10 18 most s.data.toList), .int .i64 (numE 10 18 most s.data.toList)]) ∧ Below w.heap.size w w' := by
  have hsz := Lib.size_eq s
  obtain ⟨v, hv⟩ : ∃ v, numN 10 18 most s.data.toList = v := ⟨_, rfl⟩
  obtain ⟨o, ho⟩ : ∃ o, numE 10 18 most s.data.toList = o := ⟨_, rfl⟩
  rw [hv, ho]
  unfold numN at hv
  unfold numE at ho
  by_cases hl : s.size ≤ 18
  · by_cases ha : allB (isD 10) s.data.toList = true
    · have hc := num10_all s hl ha
      obtain ⟨r1, r2⟩ := read_yes (cut := 9223372036854775807) ha
      rw [hc] at r1
      by_cases h0 : s.size = 0
      · rw [if_pos (.inl (by omega))] at hv ho
        have E : Hid (v = 0 ∧ o = 5) := ⟨hv.symm, ho.symm⟩
        have e0 : s.data.toList.isEmpty = true := by rw [List.isEmpty_iff_length_eq_zero]; omega
        rw [e0] at r2
        have R := Lib.hid (And.intro r1 r2)
        have hll : (s.size : Int) ≤ 18 := by omega
        clear hv ho hsz hc r1 r2 e0 h0
        go_enter Tryz.func156, Tryz.ntmps156
        go_wp2_with fail
        refine (readTen_any s 9223372036854775807 _ (num10_fit s hl)).mono ?_
        rintro e w1 ⟨he, hb⟩
        rw [R.out.2] at he
        subst he
        go_wp2
        go_ret2
        exact ⟨ret_int_int E.out.1.symm E.out.2.symm, hb⟩
      · have e0 : s.data.toList.isEmpty = false := by
          cases hh : s.data.toList with
          | nil => rw [hh] at hsz; exact absurd hsz h0
          | cons x r => rfl
        rw [e0] at r2
        have R := Lib.hid (And.intro r1 r2)
        have hll : (s.size : Int) ≤ 18 := by omega
        by_cases hm : most < valV 10 s.data.toList
        · have E : Hid (v = 0 ∧ o = 3) := by
            rw [if_pos (.inr (.inr (.inr hm)))] at hv
            rw [if_neg (by rw [ha]; rintro (h | h | h) <;> first | omega | cases h), if_pos hm] at ho
            exact ⟨hv.symm, ho.symm⟩
          generalize valV 10 s.data.toList = n at *
          clear hv ho hsz hc r1 r2 e0 h0 ha
          go_enter Tryz.func156, Tryz.ntmps156
          go_wp2_with fail
          refine (readTen_any s 9223372036854775807 _ (num10_fit s hl)).mono ?_
          rintro e w1 ⟨he, hb⟩
          rw [R.out.1, R.out.2] at he
          subst he
          go_wp2
          go_ret2
          exact ⟨ret_int_int E.out.1.symm E.out.2.symm, hb⟩
        · have E : Hid (v = valV 10 s.data.toList ∧ o = 0) := by
            rw [if_neg (by rw [ha]; rintro (h | h | h | h) <;> first | omega | cases h)] at hv
            rw [if_neg (by rw [ha]; rintro (h | h | h) <;> first | omega | cases h), if_neg hm] at ho
            exact ⟨hv.symm, ho.symm⟩
          generalize valV 10 s.data.toList = n at *
          clear hv ho hsz hc r1 r2 e0 h0 ha
          go_enter Tryz.func156, Tryz.ntmps156
          go_wp2_with fail
          refine (readTen_any s 9223372036854775807 _ (num10_fit s hl)).mono ?_
          rintro e w1 ⟨he, hb⟩
          rw [R.out.1, R.out.2] at he
          subst he
          go_wp2
          go_ret2
          exact ⟨ret_int_int E.out.1.symm E.out.2.symm, hb⟩
    · have ha' : allB (isD 10) s.data.toList = false := by simpa using ha
      have R := Lib.hid (read_no (cut := 9223372036854775807) ha')
      rw [if_pos (.inr (.inr (.inl ha')))] at hv
      rw [if_pos (.inr (.inr ha'))] at ho
      have E : Hid (v = 0 ∧ o = 5) := ⟨hv.symm, ho.symm⟩
      have hll : (s.size : Int) ≤ 18 := by omega
      clear hv ho hsz ha ha'
      go_enter Tryz.func156, Tryz.ntmps156
      go_wp2_with fail
      refine (readTen_any s 9223372036854775807 _ (num10_fit s hl)).mono ?_
      rintro e w1 ⟨he, hb⟩
      rw [R.out.1, R.out.2] at he
      subst he
      go_wp2
      go_ret2
      exact ⟨ret_int_int E.out.1.symm E.out.2.symm, hb⟩
  · rw [if_pos (.inr (.inl (by omega)))] at hv ho
    have E : Hid (v = 0 ∧ o = 5) := ⟨hv.symm, ho.symm⟩
    have hll : (18 : Int) < (s.size : Int) := by omega
    clear hv ho hsz hl
    go_enter Tryz.func156, Tryz.ntmps156
    go_wp2_with fail
    go_ret2
    exact ⟨ret_int_int E.out.1.symm E.out.2.symm, Below.refl _ _⟩

theorem Number_any (s : ByteArray) (most : Int) (w : World) :
    Calls Tryz.prog 129 #[.string s, .int .i64 most] w fun e w' => e = .returned (.tuple #[.int .i64 (numN 10 18 most s.data.toList), .int .i64 (numE 10 18 most s.data.toList)]) ∧ Below w.heap.size w w' := by
  go_enter Tryz.func129, Tryz.ntmps129
  go_wp2_with fail
  refine (num10_any s most _).mono ?_
  rintro e w1 ⟨rfl, hb⟩
  go_wp2_with fail
  go_ret2
  exact ⟨rfl, hb⟩

theorem num16_fit (s : ByteArray) (h : s.size ≤ 15) : Hid (∀ k, k < s.size → allB (isD 16) (s.data.toList.take k) = true → 0 ≤ cutV 16 9223372036854775807 (s.data.toList.take k) ∧ cutV 16 9223372036854775807 (s.data.toList.take k) * 16 + 16 ≤ 9223372036854775807) := by
  intro k hk ha
  have hl : (s.data.toList.take k).length = k := by rw [List.length_take, ← Lib.size_eq]; omega
  have hp : 16 ^ k ≤ 16 ^ 14 := Nat.pow_le_pow_right (by omega) (by omega)
  have hq : 16 ^ 14 = 72057594037927936 := by decide +kernel
  have h1 : valV 16 (s.data.toList.take k) < ((16 ^ (s.data.toList.take k).length : Nat) : Int) := valV_lt 16 _ (by omega) ha
  rw [hl] at h1
  have h2 : cutV 16 9223372036854775807 (s.data.toList.take k) = valV 16 (s.data.toList.take k) := cutV_val 16 9223372036854775807 _ (by omega) ha (by rw [hl]; omega)
  have h3 := valV_nn (b := 16) (by omega) (s.data.toList.take k)
  have h4 : valV 16 (s.data.toList.take k) < 72057594037927936 := by
    rw [hq] at hp
    generalize 16 ^ k = p at *
    omega
  rw [h2]
  omega

theorem num16_all (s : ByteArray) (h : s.size ≤ 15) (ha : allB (isD 16) s.data.toList = true) : cutV 16 9223372036854775807 s.data.toList = valV 16 s.data.toList := by
  have hp : 16 ^ s.data.toList.length ≤ 16 ^ 15 := Nat.pow_le_pow_right (by omega) (by rw [← Lib.size_eq]; omega)
  have hq : 16 ^ 15 ≤ 9223372036854775807 := by decide +kernel
  exact cutV_val 16 9223372036854775807 _ (by omega) ha (by omega)

theorem num16_any (s : ByteArray) (most : Int) (w : World) :
    Calls Tryz.prog 156 #[.string s, .int .i64 16, .int .i64 15, .int .i64 most] w fun e w' => e = .returned (.tuple #[.int .i64 (numN 16 15 most s.data.toList), .int .i64 (numE 16 15 most s.data.toList)]) ∧ Below w.heap.size w w' := by
  have hsz := Lib.size_eq s
  obtain ⟨v, hv⟩ : ∃ v, numN 16 15 most s.data.toList = v := ⟨_, rfl⟩
  obtain ⟨o, ho⟩ : ∃ o, numE 16 15 most s.data.toList = o := ⟨_, rfl⟩
  rw [hv, ho]
  unfold numN at hv
  unfold numE at ho
  by_cases hl : s.size ≤ 15
  · by_cases ha : allB (isD 16) s.data.toList = true
    · have hc := num16_all s hl ha
      obtain ⟨r1, r2⟩ := read_yes (cut := 9223372036854775807) ha
      rw [hc] at r1
      by_cases h0 : s.size = 0
      · rw [if_pos (.inl (by omega))] at hv ho
        have E : Hid (v = 0 ∧ o = 5) := ⟨hv.symm, ho.symm⟩
        have e0 : s.data.toList.isEmpty = true := by rw [List.isEmpty_iff_length_eq_zero]; omega
        rw [e0] at r2
        have R := Lib.hid (And.intro r1 r2)
        have hll : (s.size : Int) ≤ 15 := by omega
        clear hv ho hsz hc r1 r2 e0 h0
        go_enter Tryz.func156, Tryz.ntmps156
        go_wp2_with fail
        refine (readHex_any s 9223372036854775807 _ (num16_fit s hl)).mono ?_
        rintro e w1 ⟨he, hb⟩
        rw [R.out.2] at he
        subst he
        go_wp2
        go_ret2
        exact ⟨ret_int_int E.out.1.symm E.out.2.symm, hb⟩
      · have e0 : s.data.toList.isEmpty = false := by
          cases hh : s.data.toList with
          | nil => rw [hh] at hsz; exact absurd hsz h0
          | cons x r => rfl
        rw [e0] at r2
        have R := Lib.hid (And.intro r1 r2)
        have hll : (s.size : Int) ≤ 15 := by omega
        by_cases hm : most < valV 16 s.data.toList
        · have E : Hid (v = 0 ∧ o = 3) := by
            rw [if_pos (.inr (.inr (.inr hm)))] at hv
            rw [if_neg (by rw [ha]; rintro (h | h | h) <;> first | omega | cases h), if_pos hm] at ho
            exact ⟨hv.symm, ho.symm⟩
          generalize valV 16 s.data.toList = n at *
          clear hv ho hsz hc r1 r2 e0 h0 ha
          go_enter Tryz.func156, Tryz.ntmps156
          go_wp2_with fail
          refine (readHex_any s 9223372036854775807 _ (num16_fit s hl)).mono ?_
          rintro e w1 ⟨he, hb⟩
          rw [R.out.1, R.out.2] at he
          subst he
          go_wp2
          go_ret2
          exact ⟨ret_int_int E.out.1.symm E.out.2.symm, hb⟩
        · have E : Hid (v = valV 16 s.data.toList ∧ o = 0) := by
            rw [if_neg (by rw [ha]; rintro (h | h | h | h) <;> first | omega | cases h)] at hv
            rw [if_neg (by rw [ha]; rintro (h | h | h) <;> first | omega | cases h), if_neg hm] at ho
            exact ⟨hv.symm, ho.symm⟩
          generalize valV 16 s.data.toList = n at *
          clear hv ho hsz hc r1 r2 e0 h0 ha
          go_enter Tryz.func156, Tryz.ntmps156
          go_wp2_with fail
          refine (readHex_any s 9223372036854775807 _ (num16_fit s hl)).mono ?_
          rintro e w1 ⟨he, hb⟩
          rw [R.out.1, R.out.2] at he
          subst he
          go_wp2
          go_ret2
          exact ⟨ret_int_int E.out.1.symm E.out.2.symm, hb⟩
    · have ha' : allB (isD 16) s.data.toList = false := by simpa using ha
      have R := Lib.hid (read_no (cut := 9223372036854775807) ha')
      rw [if_pos (.inr (.inr (.inl ha')))] at hv
      rw [if_pos (.inr (.inr ha'))] at ho
      have E : Hid (v = 0 ∧ o = 5) := ⟨hv.symm, ho.symm⟩
      have hll : (s.size : Int) ≤ 15 := by omega
      clear hv ho hsz ha ha'
      go_enter Tryz.func156, Tryz.ntmps156
      go_wp2_with fail
      refine (readHex_any s 9223372036854775807 _ (num16_fit s hl)).mono ?_
      rintro e w1 ⟨he, hb⟩
      rw [R.out.1, R.out.2] at he
      subst he
      go_wp2
      go_ret2
      exact ⟨ret_int_int E.out.1.symm E.out.2.symm, hb⟩
  · rw [if_pos (.inr (.inl (by omega)))] at hv ho
    have E : Hid (v = 0 ∧ o = 5) := ⟨hv.symm, ho.symm⟩
    have hll : (15 : Int) < (s.size : Int) := by omega
    clear hv ho hsz hl
    go_enter Tryz.func156, Tryz.ntmps156
    go_wp2_with fail
    go_ret2
    exact ⟨ret_int_int E.out.1.symm E.out.2.symm, Below.refl _ _⟩

theorem seconds_any (s : ByteArray) (w : World) :
    Calls Tryz.prog 44 #[.string s] w fun e w' => e = .returned (.tuple #[.int .i64 (secN s.data.toList), .bool (secB s.data.toList)]) ∧ Below w.heap.size w w' := by
  have hB : Hid (∀ k, k < s.size → allB (isD 10) (s.data.toList.take k) = true → 0 ≤ cutV 10 2147483648 (s.data.toList.take k) ∧ cutV 10 2147483648 (s.data.toList.take k) * 10 + 16 ≤ 9223372036854775807) := fun k _ _ => by
    have h1 := cutV_nn (b := 10) (cut := 2147483648) (by omega) (by omega) (s.data.toList.take k)
    have h2 := cutV_le (b := 10) (cut := 2147483648) (by omega) (s.data.toList.take k)
    omega
  have e1 : Hid (readN 10 2147483648 s.data.toList = secN s.data.toList) := rfl
  have e2 : Hid (readB 10 s.data.toList = secB s.data.toList) := rfl
  go_enter Tryz.func44, Tryz.ntmps44
  go_wp2_with fail
  refine (readTen_any s 2147483648 _ hB).mono ?_
  rintro e w1 ⟨he, hb⟩
  rw [e1.out, e2.out] at he
  subst he
  go_wp2_with fail
  go_ret2
  exact ⟨rfl, hb⟩

end Go.Proofs.YtfmaaghmbnhikaaGreatDoor
end
