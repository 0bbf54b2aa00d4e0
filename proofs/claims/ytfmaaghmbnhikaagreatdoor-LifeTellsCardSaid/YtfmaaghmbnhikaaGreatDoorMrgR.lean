/-
  Texts that the laws of this seat lean on, one behind the other.
-/
import Derived.Test.YtfmaaghmbnhikaaGreatDoorMrgQ
import Derived.Test.YtfmaaghmbnhikaaGreatDoorMrgP
/-
  Contracts of the reference's read, Number, ReadHex and Seconds (layer 2), for every text.
-/
section
namespace Go.Proofs.YtfmaaghmbnhikaaGreatDoor
open Go.RowKit

/-- The value of the longest texts. -/
theorem val_fitTen (s : ByteArray) (h : s.size ≤ 18) (k : Nat) (hk : k < s.size) (ha : allB (isD 10) (s.data.toList.take k) = true) : 0 ≤ valV 10 (s.data.toList.take k) ∧ valV 10 (s.data.toList.take k) * 10 + 16 ≤ 9223372036854775807 := by
  have := (num10_fit s h).out k hk ha
  have hl : (s.data.toList.take k).length = k := by rw [List.length_take, ← Lib.size_eq]; omega
  have hp : 10 ^ k ≤ 10 ^ 18 := Nat.pow_le_pow_right (by omega) (by omega)
  have hq : 10 ^ 18 ≤ 9223372036854775807 := by decide +kernel
  have h2 : cutV 10 9223372036854775807 (s.data.toList.take k) = valV 10 (s.data.toList.take k) := cutV_val 10 9223372036854775807 _ (by omega) ha (by rw [hl]; omega)
  rwa [h2] at this
theorem val_fitHex (s : ByteArray) (h : s.size ≤ 15) (k : Nat) (hk : k < s.size) (ha : allB (isD 16) (s.data.toList.take k) = true) : 0 ≤ valV 16 (s.data.toList.take k) ∧ valV 16 (s.data.toList.take k) * 16 + 16 ≤ 9223372036854775807 := by
  have := (num16_fit s h).out k hk ha
  have hl : (s.data.toList.take k).length = k := by rw [List.length_take, ← Lib.size_eq]; omega
  have hp : 16 ^ k ≤ 16 ^ 15 := Nat.pow_le_pow_right (by omega) (by omega)
  have hq : 16 ^ 15 ≤ 9223372036854775807 := by decide +kernel
  have h2 : cutV 16 9223372036854775807 (s.data.toList.take k) = valV 16 (s.data.toList.take k) := cutV_val 16 9223372036854775807 _ (by omega) ha (by rw [hl]; omega)
  rwa [h2] at this

theorem r_readTen_any (s : ByteArray) (most : Int) (w : World) (hs : s.size ≤ maxLen) :
    Calls Tryz.prog 143 #[.string s, .int .i64 10, .int .i64 18, .int .i64 most] w fun e w' => e = .returned (.tuple #[.int .i64 (numN 10 18 most s.data.toList), .int .i64 (numE 10 18 most s.data.toList)]) ∧ w = w' := by
  unfold maxLen at hs
  have hsz := Lib.size_eq s
  obtain ⟨v, hv⟩ : ∃ v, numN 10 18 most s.data.toList = v := ⟨_, rfl⟩
  obtain ⟨o, ho⟩ : ∃ o, numE 10 18 most s.data.toList = o := ⟨_, rfl⟩
  rw [hv, ho]
  unfold numN at hv
  unfold numE at ho
  by_cases h0 : s.size = 0
  · rw [if_pos (.inl (by omega))] at hv ho
    have E : Hid (v = 0 ∧ o = 5) := ⟨hv.symm, ho.symm⟩
    have h1 : (s.size : Int) < 1 := by omega
    clear hv ho hsz h0
    go_enter Tryz.func143, Tryz.ntmps143
    go_wp2_with fail
    go_ret2
    exact ⟨ret_int_int E.out.1.symm E.out.2.symm, rfl⟩
  · by_cases hl : 18 < s.size
    · rw [if_pos (.inr (.inl (by omega)))] at hv ho
      have E : Hid (v = 0 ∧ o = 5) := ⟨hv.symm, ho.symm⟩
      have h1 : ¬ (s.size : Int) < 1 := by omega
      have h2 : (18 : Int) < (s.size : Int) := by omega
      clear hv ho hsz h0 hl
      go_enter Tryz.func143, Tryz.ntmps143
      go_wp2_with fail
      go_ret2
      exact ⟨ret_int_int E.out.1.symm E.out.2.symm, rfl⟩
    · have h1 : ¬ (s.size : Int) < 1 := by omega
      have h2 : ¬ (18 : Int) < (s.size : Int) := by omega
      have HV := Lib.hid hv
      have HO := Lib.hid ho
      have HS := Lib.hid hsz
      have HL := Lib.hid (show s.size ≤ 18 by omega)
      have H0 := Lib.hid h0
      clear hv ho hsz h0 hl
      go_enter Tryz.func143, Tryz.ntmps143
      go_wp2_with fail
      clear h1 h2
      go_loop [10, 11] (fun n i => ∃ (k : Nat) (x : Int), k ≤ s.size ∧ i = .int .i64 k ∧ n = .int .i64 x ∧ Hid (valV 10 (s.data.toList.take k) = x) ∧ Hid (allB (isD 10) (s.data.toList.take k) = true)) (fun _ i => s.size - (intOf i).toNat)
      case atStart => exact ⟨0, 0, Nat.zero_le _, rfl, rfl, rfl, rfl⟩
      case round =>
        obtain ⟨k, x, hk, rfl, rfl, hx, ha⟩ := hrel
        by_cases hlt : k < s.size
        · have hbd := byte_wf s[k]
          obtain ⟨q0, q1⟩ := val_fitTen s HL.out k hlt ha.out
          rw [hx.out] at q0 q1
          obtain ⟨hy, hn⟩ := hex_digV (s[k]'hlt).toNat (s[k]'hlt).toNat_lt
          by_cases hd : isD 10 ((s[k]'hlt).toNat : Int) = true
          · have hdn := digV_nn ((s[k]'hlt).toNat : Int)
            have hd2 := isD_true.1 hd
            have hB : hexB ((s[k]'hlt).toNat : Int) = true := by
              cases hh : hexB ((s[k]'hlt).toNat : Int) with
              | true => rfl
              | false => have := hn hh; omega
            have HB := Lib.hid hB
            have HN := Lib.hid (hy hB).1
            have HX : Hid (valV 10 (s.data.toList.take (k + 1)) = x * 10 + digV ((s[k]'hlt).toNat : Int)) := by show _ = _; rw [valV_take _ s k hlt, hx.out]
            have HA : Hid (allB (isD 10) (s.data.toList.take (k + 1)) = true) := by show _ = _; rw [allB_take _ s k hlt, ha.out, hd]; rfl
            clear hd hx ha hy hn hB
            go_wp2_with fail
            refine (r_hex (s[k]'hlt).toNat (s[k]'hlt).toNat_lt _).mono ?_
            rintro e w' ⟨he, rfl⟩
            rw [HB.out, HN.out] at he
            subst he
            generalize digV ((s[k]'hlt).toNat : Int) = d at *
            go_wp2
            go_round
            case rel => exact ⟨k + 1, _, by omega, by go_num, rfl, HX, HA⟩
            case measure => simp [intOf]; omega
          · have hd' : isD 10 ((s[k]'hlt).toNat : Int) = false := by simpa using hd
            have hf := allB_false (isD 10) s k hlt hd'
            have E : Hid (v = 0 ∧ o = 5) := by
              have a := HV.out; have c := HO.out
              rw [if_pos (.inr (.inr (.inl hf)))] at a
              rw [if_pos (.inr (.inr hf))] at c
              exact ⟨a.symm, c.symm⟩
            have hd2 := isD_false.1 hd'
            cases hh : hexB ((s[k]'hlt).toNat : Int) with
            | false =>
              have HB := Lib.hid hh
              clear hd hd' hx ha hy hn hf hh hd2 HV HO
              go_wp2_with fail
              refine (r_hex (s[k]'hlt).toNat (s[k]'hlt).toNat_lt _).mono ?_
              rintro e w' ⟨he, rfl⟩
              rw [HB.out] at he
              subst he
              go_wp2
              go_ret2
              exact ⟨ret_int_int E.out.1.symm E.out.2.symm, rfl⟩
            | true =>
              have HB := Lib.hid hh
              have HN := Lib.hid (hy hh).1
              have hlim := (hy hh).2
              clear hd hd' hx ha hy hn hf hh HV HO
              go_wp2_with fail
              refine (r_hex (s[k]'hlt).toNat (s[k]'hlt).toNat_lt _).mono ?_
              rintro e w' ⟨he, rfl⟩
              rw [HB.out, HN.out] at he
              subst he
              generalize digV ((s[k]'hlt).toNat : Int) = d at *
              first
                | (exfalso; omega)
                | (go_wp2
                   go_ret2
                   exact ⟨ret_int_int E.out.1.symm E.out.2.symm, rfl⟩)
        · have hfull : s.data.toList.take k = s.data.toList := List.take_of_length_le (by rw [← Lib.size_eq]; omega)
          rw [hfull] at hx ha
          have hv := HV.out
          have ho := HO.out
          rw [hx.out, ha.out] at hv
          rw [hx.out, ha.out] at ho
          by_cases hm : most < x
          · have E : Hid (v = 0 ∧ o = 3) := by
              rw [if_pos (.inr (.inr (.inr hm)))] at hv
              rw [if_neg (by have := HS.out; have := HL.out; have := H0.out; rintro (h | h | h) <;> first | omega | cases h), if_pos hm] at ho
              exact ⟨hv.symm, ho.symm⟩
            clear hv ho HV HO hx ha hfull
            go_wp2
            go_ret2
            exact ⟨ret_int_int E.out.1.symm E.out.2.symm, rfl⟩
          · have E : Hid (v = x ∧ o = 0) := by
              rw [if_neg (by have := HS.out; have := HL.out; have := H0.out; rintro (h | h | h | h) <;> first | omega | cases h)] at hv
              rw [if_neg (by have := HS.out; have := HL.out; have := H0.out; rintro (h | h | h) <;> first | omega | cases h), if_neg hm] at ho
              exact ⟨hv.symm, ho.symm⟩
            clear hv ho HV HO hx ha hfull
            go_wp2
            go_ret2
            exact ⟨ret_int_int E.out.1.symm E.out.2.symm, rfl⟩

theorem r_number_any (s : ByteArray) (most : Int) (w : World) (hs : s.size ≤ maxLen) :
    Calls Tryz.prog 105 #[.string s, .int .i64 most] w fun e w' => e = .returned (.tuple #[.int .i64 (numN 10 18 most s.data.toList), .int .i64 (numE 10 18 most s.data.toList)]) ∧ w = w' := by
  go_enter Tryz.func105, Tryz.ntmps105
  go_wp2_with fail
  refine (r_readTen_any s most _ hs).mono ?_
  rintro e w1 ⟨rfl, rfl⟩
  go_wp2_with fail
  go_ret2
  exact ⟨rfl, rfl⟩

theorem r_readHx_any (s : ByteArray) (most : Int) (w : World) (hs : s.size ≤ maxLen) :
    Calls Tryz.prog 143 #[.string s, .int .i64 16, .int .i64 15, .int .i64 most] w fun e w' => e = .returned (.tuple #[.int .i64 (numN 16 15 most s.data.toList), .int .i64 (numE 16 15 most s.data.toList)]) ∧ w = w' := by
  unfold maxLen at hs
  have hsz := Lib.size_eq s
  obtain ⟨v, hv⟩ : ∃ v, numN 16 15 most s.data.toList = v := ⟨_, rfl⟩
  obtain ⟨o, ho⟩ : ∃ o, numE 16 15 most s.data.toList = o := ⟨_, rfl⟩
  rw [hv, ho]
  unfold numN at hv
  unfold numE at ho
  by_cases h0 : s.size = 0
  · rw [if_pos (.inl (by omega))] at hv ho
    have E : Hid (v = 0 ∧ o = 5) := ⟨hv.symm, ho.symm⟩
    have h1 : (s.size : Int) < 1 := by omega
    clear hv ho hsz h0
    go_enter Tryz.func143, Tryz.ntmps143
    go_wp2_with fail
    go_ret2
    exact ⟨ret_int_int E.out.1.symm E.out.2.symm, rfl⟩
  · by_cases hl : 15 < s.size
    · rw [if_pos (.inr (.inl (by omega)))] at hv ho
      have E : Hid (v = 0 ∧ o = 5) := ⟨hv.symm, ho.symm⟩
      have h1 : ¬ (s.size : Int) < 1 := by omega
      have h2 : (15 : Int) < (s.size : Int) := by omega
      clear hv ho hsz h0 hl
      go_enter Tryz.func143, Tryz.ntmps143
      go_wp2_with fail
      go_ret2
      exact ⟨ret_int_int E.out.1.symm E.out.2.symm, rfl⟩
    · have h1 : ¬ (s.size : Int) < 1 := by omega
      have h2 : ¬ (15 : Int) < (s.size : Int) := by omega
      have HV := Lib.hid hv
      have HO := Lib.hid ho
      have HS := Lib.hid hsz
      have HL := Lib.hid (show s.size ≤ 15 by omega)
      have H0 := Lib.hid h0
      clear hv ho hsz h0 hl
      go_enter Tryz.func143, Tryz.ntmps143
      go_wp2_with fail
      clear h1 h2
      go_loop [10, 11] (fun n i => ∃ (k : Nat) (x : Int), k ≤ s.size ∧ i = .int .i64 k ∧ n = .int .i64 x ∧ Hid (valV 16 (s.data.toList.take k) = x) ∧ Hid (allB (isD 16) (s.data.toList.take k) = true)) (fun _ i => s.size - (intOf i).toNat)
      case atStart => exact ⟨0, 0, Nat.zero_le _, rfl, rfl, rfl, rfl⟩
      case round =>
        obtain ⟨k, x, hk, rfl, rfl, hx, ha⟩ := hrel
        by_cases hlt : k < s.size
        · have hbd := byte_wf s[k]
          obtain ⟨q0, q1⟩ := val_fitHex s HL.out k hlt ha.out
          rw [hx.out] at q0 q1
          obtain ⟨hy, hn⟩ := hex_digV (s[k]'hlt).toNat (s[k]'hlt).toNat_lt
          by_cases hd : isD 16 ((s[k]'hlt).toNat : Int) = true
          · have hdn := digV_nn ((s[k]'hlt).toNat : Int)
            have hd2 := isD_true.1 hd
            have hB : hexB ((s[k]'hlt).toNat : Int) = true := by
              cases hh : hexB ((s[k]'hlt).toNat : Int) with
              | true => rfl
              | false => have := hn hh; omega
            have HB := Lib.hid hB
            have HN := Lib.hid (hy hB).1
            have HX : Hid (valV 16 (s.data.toList.take (k + 1)) = x * 16 + digV ((s[k]'hlt).toNat : Int)) := by show _ = _; rw [valV_take _ s k hlt, hx.out]
            have HA : Hid (allB (isD 16) (s.data.toList.take (k + 1)) = true) := by show _ = _; rw [allB_take _ s k hlt, ha.out, hd]; rfl
            clear hd hx ha hy hn hB
            go_wp2_with fail
            refine (r_hex (s[k]'hlt).toNat (s[k]'hlt).toNat_lt _).mono ?_
            rintro e w' ⟨he, rfl⟩
            rw [HB.out, HN.out] at he
            subst he
            generalize digV ((s[k]'hlt).toNat : Int) = d at *
            go_wp2
            go_round
            case rel => exact ⟨k + 1, _, by omega, by go_num, rfl, HX, HA⟩
            case measure => simp [intOf]; omega
          · have hd' : isD 16 ((s[k]'hlt).toNat : Int) = false := by simpa using hd
            have hf := allB_false (isD 16) s k hlt hd'
            have E : Hid (v = 0 ∧ o = 5) := by
              have a := HV.out; have c := HO.out
              rw [if_pos (.inr (.inr (.inl hf)))] at a
              rw [if_pos (.inr (.inr hf))] at c
              exact ⟨a.symm, c.symm⟩
            have hd2 := isD_false.1 hd'
            cases hh : hexB ((s[k]'hlt).toNat : Int) with
            | false =>
              have HB := Lib.hid hh
              clear hd hd' hx ha hy hn hf hh hd2 HV HO
              go_wp2_with fail
              refine (r_hex (s[k]'hlt).toNat (s[k]'hlt).toNat_lt _).mono ?_
              rintro e w' ⟨he, rfl⟩
              rw [HB.out] at he
              subst he
              go_wp2
              go_ret2
              exact ⟨ret_int_int E.out.1.symm E.out.2.symm, rfl⟩
            | true =>
              have HB := Lib.hid hh
              have HN := Lib.hid (hy hh).1
              have hlim := (hy hh).2
              clear hd hd' hx ha hy hn hf hh HV HO
              go_wp2_with fail
              refine (r_hex (s[k]'hlt).toNat (s[k]'hlt).toNat_lt _).mono ?_
              rintro e w' ⟨he, rfl⟩
              rw [HB.out, HN.out] at he
              subst he
              generalize digV ((s[k]'hlt).toNat : Int) = d at *
              first
                | (exfalso; omega)
                | (go_wp2
                   go_ret2
                   exact ⟨ret_int_int E.out.1.symm E.out.2.symm, rfl⟩)
        · have hfull : s.data.toList.take k = s.data.toList := List.take_of_length_le (by rw [← Lib.size_eq]; omega)
          rw [hfull] at hx ha
          have hv := HV.out
          have ho := HO.out
          rw [hx.out, ha.out] at hv
          rw [hx.out, ha.out] at ho
          by_cases hm : most < x
          · have E : Hid (v = 0 ∧ o = 3) := by
              rw [if_pos (.inr (.inr (.inr hm)))] at hv
              rw [if_neg (by have := HS.out; have := HL.out; have := H0.out; rintro (h | h | h) <;> first | omega | cases h), if_pos hm] at ho
              exact ⟨hv.symm, ho.symm⟩
            clear hv ho HV HO hx ha hfull
            go_wp2
            go_ret2
            exact ⟨ret_int_int E.out.1.symm E.out.2.symm, rfl⟩
          · have E : Hid (v = x ∧ o = 0) := by
              rw [if_neg (by have := HS.out; have := HL.out; have := H0.out; rintro (h | h | h | h) <;> first | omega | cases h)] at hv
              rw [if_neg (by have := HS.out; have := HL.out; have := H0.out; rintro (h | h | h) <;> first | omega | cases h), if_neg hm] at ho
              exact ⟨hv.symm, ho.symm⟩
            clear hv ho HV HO hx ha hfull
            go_wp2
            go_ret2
            exact ⟨ret_int_int E.out.1.symm E.out.2.symm, rfl⟩

theorem r_seconds (s : ByteArray) (w : World) (hs : s.size ≤ maxLen) :
    Calls Tryz.prog 46 #[.string s] w fun e w' => e = .returned (.tuple #[.int .i64 (secN s.data.toList), .bool (secB s.data.toList)]) ∧ w = w' := by
  unfold maxLen at hs
  go_enter Tryz.func46, Tryz.ntmps46
  go_wp2_with fail
  go_loop [4, 5] (fun n i => ∃ (k : Nat) (x : Int), k ≤ s.size ∧ 0 ≤ x ∧ x ≤ 2147483648 ∧ i = .int .i64 k ∧ n = .int .i64 x ∧ Hid (cutV 10 2147483648 (s.data.toList.take k) = x) ∧ Hid (allB (isD 10) (s.data.toList.take k) = true)) (fun _ i => s.size - (intOf i).toNat)
  case atStart => exact ⟨0, 0, Nat.zero_le _, by omega, by omega, rfl, rfl, rfl, rfl⟩
  case round =>
    obtain ⟨k, x, hk, x0, x1, rfl, rfl, hx, ha⟩ := hrel
    by_cases hlt : k < s.size
    · have hbd := byte_wf s[k]
      have hdb := dig_digV (s[k]'hlt).toNat (s[k]'hlt).toNat_lt
      by_cases hd : isD 10 ((s[k]'hlt).toNat : Int) = true
      · have hval := dig_val (s[k]'hlt).toNat (s[k]'hlt).toNat_lt (hdb.trans hd)
        have hdn := digV_nn ((s[k]'hlt).toNat : Int)
        have hd2 := isD_true.1 hd
        rw [hval] at hdn hd2
        have HX : Hid (cutV 10 2147483648 (s.data.toList.take (k + 1)) = if x * 10 + (((s[k]'hlt).toNat : Int) - 48) < 2147483648 then x * 10 + (((s[k]'hlt).toNat : Int) - 48) else 2147483648) := by show _ = _; rw [cutV_take _ _ s k hlt, hx.out, hval]
        have HA : Hid (allB (isD 10) (s.data.toList.take (k + 1)) = true) := by show _ = _; rw [allB_take _ s k hlt, ha.out, hd]; rfl
        have HB := Lib.hid (hdb.trans hd)
        clear hd hx ha hdb hval
        go_wp2_with fail
        refine (r_digit (s[k]'hlt).toNat (s[k]'hlt).toNat_lt _).mono ?_
        rintro e w' ⟨he, rfl⟩
        rw [HB.out] at he
        subst he
        go_wp2
        all_goals
          go_round
          case rel => exact ⟨k + 1, _, by omega, by omega, by omega, by go_num, rfl, by show _ = _; rw [HX.out]; split <;> omega, HA⟩
          case measure => simp [intOf]; omega
      · have hd' : isD 10 ((s[k]'hlt).toNat : Int) = false := by simpa using hd
        have hf := allB_false (isD 10) s k hlt hd'
        have E : Hid (secN s.data.toList = 0 ∧ secB s.data.toList = false) := by constructor <;> simp [secN, secB, hf]
        have HB := Lib.hid (hdb.trans hd')
        clear hd hd' hx ha hdb hf
        go_wp2_with fail
        refine (r_digit (s[k]'hlt).toNat (s[k]'hlt).toNat_lt _).mono ?_
        rintro e w' ⟨he, rfl⟩
        rw [HB.out] at he
        subst he
        go_wp2
        go_ret2
        exact ⟨ret_int_bool E.out.1.symm E.out.2.symm, rfl⟩
    · have hfull : s.data.toList.take k = s.data.toList := List.take_of_length_le (by rw [← Lib.size_eq]; omega)
      rw [hfull] at hx ha
      have E : Hid (secN s.data.toList = x ∧ secB s.data.toList = !s.data.toList.isEmpty) := by
        unfold secN secB
        rw [ha.out, if_pos rfl]
        exact ⟨hx.out, rfl⟩
      clear hx ha hfull
      have hem : Hid ((!s.data.toList.isEmpty) = decide ((0 : Int) < (s.size : Int))) := by
        show _ = _
        have := Lib.size_eq s
        cases hh : s.data.toList with
        | nil => rw [hh] at this; simp at this; simp [this]
        | cons a r => rw [hh] at this; simp at this; simp; omega
      go_wp2
      go_ret2
      exact ⟨ret_int_bool E.out.1.symm (by rw [E.out.2, hem.out]; exact decide_eq_decide.2 (by omega)), rfl⟩

end Go.Proofs.YtfmaaghmbnhikaaGreatDoor
end
