/-
  Contracts of the reference's Step, Undo, Hash, Set and Part.
-/
import Derived.Test.YtlmolmbcpignkaaMixH
namespace Go.Proofs.Ytlmolmbcpignkaa
open Go.RowKit

set_option maxRecDepth 100000 in
theorem rfold29_any (h : Nat) (hl : h < 18446744073709551616) (w : World) :
    Calls Try.prog 18 #[.int .u64 (h : Int), .int .u64 29] w fun e w' => e = .returned (.int .u64 (foldN 29 h : Int)) ∧ w = w' := by
  have HB := Lib.hid (fold_bits 29 h hl 536870912 rfl)
  go_enter Try.func18, Try.ntmps18
  go_wp2_with fail
  rw [HB.out]
  go_ret
  exact ⟨rfl, rfl⟩
set_option maxRecDepth 100000 in
theorem rfold32_any (h : Nat) (hl : h < 18446744073709551616) (w : World) :
    Calls Try.prog 18 #[.int .u64 (h : Int), .int .u64 32] w fun e w' => e = .returned (.int .u64 (foldN 32 h : Int)) ∧ w = w' := by
  have HB := Lib.hid (fold_bits 32 h hl 4294967296 rfl)
  go_enter Try.func18, Try.ntmps18
  go_wp2_with fail
  rw [HB.out]
  go_ret
  exact ⟨rfl, rfl⟩

set_option maxRecDepth 100000 in
theorem rstep_any (h : Nat) (hl : h < 18446744073709551616) (x : UInt8) (w : World) :
    Calls Try.prog 8 #[.int .u64 (h : Int), .int .u8 (x.toNat : Int)] w fun e w' => e = .returned (.int .u64 (mixB h x : Int)) ∧ w = w' := by
  have hbx := byte_wf x
  have hx0 : (x.toNat : Int) % 18446744073709551616 = (x.toNat : Int) := by omega
  have HW := Lib.hid (u64_xor_nat h x.toNat hl (by omega))
  have HM := Lib.hid (wrap_mul (h ^^^ x.toNat) 1099511628211 1099511628211 rfl)
  have HF := Lib.hid (show foldN 29 (mulN (h ^^^ x.toNat) 1099511628211) = mixB h x from rfl)
  go_enter Try.func8, Try.ntmps8
  go_wp2_with fail
  rw [HW.out, HM.out]
  refine (rfold29_any _ (mulN_lt _ _) _).mono ?_
  rintro e w' ⟨he, rfl⟩
  rw [HF.out] at he
  subst he
  go_wp2_with fail
  go_ret
  exact ⟨rfl, rfl⟩

set_option maxRecDepth 100000 in
theorem rhash_any (a : Int) (s : ByteArray) (hs : s.size ≤ maxLen) (w : World) :
    Calls Try.prog 12 #[.int .i64 a, .string s] w fun e w' => e = .returned (.int .u64 (hashN a s.data.toList : Int)) ∧ w = w' := by
  have hs2 := hs
  unfold maxLen at hs2
  have H1 := Lib.hid (seed_bits a)
  have HL := Lib.hid (Lib.size_eq s)
  have HD := Lib.hid (show ∀ m, m = mixL (seedN a) s.data.toList → foldN 32 (mulN (m ^^^ s.size) 11400714819323198485) = hashN a s.data.toList by intro m hm; rw [hm, Lib.size_eq s]; unfold hashN; exact Eq.refl _)
  obtain ⟨q, hq⟩ : ∃ q, q = seedN a := ⟨_, rfl⟩
  have hql : q < 18446744073709551616 := by rw [hq]; exact seedN_lt a
  have HQ := Lib.hid hq
  clear hq
  go_enter Try.func12, Try.ntmps12
  go_wp2_with fail
  rw [H1.out, ← HQ.out]
  clear H1
  go_loop [5, 6] (fun v i => ∃ (j t : Nat), j ≤ s.size ∧ i = .int .i64 j ∧ v = .int .u64 t ∧ t < 18446744073709551616 ∧ Hid (t = mixL q (s.data.toList.take j))) (fun _ i => s.size - (intOf i).toNat)
  case atStart => exact ⟨0, q, Nat.zero_le _, rfl, rfl, hql, rfl⟩
  case round =>
    obtain ⟨j, t, hj, rfl, rfl, ht, hr⟩ := hrel
    by_cases hlt : j < s.size
    · obtain ⟨x, hx⟩ : ∃ x, x = s[j] := ⟨_, rfl⟩
      have HX := Lib.hid (show mixL q (s.data.toList.take (j + 1)) = mixB t x by
        rw [List.take_succ_eq_append_getElem (by rw [← Lib.size_eq]; exact hlt), mixL_snoc, ← hr.out, hx]; exact congrArg (mixB t) rfl)
      have HXX := Lib.hid hx
      clear hr hx
      go_wp2_with fail
      rw [← HXX.out]
      refine (rstep_any t ht x _).mono ?_
      rintro e w' ⟨rfl, rfl⟩
      go_wp2_with fail
      go_round
      case rel => exact ⟨j + 1, mixB t x, by omega, by go_num, rfl, mixB_lt t x, by rw [HX.out]; exact rfl⟩
      case measure => simp [intOf]; omega
    · obtain rfl : s.size = j := by omega
      have HF := Lib.hid (HD.out t (by rw [hr.out, List.take_of_length_le (by rw [← Lib.size_eq]; exact Nat.le_refl _), HQ.out]))
      have H2 := Lib.hid (u64_xor_nat t s.size ht (by omega))
      have H3 := Lib.hid (wrap_mul (t ^^^ s.size) 11400714819323198485 11400714819323198485 rfl)
      have hz : (s.size : Int) % 18446744073709551616 = (s.size : Int) := by omega
      go_wp2_with fail
      rw [H2.out, H3.out]
      refine (rfold32_any _ (mulN_lt _ _) _).mono ?_
      rintro e w2 ⟨he, rfl⟩
      rw [HF.out] at he
      subst he
      go_wp2_with fail
      go_ret
      exact ⟨rfl, rfl⟩

set_option maxRecDepth 100000 in
theorem rpart_any (h : Nat) (hl : h < 18446744073709551616) (w : World) :
    Calls Try.prog 16 #[.int .u64 (h : Int)] w fun e w' => e = .returned (.int .i64 ((h / 281474976710656 : Nat) : Int)) ∧ w = w' := by
  go_enter Try.func16, Try.ntmps16
  go_wp2_with fail
  go_ret
  exact ⟨ret_int (by omega), rfl⟩

set_option maxRecDepth 100000 in
theorem rset_any (h : Nat) (hl : h < 18446744073709551616) (n : Int) (hn : n ≤ 9223372036854775807) (w : World) :
    Calls Try.prog 14 #[.int .u64 (h : Int), .int .i64 n] w fun e w' => e = .returned (.int .i64 (setN h n : Int)) ∧ w = w' := by
  by_cases k : n < 1
  · have HS := Lib.hid (show setN h n = 0 by unfold setN; rw [if_pos k])
    go_enter Try.func14, Try.ntmps14
    go_wp2_with fail
    go_ret
    exact ⟨ret_int (by rw [HS.out]; exact rfl), rfl⟩
  · obtain ⟨m, rfl⟩ : ∃ m : Nat, n = (m : Int) := ⟨n.toNat, by omega⟩
    have HS := Lib.hid (show (setN h (m : Int) : Int) = ((h % m : Nat) : Int) by unfold setN; rw [if_neg k, Int.toNat_natCast])
    have hm : (m : Int) % 18446744073709551616 = (m : Int) := by omega
    have hm0 : ¬ (m : Int) = 0 := by omega
    have hr : h % m < m := Nat.mod_lt _ (by omega)
    have HT := Lib.hid (show ((h : Int)).tmod (m : Int) = ((h % m : Nat) : Int) from (Int.ofNat_tmod h m).symm)
    have hr2 : ((h % m : Nat) : Int) < 9223372036854775808 := by omega
    go_enter Try.func14, Try.ntmps14
    go_wp2_with fail
    go_ret
    exact ⟨ret_int (by rw [HS.out]; omega), rfl⟩

/-- The powers of the prime by squaring, and the products of those so far. -/
def pwT : List Nat := [1099511628211, 956575116354345, 11527715348014283921, 2232315406967589409, 5692010928100677697, 385254471786446977, 1052683768129437953, 17457497010358354433, 13743314361298519041, 13656167857636116481, 14446062011509116929, 5663497195287486465, 7071528295410450433, 9468235000087347201, 16255379204076535809, 6393232434896437249, 15755359587223732225, 17454571389771579393, 11038411363869261825, 957334112184565761, 14282120149128445953, 4247071702455943169, 3459189390255849473, 5225306795597103105, 3678325651535822849, 17160987691857215489, 18199088717728055297, 8800118918929711105, 17888468214011133953, 36369785210011649, 4684425588847411201, 9368851177694822401, 290958281680093185, 581916563360186369, 1163833126720372737, 2327666253440745473, 4655332506881490945, 9310665013762981889, 174585953816412161, 349171907632824321, 698343815265648641, 1396687630531297281, 2793375261062594561, 5586750522125189121, 11173501044250378241, 3900258014791204865, 7800516029582409729, 15601032059164819457, 12755320044620087297, 7063896015530622977, 14127792031061245953, 9808839988412940289, 1170935903116328961, 2341871806232657921, 4683743612465315841, 9367487224930631681, 288230376151711745, 576460752303423489, 1152921504606846977, 2305843009213693953, 4611686018427387905, 9223372036854775809, 1]
def ivT : List Nat := [1, 1099511628211, 624165263380053675, 14218562807570617051, 2442422338666789947, 12984823558219895547, 3530705249512476795, 16467765342255254395, 5451731961757270395, 16565807260540366203, 11144611029596128635, 16127754761788061051, 7860539846778246523, 6082541240104260987, 8171166308590785915, 17849765959308187003, 7334976995574584699, 14424049694408611195, 12210797859702216059, 18095351782729749883, 14039075520507188603, 2576904802507593083, 3147578739709613435, 6035267738370741627, 349266159011796347, 16918720988407305595, 14249510009975510395, 13252558093897078139, 10177790351171294587, 18151543297153602939, 16805226620015515003, 277535210457175419, 4115640538759599483, 11791851195364447611, 8697528434864592251, 2508882913864881531, 8578335945575011707, 2270497935285720443, 8101565988416689531, 1316958020969076091, 6194486159783400827, 15949542437412050299, 17012910918959797627, 692903808345740667, 4946377734536729979, 13453325586918708603, 12020477217973114235, 9154780480081925499, 3423387004299548027, 10407344126444344699, 5928514297024386427, 15417598711894021499, 15949023467923740027, 17011872979983177083, 690827930392499579, 4942225978630247803, 13445022075105744251, 12003870194347185531, 9121566432830068091, 3356958909795833211, 10274487937436915067, 5662801919009527163, 14886173955864302971]
theorem pw_step : ∀ k, k < 62 → mulN (pwT.getD k 0) (pwT.getD k 0) = pwT.getD (k + 1) 0 := by decide +kernel
theorem iv_step : ∀ k, k < 62 → mulN (ivT.getD k 0) (pwT.getD k 0) = ivT.getD (k + 1) 0 := by decide +kernel
theorem iv_end : ivT.getD 62 0 = 14886173955864302971 := by decide +kernel
theorem pw_start : pwT.getD 0 0 = 1099511628211 := by decide +kernel
theorem iv_start : ivT.getD 0 0 = 1 := by decide +kernel

theorem bit_and (h b : Nat) (hl : h < 18446744073709551616) : bits .and .u64 ((h : Int) / 2 ^ b) 1 = ((h / 2 ^ b % 2 : Nat) : Int) := by
  have k := u64_and_nat (h / 2 ^ b) 1 (div_lt64 b hl) (by omega)
  rw [nat_mask1, Int.natCast_ediv, Int.natCast_pow] at k
  exact k
theorem bit_set (u b : Nat) (hu : u < 18446744073709551616) (z : Int) (hz : z = ((u / 2 ^ b % 2 : Nat) : Int)) :
    bits .or .u64 (topN u (b + 1) : Int) (IntKind.u64.wrap (z * 2 ^ b)) = (topN u b : Int) := by
  subst hz
  have hle : u / 2 ^ b % 2 * 2 ^ b < 18446744073709551616 := Nat.lt_of_le_of_lt (Nat.le_trans (Nat.mul_le_mul_right _ (Nat.mod_le _ _)) (Nat.div_mul_le_self u (2 ^ b))) hu
  have e : IntKind.u64.wrap (((u / 2 ^ b % 2 : Nat) : Int) * 2 ^ b) = ((u / 2 ^ b % 2 * 2 ^ b : Nat) : Int) := by
    rw [IntKind.wrap_u64, Int.natCast_mul, Int.natCast_pow]
    have : ((u / 2 ^ b % 2 * 2 ^ b : Nat) : Int) = ((u / 2 ^ b % 2 : Nat) : Int) * 2 ^ b := by rw [Int.natCast_mul, Int.natCast_pow]; rfl
    have h2 : (((2 : Nat) : Int)) = 2 := rfl
    rw [h2, ← this]
    omega
  rw [e, u64_or_nat _ _ (Nat.lt_of_le_of_lt (topN_le u _) hu) hle, topN_bit]
theorem undo_low (h b : Nat) (hl : h < 18446744073709551616) :
    bits .or .u64 (topN (unfN h) (b + 1) : Int) (IntKind.u64.wrap (bits .xor .u64 (bits .and .u64 ((h : Int) / 2 ^ b) 1) (bits .and .u64 ((topN (unfN h) (b + 1) : Int) / 2 ^ (b + 29)) 1) * 2 ^ b)) = (topN (unfN h) b : Int) := by
  have hu := unfN_lt hl
  refine bit_set _ b hu _ ?_
  rw [bit_and h b hl, bit_and _ (b + 29) (Nat.lt_of_le_of_lt (topN_le _ _) hu), top_up, u64_xor_nat _ _ (by omega) (by omega), unf_bit hl]
theorem undo_high (h b : Nat) (hl : h < 18446744073709551616) (hb : 63 < b + 29) :
    bits .or .u64 (topN (unfN h) (b + 1) : Int) (IntKind.u64.wrap (bits .xor .u64 (bits .and .u64 ((h : Int) / 2 ^ b) 1) 0 * 2 ^ b)) = (topN (unfN h) b : Int) := by
  have hu := unfN_lt hl
  refine bit_set _ b hu _ ?_
  have e := unf_bit hl b
  rw [div_none hu (by omega), Nat.zero_mod] at e
  have k := u64_xor_nat (h / 2 ^ b % 2) 0 (by omega) (by omega)
  rw [e] at k
  rw [bit_and h b hl]
  exact k

set_option maxRecDepth 100000 in
theorem rundo_any (h : Nat) (hl : h < 18446744073709551616) (x : UInt8) (w : World) :
    Calls Try.prog 10 #[.int .u64 (h : Int), .int .u8 (x.toNat : Int)] w fun e w' => e = .returned (.int .u64 (undoN h x : Int)) ∧ w = w' := by
  go_enter Try.func10, Try.ntmps10
  go_wp2_with fail
  go_loop [5, 6] (fun v i => ∃ (j : Nat), j ≤ 64 ∧ i = .int .i64 ((j : Int) - 1) ∧ v = .int .u64 (topN (unfN h) j : Int)) (fun _ i => (intOf i + 1).toNat)
  case atStart => exact ⟨64, Nat.le_refl _, rfl, by rw [topN_none (unfN_lt hl)]; rfl⟩
  case round =>
    obtain ⟨j, hj, rfl, rfl⟩ := hrel
    rcases Nat.eq_zero_or_pos j with h0 | h0
    · subst h0
      obtain ⟨u, hu⟩ : ∃ u, u = topN (unfN h) 0 := ⟨_, rfl⟩
      have HU := Lib.hid (show u = unfN h by rw [hu, topN_all])
      rw [← hu]
      clear hu
      go_wp2_with fail
      go_loop [8, 9, 10] (fun p q i => ∃ (k : Nat), k ≤ 62 ∧ i = .int .i64 k ∧ p = .int .u64 (ivT.getD k 0 : Nat) ∧ q = .int .u64 (pwT.getD k 0 : Nat)) (fun _ _ i => 62 - (intOf i).toNat)
      case atStart => exact ⟨0, Nat.zero_le _, rfl, by rw [iv_start]; rfl, by rw [pw_start]; rfl⟩
      case round =>
        obtain ⟨k, hk, rfl, rfl, rfl⟩ := hrel
        by_cases hk2 : k < 62
        · obtain ⟨p, hp⟩ : ∃ p, p = pwT.getD k 0 := ⟨_, rfl⟩
          obtain ⟨i, hi⟩ : ∃ i, i = ivT.getD k 0 := ⟨_, rfl⟩
          rw [← hp, ← hi]
          have H1 := Lib.hid (show IntKind.u64.wrap ((i : Int) * (p : Int)) = (ivT.getD (k + 1) 0 : Nat) by rw [wrap_mul i p _ rfl, hp, hi, iv_step k hk2])
          have H2 := Lib.hid (show IntKind.u64.wrap ((p : Int) * (p : Int)) = (pwT.getD (k + 1) 0 : Nat) by rw [wrap_mul p p _ rfl, hp, pw_step k hk2])
          clear hp hi
          go_wp2_with fail
          go_round
          case rel => exact ⟨k + 1, by omega, by go_num, by rw [H1.out], by rw [H2.out]⟩
          case measure => simp [intOf]; omega
        · obtain rfl : k = 62 := by omega
          have hbx := byte_wf x
          have hx0 : (x.toNat : Int) % 18446744073709551616 = (x.toNat : Int) := by omega
          have H4 := Lib.hid (show bits .xor .u64 (IntKind.u64.wrap ((u : Int) * (14886173955864302971 : Int))) (x.toNat : Int) = (undoN h x : Int) by
            rw [wrap_mul u 14886173955864302971 14886173955864302971 rfl, HU.out]
            exact u64_xor_nat _ _ (mulN_lt _ _) (x8 x))
          rw [iv_end]
          obtain ⟨q, hq⟩ : ∃ q, q = pwT.getD 62 0 := ⟨_, rfl⟩
          rw [← hq]
          clear hq
          go_wp2_with fail
          go_ret
          exact ⟨ret_int H4.out, rfl⟩
    · obtain ⟨b, rfl⟩ : ∃ b, j = b + 1 := ⟨j - 1, by omega⟩
      have hb1 : (((b + 1 : Nat) : Int)) - 1 = (b : Int) := by omega
      rw [hb1]
      by_cases hb : b + 29 ≤ 63
      · have HB := Lib.hid (undo_low h b hl)
        go_wp2_with fail
        go_round
        case rel => exact ⟨b, by omega, rfl, by rw [HB.out]⟩
        case measure => simp [intOf] <;> omega
      · have HB := Lib.hid (undo_high h b hl (by omega))
        go_wp2_with fail
        go_round
        case rel => exact ⟨b, by omega, rfl, by rw [HB.out]⟩
        case measure => simp [intOf] <;> omega

end Go.Proofs.Ytlmolmbcpignkaa
