/-
  Contracts of the reference's checksums.
-/
import Derived.Test.YtlhdpdcgbinmfaaCrcA
namespace Go.Proofs.Ytlhdpdcgbinmfaa
open Go.RowKit

set_option maxRecDepth 100000 in
theorem low_any (c : Int) (w : World) : Calls Try.prog 16 #[.int .i64 c] w fun e w' => e = .returned (.int .u32 (lowN c : Int)) ∧ w = w' := by
  have HC := Lib.hid (low_int c)
  go_enter Try.func16, Try.ntmps16
  go_wp2_with fail
  go_ret
  exact ⟨ret_int (by rw [← HC.out, IntKind.wrap_u64]; omega), rfl⟩

theorem shN_odd (u : Nat) (h : u % 2 = 1) : shN u = u / 2 ^^^ 2197175160 := by unfold shN; rw [h, Nat.one_mul]
theorem shN_even (u : Nat) (h : u % 2 = 0) : shN u = u / 2 := by unfold shN; rw [h, Nat.zero_mul, Nat.xor_zero]
theorem bit_odd (u : Nat) (hu : u < 4294967296) (h : u % 2 = 1) : bits .xor .u32 ((u : Int) / 2) 2197175160 = (shN u : Int) := by
  have k := u32_xor_nat (u / 2) 2197175160 (by omega) (by omega)
  rw [shN_odd u h, ← k, show ((u / 2 : Nat) : Int) = (u : Int) / 2 by omega]
  exact rfl

set_option maxRecDepth 100000 in
theorem r_step (c : Int) (x : UInt8) (w : World) :
    Calls Try.prog 10 #[.int .i64 c, .int .u8 (x.toNat : Int)] w fun e w' => e = .returned (.int .i64 (stB (lowN c) x : Int)) ∧ w = w' := by
  have hbx := byte_wf x
  obtain ⟨t, ht⟩ : ∃ t, t = lowN c := ⟨_, rfl⟩
  have htl : t < 4294967296 := by rw [ht]; exact lowN_lt c
  have HW := Lib.hid (u32_xor_nat t x.toNat htl (by omega))
  have HT := Lib.hid ht
  clear ht
  go_enter Try.func10, Try.ntmps10
  go_wp2_with fail
  refine (low_any c _).mono ?_
  rintro e w' ⟨he, rfl⟩
  rw [← HT.out] at he
  subst he
  go_wp2_with fail
  rw [HW.out]
  obtain ⟨q, hq⟩ : ∃ q, q = t ^^^ x.toNat := ⟨_, rfl⟩
  have hql : q < 4294967296 := by rw [hq]; exact Nat.xor_lt_two_pow (n := 32) htl (by omega)
  have HE := Lib.hid (show stB (lowN c) x = shK 8 q by rw [hq, HT.out]; rfl)
  rw [← hq]
  clear hq HT HW hbx
  go_loop [5, 6] (fun v i => ∃ (k u : Nat), k ≤ 8 ∧ i = .int .i64 k ∧ v = .int .u32 u ∧ u < 4294967296 ∧ Hid (u = shK k q)) (fun _ i => 8 - (intOf i).toNat)
  case atStart => exact ⟨0, _, Nat.zero_le _, rfl, rfl, hql, rfl⟩
  case round =>
    obtain ⟨k, u, hk, rfl, rfl, hu, hur⟩ := hrel
    by_cases hk8 : k < 8
    · rcases Nat.mod_two_eq_zero_or_one u with he | he
      · have he2 : (u : Int) % 2 = 0 := by omega
        have hb : (u : Int) / 2 = (shN u : Int) := by rw [shN_even u he]; omega
        have HB := Lib.hid hb
        clear he hb
        go_wp2_with fail
        go_round
        case rel => exact ⟨k + 1, shN u, by omega, by go_num, by rw [HB.out], shN_lt hu, by rw [hur.out, ← shK_last]; exact rfl⟩
        case measure => simp [intOf]; omega
      · have he2 : (u : Int) % 2 = 1 := by omega
        have HB := Lib.hid (bit_odd u hu he)
        clear he
        go_wp2_with fail
        go_round
        case rel => exact ⟨k + 1, shN u, by omega, by go_num, by rw [HB.out], shN_lt hu, by rw [hur.out, ← shK_last]; exact rfl⟩
        case measure => simp [intOf]; omega
    · obtain rfl : k = 8 := by omega
      have HK := Lib.hid (show u = stB (lowN c) x by rw [HE.out]; exact hur.out)
      go_wp2_with fail
      go_ret
      exact ⟨ret_int (by rw [HK.out]), rfl⟩

set_option maxRecDepth 100000 in
theorem r_more (A : Option Addr) (n c : Nat) (l : List UInt8) (s : Int) (w : World) (h : Sl8 w A n c l) :
    Calls Try.prog 13 #[.int .i64 s, .slice A n c] w fun e w' => e = .returned (.int .i64 (moreN s l : Int)) ∧ w = w' := by
  have hm := h.cm
  have hcap := h.cap
  have hln := h.len
  unfold maxLen at hm
  have hsg := signed_u32
  have HI := Lib.hid (inv_u32 (lowN s) (lowN_lt s))
  obtain ⟨t0, ht0⟩ : ∃ t, t = lowN s ^^^ 4294967295 := ⟨_, rfl⟩
  have htl0 : t0 < 4294967296 := by rw [ht0]; exact ones_lt (lowN_lt s)
  have HT0 := Lib.hid ht0
  have HM := Lib.hid (show moreN s l = stL t0 l ^^^ 4294967295 by rw [ht0]; rfl)
  clear ht0
  go_enter Try.func13, Try.ntmps13
  go_wp2_with fail
  refine (low_any s _).mono ?_
  rintro e w' ⟨rfl, rfl⟩
  go_wp2_with fail
  rw [HI.out, ← HT0.out, IntWalk.wrap64_in (t0 : Int) (by omega)]
  clear HI HT0 hsg
  go_loop [5, 6] (fun v i => ∃ (j t : Nat), j ≤ n ∧ i = .int .i64 j ∧ v = .int .i64 t ∧ t < 4294967296 ∧ Hid (t = stL t0 (l.take j))) (fun _ i => n - (intOf i).toNat)
  case atStart => exact ⟨0, t0, Nat.zero_le _, rfl, rfl, htl0, rfl⟩
  case round =>
    obtain ⟨j, t, hj, rfl, rfl, ht, hr⟩ := hrel
    by_cases hlt : j < n
    · have hjl : j < l.length := by omega
      obtain ⟨ad, rfl, hc⟩ := h.at_ (by omega)
      obtain ⟨x, hx⟩ : ∃ x, x = l[j] := ⟨_, rfl⟩
      have hcell := hc j x (by rw [hx]; exact List.getElem?_eq_getElem hjl)
      unfold byV at hcell
      have HX := Lib.hid (show stL t0 (l.take (j + 1)) = stB t x by rw [hr.out, List.take_succ_eq_append_getElem hjl, stL_snoc, hx])
      have HL := Lib.hid (lowN_nat ht)
      have hsb := stB_lt ht x
      clear hc hx hr
      go_wp2_with fail
      refine (r_step (t : Int) x _).mono ?_
      rintro e w' ⟨he, rfl⟩
      rw [HL.out] at he
      subst he
      go_wp2_with fail
      go_round
      case rel => exact ⟨j + 1, stB t x, by omega, by go_num, rfl, hsb, by rw [HX.out]; exact rfl⟩
      case measure => simp [intOf]; omega
    · obtain rfl : n = j := by omega
      have HT := Lib.hid (show t = stL t0 l by rw [hr.out, List.take_of_length_le (by omega)])
      have hsg := signed_u32
      have HI := Lib.hid (inv_u32 t ht)
      have HL := Lib.hid (lowN_nat ht)
      have htl := ones_lt ht
      go_wp2_with fail
      refine (low_any (t : Int) _).mono ?_
      rintro e w' ⟨he, rfl⟩
      rw [HL.out] at he
      subst he
      go_wp2_with fail
      go_ret
      exact ⟨ret_int (by rw [HM.out, HI.out, ← HT.out]; exact IntWalk.wrap64_in _ (by omega)), rfl⟩

set_option maxRecDepth 100000 in
theorem r_sum (A : Option Addr) (n c : Nat) (l : List UInt8) (w : World) (h : Sl8 w A n c l) :
    Calls Try.prog 8 #[.slice A n c] w fun e w' => e = .returned (.int .i64 (sumN l : Int)) ∧ w = w' := by
  go_enter Try.func8, Try.ntmps8
  go_wp2_with fail
  refine (r_more A n c l 0 _ h).mono ?_
  rintro e w' ⟨rfl, rfl⟩
  go_wp2_with fail
  go_ret
  exact ⟨rfl, rfl⟩

end Go.Proofs.Ytlhdpdcgbinmfaa
