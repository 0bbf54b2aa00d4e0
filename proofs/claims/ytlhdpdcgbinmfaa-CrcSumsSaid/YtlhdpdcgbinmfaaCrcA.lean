/-
  Contracts of package crc.
-/
import Derived.Test.YtlhdpdcgbinmfaaRows
import Derived.Outline
import Derived.ChangeArms
import Derived.Laws.BitsAllLaws
import Derived.Test.YtlhdpdcgbinmfaaComU
import Derived.Test.YtlhdpdcgbinmfaaCrcM
namespace Go.Proofs.Ytlhdpdcgbinmfaa
open Go.RowKit

theorem bit_u32 (u : Nat) (hu : u < 4294967296) : bits .xor .u32 ((u : Int) / 2) ((u : Int) % 2 * 2197175160) = (shN u : Int) := by
  have h := u32_xor_nat (u / 2) (u % 2 * 2197175160) (by omega) (by omega)
  rw [show ((u / 2 : Nat) : Int) = (u : Int) / 2 by omega, show ((u % 2 * 2197175160 : Nat) : Int) = (u : Int) % 2 * 2197175160 by omega] at h
  exact h

set_option maxRecDepth 100000 in
theorem run_any (A : Option Addr) (n c : Nat) (l : List UInt8) (s : Nat) (w : World) (h : Sl8 w A n c l) (hs : s < 4294967296) :
    Calls Try.prog 15 #[.int .u32 (s : Int), .slice A n c] w fun e w' => e = .returned (.int .u32 (stL s l : Int)) ∧ w = w' := by
  have hm := h.cm
  have hcap := h.cap
  have hln := h.len
  unfold maxLen at hm
  go_enter Try.func15, Try.ntmps15
  go_wp2_with fail
  go_loop [0, 9] (fun v i => ∃ (j t : Nat), j ≤ n ∧ i = .int .i64 j ∧ v = .int .u32 t ∧ t < 4294967296 ∧ Hid (t = stL s (l.take j))) (fun _ i => n - (intOf i).toNat)
  case atStart => exact ⟨0, s, Nat.zero_le _, rfl, rfl, hs, rfl⟩
  case round =>
    obtain ⟨j, t, hj, rfl, rfl, ht, hr⟩ := hrel
    by_cases hlt : j < n
    · have hjl : j < l.length := by omega
      obtain ⟨ad, rfl, hc⟩ := h.at_ (by omega)
      obtain ⟨x, hx⟩ : ∃ x, x = l[j] := ⟨_, rfl⟩
      have hcell := hc j x (by rw [hx]; exact List.getElem?_eq_getElem hjl)
      unfold byV at hcell
      have hbx := byte_wf x
      have hx0 : (x.toNat : Int) % 4294967296 = (x.toNat : Int) := by omega
      have HX := Lib.hid (show stL s (l.take (j + 1)) = stB t x by rw [hr.out, List.take_succ_eq_append_getElem hjl, stL_snoc, hx])
      have HW := Lib.hid (u32_xor_nat t x.toNat ht (by omega))
      clear hc hx hr
      go_wp2_with fail
      go_loop [0, 17] (fun v i => ∃ (k u : Nat), k ≤ 8 ∧ i = .int .i64 k ∧ v = .int .u32 u ∧ u < 4294967296 ∧ Hid (u = shK k (t ^^^ x.toNat))) (fun _ i => 8 - (intOf i).toNat)
      case atStart => exact ⟨0, _, Nat.zero_le _, rfl, by rw [HW.out], Nat.xor_lt_two_pow (n := 32) ht (by omega), rfl⟩
      case round =>
        obtain ⟨k, u, hk, rfl, rfl, hu, hur⟩ := hrel
        by_cases hk8 : k < 8
        · have HB := Lib.hid (bit_u32 u hu)
          go_wp2_with fail
          go_round
          case rel => exact ⟨k + 1, shN u, by omega, by go_num, by rw [HB.out], shN_lt hu, by rw [hur.out, ← shK_last]; exact rfl⟩
          case measure => simp [intOf]; omega
        · obtain rfl : k = 8 := by omega
          have HK := Lib.hid (show u = stB t x from hur.out)
          go_wp2_with fail
          go_round
          case rel => exact ⟨j + 1, u, by omega, by go_num, rfl, hu, by rw [HK.out, HX.out]; exact rfl⟩
          case measure => simp [intOf]; omega
    · obtain rfl : n = j := by omega
      have HT := Lib.hid (show t = stL s l by rw [hr.out, List.take_of_length_le (by omega)])
      go_wp2_with fail
      go_ret
      exact ⟨ret_int (by rw [HT.out]), rfl⟩

theorem low_int (c : Int) : c % 4294967296 = (lowN c : Int) := by unfold lowN; omega

theorem inv_u32 (m : Nat) (hm : m < 4294967296) : bits .xor .u32 IntKind.u32.max (m : Int) = ((m ^^^ 4294967295 : Nat) : Int) := by
  have h := u32_xor_nat 4294967295 m (by omega) hm
  rw [Nat.xor_comm] at h
  exact h
theorem signed_u32 : IntKind.u32.signed = false := rfl

set_option maxRecDepth 100000 in
theorem step_any (c : Int) (x : UInt8) (w : World) :
    Calls Try.prog 9 #[.int .i64 c, .int .u8 (x.toNat : Int)] w fun e w' => e = .returned (.int .i64 (stB (lowN c) x : Int)) ∧ Below w.heap.size w w' := by
  have hl := stB_lt (lowN_lt c) x
  have HS := Lib.hid (show stL (lowN c) [x] = stB (lowN c) x from rfl)
  have HC := Lib.hid (low_int c)
  go_enter Try.func9, Try.ntmps9
  go_wp2_with fail
  rw [HC.out]
  refine (run_any _ 1 1 [x] (lowN c) _ (Sl8.one w _ x rfl) (lowN_lt c)).mono ?_
  rintro e w' ⟨he, rfl⟩
  rw [HS.out] at he
  subst he
  go_wp2_with fail
  go_ret
  exact ⟨rfl, (Below.refl _ _).alloc (Nat.le_refl _) _⟩

set_option maxRecDepth 100000 in
theorem more_any (A : Option Addr) (n c : Nat) (l : List UInt8) (s : Int) (w : World) (h : Sl8 w A n c l) :
    Calls Try.prog 12 #[.int .i64 s, .slice A n c] w fun e w' => e = .returned (.int .i64 (moreN s l : Int)) ∧ w = w' := by
  have hsg := signed_u32
  have HC := Lib.hid (low_int s)
  have HI := Lib.hid (inv_u32 (lowN s) (lowN_lt s))
  obtain ⟨t, ht⟩ : ∃ t, t = stL (lowN s ^^^ 4294967295) l := ⟨_, rfl⟩
  have htl : t < 4294967296 := by rw [ht]; exact stL_lt (ones_lt (lowN_lt s)) l
  have HT := Lib.hid ht
  have HI2 := Lib.hid (inv_u32 t htl)
  obtain ⟨u, hu⟩ : ∃ u, u = t ^^^ 4294967295 := ⟨_, rfl⟩
  have hul : u < 4294967296 := by rw [hu]; exact ones_lt htl
  have HU := Lib.hid hu
  have HM := Lib.hid (show moreN s l = u by rw [hu, ht]; rfl)
  clear hu ht
  go_enter Try.func12, Try.ntmps12
  go_wp2_with fail
  rw [HC.out, HI.out]
  refine (run_any A n c l _ _ h (ones_lt (lowN_lt s))).mono ?_
  rintro e w' ⟨he, rfl⟩
  rw [← HT.out] at he
  subst he
  go_wp2_with fail
  go_ret
  exact ⟨ret_int (by rw [HM.out, HI2.out, ← HU.out]; exact IntWalk.wrap64_in _ (by omega)), rfl⟩

set_option maxRecDepth 100000 in
theorem sum_any (A : Option Addr) (n c : Nat) (l : List UInt8) (w : World) (h : Sl8 w A n c l) :
    Calls Try.prog 11 #[.slice A n c] w fun e w' => e = .returned (.int .i64 (sumN l : Int)) ∧ w = w' := by
  go_enter Try.func11, Try.ntmps11
  go_wp2_with fail
  refine (more_any A n c l 0 _ h).mono ?_
  rintro e w' ⟨rfl, rfl⟩
  go_wp2_with fail
  go_ret
  exact ⟨rfl, rfl⟩

set_option maxRecDepth 100000 in
theorem check_any (A : Option Addr) (n c : Nat) (l : List UInt8) (s : Int) (w : World) (h : Sl8 w A n c l) :
    Calls Try.prog 14 #[.slice A n c, .int .i64 s] w fun e w' => e = .returned (.bool ((sumN l : Int) == s)) ∧ w = w' := by
  go_enter Try.func14, Try.ntmps14
  go_wp2_with fail
  refine (sum_any A n c l _ h).mono ?_
  rintro e w' ⟨rfl, rfl⟩
  go_wp2_with fail
  go_ret
  exact ⟨rfl, rfl⟩

end Go.Proofs.Ytlhdpdcgbinmfaa
