/-
  Contracts of package mix.
-/
import Derived.Test.YtlmolmbcpignkaaRows
import Derived.Outline
import Derived.ChangeArms
import Derived.Laws.BitsAllLaws
import Derived.Test.YtlmolmbcpignkaaComU
import Derived.Test.YtlmolmbcpignkaaMixM
namespace Go.Proofs.Ytlmolmbcpignkaa
open Go.RowKit

theorem fold_bits (s h : Nat) (hl : h < 18446744073709551616) (p : Int) (hp : p = ((2 ^ s : Nat) : Int)) : bits .xor .u64 (h : Int) ((h : Int) / p) = (foldN s h : Int) := by
  subst hp
  have k := u64_xor_nat h (h / 2 ^ s) hl (div_lt64 s hl)
  rw [Int.natCast_ediv] at k
  exact k

theorem wrap_mul (a b : Nat) (q : Int) (hq : q = (b : Int)) : IntKind.u64.wrap ((a : Int) * q) = (mulN a b : Int) := by
  subst hq
  rw [IntKind.wrap_u64]
  unfold mulN
  omega

set_option maxRecDepth 100000 in
theorem fold29_any (h : Nat) (hl : h < 18446744073709551616) (w : World) :
    Calls Try.prog 20 #[.int .u64 (h : Int), .int .i64 29] w fun e w' => e = .returned (.int .u64 (foldN 29 h : Int)) ∧ w = w' := by
  have HB := Lib.hid (fold_bits 29 h hl 536870912 rfl)
  go_enter Try.func20, Try.ntmps20
  go_wp2_with fail
  rw [HB.out]
  go_ret
  exact ⟨rfl, rfl⟩
set_option maxRecDepth 100000 in
theorem fold32_any (h : Nat) (hl : h < 18446744073709551616) (w : World) :
    Calls Try.prog 20 #[.int .u64 (h : Int), .int .i64 32] w fun e w' => e = .returned (.int .u64 (foldN 32 h : Int)) ∧ w = w' := by
  have HB := Lib.hid (fold_bits 32 h hl 4294967296 rfl)
  go_enter Try.func20, Try.ntmps20
  go_wp2_with fail
  rw [HB.out]
  go_ret
  exact ⟨rfl, rfl⟩

def invT : Nat → Int
  | 0 => 1099511628211
  | 1 => 17822581009352754363
  | 2 => 4138864268038235515
  | 3 => 2867680748993156475
  | 4 => 7916009107578328443
  | _ => 14886173955864302971
theorem invT_step : ∀ k, k < 5 → invT k * ((2 - 1099511628211 * invT k % 18446744073709551616) % 18446744073709551616) % 18446744073709551616 = invT (k + 1) := by decide +kernel
theorem invT_lo : ∀ k, k ≤ 5 → 0 ≤ invT k ∧ invT k < 18446744073709551616 := by decide +kernel

set_option maxRecDepth 100000 in
theorem inverse_any (w : World) :
    Calls Try.prog 19 #[.int .u64 1099511628211] w fun e w' => e = .returned (.int .u64 14886173955864302971) ∧ w = w' := by
  go_enter Try.func19, Try.ntmps19
  go_wp2_with fail
  go_loop [3, 5] (fun v i => ∃ (k : Nat), k ≤ 5 ∧ i = .int .i64 k ∧ v = .int .u64 (invT k)) (fun _ i => 5 - (intOf i).toNat)
  case atStart => exact ⟨0, Nat.zero_le _, rfl, rfl⟩
  case round =>
    obtain ⟨k, hk, rfl, rfl⟩ := hrel
    by_cases h5 : k < 5
    · have HB := Lib.hid (invT_step k h5)
      obtain ⟨n, hn⟩ : ∃ n, n = invT k := ⟨_, rfl⟩
      rw [← hn] at HB ⊢
      clear hn
      go_wp2_with fail
      go_round
      case rel => exact ⟨k + 1, by omega, by go_num, by rw [IntKind.wrap_u64, IntKind.wrap_u64, IntKind.wrap_u64, HB.out]⟩
      case measure => simp [intOf]; omega
    · obtain rfl : k = 5 := by omega
      go_wp2_with fail
      go_ret
      exact ⟨rfl, rfl⟩

set_option maxRecDepth 100000 in
theorem run_any (A : Option Addr) (n c : Nat) (l : List UInt8) (s : Nat) (w : World) (h : Sl8 w A n c l) (hs : s < 18446744073709551616) :
    Calls Try.prog 17 #[.int .u64 (s : Int), .slice A n c] w fun e w' => e = .returned (.int .u64 (mixL s l : Int)) ∧ w = w' := by
  have hm := h.cm
  have hcap := h.cap
  have hln := h.len
  unfold maxLen at hm
  go_enter Try.func17, Try.ntmps17
  go_wp2_with fail
  go_loop [0, 9] (fun v i => ∃ (j t : Nat), j ≤ n ∧ i = .int .i64 j ∧ v = .int .u64 t ∧ t < 18446744073709551616 ∧ Hid (t = mixL s (l.take j))) (fun _ i => n - (intOf i).toNat)
  case atStart => exact ⟨0, s, Nat.zero_le _, rfl, rfl, hs, rfl⟩
  case round =>
    obtain ⟨j, t, hj, rfl, rfl, ht, hr⟩ := hrel
    by_cases hlt : j < n
    · have hjl : j < l.length := by omega
      obtain ⟨ad, rfl, hc⟩ := h.at_ (by omega)
      obtain ⟨x, hx⟩ : ∃ x, x = l[j] := ⟨_, rfl⟩
      have hcell := hc j x (by rw [hx]; exact List.getElem?_eq_getElem hjl)
      unfold byV at hcell
      have hbx := byte_wf x
      have hx0 : (x.toNat : Int) % 18446744073709551616 = (x.toNat : Int) := by omega
      have HX := Lib.hid (show mixL s (l.take (j + 1)) = mixB t x by rw [hr.out, List.take_succ_eq_append_getElem hjl, mixL_snoc, hx])
      have HW := Lib.hid (u64_xor_nat t x.toNat ht (by omega))
      have HM := Lib.hid (wrap_mul (t ^^^ x.toNat) 1099511628211 1099511628211 rfl)
      have HF := Lib.hid (show foldN 29 (mulN (t ^^^ x.toNat) 1099511628211) = mixB t x from rfl)
      clear hc hx hr
      go_wp2_with fail
      rw [HW.out, HM.out]
      refine (fold29_any _ (mulN_lt _ _) _).mono ?_
      rintro e w' ⟨he, rfl⟩
      rw [HF.out] at he
      subst he
      go_wp2_with fail
      go_round
      case rel => exact ⟨j + 1, mixB t x, by omega, by go_num, rfl, mixB_lt t x, by rw [HX.out]; exact rfl⟩
      case measure => simp [intOf]; omega
    · obtain rfl : n = j := by omega
      have HT := Lib.hid (show t = mixL s l by rw [hr.out, List.take_of_length_le (by omega)])
      go_wp2_with fail
      go_ret
      exact ⟨ret_int (by rw [HT.out]), rfl⟩

set_option maxRecDepth 100000 in
theorem step_any (h : Nat) (hl : h < 18446744073709551616) (x : UInt8) (w : World) :
    Calls Try.prog 7 #[.int .u64 (h : Int), .int .u8 (x.toNat : Int)] w fun e w' => e = .returned (.int .u64 (mixB h x : Int)) ∧ Below w.heap.size w w' := by
  have HS := Lib.hid (show mixL h [x] = mixB h x by unfold mixL; rw [List.foldl_cons, List.foldl_nil])
  go_enter Try.func7, Try.ntmps7
  go_wp2_with fail
  refine (run_any _ 1 1 [x] h _ (Sl8.one w _ x rfl) hl).mono ?_
  rintro e w' ⟨he, rfl⟩
  rw [HS.out] at he
  subst he
  go_wp2_with fail
  go_ret
  exact ⟨rfl, (Below.refl _ _).alloc (Nat.le_refl _) _⟩

theorem two_div (h : Nat) (k : Nat) (p : Int) (hp : p = ((2 ^ k : Nat) : Int)) : (h : Int) / p = ((h / 2 ^ k : Nat) : Int) := by
  subst hp
  rw [Int.natCast_ediv]

set_option maxRecDepth 100000 in
theorem undo_any (h : Nat) (hl : h < 18446744073709551616) (x : UInt8) (w : World) :
    Calls Try.prog 9 #[.int .u64 (h : Int), .int .u8 (x.toNat : Int)] w fun e w' => e = .returned (.int .u64 (undoN h x : Int)) ∧ w = w' := by
  have H1 := Lib.hid (fold_bits 29 h hl 536870912 rfl)
  have H2 := Lib.hid (show bits .xor .u64 (foldN 29 h : Int) ((h : Int) / 288230376151711744) = (unfN h : Int) by
    rw [two_div h 58 288230376151711744 (by decide)]
    exact u64_xor_nat _ _ (foldN_lt 29 hl) (div_lt64 58 hl))
  have H3 := Lib.hid (wrap_mul (unfN h) 14886173955864302971 14886173955864302971 rfl)
  have hbx := byte_wf x
  have H4 := Lib.hid (show bits .xor .u64 (mulN (unfN h) 14886173955864302971 : Int) (x.toNat : Int) = (undoN h x : Int) from u64_xor_nat _ _ (mulN_lt _ _) (x8 x))
  have hx0 : (x.toNat : Int) % 18446744073709551616 = (x.toNat : Int) := by omega
  go_enter Try.func9, Try.ntmps9
  go_wp2_with fail
  refine (inverse_any _).mono ?_
  rintro e w' ⟨rfl, rfl⟩
  go_wp2_with fail
  rw [H1.out, H2.out, H3.out, H4.out]
  go_ret
  exact ⟨rfl, rfl⟩

set_option maxRecDepth 100000 in
theorem part_any (h : Nat) (hl : h < 18446744073709551616) (w : World) :
    Calls Try.prog 15 #[.int .u64 (h : Int)] w fun e w' => e = .returned (.int .i64 ((h / 281474976710656 : Nat) : Int)) ∧ w = w' := by
  go_enter Try.func15, Try.ntmps15
  go_wp2_with fail
  go_ret
  exact ⟨ret_int (by omega), rfl⟩

/-- A hash's set among some. -/
def setN (h : Nat) (n : Int) : Nat := if n < 1 then 0 else h % n.toNat

set_option maxRecDepth 100000 in
theorem set_any (h : Nat) (hl : h < 18446744073709551616) (n : Int) (hn : n ≤ 9223372036854775807) (w : World) :
    Calls Try.prog 13 #[.int .u64 (h : Int), .int .i64 n] w fun e w' => e = .returned (.int .i64 (setN h n : Int)) ∧ w = w' := by
  by_cases k : n < 1
  · have HS := Lib.hid (show setN h n = 0 by unfold setN; rw [if_pos k])
    go_enter Try.func13, Try.ntmps13
    go_wp2_with fail
    go_ret
    exact ⟨ret_int (by rw [HS.out]; exact rfl), rfl⟩
  · obtain ⟨m, rfl⟩ : ∃ m : Nat, n = (m : Int) := ⟨n.toNat, by omega⟩
    have HS := Lib.hid (show (setN h (m : Int) : Int) = ((h % m : Nat) : Int) by unfold setN; rw [if_neg k, Int.toNat_natCast])
    have hm : (m : Int) % 18446744073709551616 = (m : Int) := by omega
    have hm0 : ¬ (m : Int) = 0 := by omega
    have hr : h % m < m := Nat.mod_lt _ (by omega)
    have HT := Lib.hid (show ((h : Int)).tmod (m : Int) = ((h % m : Nat) : Int) from (Int.ofNat_tmod h m).symm)
    have hr2 : ((h % m : Nat) : Int) < 9223372036854775808 := by omega
    go_enter Try.func13, Try.ntmps13
    go_wp2_with fail
    go_ret
    exact ⟨ret_int (by rw [HS.out]; omega), rfl⟩

end Go.Proofs.Ytlmolmbcpignkaa
