/-
  Texts that the laws of this seat lean on, one behind the other.
-/
import Derived.Test.YtmpiahahhkimkaaDoorMrgC
import Derived.Deep.QuietTactic
import Derived.BigQuiet
import Derived.IntWalk
import Derived.Test.YtmpiahahhkimkaaDoorMrgG
/-
  Contracts of the reference's digits, Plain, Pad and Hex (layer 2).
-/
section
namespace Go.Proofs.YtmpiahahhkimkaaDoor
open Go.RowKit

def allD : ByteArray := ⟨#[48, 49, 50, 51, 52, 53, 54, 55, 56, 57, 97, 98, 99, 100, 101, 102]⟩
theorem allD_cut : ∀ d : Nat, d < 16 → (allD.extract d (d + 1)).data.toList = [dch d] := by decide +kernel
theorem allD_at (d : Nat) (h : d < 16) : allD.extract d (d + 1) = mkS [dch d] := mkS_eq (allD_cut d h)

theorem slice_allD (W : World) (d : Nat) (h : d < 16) : (Instr.slice 9 (.string ⟨#[48, 49, 50, 51, 52, 53, 54, 55, 56, 57, 97, 98, 99, 100, 101, 102]⟩) (some (.int .u64 (d : Int))) (some (.int .u64 ((d : Int) + 1))) none).run Tryd.prog W = .ok (.string (mkS [dch d])) W := by
  have hz : (⟨#[48, 49, 50, 51, 52, 53, 54, 55, 56, 57, 97, 98, 99, 100, 101, 102]⟩ : ByteArray).size = 16 := rfl
  rw [run_slice_string W 9 _ .u64 .u64 (d : Int) ((d : Int) + 1) Tryd.underlying9 (by omega) (by omega) (by rw [hz]; omega)]
  rw [show ((d : Int)).toNat = d by omega, show ((d : Int) + 1).toNat = d + 1 by omega]
  have := allD_at d h
  unfold allD at this
  rw [this]

theorem tmod_nat (m b r : Nat) (h : m % b = r) : (m : Int).tmod (b : Int) = (r : Int) := by
  rw [Int.tmod_eq_emod_of_nonneg (by omega), ← h]
  rw [← Int.natCast_emod]

theorem ext_size (d : Nat) : (mkS [dch d]).size ≤ 1 := by rw [mkS_size]; simp

theorem digs_short {u b : Nat} (hu : u < 18446744073709551616) (hb : 2 ≤ b) : (digs b u).length ≤ 64 := by
  refine digs_len b 63 u hb ?_
  have h1 : 2 ^ 64 ≤ b ^ 64 := Nat.pow_le_pow_left hb 64
  have h2 : (2 : Nat) ^ 64 = 18446744073709551616 := by decide +kernel
  show u < b ^ 64
  omega

theorem r_digits (u b : Nat) (hu : u < 18446744073709551616) (hb : 2 ≤ b) (hb' : b ≤ 16) (w : World) :
    Calls Tryd.prog 28 #[.int .u64 u, .int .u64 b] w fun e w' => e = .returned (.string (mkS (digs b u))) ∧ Below w.heap.size w w' := by
  have hshort := digs_short hu hb
  go_enter Tryd.func28, Tryd.ntmps28
  go_wp2
  go_loopw [0, 6] (fun n x wr => ∃ (m : Nat) (s : ByteArray), m < 18446744073709551616 ∧ s.size ≤ 64 ∧ n = .int .u64 m ∧ x = .string s ∧ Hid (digs b u = digs b m ++ s.data.toList) ∧ Below w.heap.size w wr) (fun n _ _ => (intOf n).toNat)
  case atStart => exact ⟨u, ⟨#[]⟩, hu, by decide, rfl, rfl, by show _ = _; simp, Below.refl _ _⟩
  case round =>
    obtain ⟨m, s, hm, hss, rfl, rfl, hs, hbel⟩ := hrel
    by_cases hlt : b ≤ m
    · have hr : m % b < b := Nat.mod_lt _ (by omega)
      obtain ⟨r, hr0⟩ : ∃ r, m % b = r := ⟨_, rfl⟩
      obtain ⟨q, hq0⟩ : ∃ q, m / b = q := ⟨_, rfl⟩
      have hqm : q < m := by rw [← hq0]; exact Nat.div_lt_self (by omega) (by omega)
      have e0 : ¬ b = 0 := by omega
      have e1 := tmod_nat m b r hr0
      obtain ⟨t, ht⟩ : ∃ t, mkS [dch r] = t := ⟨_, rfl⟩
      have hts : t.size ≤ 1 := ht ▸ ext_size r
      have hsl := fun W => slice_allD W r (by omega)
      rw [ht] at hsl
      have HS : Hid (digs b u = digs b q ++ (t ++ s).data.toList) := by
        show _ = _
        rw [hs.out, digs_big hb hlt, hr0, hq0, append_list, ← ht, mkS_list, List.append_assoc]
      have hsize : (t ++ s).size ≤ 64 := by
        have h := congrArg List.length HS.out
        rw [List.length_append, ← Lib.size_eq] at h
        omega
      have e2 : IntKind.u64.wrap ((r : Int) + 1) = (r : Int) + 1 := by rw [IntKind.wrap_u64]; omega
      have e3 : ((r : Int) + 1).toNat = r + 1 := by omega
      have e5 : (r : Int) + 1 ≤ 16 := by omega
      have e6 : (0 : Int) ≤ (r : Int) + 1 := by omega
      have e7 : ((m : Int) / (b : Int)) = (q : Int) := by rw [← hq0]; exact (Int.natCast_ediv m b).symm
      clear hr0 hq0 ht hs
      go_wp2
      go_quiet (fail)
      clear e2 e3 hsl
      go_wp2
      go_roundw
      case rel => exact ⟨q, _, by omega, hsize, rfl, rfl, HS, below_drawn hbel _⟩
      case measure => simp [intOf]; omega
    · obtain ⟨t, ht⟩ : ∃ t, mkS [dch m] = t := ⟨_, rfl⟩
      have hts : t.size ≤ 1 := ht ▸ ext_size m
      have hsl := fun W => slice_allD W m (by omega)
      rw [ht] at hsl
      have HS : Hid (mkS (digs b u) = t ++ s) := by
        show _ = _
        rw [hs.out, digs_small (by omega), ← mkS_append, ht, mkS_self]
      clear ht hs
      go_wp2
      go_ret
      exact ⟨by rw [HS.out]; rfl, hbel⟩

end Go.Proofs.YtmpiahahhkimkaaDoor
end

/-
  Contracts of the reference's Plain, Pad, Hex, read, Number, ReadHex and Seconds (layer 2).
-/
section
namespace Go.Proofs.YtmpiahahhkimkaaDoor
open Go.RowKit

theorem r_plain (n : Int) (h0 : -9223372036854775808 ≤ n) (h1 : n ≤ 9223372036854775807) (w : World) :
    Calls Tryd.prog 17 #[.int .i64 n] w fun e w' => e = .returned (.string (mkS (plainL n))) ∧ Below w.heap.size w w' := by
  by_cases hn : n < 0
  · obtain ⟨u, rfl⟩ : ∃ u : Nat, n = -(u : Int) := ⟨n.natAbs, by omega⟩
    have hu : u < 18446744073709551616 := by omega
    have hL : plainL (-(u : Int)) = 45 :: digs 10 u := by unfold plainL; rw [if_pos hn, show (-(u : Int)).natAbs = u by omega]
    have hlen : (digs 10 u).length ≤ 64 := digs_short hu (by omega)
    obtain ⟨t, ht⟩ : ∃ t, mkS (digs 10 u) = t := ⟨_, rfl⟩
    have hts : t.size ≤ 64 := by rw [← ht, mkS_size]; exact hlen
    have HS : Hid (mkS (plainL (-(u : Int))) = (⟨#[45]⟩ : ByteArray) ++ t) := by
      show _ = _
      rw [hL, ← ht]
      refine (mkS_eq ?_).symm
      rw [append_list, mkS_list]; rfl
    have HT := Lib.hid ht
    have hwr : IntKind.u64.wrap (-IntKind.u64.wrap (-(u : Int))) = (u : Int) := by rw [IntKind.wrap_u64, IntKind.wrap_u64]; omega
    clear ht hL hlen
    go_enter Tryd.func17, Tryd.ntmps17
    go_wp2_with fail
    refine (r_digits u 10 hu (by omega) (by omega) _).mono ?_
    rintro e w1 ⟨he, hb⟩
    rw [HT.out] at he
    subst he
    go_wp2_with fail
    go_ret
    exact ⟨by rw [HS.out]; rfl, hb⟩
  · obtain ⟨u, rfl⟩ : ∃ u : Nat, n = (u : Int) := ⟨n.toNat, by omega⟩
    have hu : u < 18446744073709551616 := by omega
    have HL : Hid (plainL (u : Int) = digs 10 u) := by show _ = _; unfold plainL; rw [if_neg hn]; rfl
    go_enter Tryd.func17, Tryd.ntmps17
    go_wp2_with fail
    refine (r_digits u 10 hu (by omega) (by omega) _).mono ?_
    rintro e w1 ⟨rfl, hb⟩
    go_wp2_with fail
    go_ret
    exact ⟨by rw [HL.out]; rfl, hb⟩

def strSz : Value → Nat | .string s => s.size | _ => 0

theorem pad_step {k : Nat} {s : ByteArray} {l : List UInt8} (h : s.data.toList = List.replicate k 48 ++ l) : ((⟨#[48]⟩ : ByteArray) ++ s).data.toList = List.replicate (k + 1) 48 ++ l := by
  rw [append_list, h]; rfl

end Go.Proofs.YtmpiahahhkimkaaDoor
end

/-
  Contracts of the reference's read, Number, ReadHex and Seconds (layer 2), for every text.
-/
section
namespace Go.Proofs.YtmpiahahhkimkaaDoor
open Go.RowKit

/-- The value of the longest texts. -/
theorem val_fitTen (s : ByteArray) (h : s.size ≤ 18) (k : Nat) (hk : k < s.size) (ha : allB (isD 10) (s.data.toList.take k) = true) : 0 ≤ valV 10 (s.data.toList.take k) ∧ valV 10 (s.data.toList.take k) * 10 + 16 ≤ 9223372036854775807 := by
  have := (num10_fit s h).out k hk ha
  have hl : (s.data.toList.take k).length = k := by rw [List.length_take, ← Lib.size_eq]; omega
  have hp : 10 ^ k ≤ 10 ^ 18 := Nat.pow_le_pow_right (by omega) (by omega)
  have hq : 10 ^ 18 ≤ 9223372036854775807 := by decide +kernel
  have h2 : cutV 10 9223372036854775807 (s.data.toList.take k) = valV 10 (s.data.toList.take k) := cutV_val 10 9223372036854775807 _ (by omega) ha (by rw [hl]; omega)
  rwa [h2] at this
theorem val_fitHex (s : ByteArray) (h : s.size ≤ 15) (k : Nat) (hk : k < s.size) (ha : allB (isD 16) (s.data.toList.take k) = true) : 0 ≤ valV 16 (s.data.toList.take k) ∧ valV 16 (s.data.toList.take k) * 16 + 16 ≤ 9223372036854775807 := by
  have := (num16_fit s h).out k hk ha
  have hl : (s.data.toList.take k).length = k := by rw [List.length_take, ← Lib.size_eq]; omega
  have hp : 16 ^ k ≤ 16 ^ 15 := Nat.pow_le_pow_right (by omega) (by omega)
  have hq : 16 ^ 15 ≤ 9223372036854775807 := by decide +kernel
  have h2 : cutV 16 9223372036854775807 (s.data.toList.take k) = valV 16 (s.data.toList.take k) := cutV_val 16 9223372036854775807 _ (by omega) ha (by rw [hl]; omega)
  rwa [h2] at this

end Go.Proofs.YtmpiahahhkimkaaDoor
end
