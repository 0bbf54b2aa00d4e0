/-
  Texts that the laws of this seat lean on, one behind the other.
-/
import Derived.Test.YtbbppkonjaijhaaDoorMrgM
import Derived.Deep.QuietTactic
import Derived.BigQuiet
import Derived.IntWalk
/-
  Contracts of the reference's digits, Plain, Pad and Hex (layer 2).
-/
section
namespace Go.Proofs.YtbbppkonjaijhaaDoor
open Go.RowKit

def allD : ByteArray := ⟨#[48, 49, 50, 51, 52, 53, 54, 55, 56, 57, 97, 98, 99, 100, 101, 102]⟩
theorem allD_cut : ∀ d : Nat, d < 16 → (allD.extract d (d + 1)).data.toList = [dch d] := by decide +kernel
theorem allD_at (d : Nat) (h : d < 16) : allD.extract d (d + 1) = mkS [dch d] := mkS_eq (allD_cut d h)

theorem slice_allD (W : World) (d : Nat) (h : d < 16) : (Instr.slice 9 (.string ⟨#[48, 49, 50, 51, 52, 53, 54, 55, 56, 57, 97, 98, 99, 100, 101, 102]⟩) (some (.int .u64 (d : Int))) (some (.int .u64 ((d : Int) + 1))) none).run Tryd.prog W = .ok (.string (mkS [dch d])) W := by
  have hz : (⟨#[48, 49, 50, 51, 52, 53, 54, 55, 56, 57, 97, 98, 99, 100, 101, 102]⟩ : ByteArray).size = 16 := rfl
  rw [run_slice_string W 9 _ .u64 .u64 (d : Int) ((d : Int) + 1) Tryd.underlying9 (by omega) (by omega) (by rw [hz]; omega)]
  rw [show ((d : Int)).toNat = d by omega, show ((d : Int) + 1).toNat = d + 1 by omega]
  have := allD_at d h
  unfold allD at this
  rw [this]

theorem tmod_nat (m b r : Nat) (h : m % b = r) : (m : Int).tmod (b : Int) = (r : Int) := by
  rw [Int.tmod_eq_emod_of_nonneg (by omega), ← h]
  rw [← Int.natCast_emod]

theorem ext_size (d : Nat) : (mkS [dch d]).size ≤ 1 := by rw [mkS_size]; simp

theorem digs_short {u b : Nat} (hu : u < 18446744073709551616) (hb : 2 ≤ b) : (digs b u).length ≤ 64 := by
  refine digs_len b 63 u hb ?_
  have h1 : 2 ^ 64 ≤ b ^ 64 := Nat.pow_le_pow_left hb 64
  have h2 : (2 : Nat) ^ 64 = 18446744073709551616 := by decide +kernel
  show u < b ^ 64
  omega

theorem r_digits (u b : Nat) (hu : u < 18446744073709551616) (hb : 2 ≤ b) (hb' : b ≤ 16) (w : World) :
    Calls Tryd.prog 33 #[.int .u64 u, .int .u64 b] w fun e w' => e = .returned (.string (mkS (digs b u))) ∧ Below w.heap.size w w' := by
  have hshort := digs_short hu hb
  go_enter Tryd.func33, Tryd.ntmps33
  go_wp2
  go_loopw [0, 6] (fun n x wr => ∃ (m : Nat) (s : ByteArray), m < 18446744073709551616 ∧ s.size ≤ 64 ∧ n = .int .u64 m ∧ x = .string s ∧ Hid (digs b u = digs b m ++ s.data.toList) ∧ Below w.heap.size w wr) (fun n _ _ => (intOf n).toNat)
  case atStart => exact ⟨u, ⟨#[]⟩, hu, by decide, rfl, rfl, by show _ = _; simp, Below.refl _ _⟩
  case round =>
    obtain ⟨m, s, hm, hss, rfl, rfl, hs, hbel⟩ := hrel
    by_cases hlt : b ≤ m
    · have hr : m % b < b := Nat.mod_lt _ (by omega)
      obtain ⟨r, hr0⟩ : ∃ r, m % b = r := ⟨_, rfl⟩
      obtain ⟨q, hq0⟩ : ∃ q, m / b = q := ⟨_, rfl⟩
      have hqm : q < m := by rw [← hq0]; exact Nat.div_lt_self (by omega) (by omega)
      have e0 : ¬ b = 0 := by omega
      have e1 := tmod_nat m b r hr0
      obtain ⟨t, ht⟩ : ∃ t, mkS [dch r] = t := ⟨_, rfl⟩
      have hts : t.size ≤ 1 := ht ▸ ext_size r
      have hsl := fun W => slice_allD W r (by omega)
      rw [ht] at hsl
      have HS : Hid (digs b u = digs b q ++ (t ++ s).data.toList) := by
        show _ = _
        rw [hs.out, digs_big hb hlt, hr0, hq0, append_list, ← ht, mkS_list, List.append_assoc]
      have hsize : (t ++ s).size ≤ 64 := by
        have h := congrArg List.length HS.out
        rw [List.length_append, ← Lib.size_eq] at h
        omega
      have e2 : IntKind.u64.wrap ((r : Int) + 1) = (r : Int) + 1 := by rw [IntKind.wrap_u64]; omega
      have e3 : ((r : Int) + 1).toNat = r + 1 := by omega
      have e5 : (r : Int) + 1 ≤ 16 := by omega
      have e6 : (0 : Int) ≤ (r : Int) + 1 := by omega
      have e7 : ((m : Int) / (b : Int)) = (q : Int) := by rw [← hq0]; exact (Int.natCast_ediv m b).symm
      clear hr0 hq0 ht hs
      go_wp2
      go_quiet (fail)
      clear e2 e3 hsl
      go_wp2
      go_roundw
      case rel => exact ⟨q, _, by omega, hsize, rfl, rfl, HS, below_drawn hbel _⟩
      case measure => simp [intOf]; omega
    · obtain ⟨t, ht⟩ : ∃ t, mkS [dch m] = t := ⟨_, rfl⟩
      have hts : t.size ≤ 1 := ht ▸ ext_size m
      have hsl := fun W => slice_allD W m (by omega)
      rw [ht] at hsl
      have HS : Hid (mkS (digs b u) = t ++ s) := by
        show _ = _
        rw [hs.out, digs_small (by omega), ← mkS_append, ht, mkS_self]
      clear ht hs
      go_wp2
      go_ret
      exact ⟨by rw [HS.out]; rfl, hbel⟩

end Go.Proofs.YtbbppkonjaijhaaDoor
end
