/-
  Texts that the laws of this seat lean on, one behind the other.
-/
import Derived.Test.YtfmaaghmbnhikaaGreatDoorMrgO
import Derived.Deep.QuietTactic
import Derived.BigQuiet
import Derived.IntWalk
import Derived.Test.YtfmaaghmbnhikaaGreatDoorMrgJ
/-
  Contracts of the reference's digits, Plain, Pad and Hex (layer 2).
-/
section
namespace Go.Proofs.YtfmaaghmbnhikaaGreatDoor
open Go.RowKit

def allD : ByteArray := ⟨#[48, 49, 50, 51, 52, 53, 54, 55, 56, 57, 97, 98, 99, 100, 101, 102]⟩
theorem allD_cut : ∀ d : Nat, d < 16 → (allD.extract d (d + 1)).data.toList = [dch d] := by decide +kernel
theorem allD_at (d : Nat) (h : d < 16) : allD.extract d (d + 1) = mkS [dch d] := mkS_eq (allD_cut d h)

theorem slice_allD (W : World) (d : Nat) (h : d < 16) : (Instr.slice 9 (.string ⟨#[48, 49, 50, 51, 52, 53, 54, 55, 56, 57, 97, 98, 99, 100, 101, 102]⟩) (some (.int .u64 (d : Int))) (some (.int .u64 ((d : Int) + 1))) none).run Tryz.prog W = .ok (.string (mkS [dch d])) W := by
  have hz : (⟨#[48, 49, 50, 51, 52, 53, 54, 55, 56, 57, 97, 98, 99, 100, 101, 102]⟩ : ByteArray).size = 16 := rfl
  rw [run_slice_string W 9 _ .u64 .u64 (d : Int) ((d : Int) + 1) Tryz.underlying9 (by omega) (by omega) (by rw [hz]; omega)]
  rw [show ((d : Int)).toNat = d by omega, show ((d : Int) + 1).toNat = d + 1 by omega]
  have := allD_at d h
  unfold allD at this
  rw [this]

theorem tmod_nat (m b r : Nat) (h : m % b = r) : (m : Int).tmod (b : Int) = (r : Int) := by
  rw [Int.tmod_eq_emod_of_nonneg (by omega), ← h]
  rw [← Int.natCast_emod]

theorem ext_size (d : Nat) : (mkS [dch d]).size ≤ 1 := by rw [mkS_size]; simp

theorem digs_short {u b : Nat} (hu : u < 18446744073709551616) (hb : 2 ≤ b) : (digs b u).length ≤ 64 := by
  refine digs_len b 63 u hb ?_
  have h1 : 2 ^ 64 ≤ b ^ 64 := Nat.pow_le_pow_left hb 64
  have h2 : (2 : Nat) ^ 64 = 18446744073709551616 := by decide +kernel
  show u < b ^ 64
  omega

theorem r_digits (u b : Nat) (hu : u < 18446744073709551616) (hb : 2 ≤ b) (hb' : b ≤ 16) (w : World) :
    Calls Tryz.prog 144 #[.int .u64 u, .int .u64 b] w fun e w' => e = .returned (.string (mkS (digs b u))) ∧ Below w.heap.size w w' := by
  have hshort := digs_short hu hb
  go_enter Tryz.func144, Tryz.ntmps144
  go_wp2
  go_loopw [0, 6] (fun n x wr => ∃ (m : Nat) (s : ByteArray), m < 18446744073709551616 ∧ s.size ≤ 64 ∧ n = .int .u64 m ∧ x = .string s ∧ Hid (digs b u = digs b m ++ s.data.toList) ∧ Below w.heap.size w wr) (fun n _ _ => (intOf n).toNat)
  case atStart => exact ⟨u, ⟨#[]⟩, hu, by decide, rfl, rfl, by show _ = _; simp, Below.refl _ _⟩
  case round =>
    obtain ⟨m, s, hm, hss, rfl, rfl, hs, hbel⟩ := hrel
    by_cases hlt : b ≤ m
    · have hr : m % b < b := Nat.mod_lt _ (by omega)
      obtain ⟨r, hr0⟩ : ∃ r, m % b = r := ⟨_, rfl⟩
      obtain ⟨q, hq0⟩ : ∃ q, m / b = q := ⟨_, rfl⟩
      have hqm : q < m := by rw [← hq0]; exact Nat.div_lt_self (by omega) (by omega)
      have e0 : ¬ b = 0 := by omega
      have e1 := tmod_nat m b r hr0
      obtain ⟨t, ht⟩ : ∃ t, mkS [dch r] = t := ⟨_, rfl⟩
      have hts : t.size ≤ 1 := ht ▸ ext_size r
      have hsl := fun W => slice_allD W r (by omega)
      rw [ht] at hsl
      have HS : Hid (digs b u = digs b q ++ (t ++ s).data.toList) := by
        show _ = _
        rw [hs.out, digs_big hb hlt, hr0, hq0, append_list, ← ht, mkS_list, List.append_assoc]
      have hsize : (t ++ s).size ≤ 64 := by
        have h := congrArg List.length HS.out
        rw [List.length_append, ← Lib.size_eq] at h
        omega
      have e2 : IntKind.u64.wrap ((r : Int) + 1) = (r : Int) + 1 := by rw [IntKind.wrap_u64]; omega
      have e3 : ((r : Int) + 1).toNat = r + 1 := by omega
      have e5 : (r : Int) + 1 ≤ 16 := by omega
      have e6 : (0 : Int) ≤ (r : Int) + 1 := by omega
      have e7 : ((m : Int) / (b : Int)) = (q : Int) := by rw [← hq0]; exact (Int.natCast_ediv m b).symm
      clear hr0 hq0 ht hs
      go_wp2
      go_quiet (fail)
      clear e2 e3 hsl
      go_wp2
      go_roundw
      case rel => exact ⟨q, _, by omega, hsize, rfl, rfl, HS, below_drawn hbel _⟩
      case measure => simp [intOf]; omega
    · obtain ⟨t, ht⟩ : ∃ t, mkS [dch m] = t := ⟨_, rfl⟩
      have hts : t.size ≤ 1 := ht ▸ ext_size m
      have hsl := fun W => slice_allD W m (by omega)
      rw [ht] at hsl
      have HS : Hid (mkS (digs b u) = t ++ s) := by
        show _ = _
        rw [hs.out, digs_small (by omega), ← mkS_append, ht, mkS_self]
      clear ht hs
      go_wp2
      go_ret
      exact ⟨by rw [HS.out]; rfl, hbel⟩

end Go.Proofs.YtfmaaghmbnhikaaGreatDoor
end

/-
  Contracts of the reference's Plain, Pad, Hex, read, Number, ReadHex and Seconds (layer 2).
-/
section
namespace Go.Proofs.YtfmaaghmbnhikaaGreatDoor
open Go.RowKit

theorem r_plain (n : Int) (h0 : -9223372036854775808 ≤ n) (h1 : n ≤ 9223372036854775807) (w : World) :
    Calls Tryz.prog 111 #[.int .i64 n] w fun e w' => e = .returned (.string (mkS (plainL n))) ∧ Below w.heap.size w w' := by
  by_cases hn : n < 0
  · obtain ⟨u, rfl⟩ : ∃ u : Nat, n = -(u : Int) := ⟨n.natAbs, by omega⟩
    have hu : u < 18446744073709551616 := by omega
    have hL : plainL (-(u : Int)) = 45 :: digs 10 u := by unfold plainL; rw [if_pos hn, show (-(u : Int)).natAbs = u by omega]
    have hlen : (digs 10 u).length ≤ 64 := digs_short hu (by omega)
    obtain ⟨t, ht⟩ : ∃ t, mkS (digs 10 u) = t := ⟨_, rfl⟩
    have hts : t.size ≤ 64 := by rw [← ht, mkS_size]; exact hlen
    have HS : Hid (mkS (plainL (-(u : Int))) = (⟨#[45]⟩ : ByteArray) ++ t) := by
      show _ = _
      rw [hL, ← ht]
      refine (mkS_eq ?_).symm
      rw [append_list, mkS_list]; rfl
    have HT := Lib.hid ht
    have hwr : IntKind.u64.wrap (-IntKind.u64.wrap (-(u : Int))) = (u : Int) := by rw [IntKind.wrap_u64, IntKind.wrap_u64]; omega
    clear ht hL hlen
    go_enter Tryz.func111, Tryz.ntmps111
    go_wp2_with fail
    refine (r_digits u 10 hu (by omega) (by omega) _).mono ?_
    rintro e w1 ⟨he, hb⟩
    rw [HT.out] at he
    subst he
    go_wp2_with fail
    go_ret
    exact ⟨by rw [HS.out]; rfl, hb⟩
  · obtain ⟨u, rfl⟩ : ∃ u : Nat, n = (u : Int) := ⟨n.toNat, by omega⟩
    have hu : u < 18446744073709551616 := by omega
    have HL : Hid (plainL (u : Int) = digs 10 u) := by show _ = _; unfold plainL; rw [if_neg hn]; rfl
    go_enter Tryz.func111, Tryz.ntmps111
    go_wp2_with fail
    refine (r_digits u 10 hu (by omega) (by omega) _).mono ?_
    rintro e w1 ⟨rfl, hb⟩
    go_wp2_with fail
    go_ret
    exact ⟨by rw [HL.out]; rfl, hb⟩

def strSz : Value → Nat | .string s => s.size | _ => 0

theorem pad_step {k : Nat} {s : ByteArray} {l : List UInt8} (h : s.data.toList = List.replicate k 48 ++ l) : ((⟨#[48]⟩ : ByteArray) ++ s).data.toList = List.replicate (k + 1) 48 ++ l := by
  rw [append_list, h]; rfl

theorem r_pad (n width : Int) (h0 : -9223372036854775808 ≤ n) (h1 : n ≤ 9223372036854775807) (w : World) :
    Calls Tryz.prog 109 #[.int .i64 n, .int .i64 width] w fun e w' => e = .returned (.string (mkS (padL n width))) ∧ Below w.heap.size w w' := by
  have c := Lib.hid (r_plain n h0 h1 w)
  have hlen := plainL_short n h0 h1
  by_cases hn : n < 0
  · have HP : Hid (padL n width = plainL n) := by show _ = _; unfold padL; rw [if_pos (.inl hn)]
    go_enter Tryz.func109, Tryz.ntmps109
    go_wp2_with fail
    refine (c.out).mono ?_
    rintro e w' ⟨rfl, hb⟩
    go_wp2_with fail
    go_ret
    exact ⟨by rw [HP.out]; rfl, hb⟩
  · by_cases hw : 9 < width
    · have HP : Hid (padL n width = plainL n) := by show _ = _; unfold padL; rw [if_pos (.inr hw)]
      go_enter Tryz.func109, Tryz.ntmps109
      go_wp2_with fail
      refine (c.out).mono ?_
      rintro e w' ⟨rfl, hb⟩
      go_wp2_with fail
      go_ret
      exact ⟨by rw [HP.out]; rfl, hb⟩
    · have HP : Hid (padL n width = List.replicate (width.toNat - (plainL n).length) 48 ++ plainL n) := by show _ = _; unfold padL; rw [if_neg (by omega)]
      obtain ⟨s0, hs0⟩ : ∃ s, mkS (plainL n) = s := ⟨_, rfl⟩
      have hsz : (plainL n).length = s0.size := by rw [← hs0, mkS_size]
      have HS := Lib.hid hs0
      have HE : Hid (s0.data.toList = plainL n) := by show _ = _; rw [← hs0]; rfl
      rw [hsz] at hlen HP
      have HZ := Lib.hid hsz
      clear hs0 hsz
      go_enter Tryz.func109, Tryz.ntmps109
      go_wp2_with fail
      refine (c.out).mono ?_
      rintro e w' ⟨he, hb⟩
      rw [HS.out] at he
      subst he
      clear c
      go_wp2_with fail
      go_loop [5] (fun x => ∃ (k : Nat) (s : ByteArray), x = .string s ∧ s.size ≤ 64 ∧ (s.size : Int) = (s0.size : Int) + k ∧ (k = 0 ∨ (s.size : Int) ≤ width) ∧ Hid (s.data.toList = List.replicate k 48 ++ plainL n)) (fun x => (width - strSz x).toNat)
      case atStart => exact ⟨0, s0, rfl, by omega, by omega, .inl rfl, HE.out⟩
      case round =>
        obtain ⟨k, s, rfl, hs1, hs2, hs3, hs4⟩ := hrel
        by_cases hlt : (s.size : Int) < width
        · have HN : Hid (((⟨#[48]⟩ : ByteArray) ++ s).data.toList = List.replicate (k + 1) 48 ++ plainL n) := pad_step hs4.out
          have HM : Hid (((⟨#[48]⟩ : ByteArray) ++ s).size = s.size + 1) := by
            show _ = _
            rw [Lib.size_eq, append_list, List.length_append, ← Lib.size_eq s, Nat.add_comm]; rfl
          have HQ := Lib.hid hs2
          clear hs2 hs4
          go_wp2
          go_round
          case rel => exact ⟨k + 1, _, rfl, by have := HM.out; omega, by have := HM.out; have := HQ.out; omega, .inr (by have := HM.out; omega), HN⟩
          case measure => have := HM.out; simp only [strSz]; omega
        · have HF : Hid (mkS (padL n width) = s) := by
            show _ = _
            rw [HP.out, show width.toNat - s0.size = k by omega, ← hs4.out, mkS_self]
          clear hs2 hs4
          go_wp2
          go_ret
          exact ⟨by rw [HF.out]; rfl, hb⟩

end Go.Proofs.YtfmaaghmbnhikaaGreatDoor
end
