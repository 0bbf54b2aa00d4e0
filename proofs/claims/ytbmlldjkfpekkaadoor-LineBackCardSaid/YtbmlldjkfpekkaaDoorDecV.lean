/-
  Contracts of the reference's Plain, Pad, Hex, read, Number, ReadHex and Seconds (layer 2).
-/
import Derived.Test.YtbmlldjkfpekkaaDoorDecU
import Derived.Test.YtbmlldjkfpekkaaDoorOctRh
import Derived.Test.YtbmlldjkfpekkaaDoorDecR
namespace Go.Proofs.YtbmlldjkfpekkaaDoor
open Go.RowKit

theorem r_plain (n : Int) (h0 : -9223372036854775808 ≤ n) (h1 : n ≤ 9223372036854775807) (w : World) :
    Calls Tryd.prog 32 #[.int .i64 n] w fun e w' => e = .returned (.string (mkS (plainL n))) ∧ Below w.heap.size w w' := by
  by_cases hn : n < 0
  · obtain ⟨u, rfl⟩ : ∃ u : Nat, n = -(u : Int) := ⟨n.natAbs, by omega⟩
    have hu : u < 18446744073709551616 := by omega
    have hL : plainL (-(u : Int)) = 45 :: digs 10 u := by unfold plainL; rw [if_pos hn, show (-(u : Int)).natAbs = u by omega]
    have hlen : (digs 10 u).length ≤ 64 := digs_short hu (by omega)
    obtain ⟨t, ht⟩ : ∃ t, mkS (digs 10 u) = t := ⟨_, rfl⟩
    have hts : t.size ≤ 64 := by rw [← ht, mkS_size]; exact hlen
    have HS : Hid (mkS (plainL (-(u : Int))) = (⟨#[45]⟩ : ByteArray) ++ t) := by
      show _ = _
      rw [hL, ← ht]
      refine (mkS_eq ?_).symm
      rw [append_list, mkS_list]; rfl
    have HT := Lib.hid ht
    have hwr : IntKind.u64.wrap (-IntKind.u64.wrap (-(u : Int))) = (u : Int) := by rw [IntKind.wrap_u64, IntKind.wrap_u64]; omega
    clear ht hL hlen
    go_enter Tryd.func32, Tryd.ntmps32
    go_wp2_with fail
    refine (r_digits u 10 hu (by omega) (by omega) _).mono ?_
    rintro e w1 ⟨he, hb⟩
    rw [HT.out] at he
    subst he
    go_wp2_with fail
    go_ret
    exact ⟨by rw [HS.out]; rfl, hb⟩
  · obtain ⟨u, rfl⟩ : ∃ u : Nat, n = (u : Int) := ⟨n.toNat, by omega⟩
    have hu : u < 18446744073709551616 := by omega
    have HL : Hid (plainL (u : Int) = digs 10 u) := by show _ = _; unfold plainL; rw [if_neg hn]; rfl
    go_enter Tryd.func32, Tryd.ntmps32
    go_wp2_with fail
    refine (r_digits u 10 hu (by omega) (by omega) _).mono ?_
    rintro e w1 ⟨rfl, hb⟩
    go_wp2_with fail
    go_ret
    exact ⟨by rw [HL.out]; rfl, hb⟩

def strSz : Value → Nat | .string s => s.size | _ => 0

theorem pad_step {k : Nat} {s : ByteArray} {l : List UInt8} (h : s.data.toList = List.replicate k 48 ++ l) : ((⟨#[48]⟩ : ByteArray) ++ s).data.toList = List.replicate (k + 1) 48 ++ l := by
  rw [append_list, h]; rfl

end Go.Proofs.YtbmlldjkfpekkaaDoor
