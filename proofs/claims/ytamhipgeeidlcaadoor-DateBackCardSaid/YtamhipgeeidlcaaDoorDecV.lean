/-
  Contracts of the reference's Plain, Pad, Hex, read, Number, ReadHex and Seconds (layer 2).
-/
import Derived.Test.YtamhipgeeidlcaaDoorDecU
import Derived.Test.YtamhipgeeidlcaaDoorOctRh
import Derived.Test.YtamhipgeeidlcaaDoorDecR
namespace Go.Proofs.YtamhipgeeidlcaaDoor
open Go.RowKit

theorem r_plain (n : Int) (h0 : -9223372036854775808 ≤ n) (h1 : n ≤ 9223372036854775807) (w : World) :
    Calls Tryd.prog 35 #[.int .i64 n] w fun e w' => e = .returned (.string (mkS (plainL n))) ∧ Below w.heap.size w w' := by
  by_cases hn : n < 0
  · obtain ⟨u, rfl⟩ : ∃ u : Nat, n = -(u : Int) := ⟨n.natAbs, by omega⟩
    have hu : u < 18446744073709551616 := by omega
    have hL : plainL (-(u : Int)) = 45 :: digs 10 u := by unfold plainL; rw [if_pos hn, show (-(u : Int)).natAbs = u by omega]
    have hlen : (digs 10 u).length ≤ 64 := digs_short hu (by omega)
    obtain ⟨t, ht⟩ : ∃ t, mkS (digs 10 u) = t := ⟨_, rfl⟩
    have hts : t.size ≤ 64 := by rw [← ht, mkS_size]; exact hlen
    have HS : Hid (mkS (plainL (-(u : Int))) = (⟨#[45]⟩ : ByteArray) ++ t) := by
      show _ = _
      rw [hL, ← ht]
      refine (mkS_eq ?_).symm
      rw [append_list, mkS_list]; rfl
    have HT := Lib.hid ht
    have hwr : IntKind.u64.wrap (-IntKind.u64.wrap (-(u : Int))) = (u : Int) := by rw [IntKind.wrap_u64, IntKind.wrap_u64]; omega
    clear ht hL hlen
    go_enter Tryd.func35, Tryd.ntmps35
    go_wp2_with fail
    refine (r_digits u 10 hu (by omega) (by omega) _).mono ?_
    rintro e w1 ⟨he, hb⟩
    rw [HT.out] at he
    subst he
    go_wp2_with fail
    go_ret
    exact ⟨by rw [HS.out]; rfl, hb⟩
  · obtain ⟨u, rfl⟩ : ∃ u : Nat, n = (u : Int) := ⟨n.toNat, by omega⟩
    have hu : u < 18446744073709551616 := by omega
    have HL : Hid (plainL (u : Int) = digs 10 u) := by show _ = _; unfold plainL; rw [if_neg hn]; rfl
    go_enter Tryd.func35, Tryd.ntmps35
    go_wp2_with fail
    refine (r_digits u 10 hu (by omega) (by omega) _).mono ?_
    rintro e w1 ⟨rfl, hb⟩
    go_wp2_with fail
    go_ret
    exact ⟨by rw [HL.out]; rfl, hb⟩

def strSz : Value → Nat | .string s => s.size | _ => 0

theorem pad_step {k : Nat} {s : ByteArray} {l : List UInt8} (h : s.data.toList = List.replicate k 48 ++ l) : ((⟨#[48]⟩ : ByteArray) ++ s).data.toList = List.replicate (k + 1) 48 ++ l := by
  rw [append_list, h]; rfl

theorem r_pad (n width : Int) (h0 : -9223372036854775808 ≤ n) (h1 : n ≤ 9223372036854775807) (w : World) :
    Calls Tryd.prog 31 #[.int .i64 n, .int .i64 width] w fun e w' => e = .returned (.string (mkS (padL n width))) ∧ Below w.heap.size w w' := by
  have c := Lib.hid (r_plain n h0 h1 w)
  have hlen := plainL_short n h0 h1
  by_cases hn : n < 0
  · have HP : Hid (padL n width = plainL n) := by show _ = _; unfold padL; rw [if_pos (.inl hn)]
    go_enter Tryd.func31, Tryd.ntmps31
    go_wp2_with fail
    refine (c.out).mono ?_
    rintro e w' ⟨rfl, hb⟩
    go_wp2_with fail
    go_ret
    exact ⟨by rw [HP.out]; rfl, hb⟩
  · by_cases hw : 9 < width
    · have HP : Hid (padL n width = plainL n) := by show _ = _; unfold padL; rw [if_pos (.inr hw)]
      go_enter Tryd.func31, Tryd.ntmps31
      go_wp2_with fail
      refine (c.out).mono ?_
      rintro e w' ⟨rfl, hb⟩
      go_wp2_with fail
      go_ret
      exact ⟨by rw [HP.out]; rfl, hb⟩
    · have HP : Hid (padL n width = List.replicate (width.toNat - (plainL n).length) 48 ++ plainL n) := by show _ = _; unfold padL; rw [if_neg (by omega)]
      obtain ⟨s0, hs0⟩ : ∃ s, mkS (plainL n) = s := ⟨_, rfl⟩
      have hsz : (plainL n).length = s0.size := by rw [← hs0, mkS_size]
      have HS := Lib.hid hs0
      have HE : Hid (s0.data.toList = plainL n) := by show _ = _; rw [← hs0]; rfl
      rw [hsz] at hlen HP
      have HZ := Lib.hid hsz
      clear hs0 hsz
      go_enter Tryd.func31, Tryd.ntmps31
      go_wp2_with fail
      refine (c.out).mono ?_
      rintro e w' ⟨he, hb⟩
      rw [HS.out] at he
      subst he
      clear c
      go_wp2_with fail
      go_loop [5] (fun x => ∃ (k : Nat) (s : ByteArray), x = .string s ∧ s.size ≤ 64 ∧ (s.size : Int) = (s0.size : Int) + k ∧ (k = 0 ∨ (s.size : Int) ≤ width) ∧ Hid (s.data.toList = List.replicate k 48 ++ plainL n)) (fun x => (width - strSz x).toNat)
      case atStart => exact ⟨0, s0, rfl, by omega, by omega, .inl rfl, HE.out⟩
      case round =>
        obtain ⟨k, s, rfl, hs1, hs2, hs3, hs4⟩ := hrel
        by_cases hlt : (s.size : Int) < width
        · have HN : Hid (((⟨#[48]⟩ : ByteArray) ++ s).data.toList = List.replicate (k + 1) 48 ++ plainL n) := pad_step hs4.out
          have HM : Hid (((⟨#[48]⟩ : ByteArray) ++ s).size = s.size + 1) := by
            show _ = _
            rw [Lib.size_eq, append_list, List.length_append, ← Lib.size_eq s, Nat.add_comm]; rfl
          have HQ := Lib.hid hs2
          clear hs2 hs4
          go_wp2
          go_round
          case rel => exact ⟨k + 1, _, rfl, by have := HM.out; omega, by have := HM.out; have := HQ.out; omega, .inr (by have := HM.out; omega), HN⟩
          case measure => have := HM.out; simp only [strSz]; omega
        · have HF : Hid (mkS (padL n width) = s) := by
            show _ = _
            rw [HP.out, show width.toNat - s0.size = k by omega, ← hs4.out, mkS_self]
          clear hs2 hs4
          go_wp2
          go_ret
          exact ⟨by rw [HF.out]; rfl, hb⟩

end Go.Proofs.YtamhipgeeidlcaaDoor
