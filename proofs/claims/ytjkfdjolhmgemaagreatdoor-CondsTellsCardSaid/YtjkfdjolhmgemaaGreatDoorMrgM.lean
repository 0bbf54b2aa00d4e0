/-
  Texts that the laws of this seat lean on, one behind the other.
-/
import Derived.Test.YtjkfdjolhmgemaaGreatDoorMrgL
import Derived.Deep.QuietTactic
import Derived.BigQuiet
import Derived.IntWalk
import Derived.Test.YtjkfdjolhmgemaaGreatDoorMrgI
set_option linter.unusedSimpArgs false
set_option linter.unusedVariables false
/-
  Contracts of the reference's digits, Plain, Pad and Hex (layer 2).
-/
section
namespace Go.Proofs.YtjkfdjolhmgemaaGreatDoor
open Go.RowKit

def allD : ByteArray := ⟨#[48, 49, 50, 51, 52, 53, 54, 55, 56, 57, 97, 98, 99, 100, 101, 102]⟩
theorem allD_cut : ∀ d : Nat, d < 16 → (allD.extract d (d + 1)).data.toList = [dch d] := by decide +kernel
theorem allD_at (d : Nat) (h : d < 16) : allD.extract d (d + 1) = mkS [dch d] := mkS_eq (allD_cut d h)

theorem slice_allD (W : World) (d : Nat) (h : d < 16) : (Instr.slice 9 (.string ⟨#[48, 49, 50, 51, 52, 53, 54, 55, 56, 57, 97, 98, 99, 100, 101, 102]⟩) (some (.int .u64 (d : Int))) (some (.int .u64 ((d : Int) + 1))) none).run Tryz.prog W = .ok (.string (mkS [dch d])) W := by
  have hz : (⟨#[48, 49, 50, 51, 52, 53, 54, 55, 56, 57, 97, 98, 99, 100, 101, 102]⟩ : ByteArray).size = 16 := rfl
  rw [run_slice_string W 9 _ .u64 .u64 (d : Int) ((d : Int) + 1) Tryz.underlying9 (by omega) (by omega) (by rw [hz]; omega)]
  rw [show ((d : Int)).toNat = d by omega, show ((d : Int) + 1).toNat = d + 1 by omega]
  have := allD_at d h
  unfold allD at this
  rw [this]

theorem tmod_nat (m b r : Nat) (h : m % b = r) : (m : Int).tmod (b : Int) = (r : Int) := by
  rw [Int.tmod_eq_emod_of_nonneg (by omega), ← h]
  rw [← Int.natCast_emod]

theorem ext_size (d : Nat) : (mkS [dch d]).size ≤ 1 := by rw [mkS_size]; simp

theorem digs_short {u b : Nat} (hu : u < 18446744073709551616) (hb : 2 ≤ b) : (digs b u).length ≤ 64 := by
  refine digs_len b 63 u hb ?_
  have h1 : 2 ^ 64 ≤ b ^ 64 := Nat.pow_le_pow_left hb 64
  have h2 : (2 : Nat) ^ 64 = 18446744073709551616 := by decide +kernel
  show u < b ^ 64
  omega

theorem r_digits (u b : Nat) (hu : u < 18446744073709551616) (hb : 2 ≤ b) (hb' : b ≤ 16) (w : World) :
    Calls Tryz.prog 141 #[.int .u64 u, .int .u64 b] w fun e w' => e = .returned (.string (mkS (digs b u))) ∧ Below w.heap.size w w' := by
  have hshort := digs_short hu hb
  go_enter Tryz.func141, Tryz.ntmps141
  go_wp2
  go_loopw [0, 6] (fun n x wr => ∃ (m : Nat) (s : ByteArray), m < 18446744073709551616 ∧ s.size ≤ 64 ∧ n = .int .u64 m ∧ x = .string s ∧ Hid (digs b u = digs b m ++ s.data.toList) ∧ Below w.heap.size w wr) (fun n _ _ => (intOf n).toNat)
  case atStart => exact ⟨u, ⟨#[]⟩, hu, by decide, rfl, rfl, by show _ = _; simp, Below.refl _ _⟩
  case round =>
    obtain ⟨m, s, hm, hss, rfl, rfl, hs, hbel⟩ := hrel
    by_cases hlt : b ≤ m
    · have hr : m % b < b := Nat.mod_lt _ (by omega)
      obtain ⟨r, hr0⟩ : ∃ r, m % b = r := ⟨_, rfl⟩
      obtain ⟨q, hq0⟩ : ∃ q, m / b = q := ⟨_, rfl⟩
      have hqm : q < m := by rw [← hq0]; exact Nat.div_lt_self (by omega) (by omega)
      have e0 : ¬ b = 0 := by omega
      have e1 := tmod_nat m b r hr0
      obtain ⟨t, ht⟩ : ∃ t, mkS [dch r] = t := ⟨_, rfl⟩
      have hts : t.size ≤ 1 := ht ▸ ext_size r
      have hsl := fun W => slice_allD W r (by omega)
      rw [ht] at hsl
      have HS : Hid (digs b u = digs b q ++ (t ++ s).data.toList) := by
        show _ = _
        rw [hs.out, digs_big hb hlt, hr0, hq0, append_list, ← ht, mkS_list, List.append_assoc]
      have hsize : (t ++ s).size ≤ 64 := by
        have h := congrArg List.length HS.out
        rw [List.length_append, ← Lib.size_eq] at h
        omega
      have e2 : IntKind.u64.wrap ((r : Int) + 1) = (r : Int) + 1 := by rw [IntKind.wrap_u64]; omega
      have e3 : ((r : Int) + 1).toNat = r + 1 := by omega
      have e5 : (r : Int) + 1 ≤ 16 := by omega
      have e6 : (0 : Int) ≤ (r : Int) + 1 := by omega
      have e7 : ((m : Int) / (b : Int)) = (q : Int) := by rw [← hq0]; exact (Int.natCast_ediv m b).symm
      clear hr0 hq0 ht hs
      go_wp2
      go_quiet (fail)
      clear e2 e3 hsl
      go_wp2
      go_roundw
      case rel => exact ⟨q, _, by omega, hsize, rfl, rfl, HS, below_drawn hbel _⟩
      case measure => simp [intOf]; omega
    · obtain ⟨t, ht⟩ : ∃ t, mkS [dch m] = t := ⟨_, rfl⟩
      have hts : t.size ≤ 1 := ht ▸ ext_size m
      have hsl := fun W => slice_allD W m (by omega)
      rw [ht] at hsl
      have HS : Hid (mkS (digs b u) = t ++ s) := by
        show _ = _
        rw [hs.out, digs_small (by omega), ← mkS_append, ht, mkS_self]
      clear ht hs
      go_wp2
      go_ret
      exact ⟨by rw [HS.out]; rfl, hbel⟩

end Go.Proofs.YtjkfdjolhmgemaaGreatDoor
end

/-
  Contracts of the reference's Plain, Pad, Hex, read, Number, ReadHex and Seconds (layer 2).
-/
section
namespace Go.Proofs.YtjkfdjolhmgemaaGreatDoor
open Go.RowKit

theorem r_plain (n : Int) (h0 : -9223372036854775808 ≤ n) (h1 : n ≤ 9223372036854775807) (w : World) :
    Calls Tryz.prog 121 #[.int .i64 n] w fun e w' => e = .returned (.string (mkS (plainL n))) ∧ Below w.heap.size w w' := by
  by_cases hn : n < 0
  · obtain ⟨u, rfl⟩ : ∃ u : Nat, n = -(u : Int) := ⟨n.natAbs, by omega⟩
    have hu : u < 18446744073709551616 := by omega
    have hL : plainL (-(u : Int)) = 45 :: digs 10 u := by unfold plainL; rw [if_pos hn, show (-(u : Int)).natAbs = u by omega]
    have hlen : (digs 10 u).length ≤ 64 := digs_short hu (by omega)
    obtain ⟨t, ht⟩ : ∃ t, mkS (digs 10 u) = t := ⟨_, rfl⟩
    have hts : t.size ≤ 64 := by rw [← ht, mkS_size]; exact hlen
    have HS : Hid (mkS (plainL (-(u : Int))) = (⟨#[45]⟩ : ByteArray) ++ t) := by
      show _ = _
      rw [hL, ← ht]
      refine (mkS_eq ?_).symm
      rw [append_list, mkS_list]; rfl
    have HT := Lib.hid ht
    have hwr : IntKind.u64.wrap (-IntKind.u64.wrap (-(u : Int))) = (u : Int) := by rw [IntKind.wrap_u64, IntKind.wrap_u64]; omega
    clear ht hL hlen
    go_enter Tryz.func121, Tryz.ntmps121
    go_wp2_with fail
    refine (r_digits u 10 hu (by omega) (by omega) _).mono ?_
    rintro e w1 ⟨he, hb⟩
    rw [HT.out] at he
    subst he
    go_wp2_with fail
    go_ret
    exact ⟨by rw [HS.out]; rfl, hb⟩
  · obtain ⟨u, rfl⟩ : ∃ u : Nat, n = (u : Int) := ⟨n.toNat, by omega⟩
    have hu : u < 18446744073709551616 := by omega
    have HL : Hid (plainL (u : Int) = digs 10 u) := by show _ = _; unfold plainL; rw [if_neg hn]; rfl
    go_enter Tryz.func121, Tryz.ntmps121
    go_wp2_with fail
    refine (r_digits u 10 hu (by omega) (by omega) _).mono ?_
    rintro e w1 ⟨rfl, hb⟩
    go_wp2_with fail
    go_ret
    exact ⟨by rw [HL.out]; rfl, hb⟩

def strSz : Value → Nat | .string s => s.size | _ => 0

theorem pad_step {k : Nat} {s : ByteArray} {l : List UInt8} (h : s.data.toList = List.replicate k 48 ++ l) : ((⟨#[48]⟩ : ByteArray) ++ s).data.toList = List.replicate (k + 1) 48 ++ l := by
  rw [append_list, h]; rfl

theorem r_pad (n width : Int) (h0 : -9223372036854775808 ≤ n) (h1 : n ≤ 9223372036854775807) (w : World) :
    Calls Tryz.prog 119 #[.int .i64 n, .int .i64 width] w fun e w' => e = .returned (.string (mkS (padL n width))) ∧ Below w.heap.size w w' := by
  have c := Lib.hid (r_plain n h0 h1 w)
  have hlen := plainL_short n h0 h1
  by_cases hn : n < 0
  · have HP : Hid (padL n width = plainL n) := by show _ = _; unfold padL; rw [if_pos (.inl hn)]
    go_enter Tryz.func119, Tryz.ntmps119
    go_wp2_with fail
    refine (c.out).mono ?_
    rintro e w' ⟨rfl, hb⟩
    go_wp2_with fail
    go_ret
    exact ⟨by rw [HP.out]; rfl, hb⟩
  · by_cases hw : 9 < width
    · have HP : Hid (padL n width = plainL n) := by show _ = _; unfold padL; rw [if_pos (.inr hw)]
      go_enter Tryz.func119, Tryz.ntmps119
      go_wp2_with fail
      refine (c.out).mono ?_
      rintro e w' ⟨rfl, hb⟩
      go_wp2_with fail
      go_ret
      exact ⟨by rw [HP.out]; rfl, hb⟩
    · have HP : Hid (padL n width = List.replicate (width.toNat - (plainL n).length) 48 ++ plainL n) := by show _ = _; unfold padL; rw [if_neg (by omega)]
      obtain ⟨s0, hs0⟩ : ∃ s, mkS (plainL n) = s := ⟨_, rfl⟩
      have hsz : (plainL n).length = s0.size := by rw [← hs0, mkS_size]
      have HS := Lib.hid hs0
      have HE : Hid (s0.data.toList = plainL n) := by show _ = _; rw [← hs0]; rfl
      rw [hsz] at hlen HP
      have HZ := Lib.hid hsz
      clear hs0 hsz
      go_enter Tryz.func119, Tryz.ntmps119
      go_wp2_with fail
      refine (c.out).mono ?_
      rintro e w' ⟨he, hb⟩
      rw [HS.out] at he
      subst he
      clear c
      go_wp2_with fail
      go_loop [5] (fun x => ∃ (k : Nat) (s : ByteArray), x = .string s ∧ s.size ≤ 64 ∧ (s.size : Int) = (s0.size : Int) + k ∧ (k = 0 ∨ (s.size : Int) ≤ width) ∧ Hid (s.data.toList = List.replicate k 48 ++ plainL n)) (fun x => (width - strSz x).toNat)
      case atStart => exact ⟨0, s0, rfl, by omega, by omega, .inl rfl, HE.out⟩
      case round =>
        obtain ⟨k, s, rfl, hs1, hs2, hs3, hs4⟩ := hrel
        by_cases hlt : (s.size : Int) < width
        · have HN : Hid (((⟨#[48]⟩ : ByteArray) ++ s).data.toList = List.replicate (k + 1) 48 ++ plainL n) := pad_step hs4.out
          have HM : Hid (((⟨#[48]⟩ : ByteArray) ++ s).size = s.size + 1) := by
            show _ = _
            rw [Lib.size_eq, append_list, List.length_append, ← Lib.size_eq s, Nat.add_comm]; rfl
          have HQ := Lib.hid hs2
          clear hs2 hs4
          go_wp2
          go_round
          case rel => exact ⟨k + 1, _, rfl, by have := HM.out; omega, by have := HM.out; have := HQ.out; omega, .inr (by have := HM.out; omega), HN⟩
          case measure => have := HM.out; simp only [strSz]; omega
        · have HF : Hid (mkS (padL n width) = s) := by
            show _ = _
            rw [HP.out, show width.toNat - s0.size = k by omega, ← hs4.out, mkS_self]
          clear hs2 hs4
          go_wp2
          go_ret
          exact ⟨by rw [HF.out]; rfl, hb⟩

end Go.Proofs.YtjkfdjolhmgemaaGreatDoor
end

/-
  Contracts of the reference's read, Number, ReadHex and Seconds (layer 2), for every text.
-/
section
namespace Go.Proofs.YtjkfdjolhmgemaaGreatDoor
open Go.RowKit

/-- The value of the longest texts. -/
theorem val_fitTen (s : ByteArray) (h : s.size ≤ 18) (k : Nat) (hk : k < s.size) (ha : allB (isD 10) (s.data.toList.take k) = true) : 0 ≤ valV 10 (s.data.toList.take k) ∧ valV 10 (s.data.toList.take k) * 10 + 16 ≤ 9223372036854775807 := by
  have := (num10_fit s h).out k hk ha
  have hl : (s.data.toList.take k).length = k := by rw [List.length_take, ← Lib.size_eq]; omega
  have hp : 10 ^ k ≤ 10 ^ 18 := Nat.pow_le_pow_right (by omega) (by omega)
  have hq : 10 ^ 18 ≤ 9223372036854775807 := by decide +kernel
  have h2 : cutV 10 9223372036854775807 (s.data.toList.take k) = valV 10 (s.data.toList.take k) := cutV_val 10 9223372036854775807 _ (by omega) ha (by rw [hl]; omega)
  rwa [h2] at this
theorem r_readTen_any (s : ByteArray) (most : Int) (w : World) (hs : s.size ≤ maxLen) :
    Calls Tryz.prog 140 #[.string s, .int .i64 10, .int .i64 18, .int .i64 most] w fun e w' => e = .returned (.tuple #[.int .i64 (numN 10 18 most s.data.toList), .int .i64 (numE 10 18 most s.data.toList)]) ∧ w = w' := by
  unfold maxLen at hs
  have hsz := Lib.size_eq s
  obtain ⟨v, hv⟩ : ∃ v, numN 10 18 most s.data.toList = v := ⟨_, rfl⟩
  obtain ⟨o, ho⟩ : ∃ o, numE 10 18 most s.data.toList = o := ⟨_, rfl⟩
  rw [hv, ho]
  unfold numN at hv
  unfold numE at ho
  by_cases h0 : s.size = 0
  · rw [if_pos (.inl (by omega))] at hv ho
    have E : Hid (v = 0 ∧ o = 5) := ⟨hv.symm, ho.symm⟩
    have h1 : (s.size : Int) < 1 := by omega
    clear hv ho hsz h0
    go_enter Tryz.func140, Tryz.ntmps140
    go_wp2_with fail
    go_ret2
    exact ⟨ret_int_int E.out.1.symm E.out.2.symm, rfl⟩
  · by_cases hl : 18 < s.size
    · rw [if_pos (.inr (.inl (by omega)))] at hv ho
      have E : Hid (v = 0 ∧ o = 5) := ⟨hv.symm, ho.symm⟩
      have h1 : ¬ (s.size : Int) < 1 := by omega
      have h2 : (18 : Int) < (s.size : Int) := by omega
      clear hv ho hsz h0 hl
      go_enter Tryz.func140, Tryz.ntmps140
      go_wp2_with fail
      go_ret2
      exact ⟨ret_int_int E.out.1.symm E.out.2.symm, rfl⟩
    · have h1 : ¬ (s.size : Int) < 1 := by omega
      have h2 : ¬ (18 : Int) < (s.size : Int) := by omega
      have HV := Lib.hid hv
      have HO := Lib.hid ho
      have HS := Lib.hid hsz
      have HL := Lib.hid (show s.size ≤ 18 by omega)
      have H0 := Lib.hid h0
      clear hv ho hsz h0 hl
      go_enter Tryz.func140, Tryz.ntmps140
      go_wp2_with fail
      clear h1 h2
      go_loop [10, 11] (fun n i => ∃ (k : Nat) (x : Int), k ≤ s.size ∧ i = .int .i64 k ∧ n = .int .i64 x ∧ Hid (valV 10 (s.data.toList.take k) = x) ∧ Hid (allB (isD 10) (s.data.toList.take k) = true)) (fun _ i => s.size - (intOf i).toNat)
      case atStart => exact ⟨0, 0, Nat.zero_le _, rfl, rfl, rfl, rfl⟩
      case round =>
        obtain ⟨k, x, hk, rfl, rfl, hx, ha⟩ := hrel
        by_cases hlt : k < s.size
        · have hbd := byte_wf s[k]
          obtain ⟨q0, q1⟩ := val_fitTen s HL.out k hlt ha.out
          rw [hx.out] at q0 q1
          obtain ⟨hy, hn⟩ := hex_digV (s[k]'hlt).toNat (s[k]'hlt).toNat_lt
          by_cases hd : isD 10 ((s[k]'hlt).toNat : Int) = true
          · have hdn := digV_nn ((s[k]'hlt).toNat : Int)
            have hd2 := isD_true.1 hd
            have hB : hexB ((s[k]'hlt).toNat : Int) = true := by
              cases hh : hexB ((s[k]'hlt).toNat : Int) with
              | true => rfl
              | false => have := hn hh; omega
            have HB := Lib.hid hB
            have HN := Lib.hid (hy hB).1
            have HX : Hid (valV 10 (s.data.toList.take (k + 1)) = x * 10 + digV ((s[k]'hlt).toNat : Int)) := by show _ = _; rw [valV_take _ s k hlt, hx.out]
            have HA : Hid (allB (isD 10) (s.data.toList.take (k + 1)) = true) := by show _ = _; rw [allB_take _ s k hlt, ha.out, hd]; rfl
            clear hd hx ha hy hn hB
            go_wp2_with fail
            refine (r_hex (s[k]'hlt).toNat (s[k]'hlt).toNat_lt _).mono ?_
            rintro e w' ⟨he, rfl⟩
            rw [HB.out, HN.out] at he
            subst he
            generalize digV ((s[k]'hlt).toNat : Int) = d at *
            go_wp2
            go_round
            case rel => exact ⟨k + 1, _, by omega, by go_num, rfl, HX, HA⟩
            case measure => simp [intOf]; omega
          · have hd' : isD 10 ((s[k]'hlt).toNat : Int) = false := by simpa using hd
            have hf := allB_false (isD 10) s k hlt hd'
            have E : Hid (v = 0 ∧ o = 5) := by
              have a := HV.out; have c := HO.out
              rw [if_pos (.inr (.inr (.inl hf)))] at a
              rw [if_pos (.inr (.inr hf))] at c
              exact ⟨a.symm, c.symm⟩
            have hd2 := isD_false.1 hd'
            cases hh : hexB ((s[k]'hlt).toNat : Int) with
            | false =>
              have HB := Lib.hid hh
              clear hd hd' hx ha hy hn hf hh hd2 HV HO
              go_wp2_with fail
              refine (r_hex (s[k]'hlt).toNat (s[k]'hlt).toNat_lt _).mono ?_
              rintro e w' ⟨he, rfl⟩
              rw [HB.out] at he
              subst he
              go_wp2
              go_ret2
              exact ⟨ret_int_int E.out.1.symm E.out.2.symm, rfl⟩
            | true =>
              have HB := Lib.hid hh
              have HN := Lib.hid (hy hh).1
              have hlim := (hy hh).2
              clear hd hd' hx ha hy hn hf hh HV HO
              go_wp2_with fail
              refine (r_hex (s[k]'hlt).toNat (s[k]'hlt).toNat_lt _).mono ?_
              rintro e w' ⟨he, rfl⟩
              rw [HB.out, HN.out] at he
              subst he
              generalize digV ((s[k]'hlt).toNat : Int) = d at *
              first
                | (exfalso; omega)
                | (go_wp2
                   go_ret2
                   exact ⟨ret_int_int E.out.1.symm E.out.2.symm, rfl⟩)
        · have hfull : s.data.toList.take k = s.data.toList := List.take_of_length_le (by rw [← Lib.size_eq]; omega)
          rw [hfull] at hx ha
          have hv := HV.out
          have ho := HO.out
          rw [hx.out, ha.out] at hv
          rw [hx.out, ha.out] at ho
          by_cases hm : most < x
          · have E : Hid (v = 0 ∧ o = 3) := by
              rw [if_pos (.inr (.inr (.inr hm)))] at hv
              rw [if_neg (by have := HS.out; have := HL.out; have := H0.out; rintro (h | h | h) <;> first | omega | cases h), if_pos hm] at ho
              exact ⟨hv.symm, ho.symm⟩
            clear hv ho HV HO hx ha hfull
            go_wp2
            go_ret2
            exact ⟨ret_int_int E.out.1.symm E.out.2.symm, rfl⟩
          · have E : Hid (v = x ∧ o = 0) := by
              rw [if_neg (by have := HS.out; have := HL.out; have := H0.out; rintro (h | h | h | h) <;> first | omega | cases h)] at hv
              rw [if_neg (by have := HS.out; have := HL.out; have := H0.out; rintro (h | h | h) <;> first | omega | cases h), if_neg hm] at ho
              exact ⟨hv.symm, ho.symm⟩
            clear hv ho HV HO hx ha hfull
            go_wp2
            go_ret2
            exact ⟨ret_int_int E.out.1.symm E.out.2.symm, rfl⟩

theorem r_number_any (s : ByteArray) (most : Int) (w : World) (hs : s.size ≤ maxLen) :
    Calls Tryz.prog 115 #[.string s, .int .i64 most] w fun e w' => e = .returned (.tuple #[.int .i64 (numN 10 18 most s.data.toList), .int .i64 (numE 10 18 most s.data.toList)]) ∧ w = w' := by
  go_enter Tryz.func115, Tryz.ntmps115
  go_wp2_with fail
  refine (r_readTen_any s most _ hs).mono ?_
  rintro e w1 ⟨rfl, rfl⟩
  go_wp2_with fail
  go_ret2
  exact ⟨rfl, rfl⟩

end Go.Proofs.YtjkfdjolhmgemaaGreatDoor
end
