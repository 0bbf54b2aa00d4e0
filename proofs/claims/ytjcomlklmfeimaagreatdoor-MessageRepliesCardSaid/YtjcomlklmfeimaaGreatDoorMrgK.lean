/-
  Texts that the laws of this seat lean on, one behind the other.
-/
import Derived.Test.YtjcomlklmfeimaaGreatDoorMrgF
import Derived.Test.YtjcomlklmfeimaaGreatDoorMrgA
import Derived.WalkSmall
import Derived.Test.YtjcomlklmfeimaaGreatDoorMrgC
import Derived.Test.YtjcomlklmfeimaaGreatDoorMrgH
import Derived.Lib.Hide
/-
  Contracts of Lower and Same of package octet, for every text.
-/
section
namespace Go.Proofs.YtjcomlklmfeimaaGreatDoor
open Go.RowKit

/-- What '[]byte(s)' makes. -/
theorem Row8.made (w : World) (s : ByteArray) (cap : Nat) (t : TypeId) : Row8 (w.alloc (.cells (bytesRow s cap) t ((bytesRow s cap).size, (bytesRow s cap).size + 1))) w.heap.size s.data.toList := by
  have hl : s.size = s.data.toList.length := Lib.size_eq s
  refine ⟨by simp, fun j hj => ?_, fun j hj => ?_⟩
  · rw [World.cell?_alloc_mark, bytesRow_at s cap j (by simpa using hj)]; simp
  · rw [World.frozen?_alloc_mark]
    have : ¬ (bytesRow s cap).size ≤ j := by
      have : s.data.size ≤ (bytesRow s cap).size := by unfold bytesRow; simp
      have : j < s.data.size := by simpa using hj
      omega
    simp [this]

theorem lower_any (s : ByteArray) (w : World) (hs : s.size ≤ maxLen) :
    Calls Tryz.prog 134 #[.string s] w fun e w' => e = .returned (.string (mkS (lowL s.data.toList))) ∧ Below w.heap.size w w' := by
  unfold maxLen at hs
  have kc := fun W => run_bytes_of_string (P := Tryz.prog) W 9 121 5 s Tryz.underlying9 Tryz.underlying121 Tryz.underlying5
  go_enter Tryz.func134, Tryz.ntmps134
  go_wp2
  clear kc
  have H0 := (Row8.made w s (grownCap w s.size 0 5) 5).below ((Below.refl _ _).drew)
  have hsz := Lib.hid (Lib.size_eq s)
  go_loopw [10] (fun i wr => ∃ k : Nat, k ≤ s.size ∧ i = .int .i64 k ∧ Row8 wr w.heap.size (lowK s.data.toList k) ∧ Below w.heap.size w wr) (fun i _ => s.size - (intOf i).toNat)
  case atStart => exact ⟨0, Nat.zero_le _, rfl, by rw [lowK_zero]; exact H0, ((Below.refl _ _).alloc (Nat.le_refl _) _).drew⟩
  case round =>
    clear H0
    obtain ⟨k, hk, rfl, hrow, hbel⟩ := hrel
    by_cases hlt : k < s.size
    · obtain ⟨hcell, hfree⟩ := hrow.at (lowK_at s k hlt)
      have hB := hrow.size
      have hbd := byte_wf s[k]
      have hlen : k < (lowK s.data.toList k).length := by rw [lowK_len, ← hsz.out]; exact hlt
      by_cases hin : rng 65 90 (s[k].toNat : Int) = true
      · have HI := Lib.hid hin
        have hr := rng_true.1 hin
        have HR := Lib.hid (lowU_yes s[k] hin)
        clear hin
        go_wp2_with (go_at_call 129; refine (span_any _ _ _).mono ?_; rintro e w' ⟨rfl, rfl⟩)
        refine (in_one 65 90 _ _ _ _ _ rfl ⟨wr.heap.size, wr.heap.size + 1, ?_, ?_, ?_⟩).mono ?_
        · go_simp
        · go_simp
        · go_simp
        rintro e w' ⟨he, rfl⟩
        rw [HI.out] at he
        subst he
        have hbx : Below wr.heap.size wr (((wr.alloc (.cells #[.int .u8 65] 5)).alloc (.cells #[.int .u8 90] 5)).alloc (.cells #[.func (.func 156) #[] #[.pointer (some ⟨wr.heap.size, 0, none⟩), .pointer (some ⟨wr.heap.size + 1, 0, none⟩)]] 156)) :=
          (((Below.refl _ _).alloc (Nat.le_refl _) _).alloc (by simp) _).alloc (by simp <;> omega) _
        obtain ⟨hc3, hf3⟩ := (hrow.below hbx).at (lowK_at s k hlt)
        have hrow2 := (hrow.below hbx).set k hlen (lowU s[k]) (n := (s[k].toNat : Int) + 32) HR.out.symm
        rw [← lowK_succ s k hlt] at hrow2
        have hbel2 := (hbel.trans (hbx.mono hbel.size)).setCell (p := ⟨w.heap.size, k, none⟩) (Nat.le_refl _) (.int .u8 ((s[k].toNat : Int) + 32))
        go_wp2
        go_roundw
        case rel => exact ⟨k + 1, by omega, by go_num, hrow2, hbel2⟩
        case measure => simp [intOf]; omega
      · have hin' : rng 65 90 (s[k].toNat : Int) = false := by simpa using hin
        have HI := Lib.hid hin'
        have HR := Lib.hid (lowU_no s[k] hin')
        clear hin hin'
        go_wp2_with (go_at_call 129; refine (span_any _ _ _).mono ?_; rintro e w' ⟨rfl, rfl⟩)
        refine (in_one 65 90 _ _ _ _ _ rfl ⟨wr.heap.size, wr.heap.size + 1, ?_, ?_, ?_⟩).mono ?_
        · go_simp
        · go_simp
        · go_simp
        rintro e w' ⟨he, rfl⟩
        rw [HI.out] at he
        subst he
        have hbx : Below wr.heap.size wr (((wr.alloc (.cells #[.int .u8 65] 5)).alloc (.cells #[.int .u8 90] 5)).alloc (.cells #[.func (.func 156) #[] #[.pointer (some ⟨wr.heap.size, 0, none⟩), .pointer (some ⟨wr.heap.size + 1, 0, none⟩)]] 156)) :=
          (((Below.refl _ _).alloc (Nat.le_refl _) _).alloc (by simp) _).alloc (by simp <;> omega) _
        have hrow2 := hrow.below hbx
        rw [← lowK_same s k hlt HR.out] at hrow2
        go_wp2
        go_roundw
        case rel => exact ⟨k + 1, by omega, by go_num, hrow2, hbel.trans (hbx.mono hbel.size)⟩
        case measure => simp [intOf]; omega
    · have hll : s.data.toList.length ≤ k := by rw [← hsz.out]; omega
      rw [lowK_full _ _ hll] at hrow
      have kb := run_convert_bytes_back (P := Tryz.prog) wr 121 9 5 ⟨w.heap.size, 0, none⟩ (grownCap w s.size 0 5) (lowL s.data.toList) Tryz.underlying121 Tryz.underlying5 Tryz.underlying9
        (fun j hj => by rw [addr_add]; exact hrow.cell j hj)
      rw [lowL_len, ← hsz.out] at kb
      clear hrow hll
      go_wp2
      go_ret
      exact ⟨rfl, hbel⟩

theorem same_any (a b : ByteArray) (w : World) (ha : a.size ≤ maxLen) (hb : b.size ≤ maxLen) :
    Calls Tryz.prog 102 #[.string a, .string b] w fun e w' => e = .returned (.bool (sameB a b)) ∧ Below w.heap.size w w' := by
  by_cases h : ((a.size : Int) == (b.size : Int)) = true
  · go_enter Tryz.func102, Tryz.ntmps102
    go_wp2_with fail
    refine (lower_any a _ ha).mono ?_
    rintro e w1 ⟨rfl, hb1⟩
    go_wp2_with fail
    refine (lower_any b _ hb).mono ?_
    rintro e w2 ⟨rfl, hb2⟩
    have hl := Lib.hid (same_list (lowL a.data.toList) (lowL b.data.toList))
    go_wp2
    go_ret
    exact ⟨ret_bool hl.out, hb1.trans (hb2.mono hb1.size)⟩
  · have h2 : ((a.size : Int) == (b.size : Int)) = false := by simpa using h
    have H : Hid (sameB a b = false) := by
      show _ = _
      cases hs : sameB a b with
      | false => rfl
      | true => exact absurd (same_len hs) (by simp at h2; omega)
    go_enter Tryz.func102, Tryz.ntmps102
    go_wp2_with fail
    go_ret
    exact ⟨by rw [H.out]; rfl, Below.refl _ _⟩

end Go.Proofs.YtjcomlklmfeimaaGreatDoor
end

/-
  Contracts of the reference's Lower and Same (layer 1), for every text.
-/
section
namespace Go.Proofs.YtjcomlklmfeimaaGreatDoor
open Go.RowKit

theorem r_lower (s : ByteArray) (w : World) (hs : s.size ≤ maxLen) :
    Calls Tryz.prog 108 #[.string s] w fun e w' => e = .returned (.string (mkS (lowL s.data.toList))) ∧ Below w.heap.size w w' := by
  unfold maxLen at hs
  have kc := fun W => run_bytes_of_string (P := Tryz.prog) W 9 121 5 s Tryz.underlying9 Tryz.underlying121 Tryz.underlying5
  go_enter Tryz.func108, Tryz.ntmps108
  go_wp2
  clear kc
  have H0 := (Row8.made w s (grownCap w s.size 0 5) 5).below ((Below.refl _ _).drew)
  have hsz := Lib.hid (Lib.size_eq s)
  go_loopw [4] (fun i wr => ∃ k : Nat, k ≤ s.size ∧ i = .int .i64 k ∧ Row8 wr w.heap.size (lowK s.data.toList k) ∧ Below w.heap.size w wr) (fun i _ => s.size - (intOf i).toNat)
  case atStart => exact ⟨0, Nat.zero_le _, rfl, by rw [lowK_zero]; exact H0, ((Below.refl _ _).alloc (Nat.le_refl _) _).drew⟩
  case round =>
    clear H0
    obtain ⟨k, hk, rfl, hrow, hbel⟩ := hrel
    by_cases hlt : k < s.size
    · obtain ⟨hcell, hfree⟩ := hrow.at (lowK_at s k hlt)
      have hlen : k < (lowK s.data.toList k).length := by rw [lowK_len, ← hsz.out]; exact hlt
      by_cases hin : rng 65 90 (s[k].toNat : Int) = true
      · have hr := rng_true.1 hin
        have hr1 := hr.1
        have hr2 := hr.2
        have hrow2 := hrow.set k hlen (lowU s[k]) (n := (s[k].toNat : Int) + 32) (lowU_yes s[k] hin).symm
        rw [← lowK_succ s k hlt] at hrow2
        have hbel2 := hbel.setCell (p := ⟨w.heap.size, k, none⟩) (Nat.le_refl _) (.int .u8 ((s[k].toNat : Int) + 32))
        clear hin hr
        go_wp2
        go_roundw
        case rel => exact ⟨k + 1, by omega, by go_num, hrow2, hbel2⟩
        case measure => simp [intOf]; omega
      · have hin' : rng 65 90 (s[k].toNat : Int) = false := by simpa using hin
        have hrow2 := hrow
        rw [← lowK_same s k hlt (lowU_no s[k] hin')] at hrow2
        have hr := rng_false.1 hin'
        clear hin hin'
        by_cases h65 : (65 : Int) ≤ (s[k].toNat : Int)
        · have h90 : ¬ (s[k].toNat : Int) ≤ 90 := fun h => hr ⟨h65, h⟩
          clear hr
          go_wp2
          go_roundw
          case rel => exact ⟨k + 1, by omega, by go_num, hrow2, hbel⟩
          case measure => simp [intOf]; omega
        · clear hr
          go_wp2
          go_roundw
          case rel => exact ⟨k + 1, by omega, by go_num, hrow2, hbel⟩
          case measure => simp [intOf]; omega
    · have hll : s.data.toList.length ≤ k := by rw [← hsz.out]; omega
      rw [lowK_full _ _ hll] at hrow
      have kb := run_convert_bytes_back (P := Tryz.prog) wr 121 9 5 ⟨w.heap.size, 0, none⟩ (grownCap w s.size 0 5) (lowL s.data.toList) Tryz.underlying121 Tryz.underlying5 Tryz.underlying9
        (fun j hj => by rw [addr_add]; exact hrow.cell j hj)
      rw [lowL_len, ← hsz.out] at kb
      clear hrow hll
      go_wp2
      go_ret
      exact ⟨rfl, hbel⟩

theorem r_same (a b : ByteArray) (w : World) (ha : a.size ≤ maxLen) (hb : b.size ≤ maxLen) :
    Calls Tryz.prog 75 #[.string a, .string b] w fun e w' => e = .returned (.bool (sameB a b)) ∧ Below w.heap.size w w' := by
  go_enter Tryz.func75, Tryz.ntmps75
  go_wp2_with fail
  refine (r_lower a _ ha).mono ?_
  rintro e w1 ⟨rfl, hb1⟩
  go_wp2_with fail
  refine (r_lower b _ hb).mono ?_
  rintro e w2 ⟨rfl, hb2⟩
  have hl := Lib.hid (same_list (lowL a.data.toList) (lowL b.data.toList))
  go_wp2
  go_ret
  exact ⟨ret_bool hl.out, hb1.trans (hb2.mono hb1.size)⟩

end Go.Proofs.YtjcomlklmfeimaaGreatDoor
end

/-
  Contracts of the library's FormatInt at base 16 and of Hex of package decimal.
-/
section
namespace Go.Proofs.YtjcomlklmfeimaaGreatDoor
open Go.RowKit

abbrev TabBr (w : World) : Prop := w.cell? ⟨5, 15, none⟩ = some (.int .u8 4)

theorem tz_sixteen (w : World) (ht : TabBr w) :
    Calls Tryz.prog 191 #[.int .u64 16] w fun e w' => e = .returned (.int .i64 4) ∧ w = w' := by
  unfold TabBr at ht
  have he : bits BinOp.and IntKind.u64 16 (IntKind.u64.wrap (-16)) = 16 := by decide +kernel
  have hw : IntKind.u64.wrap 4573923408821661840 = 4573923408821661840 := by decide +kernel
  go_enter Tryz.func191, Tryz.ntmps191
  go_wp2
  go_ret
  exact ⟨rfl, rfl⟩

theorem pow_sixteen (w : World) :
    Calls Tryz.prog 190 #[.int .i64 16] w fun e w' => e = .returned (.bool true) ∧ w = w' := by
  go_enter Tryz.func190, Tryz.ntmps190
  go_wp2
  go_ret
  exact ⟨rfl, rfl⟩

def dig36 : ByteArray := ⟨#[48, 49, 50, 51, 52, 53, 54, 55, 56, 57, 97, 98, 99, 100, 101, 102, 103, 104, 105, 106, 107, 108, 109, 110, 111, 112, 113, 114, 115, 116, 117, 118, 119, 120, 121, 122]⟩
theorem dig36_at : ∀ (d : Nat) (h : d < 16), (dig36[d]'(by have : dig36.size = 36 := rfl; omega)).toNat = (dch d).toNat := by decide +kernel

theorem and_fifteen (m : Nat) (hm : m < 18446744073709551616) : bits .and .u64 (m : Int) 15 = ((m % 16 : Nat) : Int) := by
  have h := u64_and_nat m 15 hm (by omega)
  have h2 : m &&& 15 = m % 16 := Nat.and_two_pow_sub_one_eq_mod m 4
  rw [h2] at h
  exact h

theorem zero65 (j : Nat) (h : j < 65) : Tryz.zeroCells221[j]? = some (.int .u8 0) := by
  have e : Tryz.zeroCells221 = Array.replicate 65 (.int .u8 0) := by kernel_rfl
  rw [e, Array.getElem?_replicate, if_pos h]

theorem set_drop (L : List UInt8) (k : Nat) (x : UInt8) (hk : k < 65) (hL : L.length = 65) : (L.set (64 - k) x).drop (65 - (k + 1)) = x :: L.drop (65 - k) := by
  rw [show 65 - (k + 1) = 64 - k by omega, List.drop_eq_getElem_cons (by rw [List.length_set]; omega), List.getElem_set_self, List.drop_set_of_lt (by omega), show 64 - k + 1 = 65 - k by omega]

theorem bits_sixteen (u : Nat) (hu : u < 18446744073709551616) (w : World) (ht : TabBr w) :
    Calls Tryz.prog 179 #[.slice none 0 0, .int .u64 u, .int .i64 16, .bool false, .bool false] w fun e w' => e = .returned (.tuple #[.slice none 0 0, .string (mkS (digs 16 u))]) ∧ Below w.heap.size w w' := by
  unfold TabBr at ht
  have hb0 : Below w.heap.size w (w.alloc (Obj.cells Tryz.zeroCells221 221)) := (Below.refl _ _).alloc (Nat.le_refl _) _
  have ht2 := Lib.hid (cell_kept hb0 ht)
  have hR0 : Row8 (w.alloc (Obj.cells Tryz.zeroCells221 221)) w.heap.size (List.replicate 65 0) := by
    refine ⟨by simp, fun j hj => ?_, fun j hj => by simp⟩
    have hj' : j < 65 := by simpa using hj
    rw [World.cell?_alloc_new, List.getElem_replicate]
    exact zero65 j hj'
  clear ht
  go_enter Tryz.func179, Tryz.ntmps179
  go_wp2_with fail
  refine (pow_sixteen _).mono ?_
  rintro e w' ⟨rfl, rfl⟩
  go_wp2_with fail
  refine (tz_sixteen _ ht2.out).mono ?_
  rintro e w' ⟨rfl, rfl⟩
  go_wp2_with fail
  go_loopw [1, 13] (fun n i wr => ∃ (m k : Nat) (L : List UInt8), m < 18446744073709551616 ∧ k ≤ 16 ∧ n = .int .u64 m ∧ i = .int .i64 (65 - (k : Int)) ∧ L.length = 65 ∧ Row8 wr w.heap.size L ∧ Hid (digs 16 u = digs 16 m ++ L.drop (65 - k)) ∧ Below w.heap.size w wr) (fun n _ _ => (intOf n).toNat)
  case atStart => exact ⟨u, 0, _, hu, by omega, rfl, rfl, by simp, hR0, by show _ = _; simp, hb0⟩
  case round =>
    obtain ⟨m, k, L, hm, hk, rfl, rfl, hL, hrow, hdig, hbel⟩ := hrel
    by_cases hlt : 16 ≤ m
    · have hr : m % 16 < 16 := Nat.mod_lt _ (by omega)
      have hq : m / 16 < m := by omega
      have hand := and_fifteen m hm
      obtain ⟨r, hr0⟩ : ∃ r, m % 16 = r := ⟨_, rfl⟩
      obtain ⟨q, hq0⟩ : ∃ q, m / 16 = q := ⟨_, rfl⟩
      rw [hr0] at hand hr
      rw [hq0] at hq
      have hk16 : k < 16 := by
        have h1 := congrArg List.length hdig.out
        rw [List.length_append, List.length_drop, hL] at h1
        have h2 := digs_len 16 15 u (by omega) (by omega)
        have h3 := digs_pos 16 m
        omega
      have hdiv : (m : Int) / 16 = (q : Int) := by omega
      have HD : Hid (digs 16 u = digs 16 q ++ (L.set (64 - k) (dch r)).drop (65 - (k + 1))) := by
        show _ = _
        rw [set_drop L k _ (by omega) hL, hdig.out, digs_big (by omega) hlt, hr0, hq0, List.append_assoc]
        rfl
      have hB := hrow.size
      have hcell := hrow.cell (64 - k) (by omega)
      have hfree := hrow.free (64 - k) (by omega)
      have hi1 : (65 - (k : Int)) - 1 = ((64 - k : Nat) : Int) := by omega
      have hi2 : ((64 - k : Nat) : Int) < 65 := by omega
      have hr36 : (r : Int) < 36 := by omega
      have hlt' : (16 : Int) ≤ (m : Int) := by omega
      clear hr0 hq0 hdig
      go_wp2
      go_roundw
      case rel => exact ⟨q, k + 1, L.set (64 - k) (dch r), by omega, by omega, rfl, congrArg (Value.int .i64) (by omega), by rw [List.length_set]; exact hL, hrow.set (64 - k) (by omega) (dch r) (congrArg (fun n : Nat => (n : Int)) (dig36_at r hr)), HD, hbel.setCell (Nat.le_refl _) _⟩
      case measure => simp [intOf]; omega
    · have hk16 : k < 16 := by
        have h1 := congrArg List.length hdig.out
        rw [List.length_append, List.length_drop, hL] at h1
        have h2 := digs_len 16 15 u (by omega) (by omega)
        have h3 := digs_pos 16 m
        omega
      have HD : Hid (digs 16 u = (L.set (64 - k) (dch m)).drop (64 - k)) := by
        show _ = _
        have := set_drop L k (dch m) (by omega) hL
        rw [show 65 - (k + 1) = 64 - k by omega] at this
        rw [this, hdig.out, digs_small (by omega)]
        rfl
      have hB := hrow.size
      have hcell := hrow.cell (64 - k) (by omega)
      have hfree := hrow.free (64 - k) (by omega)
      have hi1 : (65 - (k : Int)) - 1 = ((64 - k : Nat) : Int) := by omega
      have hi2 : ((64 - k : Nat) : Int) < 65 := by omega
      have hr36 : (m : Int) < 36 := by omega
      have hlt' : ¬ (16 : Int) ≤ (m : Int) := by omega
      have hx : (((⟨List.toArray (48 :: 49 :: 50 :: 51 :: 52 :: 53 :: 54 :: 55 :: 56 :: 57 :: 97 :: 98 :: 99 :: 100 :: 101 :: 102 :: 103 :: 104 :: 105 :: 106 :: 107 :: 108 :: 109 :: 110 :: 111 :: 112 :: 113 :: 114 :: 115 :: 116 :: 117 :: 118 :: 119 :: 120 :: 121 :: 122 :: [])⟩ : ByteArray)[m]'(by have : (⟨List.toArray (48 :: 49 :: 50 :: 51 :: 52 :: 53 :: 54 :: 55 :: 56 :: 57 :: 97 :: 98 :: 99 :: 100 :: 101 :: 102 :: 103 :: 104 :: 105 :: 106 :: 107 :: 108 :: 109 :: 110 :: 111 :: 112 :: 113 :: 114 :: 115 :: 116 :: 117 :: 118 :: 119 :: 120 :: 121 :: 122 :: [])⟩ : ByteArray).size = 36 := rfl; omega)).toNat : Int) = ((dch m).toNat : Int) := congrArg (fun n : Nat => (n : Int)) (dig36_at m (by omega))
      have hrow2 := Lib.hid (hrow.set (64 - k) (by omega) (dch m) rfl)
      have hL2 := Lib.hid (show ((L.set (64 - k) (dch m)).drop (64 - k)).length = k + 1 by rw [List.length_drop, List.length_set, hL]; omega)
      have hsl : ∀ W, (Instr.sliceAt 221 (.pointer (some ⟨w.heap.size, 0, none⟩)) (some (.int .i64 ((64 - k : Nat) : Int))) none none).run Tryz.prog W = .ok (.slice (some ⟨w.heap.size, 64 - k, none⟩) (k + 1) (k + 1)) W := fun W => by
        have hal : Tryz.prog.arrayLen 221 = 65 := by kernel_rfl
        rw [run_sliceAt_array_l W 221 ⟨w.heap.size, 0, none⟩ (by kernel_rfl) .i64 ((64 - k : Nat) : Int) (by omega) (by rw [hal]; omega)]
        go_simp
        omega
      have hcv : (convert 121 9 (.slice (some ⟨w.heap.size, 64 - k, none⟩) (k + 1) (k + 1))).run Tryz.prog (wr.setCell ⟨w.heap.size, 64 - k, none⟩ (.int .u8 ((dch m).toNat : Int))) = .ok (.string (mkS (digs 16 u))) (wr.setCell ⟨w.heap.size, 64 - k, none⟩ (.int .u8 ((dch m).toNat : Int))) := by
        have h := run_convert_bytes_back (P := Tryz.prog) (wr.setCell ⟨w.heap.size, 64 - k, none⟩ (.int .u8 ((dch m).toNat : Int))) 121 9 5 ⟨w.heap.size, 64 - k, none⟩ (k + 1) ((L.set (64 - k) (dch m)).drop (64 - k)) Tryz.underlying121 Tryz.underlying5 Tryz.underlying9 (fun j hj => by
          have hj' : 64 - k + j < (L.set (64 - k) (dch m)).length := by rw [List.length_drop] at hj; omega
          rw [show (⟨w.heap.size, 64 - k, none⟩ : Addr).add j = ⟨w.heap.size, 64 - k + j, none⟩ by simp [Addr.add]]
          have := hrow2.out.cell (64 - k + j) hj'
          rw [this, List.getElem_drop])
        rw [hL2.out, ← HD.out] at h
        exact h
      clear hcell
      have hcell := hrow.cell (64 - k) (by omega)
      have hbel2 := hbel.setCell (p := ⟨w.heap.size, 64 - k, none⟩) (Nat.le_refl _) (.int .u8 ((dch m).toNat : Int))
      clear hdig hrow
      go_wp2
      go_ret2
      exact ⟨rfl, hbel2⟩

theorem format_sixteen (u : Nat) (hu : u < 9223372036854775808) (w : World) (ht : TabBr w) :
    Calls Tryz.prog 165 #[.int .i64 u, .int .i64 16] w fun e w' => e = .returned (.string (mkS (digs 16 u))) ∧ Below w.heap.size w w' := by
  have c := Lib.hid (bits_sixteen u (by omega) w ht)
  clear ht
  go_enter Tryz.func165, Tryz.ntmps165
  go_wp2_with fail
  refine (c.out).mono ?_
  rintro e w' ⟨rfl, hb⟩
  go_wp2_with fail
  go_ret
  exact ⟨rfl, hb⟩

end Go.Proofs.YtjcomlklmfeimaaGreatDoor
end
