/-
  Texts that the laws of this seat lean on, one behind the other.
-/
import Derived.Test.YtbbppkonjaijhaaDoorMrgM
import Derived.Test.YtbbppkonjaijhaaDoorMrgE
import Derived.Lib.Hide
/-
  Contracts of the library's FormatInt at base 16 and of Hex of package decimal.
-/
section
namespace Go.Proofs.YtbbppkonjaijhaaDoor
open Go.RowKit

abbrev TabBr (w : World) : Prop := w.cell? ⟨3, 15, none⟩ = some (.int .u8 4)

theorem tz_sixteen (w : World) (ht : TabBr w) :
    Calls Tryd.prog 78 #[.int .u64 16] w fun e w' => e = .returned (.int .i64 4) ∧ w = w' := by
  unfold TabBr at ht
  have he : bits BinOp.and IntKind.u64 16 (IntKind.u64.wrap (-16)) = 16 := by decide +kernel
  have hw : IntKind.u64.wrap 4573923408821661840 = 4573923408821661840 := by decide +kernel
  go_enter Tryd.func78, Tryd.ntmps78
  go_wp2
  go_ret
  exact ⟨rfl, rfl⟩

theorem pow_sixteen (w : World) :
    Calls Tryd.prog 77 #[.int .i64 16] w fun e w' => e = .returned (.bool true) ∧ w = w' := by
  go_enter Tryd.func77, Tryd.ntmps77
  go_wp2
  go_ret
  exact ⟨rfl, rfl⟩

def dig36 : ByteArray := ⟨#[48, 49, 50, 51, 52, 53, 54, 55, 56, 57, 97, 98, 99, 100, 101, 102, 103, 104, 105, 106, 107, 108, 109, 110, 111, 112, 113, 114, 115, 116, 117, 118, 119, 120, 121, 122]⟩
theorem dig36_at : ∀ (d : Nat) (h : d < 16), (dig36[d]'(by have : dig36.size = 36 := rfl; omega)).toNat = (dch d).toNat := by decide +kernel

theorem and_fifteen (m : Nat) (hm : m < 18446744073709551616) : bits .and .u64 (m : Int) 15 = ((m % 16 : Nat) : Int) := by
  have h := u64_and_nat m 15 hm (by omega)
  have h2 : m &&& 15 = m % 16 := Nat.and_two_pow_sub_one_eq_mod m 4
  rw [h2] at h
  exact h

theorem zero65 (j : Nat) (h : j < 65) : Tryd.zeroCells114[j]? = some (.int .u8 0) := by
  have e : Tryd.zeroCells114 = Array.replicate 65 (.int .u8 0) := by kernel_rfl
  rw [e, Array.getElem?_replicate, if_pos h]

theorem set_drop (L : List UInt8) (k : Nat) (x : UInt8) (hk : k < 65) (hL : L.length = 65) : (L.set (64 - k) x).drop (65 - (k + 1)) = x :: L.drop (65 - k) := by
  rw [show 65 - (k + 1) = 64 - k by omega, List.drop_eq_getElem_cons (by rw [List.length_set]; omega), List.getElem_set_self, List.drop_set_of_lt (by omega), show 64 - k + 1 = 65 - k by omega]

theorem bits_sixteen (u : Nat) (hu : u < 18446744073709551616) (w : World) (ht : TabBr w) :
    Calls Tryd.prog 63 #[.slice none 0 0, .int .u64 u, .int .i64 16, .bool false, .bool false] w fun e w' => e = .returned (.tuple #[.slice none 0 0, .string (mkS (digs 16 u))]) ∧ Below w.heap.size w w' := by
  unfold TabBr at ht
  have hb0 : Below w.heap.size w (w.alloc (Obj.cells Tryd.zeroCells114 114)) := (Below.refl _ _).alloc (Nat.le_refl _) _
  have ht2 := Lib.hid (cell_kept hb0 ht)
  have hR0 : Row8 (w.alloc (Obj.cells Tryd.zeroCells114 114)) w.heap.size (List.replicate 65 0) := by
    refine ⟨by simp, fun j hj => ?_, fun j hj => by simp⟩
    have hj' : j < 65 := by simpa using hj
    rw [World.cell?_alloc_new, List.getElem_replicate]
    exact zero65 j hj'
  clear ht
  go_enter Tryd.func63, Tryd.ntmps63
  go_wp2_with fail
  refine (pow_sixteen _).mono ?_
  rintro e w' ⟨rfl, rfl⟩
  go_wp2_with fail
  refine (tz_sixteen _ ht2.out).mono ?_
  rintro e w' ⟨rfl, rfl⟩
  go_wp2_with fail
  go_loopw [1, 13] (fun n i wr => ∃ (m k : Nat) (L : List UInt8), m < 18446744073709551616 ∧ k ≤ 16 ∧ n = .int .u64 m ∧ i = .int .i64 (65 - (k : Int)) ∧ L.length = 65 ∧ Row8 wr w.heap.size L ∧ Hid (digs 16 u = digs 16 m ++ L.drop (65 - k)) ∧ Below w.heap.size w wr) (fun n _ _ => (intOf n).toNat)
  case atStart => exact ⟨u, 0, _, hu, by omega, rfl, rfl, by simp, hR0, by show _ = _; simp, hb0⟩
  case round =>
    obtain ⟨m, k, L, hm, hk, rfl, rfl, hL, hrow, hdig, hbel⟩ := hrel
    by_cases hlt : 16 ≤ m
    · have hr : m % 16 < 16 := Nat.mod_lt _ (by omega)
      have hq : m / 16 < m := by omega
      have hand := and_fifteen m hm
      obtain ⟨r, hr0⟩ : ∃ r, m % 16 = r := ⟨_, rfl⟩
      obtain ⟨q, hq0⟩ : ∃ q, m / 16 = q := ⟨_, rfl⟩
      rw [hr0] at hand hr
      rw [hq0] at hq
      have hk16 : k < 16 := by
        have h1 := congrArg List.length hdig.out
        rw [List.length_append, List.length_drop, hL] at h1
        have h2 := digs_len 16 15 u (by omega) (by omega)
        have h3 := digs_pos 16 m
        omega
      have hdiv : (m : Int) / 16 = (q : Int) := by omega
      have HD : Hid (digs 16 u = digs 16 q ++ (L.set (64 - k) (dch r)).drop (65 - (k + 1))) := by
        show _ = _
        rw [set_drop L k _ (by omega) hL, hdig.out, digs_big (by omega) hlt, hr0, hq0, List.append_assoc]
        rfl
      have hB := hrow.size
      have hcell := hrow.cell (64 - k) (by omega)
      have hfree := hrow.free (64 - k) (by omega)
      have hi1 : (65 - (k : Int)) - 1 = ((64 - k : Nat) : Int) := by omega
      have hi2 : ((64 - k : Nat) : Int) < 65 := by omega
      have hr36 : (r : Int) < 36 := by omega
      have hlt' : (16 : Int) ≤ (m : Int) := by omega
      clear hr0 hq0 hdig
      go_wp2
      go_roundw
      case rel => exact ⟨q, k + 1, L.set (64 - k) (dch r), by omega, by omega, rfl, congrArg (Value.int .i64) (by omega), by rw [List.length_set]; exact hL, hrow.set (64 - k) (by omega) (dch r) (congrArg (fun n : Nat => (n : Int)) (dig36_at r hr)), HD, hbel.setCell (Nat.le_refl _) _⟩
      case measure => simp [intOf]; omega
    · have hk16 : k < 16 := by
        have h1 := congrArg List.length hdig.out
        rw [List.length_append, List.length_drop, hL] at h1
        have h2 := digs_len 16 15 u (by omega) (by omega)
        have h3 := digs_pos 16 m
        omega
      have HD : Hid (digs 16 u = (L.set (64 - k) (dch m)).drop (64 - k)) := by
        show _ = _
        have := set_drop L k (dch m) (by omega) hL
        rw [show 65 - (k + 1) = 64 - k by omega] at this
        rw [this, hdig.out, digs_small (by omega)]
        rfl
      have hB := hrow.size
      have hcell := hrow.cell (64 - k) (by omega)
      have hfree := hrow.free (64 - k) (by omega)
      have hi1 : (65 - (k : Int)) - 1 = ((64 - k : Nat) : Int) := by omega
      have hi2 : ((64 - k : Nat) : Int) < 65 := by omega
      have hr36 : (m : Int) < 36 := by omega
      have hlt' : ¬ (16 : Int) ≤ (m : Int) := by omega
      have hx : (((⟨List.toArray (48 :: 49 :: 50 :: 51 :: 52 :: 53 :: 54 :: 55 :: 56 :: 57 :: 97 :: 98 :: 99 :: 100 :: 101 :: 102 :: 103 :: 104 :: 105 :: 106 :: 107 :: 108 :: 109 :: 110 :: 111 :: 112 :: 113 :: 114 :: 115 :: 116 :: 117 :: 118 :: 119 :: 120 :: 121 :: 122 :: [])⟩ : ByteArray)[m]'(by have : (⟨List.toArray (48 :: 49 :: 50 :: 51 :: 52 :: 53 :: 54 :: 55 :: 56 :: 57 :: 97 :: 98 :: 99 :: 100 :: 101 :: 102 :: 103 :: 104 :: 105 :: 106 :: 107 :: 108 :: 109 :: 110 :: 111 :: 112 :: 113 :: 114 :: 115 :: 116 :: 117 :: 118 :: 119 :: 120 :: 121 :: 122 :: [])⟩ : ByteArray).size = 36 := rfl; omega)).toNat : Int) = ((dch m).toNat : Int) := congrArg (fun n : Nat => (n : Int)) (dig36_at m (by omega))
      have hrow2 := Lib.hid (hrow.set (64 - k) (by omega) (dch m) rfl)
      have hL2 := Lib.hid (show ((L.set (64 - k) (dch m)).drop (64 - k)).length = k + 1 by rw [List.length_drop, List.length_set, hL]; omega)
      have hsl : ∀ W, (Instr.sliceAt 114 (.pointer (some ⟨w.heap.size, 0, none⟩)) (some (.int .i64 ((64 - k : Nat) : Int))) none none).run Tryd.prog W = .ok (.slice (some ⟨w.heap.size, 64 - k, none⟩) (k + 1) (k + 1)) W := fun W => by
        have hal : Tryd.prog.arrayLen 114 = 65 := by kernel_rfl
        rw [run_sliceAt_array_l W 114 ⟨w.heap.size, 0, none⟩ (by kernel_rfl) .i64 ((64 - k : Nat) : Int) (by omega) (by rw [hal]; omega)]
        go_simp
        omega
      have hcv : (convert 38 9 (.slice (some ⟨w.heap.size, 64 - k, none⟩) (k + 1) (k + 1))).run Tryd.prog (wr.setCell ⟨w.heap.size, 64 - k, none⟩ (.int .u8 ((dch m).toNat : Int))) = .ok (.string (mkS (digs 16 u))) (wr.setCell ⟨w.heap.size, 64 - k, none⟩ (.int .u8 ((dch m).toNat : Int))) := by
        have h := run_convert_bytes_back (P := Tryd.prog) (wr.setCell ⟨w.heap.size, 64 - k, none⟩ (.int .u8 ((dch m).toNat : Int))) 38 9 5 ⟨w.heap.size, 64 - k, none⟩ (k + 1) ((L.set (64 - k) (dch m)).drop (64 - k)) Tryd.underlying38 Tryd.underlying5 Tryd.underlying9 (fun j hj => by
          have hj' : 64 - k + j < (L.set (64 - k) (dch m)).length := by rw [List.length_drop] at hj; omega
          rw [show (⟨w.heap.size, 64 - k, none⟩ : Addr).add j = ⟨w.heap.size, 64 - k + j, none⟩ by simp [Addr.add]]
          have := hrow2.out.cell (64 - k + j) hj'
          rw [this, List.getElem_drop])
        rw [hL2.out, ← HD.out] at h
        exact h
      clear hcell
      have hcell := hrow.cell (64 - k) (by omega)
      have hbel2 := hbel.setCell (p := ⟨w.heap.size, 64 - k, none⟩) (Nat.le_refl _) (.int .u8 ((dch m).toNat : Int))
      clear hdig hrow
      go_wp2
      go_ret2
      exact ⟨rfl, hbel2⟩

theorem format_sixteen (u : Nat) (hu : u < 9223372036854775808) (w : World) (ht : TabBr w) :
    Calls Tryd.prog 47 #[.int .i64 u, .int .i64 16] w fun e w' => e = .returned (.string (mkS (digs 16 u))) ∧ Below w.heap.size w w' := by
  have c := Lib.hid (bits_sixteen u (by omega) w ht)
  clear ht
  go_enter Tryd.func47, Tryd.ntmps47
  go_wp2_with fail
  refine (c.out).mono ?_
  rintro e w' ⟨rfl, hb⟩
  go_wp2_with fail
  go_ret
  exact ⟨rfl, hb⟩

theorem format_hex (u : Nat) (hu : u < 9223372036854775808) (w : World) (ht : TabBr w) :
    Calls Tryd.prog 32 #[.int .i64 u, .int .i64 16] w fun e w' => e = .returned (.string (mkS (digs 16 u))) ∧ Below w.heap.size w w' := by
  have c := Lib.hid (format_sixteen u hu w ht)
  clear ht
  go_enter Tryd.func32, Tryd.ntmps32
  go_wp2_with fail
  refine (c.out).mono ?_
  rintro e w' ⟨rfl, hb⟩
  go_wp2_with fail
  go_ret
  exact ⟨rfl, hb⟩

theorem hexD_any (n : Int) (h1 : n ≤ 9223372036854775807) (w : World) (ht : TabBr w) :
    Calls Tryd.prog 19 #[.int .i64 n] w fun e w' => e = .returned (.string (mkS (hexL n))) ∧ Below w.heap.size w w' := by
  by_cases hn : n < 0
  · have HL : Hid (hexL n = []) := by show _ = _; unfold hexL; rw [if_pos hn]
    clear ht
    go_enter Tryd.func19, Tryd.ntmps19
    go_wp2_with fail
    go_ret
    exact ⟨by rw [HL.out]; rfl, Below.refl _ _⟩
  · obtain ⟨u, rfl⟩ : ∃ u : Nat, n = (u : Int) := ⟨n.toNat, by omega⟩
    have HL : Hid (hexL (u : Int) = digs 16 u) := by show _ = _; unfold hexL; rw [if_neg hn]; rfl
    have c := Lib.hid (format_hex u (by omega) w ht)
    clear ht
    go_enter Tryd.func19, Tryd.ntmps19
    go_wp2_with fail
    refine (c.out).mono ?_
    rintro e w' ⟨rfl, hb⟩
    go_wp2_with fail
    go_ret
    exact ⟨by rw [HL.out]; rfl, hb⟩

end Go.Proofs.YtbbppkonjaijhaaDoor
end
