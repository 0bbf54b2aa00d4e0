/-
  Texts that the laws of this seat lean on, one behind the other.
-/
import Derived.Test.YtmkjjidilfhojaaDoorMrgT
/-
  Contracts of the reference's Lower and Same (layer 1), for every text.
-/
section
namespace Go.Proofs.YtmkjjidilfhojaaDoor
open Go.RowKit

theorem r_lower (s : ByteArray) (w : World) (hs : s.size ≤ maxLen) :
    Calls Tryd.prog 35 #[.string s] w fun e w' => e = .returned (.string (mkS (lowL s.data.toList))) ∧ Below w.heap.size w w' := by
  unfold maxLen at hs
  have kc := fun W => run_bytes_of_string (P := Tryd.prog) W 9 55 5 s Tryd.underlying9 Tryd.underlying55 Tryd.underlying5
  go_enter Tryd.func35, Tryd.ntmps35
  go_wp2
  clear kc
  have H0 := (Row8.made w s (grownCap w s.size 0 5) 5).below ((Below.refl _ _).drew)
  have hsz := Lib.hid (Lib.size_eq s)
  go_loopw [4] (fun i wr => ∃ k : Nat, k ≤ s.size ∧ i = .int .i64 k ∧ Row8 wr w.heap.size (lowK s.data.toList k) ∧ Below w.heap.size w wr) (fun i _ => s.size - (intOf i).toNat)
  case atStart => exact ⟨0, Nat.zero_le _, rfl, by rw [lowK_zero]; exact H0, ((Below.refl _ _).alloc (Nat.le_refl _) _).drew⟩
  case round =>
    clear H0
    obtain ⟨k, hk, rfl, hrow, hbel⟩ := hrel
    by_cases hlt : k < s.size
    · obtain ⟨hcell, hfree⟩ := hrow.at (lowK_at s k hlt)
      have hlen : k < (lowK s.data.toList k).length := by rw [lowK_len, ← hsz.out]; exact hlt
      by_cases hin : rng 65 90 (s[k].toNat : Int) = true
      · have hr := rng_true.1 hin
        have hr1 := hr.1
        have hr2 := hr.2
        have hrow2 := hrow.set k hlen (lowU s[k]) (n := (s[k].toNat : Int) + 32) (lowU_yes s[k] hin).symm
        rw [← lowK_succ s k hlt] at hrow2
        have hbel2 := hbel.setCell (p := ⟨w.heap.size, k, none⟩) (Nat.le_refl _) (.int .u8 ((s[k].toNat : Int) + 32))
        clear hin hr
        go_wp2
        go_roundw
        case rel => exact ⟨k + 1, by omega, by go_num, hrow2, hbel2⟩
        case measure => simp [intOf]; omega
      · have hin' : rng 65 90 (s[k].toNat : Int) = false := by simpa using hin
        have hrow2 := hrow
        rw [← lowK_same s k hlt (lowU_no s[k] hin')] at hrow2
        have hr := rng_false.1 hin'
        clear hin hin'
        by_cases h65 : (65 : Int) ≤ (s[k].toNat : Int)
        · have h90 : ¬ (s[k].toNat : Int) ≤ 90 := fun h => hr ⟨h65, h⟩
          clear hr
          go_wp2
          go_roundw
          case rel => exact ⟨k + 1, by omega, by go_num, hrow2, hbel⟩
          case measure => simp [intOf]; omega
        · clear hr
          go_wp2
          go_roundw
          case rel => exact ⟨k + 1, by omega, by go_num, hrow2, hbel⟩
          case measure => simp [intOf]; omega
    · have hll : s.data.toList.length ≤ k := by rw [← hsz.out]; omega
      rw [lowK_full _ _ hll] at hrow
      have kb := run_convert_bytes_back (P := Tryd.prog) wr 55 9 5 ⟨w.heap.size, 0, none⟩ (grownCap w s.size 0 5) (lowL s.data.toList) Tryd.underlying55 Tryd.underlying5 Tryd.underlying9
        (fun j hj => by rw [addr_add]; exact hrow.cell j hj)
      rw [lowL_len, ← hsz.out] at kb
      clear hrow hll
      go_wp2
      go_ret
      exact ⟨rfl, hbel⟩

theorem r_same (a b : ByteArray) (w : World) (ha : a.size ≤ maxLen) (hb : b.size ≤ maxLen) :
    Calls Tryd.prog 24 #[.string a, .string b] w fun e w' => e = .returned (.bool (sameB a b)) ∧ Below w.heap.size w w' := by
  go_enter Tryd.func24, Tryd.ntmps24
  go_wp2_with fail
  refine (r_lower a _ ha).mono ?_
  rintro e w1 ⟨rfl, hb1⟩
  go_wp2_with fail
  refine (r_lower b _ hb).mono ?_
  rintro e w2 ⟨rfl, hb2⟩
  have hl := Lib.hid (same_list (lowL a.data.toList) (lowL b.data.toList))
  go_wp2
  go_ret
  exact ⟨ret_bool hl.out, hb1.trans (hb2.mono hb1.size)⟩

end Go.Proofs.YtmkjjidilfhojaaDoor
end
