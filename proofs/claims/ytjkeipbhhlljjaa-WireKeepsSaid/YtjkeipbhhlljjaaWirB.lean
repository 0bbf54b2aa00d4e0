/-
  Contract of join of package wire.
-/
import Derived.Test.YtjkeipbhhlljjaaWirA
namespace Go.Proofs.Ytjkeipbhhlljjaa
open Go.RowKit

theorem or_i64 (a b : Nat) (ha : a < 9223372036854775808) (hb : b < 9223372036854775808) : bits .or .i64 (a : Int) (b : Int) = ((a ||| b : Nat) : Int) :=
  (bits_nat .i64 63 (by decide) (fun n h0 h1 => by rw [IntKind.wrap_i64]; omega) a b (by simpa using ha) (by simpa using hb)).2

theorem join_step (l : List UInt8) (j : Nat) (hj : j < 7) (hl : j < l.length) :
    bits .or .i64 (deL (l.take j) : Int) (wrap64 (wrap64 (l[j].toNat : Int) * 2 ^ (8 * j))) = (deL (l.take (j + 1)) : Int) := by
  have hx := l[j].toNat_lt
  have hp : 256 ^ j ≤ 281474976710656 := pow_mono (b := 6) (by omega)
  have hd := deL_lt (l.take j)
  have htl : (l.take j).length = j := by rw [List.length_take]; omega
  rw [htl] at hd
  have hm : l[j].toNat * 256 ^ j ≤ 255 * 281474976710656 := Nat.mul_le_mul (by omega) hp
  rw [IntWalk.wrap64_in (l[j].toNat : Int) (by omega), show (l[j].toNat : Int) * 2 ^ (8 * j) = ((l[j].toNat * 256 ^ j : Nat) : Int) by rw [pow_256]; simp, IntWalk.wrap64_in _ (by omega), or_i64 _ _ (by omega) (by omega)]
  have := or_put (b := l[j].toNat) hd
  rw [Nat.shiftLeft_eq, ← pow_256] at this
  rw [this, List.take_succ_eq_append_getElem hl, deL_snoc, htl]

set_option maxRecDepth 100000 in
theorem join_any (l : List UInt8) (w : World) (hl : l.length = 7) :
    Calls Try.prog 25 #[arrV l] w fun e w' => e = .returned (.int .i64 (deL l)) ∧ Below w.heap.size w w' := by
  unfold arrV
  go_enter Try.func25, Try.ntmps25
  go_wp2
  go_loopw [3, 5] (fun n i wr => ∃ j : Nat, j ≤ 7 ∧ i = .int .i64 j ∧ n = .int .i64 (deL (l.take j)) ∧ Blk8 wr w.heap.size 57 l ∧ Below w.heap.size w wr) (fun _ i _ => 7 - (intOf i).toNat)
  case atStart => exact ⟨0, Nat.zero_le _, rfl, rfl, heap_alloc_new _ _, (Below.refl _ _).alloc (Nat.le_refl _) _⟩
  case round =>
    obtain ⟨j, hj, rfl, rfl, hs, hbel⟩ := hrel
    by_cases hlt : j < 7
    · have hc := hs.cell (k := j) (by omega)
      have HJ := Lib.hid (join_step l j hlt (by omega))
      go_wp2
      go_roundw
      case rel => exact ⟨j + 1, by omega, by go_num, by rw [HJ.out], hs, hbel⟩
      case measure => simp [intOf]; omega
    · have hj7 : j = 7 := by omega
      subst hj7
      have HT := Lib.hid (show l.take 7 = l from List.take_of_length_le (by omega))
      go_wp2
      go_ret
      exact ⟨ret_int (by rw [HT.out]), hbel⟩

end Go.Proofs.Ytjkeipbhhlljjaa
