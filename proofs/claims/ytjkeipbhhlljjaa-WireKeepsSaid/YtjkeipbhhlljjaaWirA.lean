/-
  Contracts of wide, split and join of package wire.
-/
import Derived.Test.YtjkeipbhhlljjaaRows
import Derived.Test.YtjkeipbhhlljjaaWirM
import Derived.Test.YtjkeipbhhlljjaaComS
import Derived.WalkKit
import Derived.Outline
import Derived.Laws.CopyOwn
namespace Go.Proofs.Ytjkeipbhhlljjaa
open Go.RowKit

theorem wide_any (k : Int) (w : World) :
    Calls Try.prog 22 #[.int .i64 k] w fun e w' => e = .returned (.bool (wideB k)) ∧ w = w' := by
  by_cases h1 : 1 ≤ k
  · by_cases h2 : k ≤ 7
    · have H := Lib.hid (wideB_yes.2 ⟨h1, h2⟩)
      go_enter Try.func22, Try.ntmps22
      go_wp2
      go_ret
      exact ⟨ret_bool H.out.symm, rfl⟩
    · have H := Lib.hid ((wideB_no (k := k)).2 (by omega))
      go_enter Try.func22, Try.ntmps22
      go_wp2
      go_ret
      exact ⟨ret_bool H.out.symm, rfl⟩
  · have H := Lib.hid ((wideB_no (k := k)).2 (by omega))
    go_enter Try.func22, Try.ntmps22
    go_wp2
    go_ret
    exact ⟨ret_bool H.out.symm, rfl⟩

/-- The seven bytes that split answers: the first k of n's, then zeros. -/
def sevL (n k : Nat) : List UInt8 := leL n k ++ List.replicate (7 - k) 0
theorem sevL_len {n k : Nat} (h : k ≤ 7) : (sevL n k).length = 7 := by unfold sevL; rw [List.length_append, leL_len, List.length_replicate]; omega
def arrV (l : List UInt8) : Value := .agg (l.map byV).toArray
theorem sevL_succ {n k : Nat} (h : k < 7) : sevL n (k + 1) = (sevL n k).set k (UInt8.ofNat (n / 256 ^ k)) := by
  unfold sevL
  rw [List.set_append_right _ _ (by rw [leL_len]; exact Nat.le_refl _), leL_len, Nat.sub_self, show 7 - k = (7 - (k + 1)) + 1 by omega, List.replicate_succ, List.set_cons_zero, leL_succ, List.append_assoc]
  rfl

theorem byte_of (n : Int) (hn : 0 ≤ n) (j : Nat) : n / 2 ^ (8 * j) % 256 = ((UInt8.ofNat (n.toNat / 256 ^ j)).toNat : Int) := by
  obtain ⟨m, rfl⟩ := Int.eq_ofNat_of_zero_le hn
  rw [ofNat_byte, pow_256]
  simp

set_option maxRecDepth 100000 in
theorem split_any (n : Int) (k : Int) (w : World) (hn : 0 ≤ n) (h1 : 1 ≤ k) (h2 : k ≤ 7) :
    Calls Try.prog 23 #[.int .i64 n, .int .i64 k] w fun e w' => e = .returned (arrV (sevL n.toNat k.toNat)) ∧ Below w.heap.size w w' := by
  go_enter Try.func23, Try.ntmps23
  go_wp2
  go_loopw [8] (fun i wr => ∃ j : Nat, j ≤ k.toNat ∧ i = .int .i64 j ∧ Blk8 wr w.heap.size 57 (List.replicate 7 0) ∧ Blk8 wr (w.heap.size + 1) 57 (sevL n.toNat j) ∧ Below w.heap.size w wr) (fun i _ => k.toNat - (intOf i).toNat)
  case atStart => exact ⟨0, Nat.zero_le _, rfl, heap_alloc2_old _ _ _, heap_alloc2_new _ _ _, ((Below.refl _ _).alloc (Nat.le_refl _) _).alloc (by simp) _⟩
  case round =>
    obtain ⟨j, hj, rfl, hz, hs, hbel⟩ := hrel
    by_cases hlt : (j : Int) < k
    · have hc := hs.cell (k := j) (by rw [sevL_len (by omega)]; omega)
      have hf := hs.free j
      have hB := hs.lt
      go_wp2
      go_roundw
      case rel => exact ⟨j + 1, by omega, by go_num, hz.far (by simp) _, by rw [sevL_succ (by omega)]; exact hs.set j _ (byte_of n hn j), hbel.setCell (by simp) _⟩
      case measure => simp [intOf]; omega
    · have hjk : j = k.toNat := by omega
      subst hjk
      have hlen : (((sevL n.toNat k.toNat).map byV).toArray).size = 7 := by simp [sevL_len (n := n.toNat) (k := k.toNat) (by omega)]
      have HS := Lib.hid hs
      have HZ := Lib.hid hz
      have HL := Lib.hid hlen
      clear hs hz hlen
      go_wp2_with (first | (refine wpList_load_row rfl _ _ rfl (w.heap.size + 1) rfl 57 _ (0, 0) _ HS.out Try.underlying57 rfl (by rw [HL.out]; kernel_rfl) ?_) | (refine wpList_store_row rfl _ _ _ rfl w.heap.size ((sevL n.toNat k.toNat).map byV).toArray rfl rfl 57 _ HZ.out (by rw [HL.out]; kernel_rfl) (by rw [HL.out]; rfl) (by simp; intros; rfl) ?_))
      refine bodyPost_ret (results_cell_row rfl _ _ w.heap.size 57 ((sevL n.toNat k.toNat).map byV).toArray (0, 0) _ rfl (setRow_heap _ _ _ _ _ _ HZ.out) Try.underlying57 rfl (by rw [HL.out]; kernel_rfl)) rfl ?_
      exact ⟨rfl, below_setRow hbel (Nat.le_refl _) _⟩

end Go.Proofs.Ytjkeipbhhlljjaa
