/-
  Texts that the laws of this seat lean on, one behind the other.
-/
import Derived.Test.YthhlcecojeaalaaDoorRows
import Derived.Test.YthhlcecojeaalaaDoorMrgA
import Derived.Test.YthhlcecojeaalaaDoorMrgE
import Derived.WalkKit
import Derived.Outline
import Derived.Laws.CopyOwn
import Derived.Deep.RegionLaw
import Derived.RegionTactic
import Derived.Lib.AppendZeros
import Derived.Laws.AppendOwnNone
import Derived.Test.YthhlcecojeaalaaDoorMrgF
import Derived.Lib.SliceRun
set_option linter.unusedSimpArgs false
set_option linter.unusedVariables false
/-
  Contracts of wide, split and join of package wire.
-/
section
namespace Go.Proofs.YthhlcecojeaalaaDoor
open Go.RowKit

theorem wide_any (k : Int) (w : World) :
    Calls Tryd.prog 85 #[.int .i64 k] w fun e w' => e = .returned (.bool (wideB k)) ∧ w = w' := by
  by_cases h1 : 1 ≤ k
  · by_cases h2 : k ≤ 7
    · have H := Lib.hid (wideB_yes.2 ⟨h1, h2⟩)
      go_enter Tryd.func85, Tryd.ntmps85
      go_wp2
      go_ret
      exact ⟨ret_bool H.out.symm, rfl⟩
    · have H := Lib.hid ((wideB_no (k := k)).2 (by omega))
      go_enter Tryd.func85, Tryd.ntmps85
      go_wp2
      go_ret
      exact ⟨ret_bool H.out.symm, rfl⟩
  · have H := Lib.hid ((wideB_no (k := k)).2 (by omega))
    go_enter Tryd.func85, Tryd.ntmps85
    go_wp2
    go_ret
    exact ⟨ret_bool H.out.symm, rfl⟩

/-- The seven bytes that split answers: the first k of n's, then zeros. -/
def sevL (n k : Nat) : List UInt8 := leL n k ++ List.replicate (7 - k) 0
theorem sevL_len {n k : Nat} (h : k ≤ 7) : (sevL n k).length = 7 := by unfold sevL; rw [List.length_append, leL_len, List.length_replicate]; omega
def arrV (l : List UInt8) : Value := .agg (l.map byV).toArray
theorem sevL_succ {n k : Nat} (h : k < 7) : sevL n (k + 1) = (sevL n k).set k (UInt8.ofNat (n / 256 ^ k)) := by
  unfold sevL
  rw [List.set_append_right _ _ (by rw [leL_len]; exact Nat.le_refl _), leL_len, Nat.sub_self, show 7 - k = (7 - (k + 1)) + 1 by omega, List.replicate_succ, List.set_cons_zero, leL_succ, List.append_assoc]
  rfl

theorem wByte_of (n : Int) (hn : 0 ≤ n) (j : Nat) : n / 2 ^ (8 * j) % 256 = ((UInt8.ofNat (n.toNat / 256 ^ j)).toNat : Int) := by
  obtain ⟨m, rfl⟩ := Int.eq_ofNat_of_zero_le hn
  rw [ofNat_byte, pow_256]
  simp

set_option maxRecDepth 100000 in
theorem wSplit_any (n : Int) (k : Int) (w : World) (hn : 0 ≤ n) (h1 : 1 ≤ k) (h2 : k ≤ 7) :
    Calls Tryd.prog 86 #[.int .i64 n, .int .i64 k] w fun e w' => e = .returned (arrV (sevL n.toNat k.toNat)) ∧ Below w.heap.size w w' := by
  go_enter Tryd.func86, Tryd.ntmps86
  go_wp2
  go_loopw [8] (fun i wr => ∃ j : Nat, j ≤ k.toNat ∧ i = .int .i64 j ∧ Blk8 wr w.heap.size 132 (List.replicate 7 0) ∧ Blk8 wr (w.heap.size + 1) 132 (sevL n.toNat j) ∧ Below w.heap.size w wr) (fun i _ => k.toNat - (intOf i).toNat)
  case atStart => exact ⟨0, Nat.zero_le _, rfl, heap_alloc2_old _ _ _, heap_alloc2_new _ _ _, ((Below.refl _ _).alloc (Nat.le_refl _) _).alloc (by simp) _⟩
  case round =>
    obtain ⟨j, hj, rfl, hz, hs, hbel⟩ := hrel
    by_cases hlt : (j : Int) < k
    · have hc := hs.cell (k := j) (by rw [sevL_len (by omega)]; omega)
      have hf := hs.free j
      have hB := hs.lt
      go_wp2
      go_roundw
      case rel => exact ⟨j + 1, by omega, by go_num, hz.far (by simp) _, by rw [sevL_succ (by omega)]; exact hs.set j _ (wByte_of n hn j), hbel.setCell (by simp) _⟩
      case measure => simp [intOf]; omega
    · have hjk : j = k.toNat := by omega
      subst hjk
      have hlen : (((sevL n.toNat k.toNat).map byV).toArray).size = 7 := by simp [sevL_len (n := n.toNat) (k := k.toNat) (by omega)]
      have HS := Lib.hid hs
      have HZ := Lib.hid hz
      have HL := Lib.hid hlen
      clear hs hz hlen
      go_wp2_with (first | (refine wpList_load_row rfl _ _ rfl (w.heap.size + 1) rfl 132 _ (0, 0) _ HS.out Tryd.underlying132 rfl (by rw [HL.out]; kernel_rfl) ?_) | (refine wpList_store_row rfl _ _ _ rfl w.heap.size ((sevL n.toNat k.toNat).map byV).toArray rfl rfl 132 _ HZ.out (by rw [HL.out]; kernel_rfl) (by rw [HL.out]; rfl) (by simp; intros; rfl) ?_))
      refine bodyPost_ret (results_cell_row rfl _ _ w.heap.size 132 ((sevL n.toNat k.toNat).map byV).toArray (0, 0) _ rfl (setRow_heap _ _ _ _ _ _ HZ.out) Tryd.underlying132 rfl (by rw [HL.out]; kernel_rfl)) rfl ?_
      exact ⟨rfl, below_setRow hbel (Nat.le_refl _) _⟩

end Go.Proofs.YthhlcecojeaalaaDoor
end

/-
  Contract of join of package wire.
-/
section
namespace Go.Proofs.YthhlcecojeaalaaDoor
open Go.RowKit

theorem or_i64 (a b : Nat) (ha : a < 9223372036854775808) (hb : b < 9223372036854775808) : bits .or .i64 (a : Int) (b : Int) = ((a ||| b : Nat) : Int) :=
  (bits_nat .i64 63 (by decide) (fun n h0 h1 => by rw [IntKind.wrap_i64]; omega) a b (by simpa using ha) (by simpa using hb)).2

theorem join_step (l : List UInt8) (j : Nat) (hj : j < 7) (hl : j < l.length) :
    bits .or .i64 (deL (l.take j) : Int) (wrap64 (wrap64 (l[j].toNat : Int) * 2 ^ (8 * j))) = (deL (l.take (j + 1)) : Int) := by
  have hx := l[j].toNat_lt
  have hp : 256 ^ j ≤ 281474976710656 := pow_mono (b := 6) (by omega)
  have hd := deL_lt (l.take j)
  have htl : (l.take j).length = j := by rw [List.length_take]; omega
  rw [htl] at hd
  have hm : l[j].toNat * 256 ^ j ≤ 255 * 281474976710656 := Nat.mul_le_mul (by omega) hp
  rw [IntWalk.wrap64_in (l[j].toNat : Int) (by omega), show (l[j].toNat : Int) * 2 ^ (8 * j) = ((l[j].toNat * 256 ^ j : Nat) : Int) by rw [pow_256]; simp, IntWalk.wrap64_in _ (by omega), or_i64 _ _ (by omega) (by omega)]
  have := or_put (b := l[j].toNat) hd
  rw [Nat.shiftLeft_eq, ← pow_256] at this
  rw [this, List.take_succ_eq_append_getElem hl, deL_snoc, htl]

set_option maxRecDepth 100000 in
theorem wJoin_any (l : List UInt8) (w : World) (hl : l.length = 7) :
    Calls Tryd.prog 102 #[arrV l] w fun e w' => e = .returned (.int .i64 (deL l)) ∧ Below w.heap.size w w' := by
  unfold arrV
  go_enter Tryd.func102, Tryd.ntmps102
  go_wp2
  go_loopw [3, 5] (fun n i wr => ∃ j : Nat, j ≤ 7 ∧ i = .int .i64 j ∧ n = .int .i64 (deL (l.take j)) ∧ Blk8 wr w.heap.size 132 l ∧ Below w.heap.size w wr) (fun _ i _ => 7 - (intOf i).toNat)
  case atStart => exact ⟨0, Nat.zero_le _, rfl, rfl, heap_alloc_new _ _, (Below.refl _ _).alloc (Nat.le_refl _) _⟩
  case round =>
    obtain ⟨j, hj, rfl, rfl, hs, hbel⟩ := hrel
    by_cases hlt : j < 7
    · have hc := hs.cell (k := j) (by omega)
      have HJ := Lib.hid (join_step l j hlt (by omega))
      go_wp2
      go_roundw
      case rel => exact ⟨j + 1, by omega, by go_num, by rw [HJ.out], hs, hbel⟩
      case measure => simp [intOf]; omega
    · have hj7 : j = 7 := by omega
      subst hj7
      have HT := Lib.hid (show l.take 7 = l from List.take_of_length_le (by omega))
      go_wp2
      go_ret
      exact ⟨ret_int (by rw [HT.out]), hbel⟩

end Go.Proofs.YthhlcecojeaalaaDoor
end

/-
  Contracts of Get, of package wire and of the reference.
-/
section
namespace Go.Proofs.YthhlcecojeaalaaDoor
open Go.RowKit

theorem ret2_int {a b c d : Int} (h : a = b) (e : c = d) : Ending.returned (.tuple #[.int .i64 a, .int .i64 c]) = .returned (.tuple #[.int .i64 b, .int .i64 d]) := by rw [h, e]

set_option maxHeartbeats 1000000 in
set_option maxRecDepth 100000 in
theorem get_any (A : Option Addr) (n c : Nat) (l : List UInt8) (i k : Int) (w : World) (h : Sl8 w A n c l) (hi0 : -9223372036854775808 ≤ i) (hi1 : i ≤ 9223372036854775807) (hk0 : -9223372036854775808 ≤ k) (hk1 : k ≤ 9223372036854775807) :
    Calls Tryd.prog 98 #[.slice A n c, .int .i64 i, .int .i64 k] w fun e w' => e = .returned (.tuple #[.int .i64 (getV l i k), .int .i64 (getE l i k)]) ∧ Below w.heap.size w w' := by
  have hm := h.cm
  have hcap := h.cap
  have hln := h.len
  unfold maxLen at hm
  rcases Bool.eq_false_or_eq_true (wideB k) with hw | hw
  · have hwk := wideB_yes.1 hw
    by_cases hr : i < 0 ∨ (l.length : Int) < i + k
    · have HG := Lib.hid (get_short hw hr)
      have HW := Lib.hid hw
      rcases hr with hr | hr
      · clear hw
        go_enter Tryd.func98, Tryd.ntmps98
        go_wp2_with fail
        refine (wide_any k _).mono ?_
        rintro e w' ⟨he, rfl⟩
        rw [HW.out] at he
        subst he
        go_wp2_with fail
        go_ret2
        exact ⟨ret2_int HG.out.2.symm HG.out.1.symm, Below.refl _ _⟩
      · by_cases hr0 : i < 0
        · clear hw
          go_enter Tryd.func98, Tryd.ntmps98
          go_wp2_with fail
          refine (wide_any k _).mono ?_
          rintro e w' ⟨he, rfl⟩
          rw [HW.out] at he
          subst he
          go_wp2_with fail
          go_ret2
          exact ⟨ret2_int HG.out.2.symm HG.out.1.symm, Below.refl _ _⟩
        · have hr2 : (n : Int) - k < i := by omega
          clear hw
          go_enter Tryd.func98, Tryd.ntmps98
          go_wp2_with fail
          refine (wide_any k _).mono ?_
          rintro e w' ⟨he, rfl⟩
          rw [HW.out] at he
          subst he
          go_wp2_with fail
          go_ret2
          exact ⟨ret2_int HG.out.2.symm HG.out.1.symm, Below.refl _ _⟩
    · have hgo := get_ok hw hr
      have hr1 : 0 ≤ i := by omega
      have hr2 : i + k ≤ n := by omega
      clear hr
      obtain ⟨I, rfl⟩ := Int.eq_ofNat_of_zero_le hr1
      obtain ⟨K, rfl⟩ := Int.eq_ofNat_of_zero_le (show 0 ≤ k by omega)
      obtain ⟨ad, rfl, hc⟩ := h.at_ (by omega)
      simp only [Int.toNat_natCast] at hgo
      have HG := Lib.hid hgo
      have HC := Lib.hid hc
      have HW := Lib.hid hw
      have HL := Lib.hid hln
      clear hgo hc hw hln hr1
      have hr3 : (I : Int) ≤ (n : Int) - (K : Int) := by omega
      have hcI : c ≠ I := by omega
      have hln2 : ((l.drop I).take K).length = K := by rw [List.length_take, List.length_drop, HL.out]; omega
      have HN := Lib.hid (show (((l.drop I).take K).map byV).length = Nat.min K 7 by rw [List.length_map, hln2]; exact (Nat.min_eq_left (by omega)).symm)
      have HF := Lib.hid (show 0 + (((l.drop I).take K).map byV).length ≤ ((List.replicate 7 (0 : UInt8)).map byV).length by rw [List.length_map, hln2]; simp; omega)
      have HB := Lib.hid (show ((w.alloc (Obj.cells #[.int .u8 0, .int .u8 0, .int .u8 0, .int .u8 0, .int .u8 0, .int .u8 0, .int .u8 0] 132)).drew).heap[w.heap.size]? = some (.cells ((List.replicate 7 (0 : UInt8)).map byV).toArray 132 (0, 0)) from heap_alloc_new w _)
      have HP := Lib.hid (show ∀ j v, (((l.drop I).take K).map byV)[j]? = some v → ((w.alloc (Obj.cells #[.int .u8 0, .int .u8 0, .int .u8 0, .int .u8 0, .int .u8 0, .int .u8 0, .int .u8 0] 132)).drew).cell? ((ad.add I).add j) = some v from fun j v hv => by
        rw [List.getElem?_map, Option.map_eq_some_iff] at hv
        obtain ⟨x, hx, rfl⟩ := hv
        rw [List.getElem?_take] at hx
        split at hx
        · rw [List.getElem?_drop] at hx
          rw [Addr.add_add]
          exact Lib.cell?_alloc_some (W := w) _ (HC.out _ x hx)
        · cases hx)
      obtain ⟨X, hXX⟩ : ∃ X : List UInt8, X = (l.drop I).take K ++ List.replicate (7 - K) 0 := ⟨_, rfl⟩
      have HD := Lib.hid (show deL X = deL ((l.drop I).take K) by rw [hXX, deL_append, deL_zeros]; simp)
      have HX := Lib.hid (show splice ((List.replicate 7 (0 : UInt8)).map byV) 0 (((l.drop I).take K).map byV) = X.map byV by
        rw [hXX]
        unfold splice
        rw [List.length_map, hln2, List.map_append, List.map_replicate, List.map_replicate, List.drop_replicate]
        simp)
      have HXL := Lib.hid (show X.length = 7 by rw [hXX, List.length_append, hln2, List.length_replicate]; omega)
      have HO := Lib.hid (show ∀ v ∈ ((l.drop I).take K).map byV, v.oneCell' = true from fun v hv => by
        obtain ⟨x, _, rfl⟩ := List.mem_map.1 hv
        rfl)
      clear hln2 hXX
      have b1 : (0 : Int) ≤ (I : Int) + (K : Int) := by omega
      have b2 : (I : Int) + (K : Int) ≤ (c : Int) := by omega
      have e2 : IntKind.i64.wrap ((I : Int) + (K : Int)) = (I : Int) + (K : Int) := IntWalk.i64_in _ (by omega)
      have e3 : ((I : Int) + (K : Int)).toNat = I + K := by omega
      go_enter Tryd.func98, Tryd.ntmps98
      go_wp2_with fail
      refine (wide_any K _).mono ?_
      rintro e w' ⟨he, rfl⟩
      rw [HW.out] at he
      subst he
      go_wp2_with fail
      go_region_law (refine step_copy_splice rfl (.tmp 22) (.tmp 28) 37 37 rfl 5 Tryd.underlying37 (by kernel_rfl) (some ⟨w.heap.size, 0, none⟩) (some (ad.add I)) 7 7 K (c - I) (by simp [Act.eval, Act.put]) (by simp [Act.eval, Act.put]) w.heap.size 0 ((List.replicate 7 (0 : UInt8)).map byV) 132 HB.out (((l.drop I).take K).map byV) HN.out (fun _ => ⟨rfl, ad.add I, rfl, HP.out⟩) HF.out HO.out w.heap.size w ((Below.refl _ _).alloc (Nat.le_refl _) _).drew (Nat.le_refl _) ?_; intro w4 hg4 hb4)
      all_goals
        have hg5 : Blk8 w4 w.heap.size 132 X := by
          have := hg4.out
          rw [HX.out] at this
          exact this
        clear hg4 e2 e3 b1 b2
        have H5 := Lib.hid hg5
        clear hg5
        go_wp2_with (refine wpList_load_row rfl _ _ rfl w.heap.size rfl 132 _ (0, 0) _ H5.out Tryd.underlying132 rfl (by rw [List.size_toArray, List.length_map, HXL.out]; kernel_rfl) ?_)
        refine (wJoin_any _ _ HXL.out).mono ?_
        rintro e w5 ⟨he, hb5⟩
        rw [HD.out] at he
        subst he
        go_wp2_with fail
        go_ret2
        exact ⟨ret2_int HG.out.2.symm HG.out.1.symm, hb4.trans (hb5.mono hb4.size)⟩
  · have HG := Lib.hid (get_wide (l := l) (i := i) hw)
    have HW := Lib.hid hw
    clear hw
    go_enter Tryd.func98, Tryd.ntmps98
    go_wp2_with fail
    refine (wide_any k _).mono ?_
    rintro e w' ⟨he, rfl⟩
    rw [HW.out] at he
    subst he
    go_wp2_with fail
    go_ret2
    exact ⟨ret2_int HG.out.2.symm HG.out.1.symm, Below.refl _ _⟩

end Go.Proofs.YthhlcecojeaalaaDoor
end

/-
  Contract of Get of the reference.
-/
section
namespace Go.Proofs.YthhlcecojeaalaaDoor
open Go.RowKit

theorem deL_drop (l : List UInt8) (j : Nat) (h : j < l.length) : (deL (l.drop j) : Int) = 256 * (deL (l.drop (j + 1)) : Int) + (l[j].toNat : Int) := by
  rw [List.drop_eq_getElem_cons h, deL]
  omega

set_option maxHeartbeats 1000000 in
set_option maxRecDepth 100000 in
theorem r_get (A : Option Addr) (n c : Nat) (l : List UInt8) (i k : Int) (w : World) (h : Sl8 w A n c l) (hi0 : -9223372036854775808 ≤ i) (hi1 : i ≤ 9223372036854775807) (hk0 : -9223372036854775808 ≤ k) (hk1 : k ≤ 9223372036854775807) :
    Calls Tryd.prog 63 #[.slice A n c, .int .i64 i, .int .i64 k] w fun e w' => e = .returned (.tuple #[.int .i64 (getV l i k), .int .i64 (getE l i k)]) ∧ w = w' := by
  have hm := h.cm
  have hcap := h.cap
  have hln := h.len
  unfold maxLen at hm
  rcases Bool.eq_false_or_eq_true (wideB k) with hw | hw
  · have hwk := wideB_yes.1 hw
    by_cases hr : i < 0 ∨ (l.length : Int) < i + k
    · have HG := Lib.hid (get_short hw hr)
      clear hw
      by_cases hr0 : i < 0
      · go_enter Tryd.func63, Tryd.ntmps63
        go_wp2_with fail
        go_ret2
        exact ⟨ret2_int HG.out.2.symm HG.out.1.symm, rfl⟩
      · by_cases hr1 : (n : Int) < i
        · go_enter Tryd.func63, Tryd.ntmps63
          go_wp2_with fail
          go_ret2
          exact ⟨ret2_int HG.out.2.symm HG.out.1.symm, rfl⟩
        · have hr2 : (n : Int) - i < k := by omega
          go_enter Tryd.func63, Tryd.ntmps63
          go_wp2_with fail
          go_ret2
          exact ⟨ret2_int HG.out.2.symm HG.out.1.symm, rfl⟩
    · have hgo := get_ok hw hr
      have hr1 : 0 ≤ i := by omega
      have hr2 : i + k ≤ n := by omega
      clear hr
      obtain ⟨I, rfl⟩ := Int.eq_ofNat_of_zero_le hr1
      obtain ⟨K, rfl⟩ := Int.eq_ofNat_of_zero_le (show 0 ≤ k by omega)
      obtain ⟨ad, rfl, hc⟩ := h.at_ (by omega)
      simp only [Int.toNat_natCast] at hgo
      obtain ⟨X, hX⟩ : ∃ X : List UInt8, X = (l.drop I).take K := ⟨_, rfl⟩
      rw [← hX] at hgo
      have hXl : X.length = K := by rw [hX, List.length_take, List.length_drop]; omega
      have hXc : ∀ j x, X[j]? = some x → w.cell? (ad.add (I + j)) = some (byV x) := fun j x hx => by
        rw [hX, List.getElem?_take] at hx
        split at hx
        · rw [List.getElem?_drop] at hx
          exact hc _ x hx
        · cases hx
      have HG := Lib.hid hgo
      have HC := Lib.hid hXc
      have HL := Lib.hid hXl
      clear hgo hc hw hln hr1 hX hXc hXl
      have hr3 : ¬ (n : Int) < (I : Int) := by omega
      have hr4 : ¬ (n : Int) - (I : Int) < (K : Int) := by omega
      go_enter Tryd.func63, Tryd.ntmps63
      go_wp2_with fail
      go_loop [8, 9] (fun v i => ∃ j : Nat, j ≤ K ∧ i = .int .i64 ((j : Int) - 1) ∧ v = .int .i64 (deL (X.drop j) : Int)) (fun _ i => (intOf i + 1).toNat)
      case atStart => exact ⟨K, Nat.le_refl _, rfl, by rw [List.drop_of_length_le (by rw [HL.out]; exact Nat.le_refl _)]; rfl⟩
      case round =>
        obtain ⟨j, hj, rfl, rfl⟩ := hrel
        by_cases hlt : 1 ≤ j
        · obtain ⟨m, rfl⟩ : ∃ m, j = m + 1 := ⟨j - 1, by omega⟩
          have hmX : m < X.length := by rw [HL.out]; omega
          have hcell := HC.out m _ (List.getElem?_eq_getElem hmX)
          unfold byV at hcell
          have hd := deL_lt (X.drop (m + 1))
          have hdl : (X.drop (m + 1)).length ≤ 6 := by rw [List.length_drop, HL.out]; omega
          have hp : 256 ^ (X.drop (m + 1)).length ≤ 281474976710656 := pow_mono (b := 6) hdl
          have hd2 : (deL (X.drop (m + 1)) : Int) < 281474976710656 := by omega
          have hd3 : (0 : Int) ≤ (deL (X.drop (m + 1)) : Int) := Int.natCast_nonneg _
          have HS := Lib.hid (deL_drop X m hmX)
          clear hd hp hdl
          have hbx := byte_wf X[m]
          go_wp2_with fail
          go_round
          case rel => exact ⟨m, by omega, rfl, by rw [HS.out]⟩
          case measure => simp [intOf]
        · obtain rfl : j = 0 := by omega
          go_wp2_with fail
          go_ret2
          exact ⟨ret2_int (by rw [HG.out.2]) HG.out.1.symm, rfl⟩
  · have HG := Lib.hid (get_wide (l := l) (i := i) hw)
    rcases wideB_no.1 hw with h1 | h1
    · clear hw
      go_enter Tryd.func63, Tryd.ntmps63
      go_wp2_with fail
      go_ret2
      exact ⟨ret2_int HG.out.2.symm HG.out.1.symm, rfl⟩
    · clear hw
      go_enter Tryd.func63, Tryd.ntmps63
      go_wp2_with fail
      go_ret2
      exact ⟨ret2_int HG.out.2.symm HG.out.1.symm, rfl⟩

end Go.Proofs.YthhlcecojeaalaaDoor
end

/-
  Contracts of slices.Grow and slices.Concat on slices of bytes, as package wire calls them.
-/
section
namespace Go.Proofs.YthhlcecojeaalaaDoor
open Go.RowKit

theorem Tryd.infoU8 : (Tryd.prog.info? 5).map (fun i => (i.zero, i.size, i.bytes)) = some (some (.int .u8 0), 1, 1) := by kernel_rfl

set_option maxHeartbeats 1000000 in
set_option maxRecDepth 100000 in
theorem grow_any (k : Nat) (w : World) (hk : k ≤ 1000000) :
    Calls Tryd.prog 97 #[.slice none 0 0, .int .i64 k] w fun e w' => ∃ v, e = .returned v ∧ w'.ownsRow w.heap.size 5 1 v 0 [] ∧ Below w.heap.size w w' := by
  by_cases h0 : k = 0
  · subst h0
    go_enter Tryd.func97, Tryd.ntmps97
    go_wp2_with fail
    go_ret
    exact ⟨_, rfl, World.ownsRow_nil _ _ _ _, Below.refl _ _⟩
  · have hk1 : (0 : Int) < (k : Int) := by omega
    obtain ⟨i0, hi, hz0, hz1, hz2⟩ := info_parts Tryd.infoU8
    have hr := Lib.hid (Lib.run_append_nil_zeros (P := Tryd.prog) w 37 3 37 5 i0 (.int .u8 0) .i64 .i64 Tryd.underlying37 Tryd.underlying3 hi hz0 k (by omega) (by omega) (by omega) (by rw [hz2]; omega))
    have hgc := grownCap_ge w k 0 5
    have hgm := grownCap_le_maxLen w k 0 5 (by unfold maxLen; omega)
    have HO : Hid ((w.drew.alloc (.cells (Builtin.zeroCells (Value.int .u8 0).cells k ++ Builtin.zeroCells (Value.int .u8 0).cells (grownCap w k 0 5 - k)) 5)).ownsRow w.heap.size 5 1 (.slice (some ⟨w.heap.size, 0, none⟩) 0 (grownCap w k 0 5)) 0 []) :=
      World.ownsRow_made w.drew _ _ (Nat.le_refl _) hgm (by simp only [Array.size_append, size_zeroCells]; show k * 1 + (_ - k) * 1 = _ * 1; omega)
    have HGC := Lib.hid hgc
    clear hgc hgm hi hz0 hz1 hz2
    go_enter Tryd.func97, Tryd.ntmps97
    go_wp2_with (at_builtin; refine Lib.wpList_append_run _ rfl _ _ _ _ rfl _ _ rfl rfl _ _ hr.out ?_)
    go_ret
    exact ⟨_, rfl, HO.out, (Below.refl _ _).drew.alloc (Nat.le_refl _) _⟩

def wSumL (L : List (List UInt8)) : Nat := (L.map List.length).sum
theorem sumL_snoc (L : List (List UInt8)) (l : List UInt8) : wSumL (L ++ [l]) = wSumL L + l.length := by simp [wSumL]
theorem sumL_flat (L : List (List UInt8)) : L.flatten.length = wSumL L := by simp [wSumL, List.length_flatten]
theorem sumL_take (L : List (List UInt8)) (j : Nat) : wSumL (L.take j) ≤ wSumL L := by
  have : wSumL L = wSumL (L.take j) + wSumL (L.drop j) := by
    unfold wSumL
    rw [← List.sum_append_nat, ← List.map_append, List.take_append_drop]
  omega

set_option maxHeartbeats 2000000 in
set_option maxRecDepth 100000 in
theorem concat_any (B : Nat) (L : List (List UInt8)) (w : World) (h : Sls w B L) (hL : L.length ≤ 100) (hs : wSumL L ≤ 1000000) :
    Calls Tryd.prog 87 #[.slice (some ⟨B, 0, none⟩) L.length L.length] w fun e w' => ∃ v, e = .returned v ∧ w'.ownsRow w.heap.size 5 1 v L.flatten.length (L.flatten.map byV) ∧ Below w.heap.size w w' := by
  have HS := Lib.hid h
  have hB := h.size
  clear h
  go_enter Tryd.func87, Tryd.ntmps87
  go_wp2_with fail
  go_loop [3, 11] (fun s i => ∃ j : Nat, j ≤ L.length ∧ i = .int .i64 j ∧ s = .int .i64 (wSumL (L.take j))) (fun _ i => L.length - (intOf i).toNat)
  case atStart => exact ⟨0, Nat.zero_le _, rfl, rfl⟩
  case round =>
    obtain ⟨j, hj, rfl, rfl⟩ := hrel
    have hsj := sumL_take L j
    by_cases hlt : j < L.length
    · obtain ⟨A, n, c, hc, hA⟩ := HS.out.part j _ (List.getElem?_eq_getElem hlt)
      have hsj1 := sumL_take L (j + 1)
      rw [List.take_succ_eq_append_getElem hlt, sumL_snoc, hA.len] at hsj1
      have HT := Lib.hid (show wSumL (L.take (j + 1)) = wSumL (L.take j) + n by rw [List.take_succ_eq_append_getElem hlt, sumL_snoc, hA.len])
      clear hA
      go_wp2_with fail
      go_round
      case rel => exact ⟨j + 1, by omega, by go_num, by rw [HT.out]; go_num⟩
      case measure => simp [intOf]; omega
    · obtain rfl : j = L.length := by omega
      have HT := Lib.hid (show L.take L.length = L from List.take_length)
      go_wp2_with fail
      refine (grow_any _ _ ?hh).mono ?_
      case hh => omega
      rintro e w1 ⟨v0, rfl, hown, hb1⟩
      have HS1 := Lib.hid (HS.out.below hb1)
      have HH := Lib.hid hb1.size
      have hB1 : B < w1.heap.size := by have := hb1.size; omega
      clear hsj HT
      go_wp2_with fail
      go_loopw [6, 27] (fun v i wr => ∃ (j : Nat) (X : List UInt8), j ≤ L.length ∧ i = .int .i64 j ∧ Hid (X = (L.take j).flatten) ∧ wr.ownsRow w.heap.size 5 1 v X.length (X.map byV) ∧ Below w.heap.size w wr) (fun _ i _ => L.length - (intOf i).toNat)
      case atStart => exact ⟨0, [], Nat.zero_le _, rfl, rfl, hown, hb1⟩
      case round =>
        clear hown hb1 HH HS1 hB1
        obtain ⟨j, X, hj, rfl, hX, hown, hbel⟩ := hrel
        have hsj := sumL_take L j
        rw [← sumL_flat, ← hX.out] at hsj
        by_cases hlt : j < L.length
        · have HSr := HS.out.below hbel
          obtain ⟨A, n, c, hc, hA⟩ := HSr.part j _ (List.getElem?_eq_getElem hlt)
          have hsj1 := sumL_take L (j + 1)
          obtain ⟨Y, hY⟩ : ∃ Y, Y = L[j] := ⟨_, rfl⟩
          rw [← hY] at hA
          have HT := Lib.hid (show X ++ Y = (L.take (j + 1)).flatten by rw [List.take_succ_eq_append_getElem hlt, hX.out, hY, List.flatten_append]; simp)
          rw [← sumL_flat, ← HT.out, List.length_append, hA.len] at hsj1
          clear hY
          have HO := Lib.hid hown
          have HA := Lib.hid hA
          have HL := Lib.hid hA.len
          have hbs := hbel.size
          clear HSr hown hA
          obtain ⟨i0, hi, hz0, hz1, hz2⟩ := info_parts Tryd.infoU8
          have HI := Lib.hid (And.intro hi (And.intro hz0 (And.intro hz1 hz2)))
          clear hi hz0 hz1 hz2
          rcases A with _ | ad
          · obtain ⟨hn0, hc0, hl0⟩ := HA.out.none_eq
            have HE := Lib.hid hl0
            subst hn0 hc0
            clear hl0
            go_wp2_with (at_builtin; refine wpList_append_own_none rfl _ _ 37 rfl w.heap.size 5 i0 1 Tryd.underlying37 HI.out.1 _ _ _ rfl HO.out rfl ?_)
            go_roundw
            case rel => exact ⟨j + 1, X, by omega, by go_num, (by have := HT.out; rw [HE.out, List.append_nil] at this; exact this), HO.out, hbel⟩
            case measure => simp [intOf]; omega
          · go_wp2_with (at_builtin; refine wpList_append_own _ rfl _ _ 37 rfl w.heap.size 5 i0 (.int .u8 0) 1 1 Tryd.underlying37 HI.out.1 HI.out.2.1 HI.out.2.2.1 HI.out.2.2.2 rfl (by decide) _ _ _ rfl HO.out ad n c _ rfl (by rw [List.length_map, HL.out, Nat.mul_one]) HA.out.news (byV_ones _) (by unfold maxLen; omega) (by omega) hbs ?_)
            intro v' w2 hown' hgrow _
            have hbel2 := hbel.grown hgrow hbs (fun k hk => (HO.out.lt k hk).1)
            have HO2 := Lib.hid hown'
            clear hown' hgrow
            go_wp2_with fail
            go_roundw
            case rel => exact ⟨j + 1, X ++ Y, by omega, by go_num, HT.out, by have := HO2.out; rw [← HL.out, ← List.length_append, ← List.map_append] at this; exact this, hbel2⟩
            case measure => simp [intOf]; omega
        · obtain rfl : j = L.length := by omega
          have HT := Lib.hid (show L.take L.length = L from List.take_length)
          have HO := Lib.hid hown
          clear hown
          go_wp2_with fail
          go_ret
          exact ⟨_, rfl, by have := HO.out; rw [hX.out, HT.out] at this; exact this, hbel⟩

end Go.Proofs.YthhlcecojeaalaaDoor
end

/-
  Contracts of Clone on bytes, and of New, Left, peek and take of package wire.
-/
section
namespace Go.Proofs.YthhlcecojeaalaaDoor
open Go.RowKit

set_option maxHeartbeats 1000000 in
set_option maxRecDepth 100000 in
theorem clone_at (A : Option Addr) (n c : Nat) (l : List UInt8) (w : World) (h : Sl8 w A n c l) (hl : l.length ≤ 1000000) :
    Calls Tryd.prog 57 #[.slice A n c] w fun e w' => ∃ A' c', e = .returned (.slice A' l.length c') ∧ Sl8 w' A' l.length c' l ∧ Below w.heap.size w w' ∧ ∀ ad, A' = some ad → w.heap.size ≤ ad.block ∧ ad.block < w'.heap.size := by
  have q := fun (w : World) (a : Option Addr) (n c n' c' : Nat) => Lib.run_eql_slice_nil (P := Tryd.prog) w _ _ a n c n' c' Tryd.underlying37
  have H := Lib.hid h
  have HL := Lib.hid h.len
  have HO := Lib.hid (Own8.start w 5)
  have hb0 : Below w.heap.size w (w.alloc (.cells #[] 5)) := (Below.refl _ _).alloc (Nat.le_refl _) _
  rcases A with _ | ad
  · obtain ⟨rfl, rfl, hl0⟩ := h.none_eq
    subst hl0
    clear h
    go_enter Tryd.func57, Tryd.ntmps57
    go_wp2_with fail
    go_ret
    exact ⟨none, 0, rfl, Sl8.none_ _, Below.refl _ _, fun _ h => by cases h⟩
  · clear h
    go_enter Tryd.func57, Tryd.ntmps57
    go_wp2_with (at_builtin; refine wpList_append_sl8 rfl _ _ 37 rfl w.heap.size 5 Tryd.underlying37 Tryd.infoU8 _ rfl [] HO.out (some ad) n c rfl l (H.out.alloc _) (by simp; omega) (by simp) w hb0 ?_; intro v' w2 hown hbel hsz2)
    rw [List.nil_append] at hown
    obtain ⟨A', c', rfl, hA', hat⟩ := hown.out.sl8_at
    go_ret
    exact ⟨A', c', rfl, hA', hbel, hat⟩

set_option maxHeartbeats 1000000 in
set_option maxRecDepth 100000 in
theorem new_at (A : Option Addr) (n c : Nat) (l : List UInt8) (w : World) (h : Sl8 w A n c l) (hl : l.length ≤ 1000000) :
    Calls Tryd.prog 38 #[.slice A n c] w fun e w' => ∃ R A' n' c', e = .returned (.pointer (some ⟨R, 0, none⟩)) ∧ w.heap.size ≤ R ∧ R < w'.heap.size ∧ w'.heap[R]? = some (.cells #[.slice A' n' c'] 100 (0, 0)) ∧ Sl8 w' A' n' c' l ∧ Below w.heap.size w w' ∧ ∀ ad, A' = some ad → w.heap.size ≤ ad.block ∧ ad.block < w'.heap.size := by
  go_enter Tryd.func38, Tryd.ntmps38
  go_wp2_with fail
  refine (clone_at A n c l _ h hl).mono ?_
  rintro e w1 ⟨A', c', rfl, hs, hb, hat⟩
  have HS := Lib.hid hs
  have HB := Lib.hid hb
  have HA := Lib.hid hat
  clear hs hb hat
  go_wp2_with fail
  go_ret
  exact ⟨_, A', _, c', rfl, HB.out.size, by simp, heap_alloc_new _ _, HS.out.alloc _, HB.out.alloc HB.out.size _, fun ad hA => ⟨(HA.out ad hA).1, by have := (HA.out ad hA).2; simp; omega⟩⟩

theorem left_any (R : Nat) (l : List UInt8) (w : World) (h : Hold1 w R 100 l) : Calls Tryd.prog 62 #[.pointer (some ⟨R, 0, none⟩)] w fun e w' => e = .returned (.int .i64 l.length) ∧ w = w' := by
  obtain ⟨A, n, c, hg, hs⟩ := h
  obtain ⟨hc, hf⟩ := hold_cell hg
  have HL := Lib.hid hs.len
  clear hg hs hf
  go_enter Tryd.func62, Tryd.ntmps62
  go_wp2_with fail
  go_ret
  exact ⟨ret_int (by rw [HL.out]), rfl⟩

theorem peek_any (R : Nat) (l : List UInt8) (k : Int) (w : World) (h : Hold1 w R 100 l) (hk0 : -9223372036854775808 ≤ k) (hk1 : k ≤ 9223372036854775807) :
    Calls Tryd.prog 88 #[.pointer (some ⟨R, 0, none⟩), .int .i64 k] w fun e w' => e = .returned (.tuple #[.int .i64 (getV l 0 k), .int .i64 (getE l 0 k)]) ∧ Below w.heap.size w w' := by
  obtain ⟨A, n, c, hg, hs⟩ := h
  obtain ⟨hc, hf⟩ := hold_cell hg
  clear hg hf
  go_enter Tryd.func88, Tryd.ntmps88
  go_wp2_with fail
  refine (get_any A n c l 0 k _ hs (by omega) (by omega) hk0 hk1).mono ?_
  rintro e w1 ⟨rfl, hb⟩
  go_wp2_with fail
  go_ret2
  exact ⟨rfl, hb⟩

set_option maxHeartbeats 1000000 in
set_option maxRecDepth 100000 in
theorem take_any (R : Nat) (l : List UInt8) (k : Nat) (w : World) (h : Hold1 w R 100 l) (hk : k ≤ l.length) :
    Calls Tryd.prog 89 #[.pointer (some ⟨R, 0, none⟩), .int .i64 k] w fun e w' => ∃ A c, e = .returned (.slice A k c) ∧ Sl8 w' A k c (l.take k) ∧ Hold1 w' R 100 (l.drop k) ∧ ButB R w w' := by
  obtain ⟨A, n, c, hg, hs⟩ := h
  obtain ⟨hc, hf⟩ := hold_cell hg
  have hcap := hs.cap
  have hlen := hs.len
  have hm := hs.cm
  have hB := (Array.getElem?_eq_some_iff.1 hg).1
  unfold maxLen at hm
  have HG := Lib.hid hg
  have HS := Lib.hid hs
  have HL := Lib.hid hlen
  have hkn : k ≤ n := by omega
  clear hg hs hlen
  go_enter Tryd.func89, Tryd.ntmps89
  go_wp2_with fail
  · have he : c = k := by assumption
    subst he
    have h3 := HS.out.from_ hkn
    rw [if_pos rfl, Nat.sub_self] at h3
    have hb := (ButB.refl R w).setCell 0 (.slice A (n - c) 0)
    go_ret
    exact ⟨A, _, rfl, (HS.out.upto hkn).but HG.out hb, ⟨_, _, _, hold_set HG.out _ _ _, h3.but HG.out hb⟩, hb⟩
  · have he : ¬ c = k := by assumption
    have h3 := HS.out.from_ hkn
    rw [if_neg he] at h3
    have hb := (ButB.refl R w).setCell 0 (.slice (Option.map (fun x => x.add k) A) (n - k) (c - k))
    go_ret
    exact ⟨A, _, rfl, (HS.out.upto hkn).but HG.out hb, ⟨_, _, _, hold_set HG.out _ _ _, h3.but HG.out hb⟩, hb⟩

end Go.Proofs.YthhlcecojeaalaaDoor
end
