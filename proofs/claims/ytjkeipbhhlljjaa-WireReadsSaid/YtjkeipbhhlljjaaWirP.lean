/-
  Contracts of slices.Grow and slices.Concat on slices of bytes, as package wire calls them.
-/
import Derived.Test.YtjkeipbhhlljjaaWirA
import Derived.Lib.AppendZeros
import Derived.Laws.AppendOwnNone
import Derived.Laws.CopyOwn
namespace Go.Proofs.Ytjkeipbhhlljjaa
open Go.RowKit

theorem Try.infoU8 : (Try.prog.info? 5).map (fun i => (i.zero, i.size, i.bytes)) = some (some (.int .u8 0), 1, 1) := by kernel_rfl

set_option maxHeartbeats 1000000 in
set_option maxRecDepth 100000 in
theorem grow_any (k : Nat) (w : World) (hk : k ≤ 1000000) :
    Calls Try.prog 29 #[.slice none 0 0, .int .i64 k] w fun e w' => ∃ v, e = .returned v ∧ w'.ownsRow w.heap.size 5 1 v 0 [] ∧ Below w.heap.size w w' := by
  by_cases h0 : k = 0
  · subst h0
    go_enter Try.func29, Try.ntmps29
    go_wp2_with fail
    go_ret
    exact ⟨_, rfl, World.ownsRow_nil _ _ _ _, Below.refl _ _⟩
  · have hk1 : (0 : Int) < (k : Int) := by omega
    obtain ⟨i0, hi, hz0, hz1, hz2⟩ := info_parts Try.infoU8
    have hr := Lib.hid (Lib.run_append_nil_zeros (P := Try.prog) w 22 3 22 5 i0 (.int .u8 0) .i64 .i64 Try.underlying22 Try.underlying3 hi hz0 k (by omega) (by omega) (by omega) (by rw [hz2]; omega))
    have hgc := grownCap_ge w k 0 5
    have hgm := grownCap_le_maxLen w k 0 5 (by unfold maxLen; omega)
    have HO : Hid ((w.drew.alloc (.cells (Builtin.zeroCells (Value.int .u8 0).cells k ++ Builtin.zeroCells (Value.int .u8 0).cells (grownCap w k 0 5 - k)) 5)).ownsRow w.heap.size 5 1 (.slice (some ⟨w.heap.size, 0, none⟩) 0 (grownCap w k 0 5)) 0 []) :=
      World.ownsRow_made w.drew _ _ (Nat.le_refl _) hgm (by simp only [Array.size_append, size_zeroCells]; show k * 1 + (_ - k) * 1 = _ * 1; omega)
    have HGC := Lib.hid hgc
    clear hgc hgm hi hz0 hz1 hz2
    go_enter Try.func29, Try.ntmps29
    go_wp2_with (at_builtin; refine Lib.wpList_append_run _ rfl _ _ _ _ rfl _ _ rfl rfl _ _ hr.out ?_)
    go_ret
    exact ⟨_, rfl, HO.out, (Below.refl _ _).drew.alloc (Nat.le_refl _) _⟩

def sumL (L : List (List UInt8)) : Nat := (L.map List.length).sum
theorem sumL_snoc (L : List (List UInt8)) (l : List UInt8) : sumL (L ++ [l]) = sumL L + l.length := by simp [sumL]
theorem sumL_flat (L : List (List UInt8)) : L.flatten.length = sumL L := by simp [sumL, List.length_flatten]
theorem sumL_take (L : List (List UInt8)) (j : Nat) : sumL (L.take j) ≤ sumL L := by
  have : sumL L = sumL (L.take j) + sumL (L.drop j) := by
    unfold sumL
    rw [← List.sum_append_nat, ← List.map_append, List.take_append_drop]
  omega

set_option maxHeartbeats 2000000 in
set_option maxRecDepth 100000 in
theorem concat_any (B : Nat) (L : List (List UInt8)) (w : World) (h : Sls w B L) (hL : L.length ≤ 100) (hs : sumL L ≤ 1000000) :
    Calls Try.prog 24 #[.slice (some ⟨B, 0, none⟩) L.length L.length] w fun e w' => ∃ v, e = .returned v ∧ w'.ownsRow w.heap.size 5 1 v L.flatten.length (L.flatten.map byV) ∧ Below w.heap.size w w' := by
  have HS := Lib.hid h
  have hB := h.size
  clear h
  go_enter Try.func24, Try.ntmps24
  go_wp2_with fail
  go_loop [3, 11] (fun s i => ∃ j : Nat, j ≤ L.length ∧ i = .int .i64 j ∧ s = .int .i64 (sumL (L.take j))) (fun _ i => L.length - (intOf i).toNat)
  case atStart => exact ⟨0, Nat.zero_le _, rfl, rfl⟩
  case round =>
    obtain ⟨j, hj, rfl, rfl⟩ := hrel
    have hsj := sumL_take L j
    by_cases hlt : j < L.length
    · obtain ⟨A, n, c, hc, hA⟩ := HS.out.part j _ (List.getElem?_eq_getElem hlt)
      have hsj1 := sumL_take L (j + 1)
      rw [List.take_succ_eq_append_getElem hlt, sumL_snoc, hA.len] at hsj1
      have HT := Lib.hid (show sumL (L.take (j + 1)) = sumL (L.take j) + n by rw [List.take_succ_eq_append_getElem hlt, sumL_snoc, hA.len])
      clear hA
      go_wp2_with fail
      go_round
      case rel => exact ⟨j + 1, by omega, by go_num, by rw [HT.out]; go_num⟩
      case measure => simp [intOf]; omega
    · obtain rfl : j = L.length := by omega
      have HT := Lib.hid (show L.take L.length = L from List.take_length)
      go_wp2_with fail
      refine (grow_any _ _ ?hh).mono ?_
      case hh => omega
      rintro e w1 ⟨v0, rfl, hown, hb1⟩
      have HS1 := Lib.hid (HS.out.below hb1)
      have HH := Lib.hid hb1.size
      have hB1 : B < w1.heap.size := by have := hb1.size; omega
      clear hsj HT
      go_wp2_with fail
      go_loopw [6, 27] (fun v i wr => ∃ (j : Nat) (X : List UInt8), j ≤ L.length ∧ i = .int .i64 j ∧ Hid (X = (L.take j).flatten) ∧ wr.ownsRow w.heap.size 5 1 v X.length (X.map byV) ∧ Below w.heap.size w wr) (fun _ i _ => L.length - (intOf i).toNat)
      case atStart => exact ⟨0, [], Nat.zero_le _, rfl, rfl, hown, hb1⟩
      case round =>
        clear hown hb1 HH HS1 hB1
        obtain ⟨j, X, hj, rfl, hX, hown, hbel⟩ := hrel
        have hsj := sumL_take L j
        rw [← sumL_flat, ← hX.out] at hsj
        by_cases hlt : j < L.length
        · have HSr := HS.out.below hbel
          obtain ⟨A, n, c, hc, hA⟩ := HSr.part j _ (List.getElem?_eq_getElem hlt)
          have hsj1 := sumL_take L (j + 1)
          obtain ⟨Y, hY⟩ : ∃ Y, Y = L[j] := ⟨_, rfl⟩
          rw [← hY] at hA
          have HT := Lib.hid (show X ++ Y = (L.take (j + 1)).flatten by rw [List.take_succ_eq_append_getElem hlt, hX.out, hY, List.flatten_append]; simp)
          rw [← sumL_flat, ← HT.out, List.length_append, hA.len] at hsj1
          clear hY
          have HO := Lib.hid hown
          have HA := Lib.hid hA
          have HL := Lib.hid hA.len
          have hbs := hbel.size
          clear HSr hown hA
          obtain ⟨i0, hi, hz0, hz1, hz2⟩ := info_parts Try.infoU8
          have HI := Lib.hid (And.intro hi (And.intro hz0 (And.intro hz1 hz2)))
          clear hi hz0 hz1 hz2
          rcases A with _ | ad
          · obtain ⟨hn0, hc0, hl0⟩ := HA.out.none_eq
            have HE := Lib.hid hl0
            subst hn0 hc0
            clear hl0
            go_wp2_with (at_builtin; refine wpList_append_own_none rfl _ _ 22 rfl w.heap.size 5 i0 1 Try.underlying22 HI.out.1 _ _ _ rfl HO.out rfl ?_)
            go_roundw
            case rel => exact ⟨j + 1, X, by omega, by go_num, (by have := HT.out; rw [HE.out, List.append_nil] at this; exact this), HO.out, hbel⟩
            case measure => simp [intOf]; omega
          · go_wp2_with (at_builtin; refine wpList_append_own _ rfl _ _ 22 rfl w.heap.size 5 i0 (.int .u8 0) 1 1 Try.underlying22 HI.out.1 HI.out.2.1 HI.out.2.2.1 HI.out.2.2.2 rfl (by decide) _ _ _ rfl HO.out ad n c _ rfl (by rw [List.length_map, HL.out, Nat.mul_one]) HA.out.news (byV_ones _) (by unfold maxLen; omega) (by omega) hbs ?_)
            intro v' w2 hown' hgrow _
            have hbel2 := hbel.grown hgrow hbs (fun k hk => (HO.out.lt k hk).1)
            have HO2 := Lib.hid hown'
            clear hown' hgrow
            go_wp2_with fail
            go_roundw
            case rel => exact ⟨j + 1, X ++ Y, by omega, by go_num, HT.out, by have := HO2.out; rw [← HL.out, ← List.length_append, ← List.map_append] at this; exact this, hbel2⟩
            case measure => simp [intOf]; omega
        · obtain rfl : j = L.length := by omega
          have HT := Lib.hid (show L.take L.length = L from List.take_length)
          have HO := Lib.hid hown
          clear hown
          go_wp2_with fail
          go_ret
          exact ⟨_, rfl, by have := HO.out; rw [hX.out, HT.out] at this; exact this, hbel⟩

end Go.Proofs.Ytjkeipbhhlljjaa
