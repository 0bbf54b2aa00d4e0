/-
  Contracts of Get, of package wire and of the reference.
-/
import Derived.Test.YtjkeipbhhlljjaaWirB
import Derived.Laws.CopyOwn
import Derived.Deep.RegionLaw
import Derived.RegionTactic
namespace Go.Proofs.Ytjkeipbhhlljjaa
open Go.RowKit

theorem ret2_int {a b c d : Int} (h : a = b) (e : c = d) : Ending.returned (.tuple #[.int .i64 a, .int .i64 c]) = .returned (.tuple #[.int .i64 b, .int .i64 d]) := by rw [h, e]

set_option maxHeartbeats 1000000 in
set_option maxRecDepth 100000 in
theorem get_any (A : Option Addr) (n c : Nat) (l : List UInt8) (i k : Int) (w : World) (h : Sl8 w A n c l) (hi0 : -9223372036854775808 ≤ i) (hi1 : i ≤ 9223372036854775807) (hk0 : -9223372036854775808 ≤ k) (hk1 : k ≤ 9223372036854775807) :
    Calls Try.prog 10 #[.slice A n c, .int .i64 i, .int .i64 k] w fun e w' => e = .returned (.tuple #[.int .i64 (getV l i k), .int .i64 (getE l i k)]) ∧ Below w.heap.size w w' := by
  have hm := h.cm
  have hcap := h.cap
  have hln := h.len
  unfold maxLen at hm
  rcases Bool.eq_false_or_eq_true (wideB k) with hw | hw
  · have hwk := wideB_yes.1 hw
    by_cases hr : i < 0 ∨ (l.length : Int) < i + k
    · have HG := Lib.hid (get_short hw hr)
      have HW := Lib.hid hw
      rcases hr with hr | hr
      · clear hw
        go_enter Try.func10, Try.ntmps10
        go_wp2_with fail
        refine (wide_any k _).mono ?_
        rintro e w' ⟨he, rfl⟩
        rw [HW.out] at he
        subst he
        go_wp2_with fail
        go_ret2
        exact ⟨ret2_int HG.out.2.symm HG.out.1.symm, Below.refl _ _⟩
      · by_cases hr0 : i < 0
        · clear hw
          go_enter Try.func10, Try.ntmps10
          go_wp2_with fail
          refine (wide_any k _).mono ?_
          rintro e w' ⟨he, rfl⟩
          rw [HW.out] at he
          subst he
          go_wp2_with fail
          go_ret2
          exact ⟨ret2_int HG.out.2.symm HG.out.1.symm, Below.refl _ _⟩
        · have hr2 : (n : Int) - k < i := by omega
          clear hw
          go_enter Try.func10, Try.ntmps10
          go_wp2_with fail
          refine (wide_any k _).mono ?_
          rintro e w' ⟨he, rfl⟩
          rw [HW.out] at he
          subst he
          go_wp2_with fail
          go_ret2
          exact ⟨ret2_int HG.out.2.symm HG.out.1.symm, Below.refl _ _⟩
    · have hgo := get_ok hw hr
      have hr1 : 0 ≤ i := by omega
      have hr2 : i + k ≤ n := by omega
      clear hr
      obtain ⟨I, rfl⟩ := Int.eq_ofNat_of_zero_le hr1
      obtain ⟨K, rfl⟩ := Int.eq_ofNat_of_zero_le (show 0 ≤ k by omega)
      obtain ⟨ad, rfl, hc⟩ := h.at_ (by omega)
      simp only [Int.toNat_natCast] at hgo
      have HG := Lib.hid hgo
      have HC := Lib.hid hc
      have HW := Lib.hid hw
      have HL := Lib.hid hln
      clear hgo hc hw hln hr1
      have hr3 : (I : Int) ≤ (n : Int) - (K : Int) := by omega
      have hcI : c ≠ I := by omega
      have hln2 : ((l.drop I).take K).length = K := by rw [List.length_take, List.length_drop, HL.out]; omega
      have HN := Lib.hid (show (((l.drop I).take K).map byV).length = Nat.min K 7 by rw [List.length_map, hln2]; exact (Nat.min_eq_left (by omega)).symm)
      have HF := Lib.hid (show 0 + (((l.drop I).take K).map byV).length ≤ ((List.replicate 7 (0 : UInt8)).map byV).length by rw [List.length_map, hln2]; simp; omega)
      have HB := Lib.hid (show ((w.alloc (Obj.cells #[.int .u8 0, .int .u8 0, .int .u8 0, .int .u8 0, .int .u8 0, .int .u8 0, .int .u8 0] 57)).drew).heap[w.heap.size]? = some (.cells ((List.replicate 7 (0 : UInt8)).map byV).toArray 57 (0, 0)) from heap_alloc_new w _)
      have HP := Lib.hid (show ∀ j v, (((l.drop I).take K).map byV)[j]? = some v → ((w.alloc (Obj.cells #[.int .u8 0, .int .u8 0, .int .u8 0, .int .u8 0, .int .u8 0, .int .u8 0, .int .u8 0] 57)).drew).cell? ((ad.add I).add j) = some v from fun j v hv => by
        rw [List.getElem?_map, Option.map_eq_some_iff] at hv
        obtain ⟨x, hx, rfl⟩ := hv
        rw [List.getElem?_take] at hx
        split at hx
        · rw [List.getElem?_drop] at hx
          rw [Addr.add_add]
          exact Lib.cell?_alloc_some (W := w) _ (HC.out _ x hx)
        · cases hx)
      obtain ⟨X, hXX⟩ : ∃ X : List UInt8, X = (l.drop I).take K ++ List.replicate (7 - K) 0 := ⟨_, rfl⟩
      have HD := Lib.hid (show deL X = deL ((l.drop I).take K) by rw [hXX, deL_append, deL_zeros]; simp)
      have HX := Lib.hid (show splice ((List.replicate 7 (0 : UInt8)).map byV) 0 (((l.drop I).take K).map byV) = X.map byV by
        rw [hXX]
        unfold splice
        rw [List.length_map, hln2, List.map_append, List.map_replicate, List.map_replicate, List.drop_replicate]
        simp)
      have HXL := Lib.hid (show X.length = 7 by rw [hXX, List.length_append, hln2, List.length_replicate]; omega)
      have HO := Lib.hid (show ∀ v ∈ ((l.drop I).take K).map byV, v.oneCell' = true from fun v hv => by
        obtain ⟨x, _, rfl⟩ := List.mem_map.1 hv
        rfl)
      clear hln2 hXX
      have b1 : (0 : Int) ≤ (I : Int) + (K : Int) := by omega
      have b2 : (I : Int) + (K : Int) ≤ (c : Int) := by omega
      have e2 : IntKind.i64.wrap ((I : Int) + (K : Int)) = (I : Int) + (K : Int) := IntWalk.i64_in _ (by omega)
      have e3 : ((I : Int) + (K : Int)).toNat = I + K := by omega
      go_enter Try.func10, Try.ntmps10
      go_wp2_with fail
      refine (wide_any K _).mono ?_
      rintro e w' ⟨he, rfl⟩
      rw [HW.out] at he
      subst he
      go_wp2_with fail
      go_region_law (refine step_copy_splice rfl (.tmp 22) (.tmp 28) 22 22 rfl 5 Try.underlying22 (by kernel_rfl) (some ⟨w.heap.size, 0, none⟩) (some (ad.add I)) 7 7 K (c - I) (by simp [Act.eval, Act.put]) (by simp [Act.eval, Act.put]) w.heap.size 0 ((List.replicate 7 (0 : UInt8)).map byV) 57 HB.out (((l.drop I).take K).map byV) HN.out (fun _ => ⟨rfl, ad.add I, rfl, HP.out⟩) HF.out HO.out w.heap.size w ((Below.refl _ _).alloc (Nat.le_refl _) _).drew (Nat.le_refl _) ?_; intro w4 hg4 hb4)
      all_goals
        have hg5 : Blk8 w4 w.heap.size 57 X := by
          have := hg4.out
          rw [HX.out] at this
          exact this
        clear hg4 e2 e3 b1 b2
        have H5 := Lib.hid hg5
        clear hg5
        go_wp2_with (refine wpList_load_row rfl _ _ rfl w.heap.size rfl 57 _ (0, 0) _ H5.out Try.underlying57 rfl (by rw [List.size_toArray, List.length_map, HXL.out]; kernel_rfl) ?_)
        refine (join_any _ _ HXL.out).mono ?_
        rintro e w5 ⟨he, hb5⟩
        rw [HD.out] at he
        subst he
        go_wp2_with fail
        go_ret2
        exact ⟨ret2_int HG.out.2.symm HG.out.1.symm, hb4.trans (hb5.mono hb4.size)⟩
  · have HG := Lib.hid (get_wide (l := l) (i := i) hw)
    have HW := Lib.hid hw
    clear hw
    go_enter Try.func10, Try.ntmps10
    go_wp2_with fail
    refine (wide_any k _).mono ?_
    rintro e w' ⟨he, rfl⟩
    rw [HW.out] at he
    subst he
    go_wp2_with fail
    go_ret2
    exact ⟨ret2_int HG.out.2.symm HG.out.1.symm, Below.refl _ _⟩

end Go.Proofs.Ytjkeipbhhlljjaa
