/-
  Contracts of Put and PutText of package wire.
-/
import Derived.Test.YtjkeipbhhlljjaaWirP
import Derived.Test.YtjkeipbhhlljjaaComT
namespace Go.Proofs.Ytjkeipbhhlljjaa
open Go.RowKit

/-- What Put and PutText answer: bytes in memory of their own, and a code. -/
def Bytes2 (w : World) (l : List UInt8) (code : Int) (e : Ending) (w' : World) : Prop :=
  ∃ A n c, e = .returned (.tuple #[.slice A n c, .int .i64 code]) ∧ Sl8 w' A n c l ∧ Below w.heap.size w w'

theorem shl_wide {K : Nat} (h : K ≤ 7) : wrap64 (2 ^ (8 * K)) = (256 : Int) ^ ((K : Int)).toNat := by
  have h1 := pow_seven h
  have e : (2 : Int) ^ (8 * K) = ((256 ^ K : Nat) : Int) := by rw [pow_256]; simp
  rw [Int.toNat_natCast, e, pow_int]
  generalize 256 ^ K = p at *
  exact IntWalk.wrap64_in _ (by omega)

theorem sevL_take (n k : Nat) : (sevL n k).take k = leL n k := by
  unfold sevL
  rw [List.take_append_of_le_length (by rw [leL_len]; exact Nat.le_refl _), List.take_of_length_le (by rw [leL_len]; exact Nat.le_refl _)]

/-- The front of an array of bytes as a slice. -/
theorem Blk8.front {w : World} {B t : Nat} {l : List UInt8} (h : Blk8 w B t l) {k : Nat} (hk : k ≤ l.length) (hl : l.length ≤ maxLen) : Sl8 w (some ⟨B, 0, none⟩) k l.length (l.take k) :=
  ⟨by rw [List.length_take]; omega, hk, hl, (fun e => by cases e), fun _ => ⟨_, rfl, fun j x hx => by
    rw [addr_add]
    rw [List.getElem?_take] at hx
    split at hx
    · exact h.at hx
    · cases hx⟩⟩

set_option maxHeartbeats 1000000 in
set_option maxRecDepth 100000 in
theorem put_any (A : Option Addr) (n c : Nat) (l : List UInt8) (N k : Int) (w : World) (h : Sl8 w A n c l) (hl : l.length ≤ 100000) (hN0 : -9223372036854775808 ≤ N) (hN1 : N ≤ 9223372036854775807) (hk0 : -9223372036854775808 ≤ k) (hk1 : k ≤ 9223372036854775807) :
    Calls Try.prog 8 #[.slice A n c, .int .i64 N, .int .i64 k] w (Bytes2 w (putL l N k) (putE N k)) := by
  rcases Bool.eq_false_or_eq_true (wideB k) with hw | hw
  · have hwk := wideB_yes.1 hw
    obtain ⟨K, rfl⟩ := Int.eq_ofNat_of_zero_le (show 0 ≤ k by omega)
    have HW := Lib.hid hw
    by_cases hN : N < 0
    · have HG := Lib.hid (put_range hw (.inl hN) l)
      clear hw
      go_enter Try.func8, Try.ntmps8
      go_wp2_with fail
      refine (wide_any K _).mono ?_
      rintro e w' ⟨he, rfl⟩
      rw [HW.out] at he
      subst he
      go_wp2_with fail
      go_ret2
      rw [HG.out.1, HG.out.2]
      exact ⟨none, 0, 0, rfl, Sl8.none_ _, Below.refl _ _⟩
    · have HP := Lib.hid (shl_wide (K := K) (by omega))
      clear hw
      go_enter Try.func8, Try.ntmps8
      go_wp2_with fail
      refine (wide_any K _).mono ?_
      rintro e w' ⟨he, rfl⟩
      rw [HW.out] at he
      subst he
      go_wp2_with fail
      · have hr : N < 0 ∨ wrap64 (2 ^ (8 * K)) ≤ N := by assumption
        rw [HP.out] at hr
        have HG := put_range HW.out hr l
        go_ret2
        rw [HG.1, HG.2]
        exact ⟨none, 0, 0, rfl, Sl8.none_ _, Below.refl _ _⟩
      · have hr : 0 ≤ N ∧ N < wrap64 (2 ^ (8 * K)) := by assumption
        have hr' := hr
        rw [HP.out] at hr'
        have HG := Lib.hid (put_ok (n := N) HW.out (by omega) l)
        have HR := Lib.hid hr
        clear hr hr'
        refine (split_any N K _ (by omega) hwk.1 hwk.2).mono ?_
        rintro e w1 ⟨he, hb1⟩
        obtain ⟨S, hS⟩ : ∃ S, S = sevL N.toNat (K : Int).toNat := ⟨_, rfl⟩
        rw [← hS] at he
        subst he
        have hs7 : S.length = 7 := by rw [hS]; exact sevL_len (by omega)
        have HST := Lib.hid (show S.take K = leL N.toNat K by rw [hS]; exact sevL_take _ _)
        clear hS
        have HZ : Hid (Blk8 (w1.alloc (Obj.cells #[.int .u8 0, .int .u8 0, .int .u8 0, .int .u8 0, .int .u8 0, .int .u8 0, .int .u8 0] 57)) w1.heap.size 57 (List.replicate 7 0)) := heap_alloc_new w1 _
        have HS := Lib.hid hs7
        have hsz := hb1.size
        have HB := Lib.hid (hb1.alloc hsz (Obj.cells #[.int .u8 0, .int .u8 0, .int .u8 0, .int .u8 0, .int .u8 0, .int .u8 0, .int .u8 0] 57))
        clear hs7
        unfold arrV
        go_wp2_with (refine wpList_store_arr rfl _ _ _ rfl w1.heap.size _ rfl rfl 57 _ HZ.out (by rw [HS.out]; kernel_rfl) (by rw [HS.out]; rfl) w.heap.size w HB.out hsz ?_; intro w2 hs2 hb2 hz2)
        have hf2 : Sl8 w2 (some ⟨w1.heap.size, 0, none⟩) K 7 (leL N.toNat K) := by
          have := hs2.out.front (k := K) (by rw [HS.out]; omega) (by rw [HS.out]; decide)
          rw [HS.out, HST.out] at this
          exact this
        refine (concat_any _ [l, leL N.toNat K] _ (Sls.two (h.below hb2) hf2 22) (by simp) ?_).mono ?_
        · simp [sumL, leL_len]; omega
        rintro e w4 ⟨v, rfl, hown, hb4⟩
        obtain ⟨A', c', rfl, hA'⟩ := Sl8.of_own hown
        have hb5 : Below w.heap.size w w4 := (hb2.alloc hb2.size _).trans (hb4.mono (by simp; have := hb2.size; omega))
        have H5 := Lib.hid hA'
        clear hown hA' hb4 hf2 hs2
        go_wp2_with fail
        go_ret2
        rw [HG.out.1, HG.out.2]
        exact ⟨A', _, c', rfl, by simpa using H5.out, hb5⟩
  · have HG := Lib.hid (put_wide (n := N) hw l)
    have HW := Lib.hid hw
    clear hw
    go_enter Try.func8, Try.ntmps8
    go_wp2_with fail
    refine (wide_any k _).mono ?_
    rintro e w' ⟨he, rfl⟩
    rw [HW.out] at he
    subst he
    go_wp2_with fail
    go_ret2
    rw [HG.out.1, HG.out.2]
    exact ⟨none, 0, 0, rfl, Sl8.none_ _, Below.refl _ _⟩

end Go.Proofs.Ytjkeipbhhlljjaa
