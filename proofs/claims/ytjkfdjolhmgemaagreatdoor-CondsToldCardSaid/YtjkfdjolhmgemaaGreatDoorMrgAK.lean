/-
  Texts that the laws of this seat lean on, one behind the other.
-/
import Derived.Test.YtjkfdjolhmgemaaGreatDoorMrgL
import Derived.Test.YtjkfdjolhmgemaaGreatDoorMrgP
import Derived.Deep.QuietTactic
import Derived.BigQuiet
import Derived.IntWalk
set_option linter.unusedSimpArgs false
set_option linter.unusedVariables false
/-
  Contracts of Plain and Pad of package decimal, and of the reference's digits, Plain, Pad and Hex.
-/
section
namespace Go.Proofs.YtjkfdjolhmgemaaGreatDoor
open Go.RowKit

abbrev Pow10 (w : World) : Prop := Lib.TabIs Tryz.prog w "internal/strconv.uint64pow10" .u64 Lib.pow10Tab

theorem plain_any (n : Int) (h0 : -9223372036854775808 ≤ n) (h1 : n ≤ 9223372036854775807) (w : World) (ht : Pow10 w) :
    Calls Tryz.prog 137 #[.int .i64 n] w fun e w' => e = .returned (.string (mkS (plainL n))) ∧ Below w.heap.size w w' := by
  have HL := Lib.hid (plainL_itoa n)
  have c := Lib.hid (Tryz.strconv_Itoa n h0 h1 w ht)
  clear ht
  go_enter Tryz.func137, Tryz.ntmps137
  go_wp2_with fail
  refine (c.out).mono ?_
  rintro e w' ⟨he, k, os, rfl⟩
  rw [HL.out] at he
  subst he
  go_wp2_with fail
  go_ret
  exact ⟨rfl, below_grow _ _ _⟩

theorem repeat_zero (c : Nat) : Lib.repeatL (⟨#[48]⟩ : ByteArray).data.toList c = List.replicate c 48 := by
  have := Lib.repeatL_replicate 48 1 c
  rw [Nat.mul_one] at this
  exact this

theorem pad_any (n width : Int) (h0 : -9223372036854775808 ≤ n) (h1 : n ≤ 9223372036854775807) (w : World) (ht : Pow10 w) :
    Calls Tryz.prog 136 #[.int .i64 n, .int .i64 width] w fun e w' => e = .returned (.string (mkS (padL n width))) ∧ Below w.heap.size w w' := by
  have hlen := plainL_short n h0 h1
  have c := Lib.hid (plain_any n h0 h1 w ht)
  clear ht
  have hsz : (mkS (plainL n)).size = (plainL n).length := mkS_size _
  by_cases hn : n < 0
  · have HP : Hid (padL n width = plainL n) := by show _ = _; unfold padL; rw [if_pos (.inl hn)]
    clear hsz
    go_enter Tryz.func136, Tryz.ntmps136
    go_wp2_with fail
    refine (c.out).mono ?_
    rintro e w' ⟨rfl, hb⟩
    go_wp2_with fail
    go_ret
    exact ⟨by rw [HP.out]; rfl, hb⟩
  · by_cases hw : 9 < width
    · have HP : Hid (padL n width = plainL n) := by show _ = _; unfold padL; rw [if_pos (.inr hw)]
      clear hsz
      go_enter Tryz.func136, Tryz.ntmps136
      go_wp2_with fail
      refine (c.out).mono ?_
      rintro e w' ⟨rfl, hb⟩
      go_wp2_with fail
      go_ret
      exact ⟨by rw [HP.out]; rfl, hb⟩
    · have HP : Hid (padL n width = List.replicate (width.toNat - (plainL n).length) 48 ++ plainL n) := by show _ = _; unfold padL; rw [if_neg (by omega)]
      obtain ⟨s, hs⟩ : ∃ s, mkS (plainL n) = s := ⟨_, rfl⟩
      have HS := Lib.hid hs
      rw [hs] at hsz
      rw [← hsz] at hlen HP
      clear hs hsz
      by_cases hl : width ≤ (s.size : Int)
      · go_enter Tryz.func136, Tryz.ntmps136
        go_wp2_with fail
        refine (c.out).mono ?_
        rintro e w' ⟨he, hb⟩
        rw [HS.out] at he
        subst he
        go_wp2_with fail
        go_ret
        exact ⟨by rw [HP.out, show width.toNat - s.size = 0 by omega]; exact ret_str HS.out.symm, hb⟩
      · obtain ⟨q, hq⟩ : ∃ q : Nat, width - (s.size : Int) = q := ⟨(width - (s.size : Int)).toNat, by omega⟩
        have hq9 : q ≤ 9 := by omega
        have HQ : Hid (width.toNat - s.size = q) := by show _ = _; omega
        have HR := Lib.hid (repeat_zero q)
        go_enter Tryz.func136, Tryz.ntmps136
        go_wp2_with fail
        refine (c.out).mono ?_
        rintro e w' ⟨he, hb⟩
        rw [HS.out] at he
        subst he
        go_wp2_with fail
        refine (Tryz.strings_Repeat ⟨#[48]⟩ q _ (by omega) (by show 1 * q ≤ _; omega)).mono ?_
        rintro e w2 ⟨he, hb2⟩
        rw [HR.out] at he
        subst he
        go_wp2_with fail
        go_ret
        exact ⟨by rw [HP.out, HQ.out, ← mkS_append, HS.out]; rfl, below_then hb hb2⟩

end Go.Proofs.YtjkfdjolhmgemaaGreatDoor
end
