/-
  The page's example of layer 1 (the law's helper bytes) returns true.
-/
import Derived.Test.YtdgpbohidnnjfaaOctTx
import Derived.Test.YtdgpbohidnnjfaaOctTr
import Derived.Test.YtdgpbohidnnjfaaOctLo
namespace Go.Proofs.Ytdgpbohidnnjfaa
open Go.RowKit

theorem below_then {w a b : World} (h : Below w.heap.size w a) (k : Below a.heap.size a b) : Below w.heap.size w b := h.trans (k.mono h.size)

theorem ex_any (w : World) : Calls Try.prog 16 #[] w fun e w' => e = .returned (.bool true) ∧ Below w.heap.size w w' := by
  go_enter Try.func16, Try.ntmps16
  go_wp2_with fail
  refine (hex_any 102 (by omega) (by omega) _).mono ?_
  rintro e w1 ⟨he, hb⟩
  rw [show hexN 102 = 15 by decide, show hexB 102 = true by decide] at he
  subst he
  go_wp2_with fail
  refine (cut_any ⟨#[97, 58, 98, 58, 99]⟩ 58 _ (by decide) (by omega) (by omega)).mono ?_
  rintro e w2 ⟨he, hb2⟩
  have hb := below_then hb hb2
  clear hb2
  rw [show cutA ⟨#[97, 58, 98, 58, 99]⟩ 58 = ⟨#[97]⟩ by decide +kernel, show cutZ ⟨#[97, 58, 98, 58, 99]⟩ 58 = ⟨#[98, 58, 99]⟩ by decide +kernel, show cutOk ⟨#[97, 58, 98, 58, 99]⟩ 58 = true by decide +kernel] at he
  subst he
  go_wp2_with fail
  refine (token_any 33 (by omega) (by omega) _).mono ?_
  rintro e w3 ⟨he, hb3⟩
  have hb := below_then hb hb3
  clear hb3
  rw [show tokB 33 = true by decide] at he
  subst he
  go_wp2_with fail
  refine (text_any 127 (by omega) (by omega) _).mono ?_
  rintro e w4 ⟨he, hb4⟩
  have hb := below_then hb hb4
  clear hb4
  rw [show txtB 127 = false by decide] at he
  subst he
  go_wp2_with fail
  refine (trim_any ⟨#[9, 32, 97, 32, 98, 32]⟩ _ (by decide)).mono ?_
  rintro e w5 ⟨he, hb5⟩
  have hb := below_then hb hb5
  clear hb5
  rw [show mkS (trimL (⟨#[9, 32, 97, 32, 98, 32]⟩ : ByteArray).data.toList) = ⟨#[97, 32, 98]⟩ by decide +kernel] at he
  subst he
  go_wp2_with fail
  refine (lower_any ⟨#[97, 66]⟩ _ (by decide)).mono ?_
  rintro e w6 ⟨he, hb6⟩
  have hb := below_then hb hb6
  clear hb6
  rw [show mkS (lowL (⟨#[97, 66]⟩ : ByteArray).data.toList) = ⟨#[97, 98]⟩ by decide +kernel] at he
  subst he
  go_wp2_with fail
  refine (same_any ⟨#[120, 45, 65]⟩ ⟨#[88, 45, 97]⟩ _ (by decide) (by decide)).mono ?_
  rintro e w7 ⟨he, hb7⟩
  have hb := below_then hb hb7
  clear hb7
  rw [show sameB ⟨#[120, 45, 65]⟩ ⟨#[88, 45, 97]⟩ = true by decide +kernel] at he
  subst he
  go_wp2_with fail
  refine (isToken_any ⟨#[97, 45, 49]⟩ _ (by decide)).mono ?_
  rintro e w8 ⟨he, hb8⟩
  have hb := below_then hb hb8
  clear hb8
  rw [show (!(⟨#[97, 45, 49]⟩ : ByteArray).toList.isEmpty && allB tokB (⟨#[97, 45, 49]⟩ : ByteArray).data.toList) = true by rw [Lib.toList_data]; decide +kernel] at he
  subst he
  go_wp2_with fail
  refine (isToken_any ⟨#[]⟩ _ (by decide)).mono ?_
  rintro e w9 ⟨he, hb9⟩
  have hb := below_then hb hb9
  clear hb9
  rw [show (!(⟨#[]⟩ : ByteArray).toList.isEmpty && allB tokB (⟨#[]⟩ : ByteArray).data.toList) = false by rw [Lib.toList_data]; decide +kernel] at he
  subst he
  go_wp2_with fail
  refine (isText_any ⟨#[97, 32, 98]⟩ _ (by decide)).mono ?_
  rintro e w10 ⟨he, hb10⟩
  have hb := below_then hb hb10
  clear hb10
  rw [show allB txtB (⟨#[97, 32, 98]⟩ : ByteArray).data.toList = true by decide +kernel] at he
  subst he
  go_wp2_with fail
  refine (digit_any 55 _).mono ?_
  rintro e w11 ⟨he, hb11⟩
  have hb := below_then hb hb11
  clear hb11
  rw [show digB 55 = true by decide] at he
  subst he
  go_wp2_with fail
  go_ret
  exact ⟨rfl, hb⟩

end Go.Proofs.Ytdgpbohidnnjfaa
