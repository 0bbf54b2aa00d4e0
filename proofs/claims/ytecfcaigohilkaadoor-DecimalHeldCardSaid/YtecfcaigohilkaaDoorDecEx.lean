/-
  The page's example of layer 2 (the law's helper counts) returns true.
-/
import Derived.Test.YtecfcaigohilkaaDoorDecN
import Derived.Test.YtecfcaigohilkaaDoorDecT
import Derived.Test.YtecfcaigohilkaaDoorDecH
namespace Go.Proofs.YtecfcaigohilkaaDoor
open Go.RowKit

/-- The library's tables that layer 2 reads hold what their initialisers lay. -/
structure DecTabs (w : World) : Prop where
  pow : Pow10 w
  br : TabBr w
theorem DecTabs.kept {w w' : World} (h : DecTabs w) (hb : Below w.heap.size w w') : DecTabs w' := ⟨tab_below h.pow hb, cell_kept hb h.br⟩

theorem ex_plain : mkS (plainL (-5)) = ⟨#[45, 53]⟩ := by
  unfold plainL
  rw [if_pos (by omega), show (-5 : Int).natAbs = 5 from rfl, digs_small (by omega)]
  decide +kernel
theorem ex_pad : mkS (padL 7 2) = ⟨#[48, 55]⟩ := by
  unfold padL plainL
  rw [if_neg (by omega), if_neg (by omega), show (7 : Int).toNat = 7 from rfl, digs_small (by omega)]
  decide +kernel
theorem ex_hex : mkS (hexL 255) = ⟨#[102, 102]⟩ := by
  unfold hexL
  rw [if_neg (by omega), show (255 : Int).toNat = 255 from rfl, digs_big (by omega) (by omega), digs_small (by omega)]
  decide +kernel

theorem ex_any (w : World) (hT : DecTabs w) : Calls Tryd.prog 14 #[] w fun e w' => e = .returned (.bool true) ∧ Below w.heap.size w w' := by
  have HT := Lib.hid hT
  clear hT
  go_enter Tryd.func14, Tryd.ntmps14
  go_wp2_with fail
  refine (Number_any ⟨#[48, 48, 55]⟩ 9 _).mono ?_
  rintro e w1 ⟨he, hb⟩
  rw [show numN 10 18 9 (⟨#[48, 48, 55]⟩ : ByteArray).data.toList = 7 by decide +kernel, show numE 10 18 9 (⟨#[48, 48, 55]⟩ : ByteArray).data.toList = 0 by decide +kernel] at he
  subst he
  go_wp2_with fail
  refine (seconds_any ⟨#[57, 57, 57, 57, 57, 57, 57, 57, 57, 57, 57, 57, 57, 57, 57, 57, 57, 57, 57, 57]⟩ _).mono ?_
  rintro e w2 ⟨he, hb2⟩
  have hb := below_then hb hb2
  clear hb2
  rw [show secN (⟨#[57, 57, 57, 57, 57, 57, 57, 57, 57, 57, 57, 57, 57, 57, 57, 57, 57, 57, 57, 57]⟩ : ByteArray).data.toList = 2147483648 by decide +kernel, show secB (⟨#[57, 57, 57, 57, 57, 57, 57, 57, 57, 57, 57, 57, 57, 57, 57, 57, 57, 57, 57, 57]⟩ : ByteArray).data.toList = true by decide +kernel] at he
  subst he
  go_wp2_with fail
  refine (ReadHex_any ⟨#[102, 70]⟩ 255 _).mono ?_
  rintro e w3 ⟨he, hb3⟩
  have hb := below_then hb hb3
  clear hb3
  rw [show numN 16 15 255 (⟨#[102, 70]⟩ : ByteArray).data.toList = 255 by decide +kernel, show numE 16 15 255 (⟨#[102, 70]⟩ : ByteArray).data.toList = 0 by decide +kernel] at he
  subst he
  go_wp2_with fail
  refine (Number_any ⟨#[49, 48]⟩ 9 _).mono ?_
  rintro e w4 ⟨he, hb4⟩
  have hb := below_then hb hb4
  clear hb4
  rw [show numN 10 18 9 (⟨#[49, 48]⟩ : ByteArray).data.toList = 0 by decide +kernel, show numE 10 18 9 (⟨#[49, 48]⟩ : ByteArray).data.toList = 3 by decide +kernel] at he
  subst he
  go_wp2_with fail
  refine (plain_any (-5) (by omega) (by omega) _ (HT.out.kept hb).pow).mono ?_
  rintro e w5 ⟨he, hb5⟩
  have hb := below_then hb hb5
  clear hb5
  rw [ex_plain] at he
  subst he
  go_wp2_with fail
  refine (pad_any 7 2 (by omega) (by omega) _ (HT.out.kept hb).pow).mono ?_
  rintro e w6 ⟨he, hb6⟩
  have hb := below_then hb hb6
  clear hb6
  rw [ex_pad] at he
  subst he
  go_wp2_with fail
  refine (hex_any 255 (by omega) _ (HT.out.kept hb).br).mono ?_
  rintro e w7 ⟨he, hb7⟩
  have hb := below_then hb hb7
  clear hb7
  rw [ex_hex] at he
  subst he
  go_wp2_with fail
  refine (add_any 2147483648 1 _).mono ?_
  rintro e w8 ⟨he, hb8⟩
  have hb := below_then hb hb8
  clear hb8
  rw [show addI 2147483648 1 = 2147483648 by decide +kernel] at he
  subst he
  go_wp2_with fail
  refine (less_any 5 3 _).mono ?_
  rintro e w9 ⟨he, hb9⟩
  have hb := below_then hb hb9
  clear hb9
  rw [show lessI 5 3 = 2 by decide +kernel] at he
  subst he
  go_wp2_with fail
  go_ret
  exact ⟨rfl, hb⟩

end Go.Proofs.YtecfcaigohilkaaDoor
