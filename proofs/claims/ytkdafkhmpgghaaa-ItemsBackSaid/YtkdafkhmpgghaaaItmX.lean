/-
  The page's example (function splits of the law's package) holds.
-/
import Derived.Test.YtkdafkhmpgghaaaItmS
import Derived.Test.YtkdafkhmpgghaaaItmT
import Derived.Deep.RegionHeld3
namespace Go.Proofs.Ytkdafkhmpgghaaa
open Go.RowKit

def sA : ByteArray := ⟨#[97, 44, 32, 34, 98, 44, 99, 34, 32, 44, 32, 44, 100]⟩
def sB : ByteArray := ⟨#[77, 97, 120, 45, 65, 103, 101, 61, 34, 54, 48, 34]⟩
def sC : ByteArray := ⟨#[97, 44, 32, 34, 98]⟩
def sD : ByteArray := ⟨#[34, 97, 92, 34, 98, 34]⟩
def sE : ByteArray := ⟨#[120, 44, 32, 67, 108, 111, 115, 101]⟩
def sF : ByteArray := ⟨#[97, 34]⟩
theorem fA : splO sA.data.toList = [[97], [34, 98, 44, 99, 34], [100]] ∧ splE sA.data.toList = 0 := by decide +kernel
theorem fB : parN sB = ⟨#[109, 97, 120, 45, 97, 103, 101]⟩ ∧ parV sB = ⟨#[54, 48]⟩ ∧ parH sB = true ∧ parE sB = 0 := by decide +kernel
theorem fC : splE sC.data.toList = 5 ∧ splO sC.data.toList = [] := by decide +kernel
theorem fD : mkS (unqO sD.data.toList) = ⟨#[97, 34, 98]⟩ ∧ unqE sD.data.toList = 0 := by decide +kernel
theorem fE : hasL (splO sE.data.toList) ⟨#[99, 108, 111, 115, 101]⟩ = true := by decide +kernel
theorem fF : mkS (quoteL sF.data.toList) = ⟨#[34, 97, 92, 34, 34]⟩ := by decide +kernel
theorem fG : mkS (Lib.join [[97], [98]] [44, 32]) = ⟨#[97, 44, 32, 98]⟩ := by decide +kernel

/-- A literal of strings. -/
theorem SlS.lit (w : World) (t : TypeId) (X : List (List UInt8)) (cs : Array Value) (hcs : cs = (X.map stV).toArray) (hm : X.length ≤ maxLen) : SlS (w.alloc (.cells cs t)) (some ⟨w.heap.size, 0, none⟩) X.length X.length X := by
  subst hcs
  refine ⟨rfl, Nat.le_refl _, hm, (fun e => by cases e), fun _ => ⟨_, rfl, fun j y hy => ?_⟩⟩
  rw [addr_add, cell_of_row _ _ _ _ _ _ (heap_alloc_new w _)]
  simp [hy, stV]
theorem ex_any (w : World) :
    Calls Try.prog 7 #[] w fun e w' => e = .returned (.bool true) ∧ Below w.heap.size w w' := by
  go_enter Try.func7, Try.ntmps7
  go_wp2_with fail
  refine (split_any sA _ (by decide)).mono ?_
  rintro e w1 ⟨A, c, rfl, hA, hH, hb1⟩
  rw [fA.1] at hA
  rw [fA.1, fA.2]
  go_wp2_with fail
  refine (param_any sB _ (by decide)).mono ?_
  rintro e w2 ⟨he, hb2⟩
  rw [fB.1, fB.2.1, fB.2.2.1, fB.2.2.2] at he
  subst he
  have hb := below_then hb1 hb2
  have hA := hA.below hb2
  clear hb1 hb2
  go_wp2_with fail
  refine (split_any sC _ (by decide)).mono ?_
  rintro e w3 ⟨A3, c3, rfl, hA3, hH3, hb3⟩
  rw [fC.1, fC.2]
  have hb := below_then hb hb3
  have hA := hA.below hb3
  clear hb3
  go_wp2_with fail
  refine (unquote_any sD _ (by decide)).mono ?_
  rintro e w4 ⟨he, hb4⟩
  rw [fD.1, fD.2] at he
  subst he
  have hb := below_then hb hb4
  have hA := hA.below hb4
  clear hb4
  go_wp2_with fail
  refine (r_sames _ _ _ _ _ _ _ [[97], [34, 98, 44, 99, 34], [100]] _ (hA.alloc _) (SlS.lit _ _ _ _ rfl (by decide)) (by decide)).mono ?_
  rintro e w5 ⟨he, hb5⟩
  rw [show ([[97], [34, 98, 44, 99, 34], [100]] == ([[97], [34, 98, 44, 99, 34], [100]] : List (List UInt8))) = true by decide] at he
  subst he
  have hb := hb.trans (((Below.refl w4.heap.size w4).alloc (Nat.le_refl _) _).trans (hb5.mono (by simp)) |>.mono hb.size)
  clear hb5 hA
  go_wp2_with fail
  refine (has_any sE _ _ (by decide) (by decide)).mono ?_
  rintro e w6 ⟨he, hb6⟩
  rw [fE] at he
  subst he
  have hb := below_then hb hb6
  clear hb6
  go_wp2_with fail
  refine (quote_any sF _ (by decide)).mono ?_
  rintro e w7 ⟨he, hb7⟩
  rw [fF] at he
  subst he
  have hb := below_then hb hb7
  clear hb7
  go_wp2_with fail
  refine (join_any _ _ _ [[97], [98]] _ (SlS.lit _ _ _ _ rfl (by decide)) (.inr ⟨_, by simp, rfl⟩) (by decide) (by decide)).mono ?_
  rintro e w8 ⟨he, hb8⟩
  rw [fG] at he
  subst he
  have hb := hb.trans (((Below.refl w7.heap.size w7).alloc (Nat.le_refl _) _).trans (hb8.mono (by simp)) |>.mono hb.size)
  clear hb8
  go_wp2_with fail
  go_ret
  exact ⟨rfl, hb⟩

end Go.Proofs.Ytkdafkhmpgghaaa
