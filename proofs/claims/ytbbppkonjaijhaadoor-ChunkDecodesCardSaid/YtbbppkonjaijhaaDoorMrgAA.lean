/-
  Texts that the laws of this seat lean on, one behind the other.
-/
import Derived.Test.YtbbppkonjaijhaaDoorMrgY
import Derived.Test.YtbbppkonjaijhaaDoorRows
import Derived.Test.YtbbppkonjaijhaaDoorMrgZ
import Derived.Shelf.Vars
import Derived.Test.YtbbppkonjaijhaaDoorMrgS
import Derived.Test.YtbbppkonjaijhaaDoorMrgI
/-
  What the rows' list of variables and the world's shape give the walks of layer 11.
-/
section
namespace Go.Proofs.YtbbppkonjaijhaaDoor
open Go.RowKit

def brTab : List Int := [0, 1, 56, 2, 57, 49, 28, 3, 61, 58, 42, 50, 38, 29, 17, 4, 62, 47, 59, 36, 45, 43, 51, 22, 53, 39, 33, 30, 24, 18, 12, 5, 63, 55, 48, 27, 60, 41, 37, 16, 46, 35, 44, 21, 52, 32, 23, 11, 54, 26, 40, 15, 34, 20, 31, 10, 25, 14, 19, 9, 13, 8, 7, 6]
theorem chkTabs {W : World} (h : laidMetH Tryd.prog Rows.chunkDecodesRow.laid W) (hsh : W.ShapedOpen Tryd.prog) : ChkTabs W := by
  rw [MakeChecks.laidMetH_plain _ _ _ (by kernel_rfl)] at h
  have hB := tab_in (k := .u8) (zs := brTab) (n := 64) h (.tail _ (.head _)) (by kernel_rfl) (g := 3) (by kernel_rfl) (t := 128) (by kernel_rfl) Tryd.underlying128 Tryd.underlying5 (by kernel_rfl) (by kernel_rfl)
  exact ⟨hB.cell (by kernel_rfl) 15 (by decide), cell_of_shapedOpen_int (zero := #[.int .i64 0]) (t := 3) hsh (of_decide_eq_true (by kernel_rfl)) (by kernel_rfl) rfl (by kernel_rfl) (by kernel_rfl) Tryd.underlying3⟩

end Go.Proofs.YtbbppkonjaijhaaDoor
end

/-
  What layer 11's laws lean on: the program's contracts and the reference's.
-/
section
namespace Go.Proofs.YtbbppkonjaijhaaDoor
end Go.Proofs.YtbbppkonjaijhaaDoor
end

/-
  The page's example (chunks) of layer 11.
-/
section
namespace Go.Proofs.YtbbppkonjaijhaaDoor
open Go.RowKit

def x11a : ByteArray := ⟨#[51, 13, 10, 97, 98, 99, 13, 10, 48, 13, 10, 13, 10, 120]⟩
def x11b : ByteArray := ⟨#[51, 13, 10, 97, 98]⟩
theorem x11a_ok : decB x11a = ⟨#[97, 98, 99]⟩ ∧ decN x11a = 13 ∧ decE x11a = 0 := by decide +kernel
theorem x11b_ok : decE x11b = 25 := by decide +kernel
theorem x11_enc : encS ⟨#[97, 98, 99, 100]⟩ 3 = ⟨#[51, 13, 10, 97, 98, 99, 13, 10, 49, 13, 10, 100, 13, 10, 48, 13, 10, 13, 10]⟩ ∧ encF ⟨#[97, 98, 99, 100]⟩ 3 = 0 := by decide +kernel

set_option maxHeartbeats 8000000 in
set_option maxRecDepth 100000 in
theorem ex11_any (w : World) (HT : ChkTabs w) : Calls Tryd.prog 7 #[] w fun e w' => e = .returned (.bool true) ∧ Below w.heap.size w w' := by
  have c1 := fun W (k : ChkTabs W) => decode_any x11a W (by decide) k
  rw [x11a_ok.1, x11a_ok.2.1, x11a_ok.2.2] at c1
  have c2 := fun W (k : ChkTabs W) => encode_any ⟨#[97, 98, 99, 100]⟩ 3 W k
  rw [x11_enc.1, x11_enc.2] at c2
  have c3 := fun W (k : ChkTabs W) => decode_any x11b W (by decide) k
  rw [x11b_ok] at c3
  generalize decB x11b = A at *
  generalize decN x11b = B at *
  unfold x11a x11b at *
  have C1 := Lib.hid c1
  have C2 := Lib.hid c2
  have C3 := Lib.hid c3
  have K := Lib.hid HT
  clear c1 c2 c3 HT
  go_enter Tryd.func7, Tryd.ntmps7
  go_wp2_with fail
  refine (C1.out _ K.out).mono ?_
  rintro e w1 ⟨rfl, hb1⟩
  have HB1 := Lib.hid hb1
  clear hb1
  go_wp2_with fail
  refine (C2.out _ (K.out.kept HB1.out)).mono ?_
  rintro e w2 ⟨rfl, hb2⟩
  have HB2 := Lib.hid (below_then HB1.out hb2)
  clear hb2
  go_wp2_with fail
  refine (C3.out _ (K.out.kept HB2.out)).mono ?_
  rintro e w3 ⟨rfl, hb3⟩
  have HB3 := Lib.hid (below_then HB2.out hb3)
  clear hb3
  go_wp2_with fail
  go_ret
  exact ⟨rfl, HB3.out⟩

end Go.Proofs.YtbbppkonjaijhaaDoor
end
