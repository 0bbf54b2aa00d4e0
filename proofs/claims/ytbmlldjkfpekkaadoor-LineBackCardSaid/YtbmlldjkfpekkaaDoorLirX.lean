/-
  The page's example (lines) of layer 10.
-/
import Derived.Test.YtbmlldjkfpekkaaDoorLirSc
namespace Go.Proofs.YtbmlldjkfpekkaaDoor
open Go.RowKit

def x10a : ByteArray := ⟨#[71, 69, 84, 32, 47, 97, 32, 72, 84, 84, 80, 47, 49, 46, 49]⟩
def x10b : ByteArray := ⟨#[72, 84, 84, 80, 47, 49, 46, 48, 32, 52, 48, 52, 32]⟩
def x10c : ByteArray := ⟨#[71, 69, 84, 32, 47, 97, 32, 72, 84, 84, 80, 47, 49, 46, 50]⟩
theorem x10a_ok : rqA x10a = ⟨#[71, 69, 84]⟩ ∧ rqB x10a = ⟨#[47, 97]⟩ ∧ rqV x10a = 1 ∧ rqE x10a = 0 := by refine ⟨?_, ?_, ?_, ?_⟩ <;> kernel_rfl
theorem x10b_ok : stN x10b = 404 ∧ stB x10b = ⟨#[]⟩ ∧ stV' x10b = 0 ∧ stE x10b = 0 := by refine ⟨?_, ?_, ?_, ?_⟩ <;> kernel_rfl
theorem x10c_ok : rqE x10c = 20 := by kernel_rfl
theorem x10_safe : safeB ⟨#[72, 69, 65, 68]⟩ = true ∧ safeB ⟨#[80, 79, 83, 84]⟩ = false := by constructor <;> kernel_rfl
theorem x10_usu : usuS 304 = ⟨#[78, 111, 116, 32, 77, 111, 100, 105, 102, 105, 101, 100]⟩ := by kernel_rfl
theorem x10_pst : pstS 200 ⟨#[79, 75]⟩ 1 = ⟨#[72, 84, 84, 80, 47, 49, 46, 49, 32, 50, 48, 48, 32, 79, 75]⟩ := by decide +kernel
theorem x10_prq : prqS ⟨#[65]⟩ ⟨#[47]⟩ 0 = ⟨#[65, 32, 47, 32, 72, 84, 84, 80, 47, 49, 46, 48]⟩ := by decide +kernel

set_option maxHeartbeats 8000000 in
set_option maxRecDepth 100000 in
theorem ex10_any (w : World) (HT : LinTabs w) : Calls Tryd.prog 6 #[] w fun e w' => e = .returned (.bool true) ∧ Below w.heap.size w w' := by
  have c1 := fun W (hb : Below w.heap.size w W) => request_any x10a W (by decide) (HT.kept hb)
  rw [x10a_ok.1, x10a_ok.2.1, x10a_ok.2.2.1, x10a_ok.2.2.2] at c1
  have c2 := fun W (hb : Below w.heap.size w W) => status_any x10b W (by decide) (HT.kept hb)
  rw [x10b_ok.1, x10b_ok.2.1, x10b_ok.2.2.1, x10b_ok.2.2.2] at c2
  have c3 := fun W (hb : Below w.heap.size w W) => request_any x10c W (by decide) (HT.kept hb)
  rw [x10c_ok] at c3
  generalize rqA x10c = A at *
  generalize rqB x10c = B at *
  generalize rqV x10c = V at *
  have c4 := fun W (hb : Below w.heap.size w W) => safe_any ⟨#[72, 69, 65, 68]⟩ W (HT.kept hb)
  rw [x10_safe.1] at c4
  have c5 := fun W (hb : Below w.heap.size w W) => safe_any ⟨#[80, 79, 83, 84]⟩ W (HT.kept hb)
  rw [x10_safe.2] at c5
  have c6 := fun W (hb : Below w.heap.size w W) => usual_any 304 W (HT.kept hb)
  rw [x10_usu] at c6
  have c7 := fun W (hb : Below w.heap.size w W) => printStatus_any 200 ⟨#[79, 75]⟩ 1 (by decide) (by decide) (by decide) (by decide) (by decide) W (HT.kept hb)
  rw [x10_pst] at c7
  have c8 := fun W (hb : Below w.heap.size w W) => printRequest_any ⟨#[65]⟩ ⟨#[47]⟩ 0 (by decide) (by decide) (by decide) (by decide) W (HT.kept hb)
  rw [x10_prq] at c8
  unfold x10a x10b x10c at *
  have C1 := Lib.hid c1
  have C2 := Lib.hid c2
  have C3 := Lib.hid c3
  have C4 := Lib.hid c4
  have C5 := Lib.hid c5
  have C6 := Lib.hid c6
  have C7 := Lib.hid c7
  have C8 := Lib.hid c8
  clear c1 c2 c3 c4 c5 c6 c7 c8 HT
  go_enter Tryd.func6, Tryd.ntmps6
  go_wp2_with fail
  refine (C1.out _ (Below.refl _ _)).mono ?_
  rintro e w1 ⟨rfl, hb1⟩
  have HB1 := Lib.hid hb1
  clear hb1
  go_wp2_with fail
  refine (C2.out _ HB1.out).mono ?_
  rintro e w2 ⟨rfl, hb2⟩
  have HB2 := Lib.hid (below_then HB1.out hb2)
  clear hb2
  go_wp2_with fail
  refine (C3.out _ HB2.out).mono ?_
  rintro e w3 ⟨rfl, hb3⟩
  have HB3 := Lib.hid (below_then HB2.out hb3)
  clear hb3
  go_wp2_with fail
  refine (C4.out _ HB3.out).mono ?_
  rintro e w4 ⟨rfl, hb4⟩
  have HB4 := Lib.hid (below_then HB3.out hb4)
  clear hb4
  go_wp2_with fail
  refine (C5.out _ HB4.out).mono ?_
  rintro e w5 ⟨rfl, hb5⟩
  have HB5 := Lib.hid (below_then HB4.out hb5)
  clear hb5
  go_wp2_with fail
  refine (C6.out _ HB5.out).mono ?_
  rintro e w6 ⟨rfl, hb6⟩
  have HB6 := Lib.hid (below_then HB5.out hb6)
  clear hb6
  go_wp2_with fail
  refine (C7.out _ HB6.out).mono ?_
  rintro e w7 ⟨rfl, hb7⟩
  have HB7 := Lib.hid (below_then HB6.out hb7)
  clear hb7
  go_wp2_with fail
  refine (C8.out _ HB7.out).mono ?_
  rintro e w8 ⟨rfl, hb8⟩
  have HB8 := Lib.hid (below_then HB7.out hb8)
  clear hb8
  go_wp2_with fail
  go_ret
  exact ⟨rfl, HB8.out⟩

end Go.Proofs.YtbmlldjkfpekkaaDoor
