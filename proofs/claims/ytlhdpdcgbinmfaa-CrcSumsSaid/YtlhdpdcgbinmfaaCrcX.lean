/-
  The page's example answers true (the law's 'sums').
-/
import Derived.Test.YtlhdpdcgbinmfaaCrcR
import Derived.Lib.SlBytesConst
namespace Go.Proofs.Ytlhdpdcgbinmfaa
open Go.RowKit

theorem ex1 : sumN [49, 50, 51, 52, 53, 54, 55, 56, 57] = 3808858755 := by decide +kernel
theorem ex2 : sumN [] = 0 := by decide +kernel
theorem ex3 : moreN (sumN [49, 50, 51, 52] : Int) [53, 54, 55, 56, 57] = 3808858755 := by decide +kernel

/-- A byte that came in. -/
theorem byte_of {z : Int} (h : (Lit.int .u8 z).wf = true) : ∃ x : UInt8, z = (x.toNat : Int) := by
  have := wf_byte h
  exact ⟨UInt8.ofNat z.toNat, by rw [UInt8.toNat_ofNat', Nat.mod_eq_of_lt (by omega), Int.toNat_of_nonneg this.1]⟩

/-- '[]byte("..")' of a constant. -/
theorem Sl8.const (w : World) (t : TypeId) (l : List UInt8) (cs : Array Value) (m : Nat × Nat) (hcs : cs = (l.map byV).toArray) (hl : l.length ≤ maxLen) :
    Sl8 (w.alloc (.cells cs t m)) (some ⟨w.heap.size, 0, none⟩) l.length l.length l := by
  subst hcs
  refine ⟨rfl, Nat.le_refl _, hl, (fun e => by cases e), fun _ => ⟨_, rfl, fun j x hx => ?_⟩⟩
  rw [addr_add, World.cell?_alloc_mark]
  obtain ⟨hj, e⟩ := List.getElem?_eq_some_iff.1 hx
  simp [byV, hx]

set_option maxHeartbeats 2000000 in
set_option maxRecDepth 100000 in
theorem ex_any (w : World) : Calls Try.prog 7 #[] w fun e w' => e = .returned (.bool true) ∧ Below w.heap.size w w' := by
  have kc := fun (W : World) (C : Array Value) (n c : Nat) => Lib.run_convert_bytes_const (P := Try.prog) W 22 5 C n c Try.underlying22 Try.underlying5
  go_enter Try.func7, Try.ntmps7
  go_wp2_with fail
  refine (sum_any _ _ _ [49, 50, 51, 52, 53, 54, 55, 56, 57] _ (Sl8.const _ _ _ _ _ rfl (by decide))).mono ?_
  rintro e w1 ⟨he, hw⟩
  rw [ex1] at he
  subst he
  have hb : Below w.heap.size w w1 := by rw [← hw]; exact (Below.refl _ _).alloc (Nat.le_refl _) _
  clear hw
  go_wp2_with fail
  refine (sum_any none 0 0 [] _ (Sl8.none_ _)).mono ?_
  rintro e w2 ⟨he, rfl⟩
  rw [ex2] at he
  subst he
  go_wp2_with fail
  refine (sum_any _ _ _ [49, 50, 51, 52] _ (Sl8.const _ _ _ _ _ rfl (by decide))).mono ?_
  rintro e w2 ⟨he, hw⟩
  subst he
  have hb := below_then hb (show Below w1.heap.size w1 w2 by rw [← hw]; exact (Below.refl _ _).alloc (Nat.le_refl _) _)
  clear hw
  go_wp2_with fail
  refine (more_any _ _ _ [53, 54, 55, 56, 57] _ _ (Sl8.const _ _ _ _ _ rfl (by decide))).mono ?_
  rintro e w3 ⟨he, hw⟩
  rw [ex3] at he
  subst he
  have hb := below_then hb (show Below w2.heap.size w2 w3 by rw [← hw]; exact (Below.refl _ _).alloc (Nat.le_refl _) _)
  clear hw
  go_wp2_with fail
  refine (check_any _ _ _ [49, 50, 51, 52, 53, 54, 55, 56, 57] _ _ (Sl8.const _ _ _ _ _ rfl (by decide))).mono ?_
  rintro e w4 ⟨he, hw⟩
  rw [ex1] at he
  subst he
  have hb := below_then hb (show Below w3.heap.size w3 w4 by rw [← hw]; exact (Below.refl _ _).alloc (Nat.le_refl _) _)
  clear hw
  go_wp2_with fail
  refine (check_any none 0 0 [] _ _ (Sl8.none_ _)).mono ?_
  rintro e w5 ⟨he, rfl⟩
  rw [ex2] at he
  subst he
  go_wp2_with fail
  go_ret
  exact ⟨rfl, hb⟩

theorem Try.infoU8 : (Try.prog.info? 5).map (fun i => (i.zero, i.size, i.bytes)) = some (some (.int .u8 0), 1, 1) := by kernel_rfl

end Go.Proofs.Ytlhdpdcgbinmfaa
