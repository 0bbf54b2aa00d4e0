/-
  The law EtagLikes (depotlaw14) returns true for every two tags and leaves what it was given as it was. No condition.
-/
import Derived.Test.YtdaoliobmgcmoaaRows
import Derived.WalkKit
import Derived.ProofKit
import Derived.OpenShut
import Derived.ShutString
import Derived.ChangeOld
import Derived.Below
import Derived.Test.YtdaoliobmgcmoaaEtgX
import Derived.Deep.RegionHeld3
import Derived.Lib.SmallJoins
import Derived.Lib.SmallJoins
namespace Go.Proofs.Ytdaoliobmgcmoaa.etagLikes
open Go.ChangeShapes Go.WideShapes Go.ChangeAt Go.RowKit
open Go.ChangeMaps (open_string shut_string)
set_option linter.unusedVariables false

theorem own : ownKnob Try.prog.godebug = none := by kernel_rfl
theorem laidOut : laidOutB Try.prog = true := by kernel_rfl

set_option maxHeartbeats 8000000 in
set_option maxRecDepth 100000 in
theorem walk (a0 : Bool) (b0 : ByteArray) (a1 : Bool) (b1 : ByteArray) (w : World) (w0 : b0.size ≤ maxLen) (w1 : b1.size ≤ maxLen) :
    Calls Try.prog 4 #[.agg #[.bool a0, .string b0], .agg #[.bool a1, .string b1]] w fun e w' => e = .returned (.bool true) ∧ Below w.heap.size w w' := by
  have cx := fun W (_ : Below w.heap.size w W) => ex14_any W
  have CX := Lib.hid cx
  clear cx
  have HB : Hid (Below w.heap.size w ((w.alloc (.cells #[.bool a0, .string b0] 23)).alloc (.cells #[.bool a1, .string b1] 23))) := ((Below.refl _ _).alloc (Nat.le_refl _) _).alloc (by simp) _
  have Z0 : Hid (((w.alloc (.cells #[.bool a0, .string b0] 23)).alloc (.cells #[.bool a1, .string b1] 23)).heap[w.heap.size]? = some (.cells #[.bool a0, .string b0] 23 (0, 0))) := zero_more (heap_alloc_new w _)
  have z1 := heap_alloc_new (w.alloc (.cells #[.bool a0, .string b0] 23)) (.cells #[.bool a1, .string b1] 23)
  rw [show (w.alloc (.cells #[.bool a0, .string b0] 23)).heap.size = w.heap.size + 1 by simp] at z1
  have Z1 := Lib.hid z1
  clear z1
  by_cases h0 : (1000 : Int) < (b0.size : Int)
  · go_enter Try.func4, Try.ntmps4
    obtain ⟨x0, x1⟩ := zero_two Z0.out
    obtain ⟨y0, y1⟩ := zero_two Z1.out
    go_wp2_with fail
    refine (CX.out _ HB.out).mono ?_
    rintro e w9 ⟨rfl, hb9⟩
    go_wp2_with fail
    go_ret
    exact ⟨rfl, below_then HB.out hb9⟩
  · by_cases h1 : (1000 : Int) < (b1.size : Int)
    · go_enter Try.func4, Try.ntmps4
      obtain ⟨x0, x1⟩ := zero_two Z0.out
      obtain ⟨y0, y1⟩ := zero_two Z1.out
      go_wp2_with fail
      refine (CX.out _ HB.out).mono ?_
      rintro e w9 ⟨rfl, hb9⟩
      go_wp2_with fail
      go_ret
      exact ⟨rfl, below_then HB.out hb9⟩
    · have K1 := Lib.hid (fun W (_ : Below w.heap.size w W) => etS_any (a0, b0) (show b0.size ≤ _ by omega) W)
      have K2 := Lib.hid (fun W (_ : Below w.heap.size w W) => r_etText (a0, b0) (show b0.size ≤ _ by omega) W)
      have K3 := Lib.hid (fun W (_ : Below w.heap.size w W) => etT_any (a0, b0) (a1, b1) W)
      have K4 := Lib.hid (fun W (_ : Below w.heap.size w W) => r_etStrong (a0, b0) (a1, b1) W)
      have K5 := Lib.hid (fun W (_ : Below w.heap.size w W) => etW_any (a0, b0) (a1, b1) W)
      have K6 := Lib.hid (fun W (_ : Below w.heap.size w W) => r_etWeak (a0, b0) (a1, b1) W)
      unfold tgV at *
      generalize tgS (a0, b0) = SS at *
      generalize strB (a0, b0) (a1, b1) = sb at *
      generalize wekB (a0, b0) (a1, b1) = wb at *
      have e1 : (SS.toList == SS.toList) = true := by simp
      have e2 : (sb == sb) = true := by simp
      have e3 : (wb == wb) = true := by simp
      go_enter Try.func4, Try.ntmps4
      obtain ⟨x0, x1⟩ := zero_two Z0.out
      obtain ⟨y0, y1⟩ := zero_two Z1.out
      have Z0 : Hid (((w.alloc (.cells #[.bool a0, .string b0] 23)).alloc (.cells #[.bool a1, .string b1] 23)).drew.heap[w.heap.size]? = some (.cells #[.bool a0, .string b0] 23 (0, 0))) := Z0.out
      have Z1 : Hid (((w.alloc (.cells #[.bool a0, .string b0] 23)).alloc (.cells #[.bool a1, .string b1] 23)).drew.heap[w.heap.size + 1]? = some (.cells #[.bool a1, .string b1] 23 (0, 0))) := Z1.out
      have HB := Lib.hid HB.out.drew
      go_wp2_with fail
      go_region_held3 (fun W => W.cell? ⟨w.heap.size, 0, none⟩ = some (.bool a0) ∧ W.cell? ⟨w.heap.size, 1, none⟩ = some (.string b0) ∧ W.cell? ⟨w.heap.size + 1, 0, none⟩ = some (.bool a1) ∧ W.cell? ⟨w.heap.size + 1, 1, none⟩ = some (.string b1)) (exact ⟨(zero_two Z0.out).1, (zero_two Z0.out).2, (zero_two Z1.out).1, (zero_two Z1.out).2⟩) (first
        | (go_at_call 15; refine (K1.out _ HB.out).mono ?_; rintro e w5 ⟨rfl, hb⟩; have Z0 := Lib.hid (zero_still hb Z0.out); have Z1 := Lib.hid (zero_still hb Z1.out); have HB := Lib.hid (below_then HB.out hb); clear hb)
        | (go_at_call 16; refine (K2.out _ HB.out).mono ?_; rintro e w5 ⟨rfl, hb⟩; have Z0 := Lib.hid (zero_still hb Z0.out); have Z1 := Lib.hid (zero_still hb Z1.out); have HB := Lib.hid (below_then HB.out hb); clear hb)
        | (go_at_call 17; refine (K3.out _ HB.out).mono ?_; rintro e w5 ⟨rfl, hb⟩; have Z0 := Lib.hid (zero_still hb Z0.out); have Z1 := Lib.hid (zero_still hb Z1.out); have HB := Lib.hid (below_then HB.out hb); clear hb)
        | (go_at_call 18; refine (K4.out _ HB.out).mono ?_; rintro e w5 ⟨rfl, hb⟩; have Z0 := Lib.hid (zero_still hb Z0.out); have Z1 := Lib.hid (zero_still hb Z1.out); have HB := Lib.hid (below_then HB.out hb); clear hb)
        | (go_at_call 19; refine (K5.out _ HB.out).mono ?_; rintro e w5 ⟨rfl, hb⟩; have Z0 := Lib.hid (zero_still hb Z0.out); have Z1 := Lib.hid (zero_still hb Z1.out); have HB := Lib.hid (below_then HB.out hb); clear hb)
        | (go_at_call 20; refine (K6.out _ HB.out).mono ?_; rintro e w5 ⟨rfl, hb⟩; have Z0 := Lib.hid (zero_still hb Z0.out); have Z1 := Lib.hid (zero_still hb Z1.out); have HB := Lib.hid (below_then HB.out hb); clear hb)
        | (go_at_call 7; refine (CX.out _ HB.out).mono ?_; rintro e w5 ⟨rfl, hb⟩; have Z0 := Lib.hid (zero_still hb Z0.out); have Z1 := Lib.hid (zero_still hb Z1.out); have HB := Lib.hid (below_then HB.out hb); clear hb))
      all_goals
        go_wp2_with fail
        go_ret
        exact ⟨rfl, HB.out⟩

set_option maxRecDepth 100000 in
theorem lifted (os : Os) (started : os.Started) (H : Type) (enc : TypeId × Value → H) :
    ReturnsInHanded {} Try.checked os 4 .any (Rows.etagLikesSpec.pre6 enc Try.prog Try.f4 Rows.etagLikesRow.domain false) (Rows.etagLikesSpec.post enc Try.prog Try.f4 false true false false) := by
  refine returnsInHanded_of_change (C := Try.checked) own started (by kernel_rfl) Try.func4
    (ChangeSpec.witness6 (enc := enc) (C := Try.checked) false ⟨#[], #[.agg #[.bool false, .string ByteArray.empty], .agg #[.bool false, .string ByteArray.empty]], []⟩ 8 (by kernel_rfl) (by kernel_rfl) (by kernel_rfl) (by kernel_rfl)) ?_
  intro W base args ds gs before hval0 hW hcnd _
  have hval : ∀ (j : Nat) t v, Try.f4.params[j]? = some t → args[j]? = some v → Value.okWide Try.prog W .any base t v := hval0
  have hW' := hW
  obtain ⟨p, q, hA0, hV, rfl, hfz, hnd⟩ := hW
  have hA : DataW.TrodAll enc Try.prog W 0 (fun _ => true) true Try.f4.params.toList args.toList ds p := hA0
  rw [Try.params4] at hA hval
  obtain ⟨v0, vs0, d0, ds0, p0, q0, hargs, rfl, rfl, h0, r0⟩ := trodAll_cons hA
  obtain ⟨v1, vs1, d1, ds1, p1, q1, rfl, rfl, rfl, h1, r1⟩ := trodAll_cons r0
  obtain ⟨rfl, rfl, rfl⟩ := trodAll_nil r1
  obtain rfl : args = #[v0, v1] := by cases args; simp_all
  obtain ⟨rfl, rfl⟩ := trodVars_none hV
  obtain ⟨f0, f1, y0, y1, m, rfl, rfl, rfl, hy0, hy1⟩ := Go.Joins.open_agg2 Try.underlying23 (by kernel_rfl) (by kernel_rfl) (hval 0 23 v0 rfl rfl) h0
  obtain ⟨a0, e0, rfl⟩ := DataW.trod_bool Try.underlying4 hy0
  obtain ⟨b0, e1, rfl, w0⟩ := DataW.trod_string Try.underlying9 hy1
  simp at e0 e1
  subst e0 e1
  obtain ⟨f0, f1, y0, y1, m, rfl, rfl, rfl, hy0, hy1⟩ := Go.Joins.open_agg2 Try.underlying23 (by kernel_rfl) (by kernel_rfl) (hval 1 23 v1 rfl rfl) h1
  obtain ⟨a1, e0, rfl⟩ := DataW.trod_bool Try.underlying4 hy0
  obtain ⟨b1, e1, rfl, w1⟩ := DataW.trod_string Try.underlying9 hy1
  simp at e0 e1
  subst e0 e1
  clear hA0 hval0
  refine (walk a0 b0 a1 b1 W w0 w1).mono fun e W' ⟨he, bel⟩ => ?_
  subst he
  exact ⟨_, rfl, _, _, _, [], _, [], hW', trodAll_mk1 (shut_bool Try.underlying4 _), (trodAll_cons_mk (Go.Joins.shut_agg2 Try.underlying23 (by kernel_rfl) (by kernel_rfl) (Go.Joins.field_of_Trod (shut_bool Try.underlying4 _) rfl) (Go.Joins.field_of_Trod (shut_string Try.underlying9 w0) rfl)) (trodAll_cons_mk (Go.Joins.shut_agg2 Try.underlying23 (by kernel_rfl) (by kernel_rfl) (Go.Joins.field_of_Trod (shut_bool Try.underlying4 _) rfl) (Go.Joins.field_of_Trod (shut_string Try.underlying9 w1) rfl)) trodAll_mk0)), rfl, bel.frame _, fun h => by cases h⟩

theorem over : Rows.etagLikesRow.holds Try.pinned (OpenSpec.ofChange Rows.etagLikesSpec) :=
  OpenClaim.holds_of_wide 4 Try.f4 rfl rfl rfl rfl rfl rfl rfl ⟨rfl, rfl, rfl, rfl, rfl⟩ rfl rfl rfl rfl rfl (by kernel_rfl) Try.func4 (by kernel_rfl)
    (of_decide_eq_true (by kernel_rfl)) (by unfold Func.isWrapper; first | (rw [if_pos (by decide +kernel)]; kernel_rfl) | (rw [if_neg (by decide +kernel)]; exact ⟨rfl, rfl⟩))
    (fun os started H enc _ => lifted os started H enc)

theorem proved : Rows.EtagLikesSaid := over
#print axioms proved
end Go.Proofs.Ytdaoliobmgcmoaa.etagLikes
