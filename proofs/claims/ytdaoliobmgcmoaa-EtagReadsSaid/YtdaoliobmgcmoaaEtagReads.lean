/-
  The law EtagReads (depotlaw14) returns true for every text and every tag and leaves what it was given as it was. No condition.
-/
import Derived.Test.YtdaoliobmgcmoaaRows
import Derived.WalkKit
import Derived.ProofKit
import Derived.OpenShut
import Derived.ShutString
import Derived.ChangeOld
import Derived.Below
import Derived.Test.YtdaoliobmgcmoaaEtgX
import Derived.Deep.RegionHeld3
import Derived.Lib.SmallJoins
namespace Go.Proofs.Ytdaoliobmgcmoaa.etagReads
open Go.ChangeShapes Go.WideShapes Go.ChangeAt Go.RowKit
open Go.ChangeMaps (open_string shut_string)
set_option linter.unusedVariables false

theorem own : ownKnob Try.prog.godebug = none := by kernel_rfl
theorem laidOut : laidOutB Try.prog = true := by kernel_rfl

set_option maxHeartbeats 8000000 in
set_option maxRecDepth 100000 in
theorem walk (a0 : ByteArray) (a1 : Bool) (b1 : ByteArray) (w : World) (w0 : a0.size ≤ maxLen) (w1 : b1.size ≤ maxLen) :
    Calls Try.prog 3 #[.string a0, .agg #[.bool a1, .string b1]] w fun e w' => e = .returned (.bool true) ∧ Below w.heap.size w w' := by
  have cx := fun W (_ : Below w.heap.size w W) => ex14_any W
  have CX := Lib.hid cx
  clear cx
  have HB : Hid (Below w.heap.size w (w.alloc (.cells #[.bool a1, .string b1] 23))) := (Below.refl _ _).alloc (Nat.le_refl _) _
  have Z0 : Hid ((w.alloc (.cells #[.bool a1, .string b1] 23)).heap[w.heap.size]? = some (.cells #[.bool a1, .string b1] 23 (0, 0))) := heap_alloc_new w _
  by_cases h0 : (1000 : Int) < (a0.size : Int)
  · go_enter Try.func3, Try.ntmps3
    obtain ⟨x0, x1⟩ := zero_two Z0.out
    go_wp2_with fail
    refine (CX.out _ HB.out).mono ?_
    rintro e w9 ⟨rfl, hb9⟩
    go_wp2_with fail
    go_ret
    exact ⟨rfl, below_then HB.out hb9⟩
  · by_cases h1 : (1000 : Int) < (b1.size : Int)
    · go_enter Try.func3, Try.ntmps3
      obtain ⟨x0, x1⟩ := zero_two Z0.out
      go_wp2_with fail
      refine (CX.out _ HB.out).mono ?_
      rintro e w9 ⟨rfl, hb9⟩
      go_wp2_with fail
      go_ret
      exact ⟨rfl, below_then HB.out hb9⟩
    · have K1 := Lib.hid (fun W (_ : Below w.heap.size w W) => etP_any a0 W (by omega))
      have K2 := Lib.hid (fun W (_ : Below w.heap.size w W) => r_etParse a0 W (by omega))
      have K3 := Lib.hid (fun W (_ : Below w.heap.size w W) => etL_any a0 W (by omega))
      have K4 := Lib.hid (fun W (_ : Below w.heap.size w W) => r_etList a0 W (by omega))
      have K5 := Lib.hid (fun W (_ : Below w.heap.size w W) => etM_any a0 (a1, b1) W (by omega))
      have K6 := Lib.hid (fun W (_ : Below w.heap.size w W) => r_etMatch a0 (a1, b1) W (by omega))
      have hln := ls_len a0
      have ks := fun W A B c d (h : SlT W A (lsL a0).length c (lsL a0)) (h' : SlT W B (lsL a0).length d (lsL a0)) (_ : Below w.heap.size w W) => r_etSame A B _ c _ d (lsL a0) (lsL a0) W h h' (by omega)
      simp only [samT_refl] at ks
      have KS := Lib.hid ks
      clear ks hln
      unfold tgV IsTs at *
      generalize tgO a0 = X at *
      generalize tgB a0 = tb at *
      generalize lsL a0 = LL at *
      generalize lsA a0 = la at *
      generalize lsE a0 = le at *
      generalize mtB a0 (a1, b1) = mb at *
      obtain ⟨xa, xb⟩ := X
      have e1 : (xa == xa) = true := by simp
      have e2 : (xb.toList == xb.toList) = true := by simp
      have e3 : (tb == tb) = true := by simp
      have e4 : (la == la) = true := by simp
      have e5 : (le == le) = true := by simp
      have e6 : (mb == mb) = true := by simp
      go_enter Try.func3, Try.ntmps3
      obtain ⟨x0, x1⟩ := zero_two Z0.out
      go_wp2_with fail
      refine (K1.out _ HB.out).mono ?_
      rintro e w1 ⟨rfl, hb⟩
      have hbb := below_then HB.out hb
      have HB := Lib.hid (hbb.alloc hbb.size (.cells #[.bool xa, .string xb] 23))
      have Z0 := Lib.hid (zero_more (o' := .cells #[.bool xa, .string xb] 23) (zero_still hb Z0.out))
      have z1 := heap_alloc_new w1 (.cells #[.bool xa, .string xb] 23)
      obtain ⟨g1, hg1⟩ : ∃ g, w1.heap.size = g := ⟨_, rfl⟩
      rw [hg1] at z1
      have Z1 := Lib.hid z1
      clear hb hbb z1 x0 x1
      go_wp2_with fail
      (try rw [hg1])
      refine (K2.out _ HB.out).mono ?_
      rintro e w2 ⟨rfl, hb⟩
      clear hg1
      have hbb := below_then HB.out hb
      have HB := Lib.hid (hbb.alloc hbb.size (.cells #[.bool xa, .string xb] 23))
      have Z0 := Lib.hid (zero_more (o' := .cells #[.bool xa, .string xb] 23) (zero_still hb Z0.out))
      have Z1 := Lib.hid (zero_more (o' := .cells #[.bool xa, .string xb] 23) (zero_still hb Z1.out))
      have z2 := heap_alloc_new w2 (.cells #[.bool xa, .string xb] 23)
      obtain ⟨g2, hg2⟩ : ∃ g, w2.heap.size = g := ⟨_, rfl⟩
      rw [hg2] at z2
      have Z2 := Lib.hid z2
      clear hb hbb z2
      go_wp2_with fail
      (try rw [hg2])
      refine (K3.out _ HB.out).mono ?_
      rintro e w3 ⟨A3, c3, rfl, hF, hb⟩
      clear hg2
      have HF := Lib.hid hF
      have Z0 := Lib.hid (zero_still hb Z0.out)
      have Z1 := Lib.hid (zero_still hb Z1.out)
      have Z2 := Lib.hid (zero_still hb Z2.out)
      have HB := Lib.hid (below_then HB.out hb)
      clear hF hb
      go_wp2_with fail
      refine (K4.out _ HB.out).mono ?_
      rintro e w4 ⟨A4, c4, rfl, hF, hb⟩
      have HG := Lib.hid hF
      have HF := Lib.hid (HF.out.below hb)
      have Z0 := Lib.hid (zero_still hb Z0.out)
      have Z1 := Lib.hid (zero_still hb Z1.out)
      have Z2 := Lib.hid (zero_still hb Z2.out)
      have HB := Lib.hid (below_then HB.out hb)
      clear hF hb
      have Z0 : Hid (w4.drew.heap[w.heap.size]? = some (.cells #[.bool a1, .string b1] 23 (0, 0))) := Z0.out
      have Z1 : Hid (w4.drew.heap[g1]? = some (.cells #[.bool xa, .string xb] 23 (0, 0))) := Z1.out
      have Z2 : Hid (w4.drew.heap[g2]? = some (.cells #[.bool xa, .string xb] 23 (0, 0))) := Z2.out
      have HF := Lib.hid HF.out.drew
      have HG := Lib.hid HG.out.drew
      have HB := Lib.hid HB.out.drew
      go_wp2_with fail
      go_region_held3 (fun W => W.cell? ⟨w.heap.size, 0, none⟩ = some (.bool a1) ∧ W.cell? ⟨w.heap.size, 1, none⟩ = some (.string b1) ∧ W.cell? ⟨g1, 0, none⟩ = some (.bool xa) ∧ W.cell? ⟨g1, 1, none⟩ = some (.string xb) ∧ W.cell? ⟨g2, 0, none⟩ = some (.bool xa) ∧ W.cell? ⟨g2, 1, none⟩ = some (.string xb)) (exact ⟨(zero_two Z0.out).1, (zero_two Z0.out).2, (zero_two Z1.out).1, (zero_two Z1.out).2, (zero_two Z2.out).1, (zero_two Z2.out).2⟩) (first
        | (go_at_call 12; refine (KS.out _ _ _ _ _ HF.out HG.out HB.out).mono ?_; rintro e w5 ⟨rfl, hb⟩; have Z0 := Lib.hid (zero_still hb Z0.out); have Z1 := Lib.hid (zero_still hb Z1.out); have Z2 := Lib.hid (zero_still hb Z2.out); have HF := Lib.hid (HF.out.below hb); have HG := Lib.hid (HG.out.below hb); have HB := Lib.hid (below_then HB.out hb); clear hb)
        | (go_at_call 13; refine (K5.out _ HB.out).mono ?_; rintro e w5 ⟨rfl, hb⟩; have Z0 := Lib.hid (zero_still hb Z0.out); have Z1 := Lib.hid (zero_still hb Z1.out); have Z2 := Lib.hid (zero_still hb Z2.out); have HF := Lib.hid (HF.out.below hb); have HG := Lib.hid (HG.out.below hb); have HB := Lib.hid (below_then HB.out hb); clear hb)
        | (go_at_call 14; refine (K6.out _ HB.out).mono ?_; rintro e w5 ⟨rfl, hb⟩; have Z0 := Lib.hid (zero_still hb Z0.out); have Z1 := Lib.hid (zero_still hb Z1.out); have Z2 := Lib.hid (zero_still hb Z2.out); have HF := Lib.hid (HF.out.below hb); have HG := Lib.hid (HG.out.below hb); have HB := Lib.hid (below_then HB.out hb); clear hb)
        | (go_at_call 7; refine (CX.out _ HB.out).mono ?_; rintro e w5 ⟨rfl, hb⟩; have Z0 := Lib.hid (zero_still hb Z0.out); have Z1 := Lib.hid (zero_still hb Z1.out); have Z2 := Lib.hid (zero_still hb Z2.out); have HF := Lib.hid (HF.out.below hb); have HG := Lib.hid (HG.out.below hb); have HB := Lib.hid (below_then HB.out hb); clear hb))
      all_goals
        go_wp2_with fail
        go_ret
        exact ⟨rfl, HB.out⟩

set_option maxRecDepth 100000 in
theorem lifted (os : Os) (started : os.Started) (H : Type) (enc : TypeId × Value → H) :
    ReturnsInHanded {} Try.checked os 3 .any (Rows.etagReadsSpec.pre6 enc Try.prog Try.f3 Rows.etagReadsRow.domain false) (Rows.etagReadsSpec.post enc Try.prog Try.f3 false true false false) := by
  refine returnsInHanded_of_change (C := Try.checked) own started (by kernel_rfl) Try.func3
    (ChangeSpec.witness6 (enc := enc) (C := Try.checked) false ⟨#[], #[.string ByteArray.empty, .agg #[.bool false, .string ByteArray.empty]], []⟩ 8 (by kernel_rfl) (by kernel_rfl) (by kernel_rfl) (by kernel_rfl)) ?_
  intro W base args ds gs before hval0 hW hcnd _
  have hval : ∀ (j : Nat) t v, Try.f3.params[j]? = some t → args[j]? = some v → Value.okWide Try.prog W .any base t v := hval0
  have hW' := hW
  obtain ⟨p, q, hA0, hV, rfl, hfz, hnd⟩ := hW
  have hA : DataW.TrodAll enc Try.prog W 0 (fun _ => true) true Try.f3.params.toList args.toList ds p := hA0
  rw [Try.params3] at hA hval
  obtain ⟨v0, vs0, d0, ds0, p0, q0, hargs, rfl, rfl, h0, r0⟩ := trodAll_cons hA
  obtain ⟨v1, vs1, d1, ds1, p1, q1, rfl, rfl, rfl, h1, r1⟩ := trodAll_cons r0
  obtain ⟨rfl, rfl, rfl⟩ := trodAll_nil r1
  obtain rfl : args = #[v0, v1] := by cases args; simp_all
  obtain ⟨rfl, rfl⟩ := trodVars_none hV
  obtain ⟨a0, rfl, rfl, rfl, w0⟩ := open_string Try.underlying9 (hval 0 9 v0 rfl rfl) h0
  obtain ⟨f0, f1, y0, y1, m, rfl, rfl, rfl, hy0, hy1⟩ := Go.Joins.open_agg2 Try.underlying23 (by kernel_rfl) (by kernel_rfl) (hval 1 23 v1 rfl rfl) h1
  obtain ⟨a1, e0, rfl⟩ := DataW.trod_bool Try.underlying4 hy0
  obtain ⟨b1, e1, rfl, w1⟩ := DataW.trod_string Try.underlying9 hy1
  simp at e0 e1
  subst e0 e1
  clear hA0 hval0
  refine (walk a0 a1 b1 W w0 w1).mono fun e W' ⟨he, bel⟩ => ?_
  subst he
  exact ⟨_, rfl, _, _, _, [], _, [], hW', trodAll_mk1 (shut_bool Try.underlying4 _), (trodAll_cons_mk (shut_string Try.underlying9 w0) (trodAll_cons_mk (Go.Joins.shut_agg2 Try.underlying23 (by kernel_rfl) (by kernel_rfl) (Go.Joins.field_of_Trod (shut_bool Try.underlying4 _) rfl) (Go.Joins.field_of_Trod (shut_string Try.underlying9 w1) rfl)) trodAll_mk0)), rfl, bel.frame _, fun h => by cases h⟩

theorem over : Rows.etagReadsRow.holds Try.pinned (OpenSpec.ofChange Rows.etagReadsSpec) :=
  OpenClaim.holds_of_wide 3 Try.f3 rfl rfl rfl rfl rfl rfl rfl ⟨rfl, rfl, rfl, rfl, rfl⟩ rfl rfl rfl rfl rfl (by kernel_rfl) Try.func3 (by kernel_rfl)
    (of_decide_eq_true (by kernel_rfl)) (by unfold Func.isWrapper; first | (rw [if_pos (by decide +kernel)]; kernel_rfl) | (rw [if_neg (by decide +kernel)]; exact ⟨rfl, rfl⟩))
    (fun os started H enc _ => lifted os started H enc)

theorem proved : Rows.EtagReadsSaid := over
#print axioms proved
end Go.Proofs.Ytdaoliobmgcmoaa.etagReads
