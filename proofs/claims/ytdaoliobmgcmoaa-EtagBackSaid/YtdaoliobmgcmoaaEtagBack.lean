/-
  The law EtagBack (depotlaw14) returns true for every text and every tag and leaves what it was given as it was. No condition.
-/
import Derived.Test.YtdaoliobmgcmoaaRows
import Derived.WalkKit
import Derived.ProofKit
import Derived.OpenShut
import Derived.ShutString
import Derived.ChangeOld
import Derived.Below
import Derived.Test.YtdaoliobmgcmoaaEtgX
import Derived.Test.YtdaoliobmgcmoaaEtgY
import Derived.Test.YtdaoliobmgcmoaaComE
import Derived.Deep.RegionHeld3
import Derived.Lib.SmallJoins
namespace Go.Proofs.Ytdaoliobmgcmoaa.etagBack
open Go.ChangeShapes Go.WideShapes Go.ChangeAt Go.RowKit
open Go.ChangeMaps (open_string shut_string)
set_option linter.unusedVariables false

theorem own : ownKnob Try.prog.godebug = none := by kernel_rfl
theorem laidOut : laidOutB Try.prog = true := by kernel_rfl

set_option maxHeartbeats 8000000 in
set_option maxRecDepth 100000 in
theorem walk (a0 : ByteArray) (a1 : Bool) (b1 : ByteArray) (w : World) (w0 : a0.size ≤ maxLen) (w1 : b1.size ≤ maxLen) :
    Calls Try.prog 5 #[.string a0, .agg #[.bool a1, .string b1]] w fun e w' => e = .returned (.bool true) ∧ Below w.heap.size w w' := by
  have cx := fun W (_ : Below w.heap.size w W) => ex14_any W
  have CX := Lib.hid cx
  clear cx
  have HB : Hid (Below w.heap.size w (w.alloc (.cells #[.bool a1, .string b1] 23))) := (Below.refl _ _).alloc (Nat.le_refl _) _
  have Z0 : Hid ((w.alloc (.cells #[.bool a1, .string b1] 23)).heap[w.heap.size]? = some (.cells #[.bool a1, .string b1] 23 (0, 0))) := heap_alloc_new w _
  by_cases h0 : (1000 : Int) < (a0.size : Int)
  · go_enter Try.func5, Try.ntmps5
    obtain ⟨x0, x1⟩ := zero_two Z0.out
    go_wp2_with fail
    refine (CX.out _ HB.out).mono ?_
    rintro e w9 ⟨rfl, hb9⟩
    go_wp2_with fail
    go_ret
    exact ⟨rfl, below_then HB.out hb9⟩
  · by_cases h1 : (1000 : Int) < (b1.size : Int)
    · go_enter Try.func5, Try.ntmps5
      obtain ⟨x0, x1⟩ := zero_two Z0.out
      go_wp2_with fail
      refine (CX.out _ HB.out).mono ?_
      rintro e w9 ⟨rfl, hb9⟩
      go_wp2_with fail
      go_ret
      exact ⟨rfl, below_then HB.out hb9⟩
    · cases ht : tgB a0 with
      | false =>
        have k1 := fun W => etP_any a0 W (by omega)
        rw [(tg_no ht).2, ht] at k1
        have K1 := Lib.hid (fun W (_ : Below w.heap.size w W) => k1 W)
        clear k1 ht
        unfold tgV at *
        go_enter Try.func5, Try.ntmps5
        obtain ⟨x0, x1⟩ := zero_two Z0.out
        go_wp2_with fail
        refine (K1.out _ HB.out).mono ?_
        rintro e w1 ⟨rfl, hb⟩
        have hbb := below_then HB.out hb

        have HB := Lib.hid (hbb.alloc hbb.size (.cells #[.bool false, .string ⟨#[]⟩] 23))
        obtain ⟨q0, q1⟩ := zero_two (heap_alloc_new w1 (.cells #[.bool false, .string ⟨#[]⟩] 23))
        clear hb hbb x0 x1
        go_wp2_with fail
        refine (CX.out _ HB.out).mono ?_
        rintro e w9 ⟨rfl, hb9⟩
        go_wp2_with fail
        go_ret
        exact ⟨rfl, below_then HB.out hb9⟩
      | true =>
        have k1 := fun W => etP_any a0 W (by omega)
        rw [ht] at k1
        have K1 := Lib.hid (fun W (_ : Below w.heap.size w W) => k1 W)
        have hl := tgO_le a0
        have k2 := fun W => etS_any (tgO a0) (by omega) W
        rw [tg_text ht] at k2
        have K2 := Lib.hid (fun W (_ : Below w.heap.size w W) => k2 W)
        have k3 := fun W => etW_any (tgO a0) (tgO a0) W
        rw [wek_refl] at k3
        have K3 := Lib.hid (fun W (_ : Below w.heap.size w W) => k3 W)
        have K4 := Lib.hid (fun W (_ : Below w.heap.size w W) => etW_any (tgO a0) (a1, b1) W)
        have k5 := fun W => etW_any (a1, b1) (tgO a0) W
        rw [wek_symm] at k5
        have K5 := Lib.hid (fun W (_ : Below w.heap.size w W) => k5 W)
        have k6 := fun W => etT_any (tgO a0) (tgO a0) W
        rw [str_self] at k6
        have K6 := Lib.hid (fun W (_ : Below w.heap.size w W) => k6 W)
        have K7 := Lib.hid (fun W (_ : Below w.heap.size w W) => etT_any (tgO a0) (a1, b1) W)
        have k8 := fun W => etM_any a0 (tgO a0) W (by omega)
        rw [match_self ht] at k8
        have K8 := Lib.hid (fun W (_ : Below w.heap.size w W) => k8 W)
        have hsw := str_wek (tgO a0) (a1, b1)
        clear k1 k2 k3 k5 k6 k8 ht hl
        unfold tgV at *
        generalize wekB (tgO a0) (a1, b1) = wab at *
        generalize strB (tgO a0) (a1, b1) = sab at *
        generalize tgO a0 = X at *
        obtain ⟨xa, xb⟩ := X
        simp only at *
        have e1 : (a0.toList == a0.toList) = true := by simp
        have e2 : ((!xa) == !xa) = true := by simp
        have e3 : (wab == wab) = true := by simp
        cases wab with
        | true =>
          go_enter Try.func5, Try.ntmps5
          obtain ⟨x0, x1⟩ := zero_two Z0.out
          go_wp2_with fail
          refine (K1.out _ HB.out).mono ?_
          rintro e w1 ⟨rfl, hb⟩
          have hbb := below_then HB.out hb
          have HB := Lib.hid (hbb.alloc hbb.size (.cells #[.bool xa, .string xb] 23))
          have Z0 := Lib.hid (zero_more (o' := .cells #[.bool xa, .string xb] 23) (zero_still hb Z0.out))
          have z1 := heap_alloc_new w1 (.cells #[.bool xa, .string xb] 23)
          obtain ⟨g1, hg1⟩ : ∃ g, w1.heap.size = g := ⟨_, rfl⟩
          rw [hg1] at z1
          have Z1 := Lib.hid z1
          clear hb hbb z1 x0 x1
          obtain ⟨W3, hW3⟩ : ∃ W, w1.alloc (.cells #[.bool xa, .string xb] 23) = W := ⟨_, rfl⟩
          rw [hW3] at HB Z0 Z1
          have Z0 : Hid (W3.drew.heap[w.heap.size]? = some (.cells #[.bool a1, .string b1] 23 (0, 0))) := Z0.out
          have Z1 : Hid (W3.drew.heap[g1]? = some (.cells #[.bool xa, .string xb] 23 (0, 0))) := Z1.out
          have HB := Lib.hid HB.out.drew
          go_wp2_with fail
          refine wp_region_held_drew (S := fun W => W.cell? ⟨w.heap.size, 0, none⟩ = some (.bool a1) ∧ W.cell? ⟨w.heap.size, 1, none⟩ = some (.string b1) ∧ W.cell? ⟨g1, 0, none⟩ = some (.bool xa) ∧ W.cell? ⟨g1, 1, none⟩ = some (.string xb)) (by kernel_rfl) (⟨(zero_two Z0.out).1, (zero_two Z0.out).2, (zero_two Z1.out).1, (zero_two Z1.out).2⟩) (fun hHeld => ?_)
          refine takeY (i := 0) (v := ?_) rfl rfl (by kernel_rfl) (by kernel_rfl) (by kernel_rfl) (by rfl) (fun _ _ _ h => h) ?y1 (by assumption) ?r1
          case y1 => (intro w hSw; (try dsimp only at hSw); go_simp; try with_reducible rfl)
          try simp only [Act.put, List.setIfInBounds_toArray, List.set_cons_zero, List.set_cons_succ]
          refine takeY (i := 2) (v := ?_) rfl rfl (by kernel_rfl) (by kernel_rfl) (by kernel_rfl) (by rfl) (fun _ _ _ h => h) ?y2 (by assumption) ?r2
          case y2 => (intro w hSw; (try dsimp only at hSw); go_simp; try with_reducible rfl)
          try simp only [Act.put, List.setIfInBounds_toArray, List.set_cons_zero, List.set_cons_succ]
          refine wpAnyH_ready (rs := [1]) (by kernel_rfl) (by simp) (AllReadyH.cons rfl (fun K hK => ?_) AllReadyH.nil)
          go_simp
          go_at_call 15
          refine (K2.out _ HB.out).mono ?_
          rintro e w5 ⟨rfl, hb⟩
          have Z0 := Lib.hid (zero_still hb Z0.out)
          have Z1 := Lib.hid (zero_still hb Z1.out)
          have HB := Lib.hid (below_then HB.out hb)
          clear hb
          go_wp2_with fail
          refine hK.out _ _ (⟨(zero_two Z0.out).1, (zero_two Z0.out).2, (zero_two Z1.out).1, (zero_two Z1.out).2⟩) (fun hHeld => ?_)
          clear hK
          try simp only [Act.put, List.setIfInBounds_toArray, List.set_cons_zero, List.set_cons_succ]
          refine takeY (i := 3) (v := ?_) rfl rfl (by kernel_rfl) (by kernel_rfl) (by kernel_rfl) (by rfl) (fun _ _ _ h => h) ?y3 (by assumption) ?r3
          case y3 => (intro w hSw; (try dsimp only at hSw); go_simp; try with_reducible rfl)
          try simp only [Act.put, List.setIfInBounds_toArray, List.set_cons_zero, List.set_cons_succ]
          refine takeY (i := 4) (v := ?_) rfl rfl (by kernel_rfl) (by kernel_rfl) (by kernel_rfl) (by rfl) (fun _ _ _ h => h) ?y4 (by assumption) ?r4
          case y4 => (intro w hSw; (try dsimp only at hSw); go_simp; try with_reducible rfl)
          try simp only [Act.put, List.setIfInBounds_toArray, List.set_cons_zero, List.set_cons_succ]
          refine takeY (i := 5) (v := ?_) rfl rfl (by kernel_rfl) (by kernel_rfl) (by kernel_rfl) (by rfl) (fun _ _ _ h => h) ?y5 (by assumption) ?r5
          case y5 => (intro w hSw; (try dsimp only at hSw); go_simp; try with_reducible rfl)
          try simp only [Act.put, List.setIfInBounds_toArray, List.set_cons_zero, List.set_cons_succ]
          refine takeY (i := 6) (v := ?_) rfl rfl (by kernel_rfl) (by kernel_rfl) (by kernel_rfl) (by rfl) (fun _ _ _ h => h) ?y6 (by assumption) ?r6
          case y6 => (intro w hSw; (try dsimp only at hSw); go_simp; try with_reducible rfl)
          try simp only [Act.put, List.setIfInBounds_toArray, List.set_cons_zero, List.set_cons_succ]
          refine wpAnyH_ready (rs := [7]) (by kernel_rfl) (by simp) (AllReadyH.cons rfl (fun K hK => ?_) AllReadyH.nil)
          go_simp
          go_at_call 19
          refine (K3.out _ HB.out).mono ?_
          rintro e w5 ⟨rfl, hb⟩
          have Z0 := Lib.hid (zero_still hb Z0.out)
          have Z1 := Lib.hid (zero_still hb Z1.out)
          have HB := Lib.hid (below_then HB.out hb)
          clear hb
          go_wp2_with fail
          refine hK.out _ _ (⟨(zero_two Z0.out).1, (zero_two Z0.out).2, (zero_two Z1.out).1, (zero_two Z1.out).2⟩) (fun hHeld => ?_)
          clear hK
          try simp only [Act.put, List.setIfInBounds_toArray, List.set_cons_zero, List.set_cons_succ]
          refine takeY (i := 8) (v := ?_) rfl rfl (by kernel_rfl) (by kernel_rfl) (by kernel_rfl) (by rfl) (fun _ _ _ h => h) ?y7 (by assumption) ?r7
          case y7 => (intro w hSw; (try dsimp only at hSw); go_simp; try with_reducible rfl)
          try simp only [Act.put, List.setIfInBounds_toArray, List.set_cons_zero, List.set_cons_succ]
          refine takeY (i := 9) (v := ?_) rfl rfl (by kernel_rfl) (by kernel_rfl) (by kernel_rfl) (by rfl) (fun _ _ _ h => h) ?y8 (by assumption) ?r8
          case y8 => (intro w hSw; (try dsimp only at hSw); go_simp; try with_reducible rfl)
          try simp only [Act.put, List.setIfInBounds_toArray, List.set_cons_zero, List.set_cons_succ]
          refine takeY (i := 10) (v := ?_) rfl rfl (by kernel_rfl) (by kernel_rfl) (by kernel_rfl) (by rfl) (fun _ _ _ h => h) ?y9 (by assumption) ?r9
          case y9 => (intro w hSw; (try dsimp only at hSw); go_simp; try with_reducible rfl)
          try simp only [Act.put, List.setIfInBounds_toArray, List.set_cons_zero, List.set_cons_succ]
          refine takeY (i := 11) (v := ?_) rfl rfl (by kernel_rfl) (by kernel_rfl) (by kernel_rfl) (by rfl) (fun _ _ _ h => h) ?y10 (by assumption) ?r10
          case y10 => (intro w hSw; (try dsimp only at hSw); go_simp; try with_reducible rfl)
          try simp only [Act.put, List.setIfInBounds_toArray, List.set_cons_zero, List.set_cons_succ]
          refine takeY (i := 13) (v := ?_) rfl rfl (by kernel_rfl) (by kernel_rfl) (by kernel_rfl) (by rfl) (fun _ _ _ h => h) ?y11 (by assumption) ?r11
          case y11 => (intro w hSw; (try dsimp only at hSw); go_simp; try with_reducible rfl)
          try simp only [Act.put, List.setIfInBounds_toArray, List.set_cons_zero, List.set_cons_succ]
          refine takeY (i := 14) (v := ?_) rfl rfl (by kernel_rfl) (by kernel_rfl) (by kernel_rfl) (by rfl) (fun _ _ _ h => h) ?y12 (by assumption) ?r12
          case y12 => (intro w hSw; (try dsimp only at hSw); go_simp; try with_reducible rfl)
          try simp only [Act.put, List.setIfInBounds_toArray, List.set_cons_zero, List.set_cons_succ]
          refine takeY (i := 15) (v := ?_) rfl rfl (by kernel_rfl) (by kernel_rfl) (by kernel_rfl) (by rfl) (fun _ _ _ h => h) ?y13 (by assumption) ?r13
          case y13 => (intro w hSw; (try dsimp only at hSw); go_simp; try with_reducible rfl)
          try simp only [Act.put, List.setIfInBounds_toArray, List.set_cons_zero, List.set_cons_succ]
          refine wpAnyH_ready (rs := [12]) (by kernel_rfl) (by simp) (AllReadyH.cons rfl (fun K hK => ?_) AllReadyH.nil)
          go_simp
          go_at_call 17
          refine (K6.out _ HB.out).mono ?_
          rintro e w5 ⟨rfl, hb⟩
          have Z0 := Lib.hid (zero_still hb Z0.out)
          have Z1 := Lib.hid (zero_still hb Z1.out)
          have HB := Lib.hid (below_then HB.out hb)
          clear hb
          go_wp2_with fail
          refine hK.out _ _ (⟨(zero_two Z0.out).1, (zero_two Z0.out).2, (zero_two Z1.out).1, (zero_two Z1.out).2⟩) (fun hHeld => ?_)
          clear hK
          try simp only [Act.put, List.setIfInBounds_toArray, List.set_cons_zero, List.set_cons_succ]
          refine takeY (i := 16) (v := ?_) rfl rfl (by kernel_rfl) (by kernel_rfl) (by kernel_rfl) (by rfl) (fun _ _ _ h => h) ?y14 (by assumption) ?r14
          case y14 => (intro w hSw; (try dsimp only at hSw); go_simp; try with_reducible rfl)
          try simp only [Act.put, List.setIfInBounds_toArray, List.set_cons_zero, List.set_cons_succ]
          refine takeY (i := 17) (v := ?_) rfl rfl (by kernel_rfl) (by kernel_rfl) (by kernel_rfl) (by rfl) (fun _ _ _ h => h) ?y15 (by assumption) ?r15
          case y15 => (intro w hSw; (try dsimp only at hSw); go_simp; try with_reducible rfl)
          try simp only [Act.put, List.setIfInBounds_toArray, List.set_cons_zero, List.set_cons_succ]
          refine takeY (i := 18) (v := ?_) rfl rfl (by kernel_rfl) (by kernel_rfl) (by kernel_rfl) (by rfl) (fun _ _ _ h => h) ?y16 (by assumption) ?r16
          case y16 => (intro w hSw; (try dsimp only at hSw); go_simp; try with_reducible rfl)
          try simp only [Act.put, List.setIfInBounds_toArray, List.set_cons_zero, List.set_cons_succ]
          refine takeY (i := 19) (v := ?_) rfl rfl (by kernel_rfl) (by kernel_rfl) (by kernel_rfl) (by rfl) (fun _ _ _ h => h) ?y17 (by assumption) ?r17
          case y17 => (intro w hSw; (try dsimp only at hSw); go_simp; try with_reducible rfl)
          try simp only [Act.put, List.setIfInBounds_toArray, List.set_cons_zero, List.set_cons_succ]
          refine takeY (i := 20) (v := ?_) rfl rfl (by kernel_rfl) (by kernel_rfl) (by kernel_rfl) (by rfl) (fun _ _ _ h => h) ?y18 (by assumption) ?r18
          case y18 => (intro w hSw; (try dsimp only at hSw); go_simp; try with_reducible rfl)
          try simp only [Act.put, List.setIfInBounds_toArray, List.set_cons_zero, List.set_cons_succ]
          refine wpAnyH_ready (rs := [21]) (by kernel_rfl) (by simp) (AllReadyH.cons rfl (fun K hK => ?_) AllReadyH.nil)
          go_simp
          go_at_call 19
          refine (K4.out _ HB.out).mono ?_
          rintro e w5 ⟨rfl, hb⟩
          have Z0 := Lib.hid (zero_still hb Z0.out)
          have Z1 := Lib.hid (zero_still hb Z1.out)
          have HB := Lib.hid (below_then HB.out hb)
          clear hb
          go_wp2_with fail
          refine hK.out _ _ (⟨(zero_two Z0.out).1, (zero_two Z0.out).2, (zero_two Z1.out).1, (zero_two Z1.out).2⟩) (fun hHeld => ?_)
          clear hK
          try simp only [Act.put, List.setIfInBounds_toArray, List.set_cons_zero, List.set_cons_succ]
          refine takeY (i := 22) (v := ?_) rfl rfl (by kernel_rfl) (by kernel_rfl) (by kernel_rfl) (by rfl) (fun _ _ _ h => h) ?y19 (by assumption) ?r19
          case y19 => (intro w hSw; (try dsimp only at hSw); go_simp; try with_reducible rfl)
          try simp only [Act.put, List.setIfInBounds_toArray, List.set_cons_zero, List.set_cons_succ]
          refine takeN (i := 23) rfl rfl (by kernel_rfl) (by kernel_rfl) (by kernel_rfl) (by rfl) (fun _ _ _ h => h) (by assumption) ?_
          try simp only [Act.put, List.setIfInBounds_toArray, List.set_cons_zero, List.set_cons_succ]
          refine takeN (i := 24) rfl rfl (by kernel_rfl) (by kernel_rfl) (by kernel_rfl) (by rfl) (fun _ _ _ h => h) (by assumption) ?_
          try simp only [Act.put, List.setIfInBounds_toArray, List.set_cons_zero, List.set_cons_succ]
          refine takeN (i := 25) rfl rfl (by kernel_rfl) (by kernel_rfl) (by kernel_rfl) (by rfl) (fun _ _ _ h => h) (by assumption) ?_
          try simp only [Act.put, List.setIfInBounds_toArray, List.set_cons_zero, List.set_cons_succ]
          refine takeN (i := 26) rfl rfl (by kernel_rfl) (by kernel_rfl) (by kernel_rfl) (by rfl) (fun _ _ _ h => h) (by assumption) ?_
          try simp only [Act.put, List.setIfInBounds_toArray, List.set_cons_zero, List.set_cons_succ]
          refine takeY (i := 27) (v := ?_) rfl rfl (by kernel_rfl) (by kernel_rfl) (by kernel_rfl) (by rfl) (fun _ _ _ h => h) ?y20 (by assumption) ?r20
          case y20 => (intro w hSw; (try dsimp only at hSw); go_simp; try with_reducible rfl)
          try simp only [Act.put, List.setIfInBounds_toArray, List.set_cons_zero, List.set_cons_succ]
          refine takeY (i := 28) (v := ?_) rfl rfl (by kernel_rfl) (by kernel_rfl) (by kernel_rfl) (by rfl) (fun _ _ _ h => h) ?y21 (by assumption) ?r21
          case y21 => (intro w hSw; (try dsimp only at hSw); go_simp; try with_reducible rfl)
          try simp only [Act.put, List.setIfInBounds_toArray, List.set_cons_zero, List.set_cons_succ]
          refine takeY (i := 29) (v := ?_) rfl rfl (by kernel_rfl) (by kernel_rfl) (by kernel_rfl) (by rfl) (fun _ _ _ h => h) ?y22 (by assumption) ?r22
          case y22 => (intro w hSw; (try dsimp only at hSw); go_simp; try with_reducible rfl)
          try simp only [Act.put, List.setIfInBounds_toArray, List.set_cons_zero, List.set_cons_succ]
          refine takeY (i := 30) (v := ?_) rfl rfl (by kernel_rfl) (by kernel_rfl) (by kernel_rfl) (by rfl) (fun _ _ _ h => h) ?y23 (by assumption) ?r23
          case y23 => (intro w hSw; (try dsimp only at hSw); go_simp; try with_reducible rfl)
          try simp only [Act.put, List.setIfInBounds_toArray, List.set_cons_zero, List.set_cons_succ]
          refine takeY (i := 31) (v := ?_) rfl rfl (by kernel_rfl) (by kernel_rfl) (by kernel_rfl) (by rfl) (fun _ _ _ h => h) ?y24 (by assumption) ?r24
          case y24 => (intro w hSw; (try dsimp only at hSw); go_simp; try with_reducible rfl)
          try simp only [Act.put, List.setIfInBounds_toArray, List.set_cons_zero, List.set_cons_succ]
          refine takeY (i := 33) (v := ?_) rfl rfl (by kernel_rfl) (by kernel_rfl) (by kernel_rfl) (by rfl) (fun _ _ _ h => h) ?y25 (by assumption) ?r25
          case y25 => (intro w hSw; (try dsimp only at hSw); go_simp; try with_reducible rfl)
          try simp only [Act.put, List.setIfInBounds_toArray, List.set_cons_zero, List.set_cons_succ]
          refine takeY (i := 34) (v := ?_) rfl rfl (by kernel_rfl) (by kernel_rfl) (by kernel_rfl) (by rfl) (fun _ _ _ h => h) ?y26 (by assumption) ?r26
          case y26 => (intro w hSw; (try dsimp only at hSw); go_simp; try with_reducible rfl)
          try simp only [Act.put, List.setIfInBounds_toArray, List.set_cons_zero, List.set_cons_succ]
          refine wpAnyH_ready (rs := [32]) (by kernel_rfl) (by simp) (AllReadyH.cons rfl (fun K hK => ?_) AllReadyH.nil)
          go_simp
          go_at_call 19
          refine (K4.out _ HB.out).mono ?_
          rintro e w5 ⟨rfl, hb⟩
          have Z0 := Lib.hid (zero_still hb Z0.out)
          have Z1 := Lib.hid (zero_still hb Z1.out)
          have HB := Lib.hid (below_then HB.out hb)
          clear hb
          go_wp2_with fail
          refine hK.out _ _ (⟨(zero_two Z0.out).1, (zero_two Z0.out).2, (zero_two Z1.out).1, (zero_two Z1.out).2⟩) (fun hHeld => ?_)
          clear hK
          try simp only [Act.put, List.setIfInBounds_toArray, List.set_cons_zero, List.set_cons_succ]
          refine wpAnyH_ready (rs := [35]) (by kernel_rfl) (by simp) (AllReadyH.cons rfl (fun K hK => ?_) AllReadyH.nil)
          go_simp
          go_at_call 19
          refine (K5.out _ HB.out).mono ?_
          rintro e w5 ⟨rfl, hb⟩
          have Z0 := Lib.hid (zero_still hb Z0.out)
          have Z1 := Lib.hid (zero_still hb Z1.out)
          have HB := Lib.hid (below_then HB.out hb)
          clear hb
          go_wp2_with fail
          refine hK.out _ _ (⟨(zero_two Z0.out).1, (zero_two Z0.out).2, (zero_two Z1.out).1, (zero_two Z1.out).2⟩) (fun hHeld => ?_)
          clear hK
          try simp only [Act.put, List.setIfInBounds_toArray, List.set_cons_zero, List.set_cons_succ]
          refine takeY (i := 36) (v := ?_) rfl rfl (by kernel_rfl) (by kernel_rfl) (by kernel_rfl) (by rfl) (fun _ _ _ h => h) ?y27 (by assumption) ?r27
          case y27 => (intro w hSw; (try dsimp only at hSw); go_simp; try with_reducible rfl)
          try simp only [Act.put, List.setIfInBounds_toArray, List.set_cons_zero, List.set_cons_succ]
          refine takeY (i := 37) (v := ?_) rfl rfl (by kernel_rfl) (by kernel_rfl) (by kernel_rfl) (by rfl) (fun _ _ _ h => h) ?y28 (by assumption) ?r28
          case y28 => (intro w hSw; (try dsimp only at hSw); go_simp; try with_reducible rfl)
          try simp only [Act.put, List.setIfInBounds_toArray, List.set_cons_zero, List.set_cons_succ]
          refine takeY (i := 38) (v := ?_) rfl rfl (by kernel_rfl) (by kernel_rfl) (by kernel_rfl) (by rfl) (fun _ _ _ h => h) ?y29 (by assumption) ?r29
          case y29 => (intro w hSw; (try dsimp only at hSw); go_simp; try with_reducible rfl)
          try simp only [Act.put, List.setIfInBounds_toArray, List.set_cons_zero, List.set_cons_succ]
          refine takeY (i := 39) (v := ?_) rfl rfl (by kernel_rfl) (by kernel_rfl) (by kernel_rfl) (by rfl) (fun _ _ _ h => h) ?y30 (by assumption) ?r30
          case y30 => (intro w hSw; (try dsimp only at hSw); go_simp; try with_reducible rfl)
          try simp only [Act.put, List.setIfInBounds_toArray, List.set_cons_zero, List.set_cons_succ]
          refine takeY (i := 40) (v := ?_) rfl rfl (by kernel_rfl) (by kernel_rfl) (by kernel_rfl) (by rfl) (fun _ _ _ h => h) ?y31 (by assumption) ?r31
          case y31 => (intro w hSw; (try dsimp only at hSw); go_simp; try with_reducible rfl)
          try simp only [Act.put, List.setIfInBounds_toArray, List.set_cons_zero, List.set_cons_succ]
          refine wpAnyH_ready (rs := [41]) (by kernel_rfl) (by simp) (AllReadyH.cons rfl (fun K hK => ?_) AllReadyH.nil)
          go_simp
          go_at_call 13
          refine (K8.out _ HB.out).mono ?_
          rintro e w5 ⟨rfl, hb⟩
          have Z0 := Lib.hid (zero_still hb Z0.out)
          have Z1 := Lib.hid (zero_still hb Z1.out)
          have HB := Lib.hid (below_then HB.out hb)
          clear hb
          go_wp2_with fail
          refine hK.out _ _ (⟨(zero_two Z0.out).1, (zero_two Z0.out).2, (zero_two Z1.out).1, (zero_two Z1.out).2⟩) (fun hHeld => ?_)
          clear hK
          try simp only [Act.put, List.setIfInBounds_toArray, List.set_cons_zero, List.set_cons_succ]
          refine takeY (i := 42) (v := ?_) rfl rfl (by kernel_rfl) (by kernel_rfl) (by kernel_rfl) (by rfl) (fun _ _ _ h => h) ?y32 (by assumption) ?r32
          case y32 => (intro w hSw; (try dsimp only at hSw); go_simp; try with_reducible rfl)
          try simp only [Act.put, List.setIfInBounds_toArray, List.set_cons_zero, List.set_cons_succ]
          refine takeY (i := 43) (v := ?_) rfl rfl (by kernel_rfl) (by kernel_rfl) (by kernel_rfl) (by rfl) (fun _ _ _ h => h) ?y33 (by assumption) ?r33
          case y33 => (intro w hSw; (try dsimp only at hSw); go_simp; try with_reducible rfl)
          try simp only [Act.put, List.setIfInBounds_toArray, List.set_cons_zero, List.set_cons_succ]
          refine wpAnyH_ready (rs := [44]) (by kernel_rfl) (by simp) (AllReadyH.cons rfl (fun K hK => ?_) AllReadyH.nil)
          go_simp
          go_at_call 7
          refine (CX.out _ HB.out).mono ?_
          rintro e w5 ⟨rfl, hb⟩
          have Z0 := Lib.hid (zero_still hb Z0.out)
          have Z1 := Lib.hid (zero_still hb Z1.out)
          have HB := Lib.hid (below_then HB.out hb)
          clear hb
          go_wp2_with fail
          refine hK.out _ _ (⟨(zero_two Z0.out).1, (zero_two Z0.out).2, (zero_two Z1.out).1, (zero_two Z1.out).2⟩) (fun hHeld => ?_)
          clear hK
          try simp only [Act.put, List.setIfInBounds_toArray, List.set_cons_zero, List.set_cons_succ]
          refine takeY (i := 45) (v := ?_) rfl rfl (by kernel_rfl) (by kernel_rfl) (by kernel_rfl) (by rfl) (fun _ _ _ h => h) ?y34 (by assumption) ?r34
          case y34 => (intro w hSw; (try dsimp only at hSw); go_simp; try with_reducible rfl)
          try simp only [Act.put, List.setIfInBounds_toArray, List.set_cons_zero, List.set_cons_succ]
          refine takeY (i := 46) (v := ?_) rfl rfl (by kernel_rfl) (by kernel_rfl) (by kernel_rfl) (by rfl) (fun _ _ _ h => h) ?y35 (by assumption) ?r35
          case y35 => (intro w hSw; (try dsimp only at hSw); go_simp; try with_reducible rfl)
          try simp only [Act.put, List.setIfInBounds_toArray, List.set_cons_zero, List.set_cons_succ]
          refine wpAnyH_done (by kernel_rfl) ?_ _
          go_wp2_with fail
          go_ret
          exact ⟨rfl, HB.out⟩
        | false =>
          obtain rfl : sab = false := hsw.resolve_left (by decide)
          go_enter Try.func5, Try.ntmps5
          obtain ⟨x0, x1⟩ := zero_two Z0.out
          go_wp2_with fail
          refine (K1.out _ HB.out).mono ?_
          rintro e w1 ⟨rfl, hb⟩
          have hbb := below_then HB.out hb
          have HB := Lib.hid (hbb.alloc hbb.size (.cells #[.bool xa, .string xb] 23))
          have Z0 := Lib.hid (zero_more (o' := .cells #[.bool xa, .string xb] 23) (zero_still hb Z0.out))
          have z1 := heap_alloc_new w1 (.cells #[.bool xa, .string xb] 23)
          obtain ⟨g1, hg1⟩ : ∃ g, w1.heap.size = g := ⟨_, rfl⟩
          rw [hg1] at z1
          have Z1 := Lib.hid z1
          clear hb hbb z1 x0 x1
          obtain ⟨W3, hW3⟩ : ∃ W, w1.alloc (.cells #[.bool xa, .string xb] 23) = W := ⟨_, rfl⟩
          rw [hW3] at HB Z0 Z1
          have Z0 : Hid (W3.drew.heap[w.heap.size]? = some (.cells #[.bool a1, .string b1] 23 (0, 0))) := Z0.out
          have Z1 : Hid (W3.drew.heap[g1]? = some (.cells #[.bool xa, .string xb] 23 (0, 0))) := Z1.out
          have HB := Lib.hid HB.out.drew
          go_wp2_with fail
          go_region_held3 (fun W => W.cell? ⟨w.heap.size, 0, none⟩ = some (.bool a1) ∧ W.cell? ⟨w.heap.size, 1, none⟩ = some (.string b1) ∧ W.cell? ⟨g1, 0, none⟩ = some (.bool xa) ∧ W.cell? ⟨g1, 1, none⟩ = some (.string xb)) (exact ⟨(zero_two Z0.out).1, (zero_two Z0.out).2, (zero_two Z1.out).1, (zero_two Z1.out).2⟩) (first
            | (go_at_call 15; refine (K2.out _ HB.out).mono ?_; rintro e w5 ⟨rfl, hb⟩; have Z0 := Lib.hid (zero_still hb Z0.out); have Z1 := Lib.hid (zero_still hb Z1.out); have HB := Lib.hid (below_then HB.out hb); clear hb)
            | (go_at_call 19; (first | (with_reducible refine (K3.out _ HB.out).mono ?_) | (with_reducible refine (K4.out _ HB.out).mono ?_) | (with_reducible refine (K5.out _ HB.out).mono ?_)); rintro e w5 ⟨rfl, hb⟩; have Z0 := Lib.hid (zero_still hb Z0.out); have Z1 := Lib.hid (zero_still hb Z1.out); have HB := Lib.hid (below_then HB.out hb); clear hb)
            | (go_at_call 17; (first | (with_reducible refine (K6.out _ HB.out).mono ?_) | (with_reducible refine (K7.out _ HB.out).mono ?_)); rintro e w5 ⟨rfl, hb⟩; have Z0 := Lib.hid (zero_still hb Z0.out); have Z1 := Lib.hid (zero_still hb Z1.out); have HB := Lib.hid (below_then HB.out hb); clear hb)
            | (go_at_call 13; refine (K8.out _ HB.out).mono ?_; rintro e w5 ⟨rfl, hb⟩; have Z0 := Lib.hid (zero_still hb Z0.out); have Z1 := Lib.hid (zero_still hb Z1.out); have HB := Lib.hid (below_then HB.out hb); clear hb)
            | (go_at_call 7; refine (CX.out _ HB.out).mono ?_; rintro e w5 ⟨rfl, hb⟩; have Z0 := Lib.hid (zero_still hb Z0.out); have Z1 := Lib.hid (zero_still hb Z1.out); have HB := Lib.hid (below_then HB.out hb); clear hb))
          all_goals
            go_wp2_with fail
            go_ret
            exact ⟨rfl, HB.out⟩

set_option maxRecDepth 100000 in
theorem lifted (os : Os) (started : os.Started) (H : Type) (enc : TypeId × Value → H) :
    ReturnsInHanded {} Try.checked os 5 .any (Rows.etagBackSpec.pre6 enc Try.prog Try.f5 Rows.etagBackRow.domain false) (Rows.etagBackSpec.post enc Try.prog Try.f5 false true false false) := by
  refine returnsInHanded_of_change (C := Try.checked) own started (by kernel_rfl) Try.func5
    (ChangeSpec.witness6 (enc := enc) (C := Try.checked) false ⟨#[], #[.string ByteArray.empty, .agg #[.bool false, .string ByteArray.empty]], []⟩ 8 (by kernel_rfl) (by kernel_rfl) (by kernel_rfl) (by kernel_rfl)) ?_
  intro W base args ds gs before hval0 hW hcnd _
  have hval : ∀ (j : Nat) t v, Try.f5.params[j]? = some t → args[j]? = some v → Value.okWide Try.prog W .any base t v := hval0
  have hW' := hW
  obtain ⟨p, q, hA0, hV, rfl, hfz, hnd⟩ := hW
  have hA : DataW.TrodAll enc Try.prog W 0 (fun _ => true) true Try.f5.params.toList args.toList ds p := hA0
  rw [Try.params5] at hA hval
  obtain ⟨v0, vs0, d0, ds0, p0, q0, hargs, rfl, rfl, h0, r0⟩ := trodAll_cons hA
  obtain ⟨v1, vs1, d1, ds1, p1, q1, rfl, rfl, rfl, h1, r1⟩ := trodAll_cons r0
  obtain ⟨rfl, rfl, rfl⟩ := trodAll_nil r1
  obtain rfl : args = #[v0, v1] := by cases args; simp_all
  obtain ⟨rfl, rfl⟩ := trodVars_none hV
  obtain ⟨a0, rfl, rfl, rfl, w0⟩ := open_string Try.underlying9 (hval 0 9 v0 rfl rfl) h0
  obtain ⟨f0, f1, y0, y1, m, rfl, rfl, rfl, hy0, hy1⟩ := Go.Joins.open_agg2 Try.underlying23 (by kernel_rfl) (by kernel_rfl) (hval 1 23 v1 rfl rfl) h1
  obtain ⟨a1, e0, rfl⟩ := DataW.trod_bool Try.underlying4 hy0
  obtain ⟨b1, e1, rfl, w1⟩ := DataW.trod_string Try.underlying9 hy1
  simp at e0 e1
  subst e0 e1
  clear hA0 hval0
  refine (walk a0 a1 b1 W w0 w1).mono fun e W' ⟨he, bel⟩ => ?_
  subst he
  exact ⟨_, rfl, _, _, _, [], _, [], hW', trodAll_mk1 (shut_bool Try.underlying4 _), (trodAll_cons_mk (shut_string Try.underlying9 w0) (trodAll_cons_mk (Go.Joins.shut_agg2 Try.underlying23 (by kernel_rfl) (by kernel_rfl) (Go.Joins.field_of_Trod (shut_bool Try.underlying4 _) rfl) (Go.Joins.field_of_Trod (shut_string Try.underlying9 w1) rfl)) trodAll_mk0)), rfl, bel.frame _, fun h => by cases h⟩

theorem over : Rows.etagBackRow.holds Try.pinned (OpenSpec.ofChange Rows.etagBackSpec) :=
  OpenClaim.holds_of_wide 5 Try.f5 rfl rfl rfl rfl rfl rfl rfl ⟨rfl, rfl, rfl, rfl, rfl⟩ rfl rfl rfl rfl rfl (by kernel_rfl) Try.func5 (by kernel_rfl)
    (of_decide_eq_true (by kernel_rfl)) (by unfold Func.isWrapper; first | (rw [if_pos (by decide +kernel)]; kernel_rfl) | (rw [if_neg (by decide +kernel)]; exact ⟨rfl, rfl⟩))
    (fun os started H enc _ => lifted os started H enc)

theorem proved : Rows.EtagBackSaid := over
#print axioms proved
end Go.Proofs.Ytdaoliobmgcmoaa.etagBack
