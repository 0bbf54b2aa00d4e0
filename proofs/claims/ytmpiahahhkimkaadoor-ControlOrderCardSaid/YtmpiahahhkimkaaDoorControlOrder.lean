/-
  The law ControlOrder (depotlaw13) returns true for every text and leaves what it was given as it was. No condition.
-/
import Derived.Test.YtmpiahahhkimkaaDoorRows
import Derived.WalkKit
import Derived.ProofKit
import Derived.OpenShut
import Derived.ShutString
import Derived.Test.YtmpiahahhkimkaaDoorMrgA
import Derived.Test.YtmpiahahhkimkaaDoorMrgB
import Derived.Test.YtmpiahahhkimkaaDoorMrgC
import Derived.Test.YtmpiahahhkimkaaDoorMrgD
import Derived.Test.YtmpiahahhkimkaaDoorMrgE
import Derived.Test.YtmpiahahhkimkaaDoorMrgF
import Derived.Test.YtmpiahahhkimkaaDoorMrgG
import Derived.Test.YtmpiahahhkimkaaDoorMrgH
import Derived.Test.YtmpiahahhkimkaaDoorMrgI
import Derived.Test.YtmpiahahhkimkaaDoorMrgJ
import Derived.Test.YtmpiahahhkimkaaDoorMrgK
import Derived.Test.YtmpiahahhkimkaaDoorMrgL
import Derived.Test.YtmpiahahhkimkaaDoorMrgM
import Derived.Test.YtmpiahahhkimkaaDoorMrgN
import Derived.Test.YtmpiahahhkimkaaDoorMrgO
import Derived.Test.YtmpiahahhkimkaaDoorMrgP
import Derived.Test.YtmpiahahhkimkaaDoorMrgQ
import Derived.Test.YtmpiahahhkimkaaDoorMrgR
import Derived.Test.YtmpiahahhkimkaaDoorMrgS
import Derived.Test.YtmpiahahhkimkaaDoorMrgT
import Derived.Test.YtmpiahahhkimkaaDoorMrgU
import Derived.Test.YtmpiahahhkimkaaDoorMrgV
import Derived.Deep.RegionHeld3
import Derived.Below
import Derived.ChangeOld
import Derived.Test.YtmpiahahhkimkaaDoorCards
import Derived.Test.YtmpiahahhkimkaaDoorTie
import Derived.LaidMore
import Derived.Lib.LaidTab
import Derived.Stop.Joined
import Derived.Lay
namespace Go.Proofs.YtmpiahahhkimkaaDoor.controlOrder
open Go.ChangeShapes Go.WideShapes Go.ChangeAt Go.RowKit
open Go.ChangeMaps (open_string shut_string)
set_option linter.unusedVariables false      -- a walk need not use every 'w<i>' (that an integer argument fits its kind)

theorem own : ownKnob Tryd.prog.godebug = none := by kernel_rfl

set_option maxHeartbeats 8000000 in
set_option maxRecDepth 100000 in
theorem walk (a0 : ByteArray) (w0 : a0.size ≤ maxLen) (w : World) (hL : laidMetH Tryd.prog Rows.controlOrderRow.laid w) :
    Calls Tryd.prog 5 #[.string a0] w fun e w' => e = .returned (.bool true) ∧ Below w.heap.size w w' := by
  have HT := Lib.hid (ctlPow hL)
  have CX := Lib.hid (fun W (hW : Below w.heap.size w W) => ex13_any W (powL_kept HT.out hW))
  clear HT
  by_cases k0 : (1000 : Int) < (a0.size : Int)
  · go_enter Tryd.func5, Tryd.ntmps5
    go_wp2_with fail
    refine (CX.out _ (Below.refl _ _)).mono ?_
    rintro e w2 ⟨rfl, hb2⟩
    go_wp2_with fail
    go_ret
    exact ⟨rfl, hb2⟩
  · obtain ⟨L, hL⟩ : ∃ L, L = splO a0.data.toList := ⟨_, rfl⟩
    obtain ⟨E, hE⟩ : ∃ E, E = splE a0.data.toList := ⟨_, rfl⟩
    have hsp := split_any a0 w (by omega)
    rw [← hL, ← hE] at hsp
    have HSP := Lib.hid hsp
    have KO1 := Lib.hid (fun W => one_any a0 w0 W)
    have kp1 := fun W A (hF : SlF W A 1 1 [(ccS, a0)]) => ctlP_any A 1 1 _ W hF (by omega) (fun x hx => by rw [List.mem_singleton] at hx; subst hx; dsimp only; omega) (fun x hx => by rw [List.mem_singleton] at hx; subst hx; exact ⟨by dsimp only; decide, by dsimp only; omega⟩)
    clear hsp
    by_cases hz : E = 0
    · have hz' : (E == 0) = true := by simpa using hz
      by_cases hn : (60 : Int) < (L.length : Int)
      · clear kp1 KO1 hL hE
        go_enter Tryd.func5, Tryd.ntmps5
        go_wp2_with fail
        refine HSP.out.mono ?_
        rintro e w2 ⟨A, c, rfl, hA, hH, hb2⟩
        go_wp2_with fail
        refine (CX.out _ hb2).mono ?_
        rintro e w3 ⟨rfl, hb3⟩
        go_wp2_with fail
        go_ret
        exact ⟨rfl, below_then hb2 hb3⟩
      · obtain ⟨hsum, hgd, hlen⟩ := back_size hL.symm (by rw [← hE]; exact hz)
        have hone := ord_one hL.symm (by rw [← hE]; exact hz)
        have hback := ord_back hgd
        have heach := ord_each hgd
        obtain ⟨J, hJ⟩ : ∃ J, J = mkS (Lib.join L.reverse [44, 32]) := ⟨_, rfl⟩
        have hjl := join_sum L.reverse
        rw [sum_rev, List.length_reverse] at hjl
        have hJs : J.size ≤ 1120 := by rw [hJ, mkS_size]; omega
        have KO2 := Lib.hid (fun W => one_any J (by unfold maxLen; omega) W)
        have kp2 := fun W A (hF : SlF W A 1 1 [(ccS, J)]) => ctlP_any A 1 1 _ W hF (by omega) (fun x hx => by rw [List.mem_singleton] at hx; subst hx; dsimp only; omega) (fun x hx => by rw [List.mem_singleton] at hx; subst hx; exact ⟨by dsimp only; decide, by dsimp only; omega⟩)
        have kp3 := fun W A n c (hF : SlF W A n c (L.reverse.flatMap twoF)) (hn : n ≤ 1000) => ctlP_any A n c _ W hF hn (fun x hx => by
          obtain ⟨y, hy, hxy⟩ := List.mem_flatMap.1 hx
          have hy2 := hlen y (List.mem_reverse.1 hy)
          simp only [twoF, List.mem_cons, List.not_mem_nil, or_false] at hxy
          rcases hxy with rfl | rfl
          · dsimp only; rw [mkS_size]; omega
          · dsimp only; decide) (fun x hx => by
          obtain ⟨y, hy, hxy⟩ := List.mem_flatMap.1 hx
          have hy2 := hlen y (List.mem_reverse.1 hy)
          simp only [twoF, List.mem_cons, List.not_mem_nil, or_false] at hxy
          rcases hxy with rfl | rfl
          · exact ⟨by dsimp only; decide, by dsimp only; rw [mkS_size]; omega⟩
          · exact ⟨by dsimp only; decide, by dsimp only; decide⟩)
        have kj := fun W A n c (h : SlS W A n c L.reverse) (hH : Head W A) (hn : n ≤ 1000) => join_any A n c _ W h hH (by omega) (by omega)
        rw [hone] at kp1
        rw [heach] at kp3
        rw [← hJ] at kj hback
        rw [hback] at kp2
        have hnil : L = [] → ctD (L.filterMap dvO) true = ⟨false, false, false, false, false, false, -1, -1, -1⟩ := fun h => by rw [h]; exact ord_nil
        generalize ctD (L.filterMap dvO) true = D at *
        obtain ⟨ns, nc, pv, pu, mc, oi, ma, sh, mf⟩ := D
        unfold ctC at kp1 kp2 kp3
        simp only at kp1 kp2 kp3
        have KP1 := Lib.hid kp1
        have KP2 := Lib.hid kp2
        have KP3 := Lib.hid kp3
        have KJ := Lib.hid kj
        have hlen2 : ∀ j (hj : j < L.length), (mkS L[j]).size ≤ 1000 := fun j hj => by have := hlen _ (List.getElem_mem hj); rw [mkS_size]; omega
        have HL2 := Lib.hid hlen2
        have HNL := Lib.hid hnil
        clear kp1 kp2 kp3 kj hone hback heach hJ hjl hL hE hgd hsum hlen hlen2 hnil hJs
        subst hz
        go_enter Tryd.func5, Tryd.ntmps5
        go_wp2_with fail
        refine HSP.out.mono ?_
        rintro e w2 ⟨A, c, rfl, hA, hH, hb2⟩
        clear hH
        have HA := Lib.hid hA
        have HW := Lib.hid hb2
        clear hA hb2
        go_wp2_with fail
        go_loopw [6, 7, 8] (fun b v i wr => ∃ k : Nat, k ≤ L.length ∧ i = .int .i64 ((k : Int) - 1) ∧ Hid (OwnS wr w2.heap.size 9 b (L.drop k).reverse) ∧ Hid (OwnF wr w2.heap.size 37 v ((L.drop k).reverse.flatMap twoF)) ∧ Hid (Apt v b) ∧ Below w2.heap.size w2 wr) (fun _ _ i _ => (intOf i + 1).toNat)
        case atStart => exact ⟨L.length, Nat.le_refl _, rfl, by show OwnS _ _ _ _ _; rw [List.drop_length]; exact OwnS.nil _ _ _, by show OwnF _ _ _ _ _; rw [List.drop_length]; exact OwnF.nil _ _ _, Apt.none_ _, Below.refl _ _⟩
        case round =>
          obtain ⟨k, hk, hi, hob, hov, hap, hbel⟩ := hrel
          by_cases hk0 : k = 0
          · subst hk0
            rw [show (((0 : Nat) : Int) - 1) = -1 by omega] at hi
            subst hi
            rw [List.drop_zero] at hob hov
            obtain ⟨A2, c2, rfl, hS2, hH2⟩ := hob.out.sls
            obtain ⟨A3, c3, rfl, hF3⟩ := hov.out.slf (fun x hx => by
              obtain ⟨y, hy, hxy⟩ := List.mem_flatMap.1 hx
              obtain ⟨j, hj, e⟩ := List.mem_iff_getElem.1 (List.mem_reverse.1 hy)
              have h3 := HL2.out j hj
              rw [e] at h3
              simp only [twoF, List.mem_cons, List.not_mem_nil, or_false] at hxy
              rcases hxy with rfl | rfl
              · exact ⟨by dsimp only; decide, by dsimp only; unfold maxLen; omega⟩
              · exact ⟨by dsimp only; decide, by dsimp only; decide⟩)
            have hfl : (L.reverse.flatMap twoF).length = 2 * L.length := by rw [two_len, List.length_reverse]
            rw [List.length_reverse] at hS2
            rw [hfl] at hF3
            rw [List.length_reverse, hfl]
            have KJ := Lib.hid (fun W (h : Below wr.heap.size wr W) => KJ.out W A2 L.length c2 (hS2.below h) (hH2.below h) (by omega))
            have KP3 := Lib.hid (fun W (h : Below wr.heap.size wr W) => KP3.out W A3 (2 * L.length) c3 (hF3.below h) (by omega))
            have HBW := Lib.hid (below_then HW.out hbel)
            have CX := Lib.hid (fun W (h : Below wr.heap.size wr W) => CX.out W (below_then HBW.out h))
            have HB : Hid (Below wr.heap.size wr wr) := Below.refl _ _
            clear hob hov hap hbel HL2 hS2 hH2 hF3 hfl HA HSP HW
            rcases Nat.eq_zero_or_pos L.length with hl0 | hl0
            · have hnil := HNL.out (List.eq_nil_of_length_eq_zero hl0)
              simp only [Ctl.mk.injEq] at hnil
              obtain ⟨rfl, rfl, rfl, rfl, rfl, rfl, rfl, rfl, rfl⟩ := hnil
              rw [hl0] at KJ KP3 ⊢
              go_wp2_with fail
              refine (KO1.out _).mono ?_
              rintro e w5 ⟨rfl, hF, hb⟩
              have HB := Lib.hid (below_then HB.out hb)
              have HF := Lib.hid hF
              clear hF hb
              go_wp2_with fail
              refine (KP1.out _ _ HF.out).mono ?_
              rintro e w6 ⟨rfl, hb⟩
              have hbb := below_then HB.out hb
              have HB := Lib.hid ((hbb.alloc hbb.size (.cells #[.bool false, .bool false, .bool false, .bool false, .bool false, .bool false, .int .i64 (-1), .int .i64 (-1), .int .i64 (-1)] 23)).drew)
              have Z0 := Lib.hid (show (w6.alloc (.cells #[.bool false, .bool false, .bool false, .bool false, .bool false, .bool false, .int .i64 (-1), .int .i64 (-1), .int .i64 (-1)] 23)).drew.heap[w6.heap.size]? = some (.cells #[.bool false, .bool false, .bool false, .bool false, .bool false, .bool false, .int .i64 (-1), .int .i64 (-1), .int .i64 (-1)] 23 (0, 0)) from heap_alloc_new w6 _)
              clear hb hbb HF
              go_wp2_with fail
              go_region_held3 (fun W => W.cell? ⟨w6.heap.size, 0, none⟩ = some (.bool false) ∧ W.cell? ⟨w6.heap.size, 1, none⟩ = some (.bool false) ∧ W.cell? ⟨w6.heap.size, 2, none⟩ = some (.bool false) ∧ W.cell? ⟨w6.heap.size, 3, none⟩ = some (.bool false) ∧ W.cell? ⟨w6.heap.size, 4, none⟩ = some (.bool false) ∧ W.cell? ⟨w6.heap.size, 5, none⟩ = some (.bool false) ∧ W.cell? ⟨w6.heap.size, 6, none⟩ = some (.int .i64 (-1)) ∧ W.cell? ⟨w6.heap.size, 7, none⟩ = some (.int .i64 (-1)) ∧ W.cell? ⟨w6.heap.size, 8, none⟩ = some (.int .i64 (-1))) (exact cel9 Z0.out) (first
                | (go_at_call 15; refine (KJ.out _ HB.out).mono ?_; rintro e w9 ⟨rfl, hb⟩; have HB := Lib.hid (below_then HB.out hb); have Z0 := Lib.hid (zero_still hb Z0.out); clear hb)
                | (go_at_call 12; refine (KO2.out _).mono ?_; rintro e w9 ⟨rfl, hF, hb⟩; have HB := Lib.hid (below_then HB.out hb); have Z0 := Lib.hid (zero_still hb Z0.out); have HF := Lib.hid hF; clear hb hF)
                | (go_at_call 11; with_reducible refine (KP2.out _ _ HF.out).mono ?_; rintro e w9 ⟨rfl, hb⟩; have HB := Lib.hid (below_then HB.out hb); have Z0 := Lib.hid (zero_still hb Z0.out); clear hb)
                | (go_at_call 11; with_reducible refine (KP3.out _ HB.out).mono ?_; rintro e w9 ⟨rfl, hb⟩; have HB := Lib.hid (below_then HB.out hb); have Z0 := Lib.hid (zero_still hb Z0.out); clear hb)
                | (go_at_call 10; refine (CX.out _ HB.out).mono ?_; rintro e w9 ⟨rfl, hb⟩; have HB := Lib.hid (below_then HB.out hb); have Z0 := Lib.hid (zero_still hb Z0.out); clear hb))
              go_wp2_with fail
              go_ret
              exact ⟨rfl, below_then HBW.out HB.out⟩
            · have hl1 : (0 : Int) < (L.length : Int) := by omega
              have hdl : decide ((0 : Int) < (L.length : Int)) = true := by simpa using hl1
              go_wp2_with fail
              refine (KO1.out _).mono ?_
              rintro e w5 ⟨rfl, hF, hb⟩
              have HB := Lib.hid (below_then HB.out hb)
              have HF := Lib.hid hF
              clear hF hb
              go_wp2_with fail
              refine (KP1.out _ _ HF.out).mono ?_
              rintro e w6 ⟨rfl, hb⟩
              have hbb := below_then HB.out hb
              have HB := Lib.hid ((hbb.alloc hbb.size (.cells #[.bool ns, .bool nc, .bool pv, .bool pu, .bool mc, .bool oi, .int .i64 ma, .int .i64 sh, .int .i64 mf] 23)).drew)
              have Z0 := Lib.hid (show (w6.alloc (.cells #[.bool ns, .bool nc, .bool pv, .bool pu, .bool mc, .bool oi, .int .i64 ma, .int .i64 sh, .int .i64 mf] 23)).drew.heap[w6.heap.size]? = some (.cells #[.bool ns, .bool nc, .bool pv, .bool pu, .bool mc, .bool oi, .int .i64 ma, .int .i64 sh, .int .i64 mf] 23 (0, 0)) from heap_alloc_new w6 _)
              clear hb hbb HF
              go_wp2_with fail
              refine wp_region_held_drew (S := fun W => W.cell? ⟨w6.heap.size, 0, none⟩ = some (.bool ns) ∧ W.cell? ⟨w6.heap.size, 1, none⟩ = some (.bool nc) ∧ W.cell? ⟨w6.heap.size, 2, none⟩ = some (.bool pv) ∧ W.cell? ⟨w6.heap.size, 3, none⟩ = some (.bool pu) ∧ W.cell? ⟨w6.heap.size, 4, none⟩ = some (.bool mc) ∧ W.cell? ⟨w6.heap.size, 5, none⟩ = some (.bool oi) ∧ W.cell? ⟨w6.heap.size, 6, none⟩ = some (.int .i64 ma) ∧ W.cell? ⟨w6.heap.size, 7, none⟩ = some (.int .i64 sh) ∧ W.cell? ⟨w6.heap.size, 8, none⟩ = some (.int .i64 mf)) (by kernel_rfl) (cel9 Z0.out) (fun hHeld => ?_)
              refine take_yes (i := 0) (v := ?_) rfl rfl (by kernel_rfl) (by kernel_rfl) (by kernel_rfl) (by rfl) (fun _ _ _ h => h) ?y1 (by assumption) ?r1
              case y1 => (intro w hSw; (try dsimp only at hSw); go_simp; try with_reducible rfl)
              try simp only [Act.put, List.setIfInBounds_toArray, List.set_cons_zero, List.set_cons_succ]
              refine take_yes (i := 4) (v := ?_) rfl rfl (by kernel_rfl) (by kernel_rfl) (by kernel_rfl) (by rfl) (fun _ _ _ h => h) ?y2 (by assumption) ?r2
              case y2 => (intro w hSw; (try dsimp only at hSw); go_simp; try with_reducible rfl)
              try simp only [Act.put, List.setIfInBounds_toArray, List.set_cons_zero, List.set_cons_succ]
              refine wpAnyH_ready (rs := [1]) (by kernel_rfl) (by simp) (AllReadyH.cons rfl (fun K hK => ?_) AllReadyH.nil)
              go_simp
              go_at_call 15
              refine (KJ.out _ HB.out).mono ?_
              rintro e w9 ⟨rfl, hb⟩
              have HB := Lib.hid (below_then HB.out hb)
              have Z0 := Lib.hid (zero_still hb Z0.out)
              clear hb
              go_wp2_with fail
              refine hK.out _ _ (cel9 Z0.out) (fun hHeld => ?_)
              clear hK
              try simp only [Act.put, List.setIfInBounds_toArray, List.set_cons_zero, List.set_cons_succ]
              refine wpAnyH_ready (rs := [2]) (by kernel_rfl) (by simp) (AllReadyH.cons rfl (fun K hK => ?_) AllReadyH.nil)
              go_simp
              go_at_call 12
              refine (KO2.out _).mono ?_
              rintro e w9 ⟨rfl, hF, hb⟩
              have HF := Lib.hid hF
              clear hF
              have HB := Lib.hid (below_then HB.out hb)
              have Z0 := Lib.hid (zero_still hb Z0.out)
              clear hb
              go_wp2_with fail
              refine hK.out _ _ (cel9 Z0.out) (fun hHeld => ?_)
              clear hK
              try simp only [Act.put, List.setIfInBounds_toArray, List.set_cons_zero, List.set_cons_succ]
              refine wpAnyH_ready (rs := [3]) (by kernel_rfl) (by simp) (AllReadyH.cons rfl (fun K hK => ?_) AllReadyH.nil)
              go_simp
              go_at_call 11
              refine (KP2.out _ _ HF.out).mono ?_
              rintro e w9 ⟨rfl, hb⟩
              have HB := Lib.hid (below_then HB.out hb)
              have Z0 := Lib.hid (zero_still hb Z0.out)
              clear hb
              go_wp2_with fail
              refine hK.out _ _ (cel9 Z0.out) (fun hHeld => ?_)
              clear hK
              try simp only [Act.put, List.setIfInBounds_toArray, List.set_cons_zero, List.set_cons_succ]
              refine take_yes (i := 5) (v := ?_) rfl rfl (by kernel_rfl) (by kernel_rfl) (by kernel_rfl) (by rfl) (fun _ _ _ h => h) ?y3 (by assumption) ?r3
              case y3 => (intro w hSw; (try dsimp only at hSw); go_simp; try with_reducible rfl)
              try simp only [Act.put, List.setIfInBounds_toArray, List.set_cons_zero, List.set_cons_succ]
              refine take_yes (i := 6) (v := ?_) rfl rfl (by kernel_rfl) (by kernel_rfl) (by kernel_rfl) (by rfl) (fun _ _ _ h => h) ?y4 (by assumption) ?r4
              case y4 => (intro w hSw; (try dsimp only at hSw); go_simp; try with_reducible rfl)
              try simp only [Act.put, List.setIfInBounds_toArray, List.set_cons_zero, List.set_cons_succ]
              refine take_yes (i := 7) (v := ?_) rfl rfl (by kernel_rfl) (by kernel_rfl) (by kernel_rfl) (by rfl) (fun _ _ _ h => h) ?y5 (by assumption) ?r5
              case y5 => (intro w hSw; (try dsimp only at hSw); go_simp; try with_reducible rfl)
              try simp only [Act.put, List.setIfInBounds_toArray, List.set_cons_zero, List.set_cons_succ]
              refine take_yes (i := 9) (v := ?_) rfl rfl (by kernel_rfl) (by kernel_rfl) (by kernel_rfl) (by rfl) (fun _ _ _ h => h) ?y6 (by assumption) ?r6
              case y6 => (intro w hSw; (try dsimp only at hSw); go_simp; try with_reducible rfl)
              try simp only [Act.put, List.setIfInBounds_toArray, List.set_cons_zero, List.set_cons_succ]
              refine wpAnyH_ready (rs := [8]) (by kernel_rfl) (by simp) (AllReadyH.cons rfl (fun K hK => ?_) AllReadyH.nil)
              go_simp
              go_at_call 11
              refine (KP3.out _ HB.out).mono ?_
              rintro e w9 ⟨rfl, hb⟩
              have HB := Lib.hid (below_then HB.out hb)
              have Z0 := Lib.hid (zero_still hb Z0.out)
              clear hb
              go_wp2_with fail
              refine hK.out _ _ (cel9 Z0.out) (fun hHeld => ?_)
              clear hK
              try simp only [Act.put, List.setIfInBounds_toArray, List.set_cons_zero, List.set_cons_succ]
              refine take_yes (i := 10) (v := ?_) rfl rfl (by kernel_rfl) (by kernel_rfl) (by kernel_rfl) (by rfl) (fun _ _ _ h => h) ?y7 (by assumption) ?r7
              case y7 => (intro w hSw; (try dsimp only at hSw); go_simp; try with_reducible rfl)
              try simp only [Act.put, List.setIfInBounds_toArray, List.set_cons_zero, List.set_cons_succ]
              refine take_yes (i := 11) (v := ?_) rfl rfl (by kernel_rfl) (by kernel_rfl) (by kernel_rfl) (by rfl) (fun _ _ _ h => h) ?y8 (by assumption) ?r8
              case y8 => (intro w hSw; (try dsimp only at hSw); go_simp; try with_reducible rfl)
              try simp only [Act.put, List.setIfInBounds_toArray, List.set_cons_zero, List.set_cons_succ]
              refine take_yes (i := 12) (v := ?_) rfl rfl (by kernel_rfl) (by kernel_rfl) (by kernel_rfl) (by rfl) (fun _ _ _ h => h) ?y9 (by assumption) ?r9
              case y9 => (intro w hSw; (try dsimp only at hSw); go_simp; try with_reducible rfl)
              try simp only [Act.put, List.setIfInBounds_toArray, List.set_cons_zero, List.set_cons_succ]
              refine take_yes (i := 13) (v := ?_) rfl rfl (by kernel_rfl) (by kernel_rfl) (by kernel_rfl) (by rfl) (fun _ _ _ h => h) ?y10 (by assumption) ?r10
              case y10 => (intro w hSw; (try dsimp only at hSw); go_simp; try with_reducible rfl)
              try simp only [Act.put, List.setIfInBounds_toArray, List.set_cons_zero, List.set_cons_succ]
              refine take_yes (i := 14) (v := ?_) rfl rfl (by kernel_rfl) (by kernel_rfl) (by kernel_rfl) (by rfl) (fun _ _ _ h => h) ?y11 (by assumption) ?r11
              case y11 => (intro w hSw; (try dsimp only at hSw); go_simp; try with_reducible rfl)
              try simp only [Act.put, List.setIfInBounds_toArray, List.set_cons_zero, List.set_cons_succ]
              refine take_yes (i := 15) (v := ?_) rfl rfl (by kernel_rfl) (by kernel_rfl) (by kernel_rfl) (by rfl) (fun _ _ _ h => h) ?y12 (by assumption) ?r12
              case y12 => (intro w hSw; (try dsimp only at hSw); go_simp; try with_reducible rfl)
              try simp only [Act.put, List.setIfInBounds_toArray, List.set_cons_zero, List.set_cons_succ]
              try rw [hdl]
              refine take_yes (i := 16) (v := ?_) rfl rfl (by kernel_rfl) (by kernel_rfl) (by kernel_rfl) (by rfl) (fun _ _ _ h => h) ?y13 (by assumption) ?r13
              case y13 => (intro w hSw; (try dsimp only at hSw); go_simp; try with_reducible rfl)
              try simp only [Act.put, List.setIfInBounds_toArray, List.set_cons_zero, List.set_cons_succ]
              refine take_not (i := 17) rfl rfl (by kernel_rfl) (by kernel_rfl) (by kernel_rfl) (by rfl) (fun _ _ _ h => h) (by assumption) ?_
              try simp only [Act.put, List.setIfInBounds_toArray, List.set_cons_zero, List.set_cons_succ]
              refine take_not (i := 18) rfl rfl (by kernel_rfl) (by kernel_rfl) (by kernel_rfl) (by rfl) (fun _ _ _ h => h) (by assumption) ?_
              try simp only [Act.put, List.setIfInBounds_toArray, List.set_cons_zero, List.set_cons_succ]
              refine take_not (i := 19) rfl rfl (by kernel_rfl) (by kernel_rfl) (by kernel_rfl) (by rfl) (fun _ _ _ h => h) (by assumption) ?_
              try simp only [Act.put, List.setIfInBounds_toArray, List.set_cons_zero, List.set_cons_succ]
              refine take_yes (i := 20) (v := ?_) rfl rfl (by kernel_rfl) (by kernel_rfl) (by kernel_rfl) (by rfl) (fun _ _ _ h => h) ?y14 (by assumption) ?r14
              case y14 => (intro w hSw; (try dsimp only at hSw); go_simp; try with_reducible rfl)
              try simp only [Act.put, List.setIfInBounds_toArray, List.set_cons_zero, List.set_cons_succ]
              refine take_yes (i := 21) (v := ?_) rfl rfl (by kernel_rfl) (by kernel_rfl) (by kernel_rfl) (by rfl) (fun _ _ _ h => h) ?y15 (by assumption) ?r15
              case y15 => (intro w hSw; (try dsimp only at hSw); go_simp; try with_reducible rfl)
              try simp only [Act.put, List.setIfInBounds_toArray, List.set_cons_zero, List.set_cons_succ]
              refine take_yes (i := 22) (v := ?_) rfl rfl (by kernel_rfl) (by kernel_rfl) (by kernel_rfl) (by rfl) (fun _ _ _ h => h) ?y16 (by assumption) ?r16
              case y16 => (intro w hSw; (try dsimp only at hSw); go_simp; try with_reducible rfl)
              try simp only [Act.put, List.setIfInBounds_toArray, List.set_cons_zero, List.set_cons_succ]
              refine wpAnyH_ready (rs := [23]) (by kernel_rfl) (by simp) (AllReadyH.cons rfl (fun K hK => ?_) AllReadyH.nil)
              go_simp
              go_at_call 10
              refine (CX.out _ HB.out).mono ?_
              rintro e w9 ⟨rfl, hb⟩
              have HB := Lib.hid (below_then HB.out hb)
              have Z0 := Lib.hid (zero_still hb Z0.out)
              clear hb
              go_wp2_with fail
              refine hK.out _ _ (cel9 Z0.out) (fun hHeld => ?_)
              clear hK
              try simp only [Act.put, List.setIfInBounds_toArray, List.set_cons_zero, List.set_cons_succ]
              refine take_yes (i := 24) (v := ?_) rfl rfl (by kernel_rfl) (by kernel_rfl) (by kernel_rfl) (by rfl) (fun _ _ _ h => h) ?y17 (by assumption) ?r17
              case y17 => (intro w hSw; (try dsimp only at hSw); go_simp; try with_reducible rfl)
              try simp only [Act.put, List.setIfInBounds_toArray, List.set_cons_zero, List.set_cons_succ]
              refine take_yes (i := 25) (v := ?_) rfl rfl (by kernel_rfl) (by kernel_rfl) (by kernel_rfl) (by rfl) (fun _ _ _ h => h) ?y18 (by assumption) ?r18
              case y18 => (intro w hSw; (try dsimp only at hSw); go_simp; try with_reducible rfl)
              try simp only [Act.put, List.setIfInBounds_toArray, List.set_cons_zero, List.set_cons_succ]
              refine wpAnyH_done (by kernel_rfl) ?_ _
              go_wp2_with fail
              go_ret
              exact ⟨rfl, below_then HBW.out HB.out⟩
          · obtain ⟨j, rfl⟩ : ∃ j, k = j + 1 := ⟨k - 1, by omega⟩
            rw [show (((j + 1 : Nat) : Int) - 1) = (j : Int) by omega] at hi
            subst hi
            have hjL : j < L.length := by omega
            have hA := HA.out.below hbel
            obtain ⟨bd, rfl, hd⟩ := hA.at_ (by omega)
            have hcell := hd j L[j] (List.getElem?_eq_getElem hjL)
            have HX1 : Hid ((L.drop j).reverse = (L.drop (j + 1)).reverse ++ [(mkS L[j]).data.toList]) := by show _ = _; rw [List.drop_eq_getElem_cons hjL, List.reverse_cons, mkS_list]
            have HX2 : Hid ((L.drop j).reverse.flatMap twoF = (L.drop (j + 1)).reverse.flatMap twoF ++ [(⟨#[99, 97, 99, 104, 101, 45, 67, 79, 78, 84, 82, 79, 76]⟩, mkS L[j]), (⟨#[88]⟩, ⟨#[110, 111, 45, 115, 116, 111, 114, 101]⟩)]) := by show _ = _; rw [List.drop_eq_getElem_cons hjL, List.reverse_cons, List.flatMap_append]; rfl
            have hm1 := HL2.out j hjL
            have hl1 : (L.drop (j + 1)).reverse.length ≤ 60 := by rw [List.length_reverse, List.length_drop]; omega
            have hl2 : ((L.drop (j + 1)).reverse.flatMap twoF).length ≤ 120 := by rw [two_len]; omega
            generalize (L.drop (j + 1)).reverse.flatMap twoF = X2 at *
            generalize (L.drop (j + 1)).reverse = X1 at *
            have hcellA : ∀ W, Below w2.heap.size w2 W → W.cell? (bd.add j) = some (.string (mkS L[j])) := fun W h => by
              have h2 := (HA.out.below h).at_ (by omega)
              obtain ⟨bd2, e2, hd2⟩ := h2
              cases e2
              exact hd2 j L[j] (List.getElem?_eq_getElem hjL)
            have HCA := Lib.hid hcellA
            generalize mkS L[j] = me at *
            have hj0 : (0 : Int) ≤ (j : Int) := by omega
            have hj1 : (j : Int) < (L.length : Int) := by omega
            have hsB := hbel.size
            clear hd hA hcellA KP1 KP2 KP3 KJ KO1 KO2 HNL CX HSP HW HL2
            go_wp2_with (at_builtin; first
              | (refine wpList_append_sls_f rfl _ _ _ rfl w2.heap.size 9 Tryd.underlying32 (by kernel_rfl) _ rfl X1 (hob.out.alloc _) _ _ _ rfl [me.data.toList] (SlS.textAt _ _ me rfl) (by simp; omega) (by simp; omega) w2 (hbel.alloc hsB _) _ 37 X2 (hov.out.alloc _) hap.out ?_; intro v1 w4 ho1 hu1 ha1 hb4 hz4; have hc4 := HCA.out w4 hb4)
              | (refine wpList_append_slf_s rfl _ _ _ rfl w2.heap.size 37 Tryd.underlying29 (by kernel_rfl) _ rfl X2 (hu1.out.alloc _) _ _ _ rfl [(⟨#[99, 97, 99, 104, 101, 45, 67, 79, 78, 84, 82, 79, 76]⟩, me), (⟨#[88]⟩, ⟨#[110, 111, 45, 115, 116, 111, 114, 101]⟩)] (SlF.two _ _ (⟨#[99, 97, 99, 104, 101, 45, 67, 79, 78, 84, 82, 79, 76]⟩, me) (⟨#[88]⟩, ⟨#[110, 111, 45, 115, 116, 111, 114, 101]⟩) rfl ⟨by dsimp only; decide, by dsimp only; unfold maxLen; omega⟩ ⟨by dsimp only; decide, by dsimp only; decide⟩) (by simp; omega) (Nat.le_trans hb4.size (by simp)) w2 (hb4.alloc hb4.size _) _ 9 (X1 ++ [me.data.toList]) (ho1.out.alloc _) ha1.out.symm ?_; intro v2 w5 ho2 hu2 ha2 hb5 hz5))
            go_roundw
            case rel => exact ⟨j, by omega, by go_num, by show OwnS _ _ _ _ _; rw [HX1.out]; exact hu2.out, by show OwnF _ _ _ _ _; rw [HX2.out]; exact ho2.out, ha2.out.symm, hb5⟩
            case measure => simp [intOf]
    · have hz' : (E == 0) = false := by simpa using hz
      have hbad := ord_bad (s := a0) (by rw [← hE]; exact hz)
      generalize ctP [(ccS, a0)] = D at *
      obtain ⟨ns, nc, pv, pu, mc, oi, ma, sh, mf⟩ := D
      unfold ctC at kp1
      simp only at kp1 hbad
      obtain ⟨rfl, rfl⟩ := hbad
      have KP1 := Lib.hid kp1
      clear kp1 hL hE
      go_enter Tryd.func5, Tryd.ntmps5
      go_wp2_with fail
      refine HSP.out.mono ?_
      rintro e w2 ⟨A, c, rfl, hA, hH, hb2⟩
      have HB := Lib.hid hb2
      clear hA hH hb2
      go_wp2_with fail
      refine (KO1.out _).mono ?_
      rintro e w3 ⟨rfl, hF, hb⟩
      have HB := Lib.hid (below_then HB.out hb)
      have HF := Lib.hid hF
      clear hF hb
      go_wp2_with fail
      refine (KP1.out _ _ HF.out).mono ?_
      rintro e w4 ⟨rfl, hb⟩
      have hbb := below_then HB.out hb
      have HB := Lib.hid (hbb.alloc hbb.size (.cells #[.bool true, .bool true, .bool pv, .bool pu, .bool mc, .bool oi, .int .i64 ma, .int .i64 sh, .int .i64 mf] 23))
      have Z := heap_alloc_new w4 (.cells #[.bool true, .bool true, .bool pv, .bool pu, .bool mc, .bool oi, .int .i64 ma, .int .i64 sh, .int .i64 mf] 23)
      obtain ⟨z0, z1, z2, z3, z4, z5, z6, z7, z8⟩ := cel9 Z
      clear hb hbb HF Z
      go_wp2_with fail
      refine (CX.out _ HB.out).mono ?_
      rintro e w5 ⟨rfl, hb5⟩
      go_wp2_with fail
      go_ret
      exact ⟨rfl, below_then HB.out hb5⟩

theorem door_met (os : Os) (args : Array Value) : laidMetH Tryd.prog Rows.controlOrderRow.laid ((World.laidAll Tryd.prog os Rows.controlOrderRow.laid).forCall (fun _ _ => 0) ⟨#[], args, []⟩).memory := by
  rw [MakeChecks.laidMetH_plain _ _ _ (by kernel_rfl)]
  exact laidMet_laidAll _ (by kernel_rfl) (by kernel_rfl)

set_option maxRecDepth 100000 in
theorem lifted (os : Os) (started : os.Started) (H : Type) (enc : TypeId × Value → H) :
    ReturnsInHanded {} Tryd.checked os 5 .any (fun w args => (Rows.controlOrderSpec.pre enc Tryd.prog Tryd.f5 [] false w args ∧ laidMetH Tryd.prog Rows.controlOrderRow.laid w) ∧ sizedMet enc Tryd.prog Tryd.f5 (OpenSpec.ofChange Rows.controlOrderSpec) false w args) (Rows.controlOrderSpec.post enc Tryd.prog Tryd.f5 false true false false) := by
  refine returnsInHanded_of_change_and (C := Tryd.checked) (X := fun w _ => laidMetH Tryd.prog Rows.controlOrderRow.laid w) (fun _ _ _ hh h => h.of_heap hh) own started (by kernel_rfl) Tryd.func5
    (ChangeSpec.witness_shaped (enc := enc) (C := Tryd.checked) (os := os) (X := fun w _ => laidMetH Tryd.prog Rows.controlOrderRow.laid w) false (World.laidAll Tryd.prog os Rows.controlOrderRow.laid) #[.string ByteArray.empty] 8 rfl (World.shaped_of_ZipB (by kernel_rfl) (by kernel_rfl)) (by kernel_rfl) (by kernel_rfl) (by kernel_rfl) (door_met os _)) ?_
  intro W base args ds gs before hval0 hW _ _ hL _
  have hval : ∀ (j : Nat) t v, Tryd.f5.params[j]? = some t → args[j]? = some v → Value.okWide Tryd.prog W .any base t v := hval0
  have hW' := hW
  obtain ⟨p, q, hA0, hV, rfl, hfz, hnd⟩ := hW
  have hA : DataW.TrodAll enc Tryd.prog W 0 (fun _ => true) true Tryd.f5.params.toList args.toList ds p := hA0
  rw [Tryd.params5] at hA hval
  obtain ⟨v0, vs0, d0, ds0, p0, q0, hargs, rfl, rfl, h0, r0⟩ := trodAll_cons hA
  obtain ⟨rfl, rfl, rfl⟩ := trodAll_nil r0
  obtain rfl : args = #[v0] := by cases args; simp_all
  obtain ⟨rfl, rfl⟩ := trodVars_none hV
  obtain ⟨a0, rfl, rfl, rfl, w0⟩ := open_string Tryd.underlying9 (hval 0 9 v0 rfl rfl) h0
  clear hA0 hval0
  simp only [List.append_nil] at hW'
  refine (walk a0 w0 W hL).mono fun e W' ⟨he, hg⟩ => ?_
  subst he
  exact ⟨_, rfl, _, _, _, [], [], [], hW', (trodAll_cons_mk (shut_bool Tryd.underlying4 _) trodAll_mk0), (trodAll_cons_mk (shut_string Tryd.underlying9 w0) trodAll_mk0), rfl, hg.frame _, fun h => by cases h⟩

theorem over : Rows.controlOrderRow.holds Tryd.pinned (OpenSpec.ofChange Rows.controlOrderSpec) :=
  OpenClaim.holds_of_wide 5 Tryd.f5 rfl rfl rfl rfl rfl rfl rfl ⟨rfl, rfl, rfl, rfl, rfl⟩ rfl rfl rfl rfl rfl (by kernel_rfl) Tryd.func5 (by kernel_rfl)
    (of_decide_eq_true (by kernel_rfl)) (by unfold Func.isWrapper; first | (rw [if_pos (by decide +kernel)]; kernel_rfl) | (rw [if_neg (by decide +kernel)]; exact ⟨rfl, rfl⟩))
    (fun os started H enc _ => lifted os started H enc)

theorem said : Rows.ControlOrderSaid :=
  over

theorem plain (f : FuncId) (fn : Func) (hf : Tryd.pinned.checked.prog.funcNamed "depot/depotlaw13.ControlOrder" = some f) (hfn : Tryd.pinned.checked.prog.funcs[f]? = some fn) :
    false = Tryd.pinned.checked.prog.looks [] ∧ ∀ (j : Nat) t, fn.params[j]? = some t → Tryd.pinned.checked.prog.wantsStandIn t = false := by
  obtain rfl : f = 5 := Option.some.inj ((show Tryd.prog.funcNamed "depot/depotlaw13.ControlOrder" = some 5 by kernel_rfl).symm.trans hf) |>.symm
  obtain rfl : fn = Tryd.f5 := (Option.some.inj (Tryd.func5.symm.trans hfn)).symm
  refine ⟨by kernel_rfl, fun j t ht => ?_⟩
  rw [Tryd.params5] at ht
  · obtain rfl : t = 9 := by simpa using Array.mem_of_getElem? ht
    exact (show Tryd.prog.wantsStandIn 9 = false by kernel_rfl)

theorem proved : Rows.ControlOrderCardSaid :=
  Claim7.holds_tied_plain_at .later [] _ _ _ _ said (fun _ h => by cases h) (by kernel_rfl) (fun _ h => by cases h) controlOrder_row_tie rfl ⟨rfl, rfl⟩ (by kernel_rfl) rfl plain (by kernel_rfl)
#print axioms proved
end Go.Proofs.YtmpiahahhkimkaaDoor.controlOrder
