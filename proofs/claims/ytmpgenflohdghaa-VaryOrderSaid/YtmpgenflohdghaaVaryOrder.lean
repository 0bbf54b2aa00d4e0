/-
  The law VaryOrder (depotlaw15) returns true for every list of fields and leaves what it was given as it was. No condition.
-/
import Derived.Test.YtmpgenflohdghaaRows
import Derived.WalkKit
import Derived.ProofKit
import Derived.OpenShut
import Derived.ShutString
import Derived.ChangeOld
import Derived.Below
import Derived.Test.YtmpgenflohdghaaMrgA
import Derived.Test.YtmpgenflohdghaaMrgB
import Derived.Test.YtmpgenflohdghaaMrgC
import Derived.Test.YtmpgenflohdghaaMrgD
import Derived.Test.YtmpgenflohdghaaMrgE
import Derived.Test.YtmpgenflohdghaaMrgF
import Derived.Test.YtmpgenflohdghaaMrgG
import Derived.Test.YtmpgenflohdghaaMrgH
import Derived.Test.YtmpgenflohdghaaMrgI
import Derived.Test.YtmpgenflohdghaaMrgJ
import Derived.Test.YtmpgenflohdghaaMrgK
import Derived.Test.YtmpgenflohdghaaMrgL
import Derived.Test.YtmpgenflohdghaaMrgM
import Derived.Test.YtmpgenflohdghaaMrgN
import Derived.Test.YtmpgenflohdghaaMrgO
import Derived.Test.YtmpgenflohdghaaMrgP
import Derived.Test.YtmpgenflohdghaaMrgQ
import Derived.Test.YtmpgenflohdghaaMrgR
import Derived.Test.YtmpgenflohdghaaMrgS
import Derived.Deep.RegionHeld3
import Derived.Laws.Cover1
namespace Go.Proofs.Ytmpgenflohdghaa.varyOrder
open Go.ChangeShapes Go.WideShapes Go.ChangeAt Go.RowKit
open Go.ChangeMaps (open_string shut_string)
set_option linter.unusedVariables false

theorem own : ownKnob Try.prog.godebug = none := by kernel_rfl
theorem laidOut : laidOutB Try.prog = true := by kernel_rfl

set_option maxHeartbeats 8000000 in
set_option maxRecDepth 100000 in
theorem walk (a0 : Option Addr) (len0 cap0 : Nat) (z0 : List Fd) (w : World) (w0 : SlF w a0 len0 cap0 z0) :
    Calls Try.prog 6 #[.slice a0 len0 cap0] w fun e w' => e = .returned (.bool true) ∧ Below w.heap.size w w' := by
  have hlen := w0.len
  subst hlen
  have cx := fun W (_ : Below w.heap.size w W) => ex15_any W
  have CX := Lib.hid cx
  clear cx
  have HB : Hid (Below w.heap.size w w) := Below.refl _ _
  have cf := fun W (h : SlF W a0 z0.length cap0 z0) => few70 500 500 rfl a0 z0.length cap0 z0 W h
  have HF := Lib.hid w0
  have hszf := w0.sz
  clear w0
  cases hf : fewB z0 70 500 with
  | false =>
    rw [hf] at cf
    have CF := Lib.hid cf
    clear cf hf hszf
    go_enter Try.func6, Try.ntmps6
    go_wp2_with fail
    refine (CF.out _ HF.out).mono ?_
    rintro e v1 ⟨rfl, rfl⟩
    go_wp2_with fail
    refine (CX.out _ HB.out).mono ?_
    rintro e w9 ⟨rfl, hb9⟩
    go_wp2_with fail
    go_ret
    exact ⟨rfl, below_then HB.out hb9⟩
  | true =>
    rw [hf] at cf
    have CF := Lib.hid cf
    have gF := fwf_of hf
    have gy := (few_yes hf).1
    have K1 := Lib.hid (fun W (h : SlF W a0 z0.length cap0 z0) (_ : Below w.heap.size w W) => varN_any a0 cap0 z0 W h gF)
    have gM : FwF (z0.reverse ++ z0) := by
      refine ⟨by rw [List.length_append, List.length_reverse]; omega, fun x hx => ?_⟩
      rw [List.mem_append, List.mem_reverse] at hx
      exact gF.2 x (or_self_iff.1 hx)
    have k2 := fun W A c (h : SlF W A (z0.reverse ++ z0).length c (z0.reverse ++ z0)) (_ : Below w.heap.size w W) => varN_any A c (z0.reverse ++ z0) W h gM
    rw [(nam_back z0).1, (nam_back z0).2] at k2
    have hLL : (z0.reverse ++ z0).length = z0.length + z0.length := by simp
    rw [hLL] at k2
    have K2 := Lib.hid k2
    have HLL := Lib.hid hLL
    clear hLL
    have HMZ : Hid (∀ x ∈ z0.reverse ++ z0, x.1.size ≤ maxLen ∧ x.2.size ≤ maxLen) := fun x hx => by
      rw [List.mem_append, List.mem_reverse] at hx
      exact hszf x (or_self_iff.1 hx)
    have HXZ : Hid (∀ x ∈ z0, x.1.size ≤ maxLen ∧ x.2.size ≤ maxLen) := hszf
    obtain ⟨hsrt, hpr, hno⟩ := nam_told z0
    have hsn := nam_sz gF
    have hnl := nam_len gF
    have ks := fun W A B c d (h : SlS W A (namL z0).length c (namL z0)) (h' : SlS W B (namL z0).length d (namL z0)) (_ : Below w.heap.size w W) => r_sames A B _ c _ d (namL z0) (namL z0) W h h' (by omega)
    rw [show (namL z0 == namL z0) = true by simp] at ks
    have KS := Lib.hid ks
    have HSR := Lib.hid hsrt
    have HPR := Lib.hid hpr
    have HSN := Lib.hid hsn
    have HNO := Lib.hid hno
    unfold IsNm at *
    clear cf hf gF gM k2 ks hsrt hpr hsn hno hszf
    generalize namL z0 = N at *
    generalize namB z0 = nb at *
    have e1 : (nb != nb) = false := by simp
    go_enter Try.func6, Try.ntmps6
    go_wp2_with fail
    refine (CF.out _ HF.out).mono ?_
    rintro e v1 ⟨rfl, rfl⟩
    go_wp2_with fail
    refine (K1.out _ HF.out HB.out).mono ?_
    rintro e w2 ⟨A2, c2, rfl, hS, _, hb⟩
    have HN := Lib.hid hS
    have HF := Lib.hid (HF.out.below hb)
    have HB := Lib.hid (below_then HB.out hb)
    clear hS hb
    go_wp2_with fail
    go_loopw [5, 6] (fun v i wr => ∃ (j : Nat) (q : Int), j ≤ z0.length ∧ i = .int .i64 q ∧ q = (j : Int) - 1 ∧ Hid (OwnF wr w2.heap.size 38 v ((z0.drop j).reverse)) ∧ Hid (Below w2.heap.size w2 wr)) (fun _ i _ => (intOf i + 1).toNat)
    case atStart => exact ⟨z0.length, _, Nat.le_refl _, rfl, by go_num, by show OwnF _ _ _ _ _; rw [List.drop_length]; exact OwnF.nil _ _ _, Below.refl _ _⟩
    case round =>
      obtain ⟨j, q, hj, rfl, hi, HO, HQ⟩ := hrel
      rcases Nat.eq_zero_or_pos j with rfl | hjp
      · have hi2 : q = -1 := by omega
        clear hi
        subst hi2
        rw [List.drop_zero] at HO
        have hlr : z0.reverse.length = z0.length := List.length_reverse
        have HF2 := Lib.hid (HF.out.below HQ.out)
        have HB2 := Lib.hid (below_then HB.out HQ.out)
        have HN2 := Lib.hid (HN.out.below HQ.out)
        have hQs := HQ.out.size
        go_wp2_with (at_builtin; refine wpList_append_slf rfl _ _ 22 rfl w2.heap.size 38 Try.underlying22 (by kernel_rfl) _ rfl z0.reverse HO.out a0 z0.length cap0 rfl z0 HF2.out (by omega) hQs w2 HQ.out ?_; intro v4 w4 ho4 hb4 hz4; obtain ⟨A4, c4, hv4, hF4⟩ := ho4.out.slf HMZ.out; subst hv4; rw [HLL.out] at hF4; have HM := Lib.hid hF4; have HN := Lib.hid (HN.out.below hb4); have HB := Lib.hid (below_then HB.out hb4); clear hF4 hb4 ho4)
        refine (K2.out _ _ _ HM.out HB.out).mono ?_
        rintro e w3 ⟨A3, c3, rfl, hS, _, hb⟩
        have HG := Lib.hid hS
        have HN := Lib.hid (HN.out.below hb)
        have HB := Lib.hid (below_then HB.out hb)
        clear hS hb HF2 HB2 HN2 HM
        go_wp2_with fail
        refine (KS.out _ _ _ _ _ HN.out HG.out HB.out).mono ?_
        rintro e w4b ⟨rfl, hb⟩
        have HN := Lib.hid (HN.out.below hb)
        have HB := Lib.hid (below_then HB.out hb)
        clear hb HG
        cases nb with
        | false =>
          obtain rfl : N = [] := HNO.out rfl
          go_wp2_with fail
          go_loopw [9] (fun i wr => i = .int .i64 0 ∧ Hid (Below w.heap.size w wr)) (fun _ _ => 0)
          case atStart => exact ⟨rfl, HB.out⟩
          case round =>
            clear HB
            obtain ⟨rfl, HB⟩ := hrel
            go_wp2_with fail
            refine (CX.out _ HB.out).mono ?_
            rintro e w9 ⟨rfl, hb9⟩
            go_wp2_with fail
            go_ret
            exact ⟨rfl, below_then HB.out hb9⟩
        | true =>
          go_wp2_with fail
          go_loopw [9] (fun i wr => ∃ j : Nat, j ≤ N.length ∧ i = .int .i64 j ∧ Hid (SlS wr A2 N.length c2 N) ∧ Hid (Below w.heap.size w wr)) (fun i _ => N.length - (intOf i).toNat)
          case atStart => exact ⟨0, Nat.zero_le _, rfl, HN.out, HB.out⟩
          case round =>
            clear HN HB
            obtain ⟨j, hj, rfl, HN, HB⟩ := hrel
            by_cases hjl : j < N.length
            · obtain ⟨bd, rfl, hd⟩ := HN.out.at_ (by omega)
              have hcell := hd j N[j] (List.getElem?_eq_getElem hjl)
              have hj0 : (0 : Int) ≤ (j : Int) := by omega
              have hj1 : (j : Int) < (N.length : Int) := by omega
              obtain ⟨hlo, htk⟩ := HPR.out _ (List.getElem_mem hjl)
              have hsz : (mkS N[j]).size ≤ maxLen := by rw [mkS_size]; exact Nat.le_trans (HSN.out _ (List.getElem_mem hjl)) (by decide)
              have cl := fun W (_ : Below w.heap.size w W) => lower_any (mkS N[j]) W hsz
              simp only [mkS_list, hlo] at cl
              have ct := fun W (_ : Below w.heap.size w W) => isToken_any (mkS N[j]) W hsz
              have htk2 : (!(mkS N[j]).toList.isEmpty && allB tokB (mkS N[j]).data.toList) = true := by rw [Lib.toList_data, mkS_list]; exact htk
              simp only [htk2] at ct
              have CL := Lib.hid cl
              have CT := Lib.hid ct
              clear cl ct htk2 htk hlo hsz
              rcases Nat.eq_zero_or_pos j with hz | hp
              · have hm0 : ¬ (0 : Int) < (j : Int) := by omega
                have hdl : decide ((0 : Int) < (j : Int)) = false := decide_eq_false hm0
                have hdl2 : decide (0 < j) = false := decide_eq_false (by omega)
                clear hz
                generalize mkS N[j] = ys at *
                have e2 : (ys.toList != ys.toList) = false := by simp
                have HC : Hid (wr.drew.cell? (bd.add j) = some (.string ys)) := hcell
                have HN := Lib.hid HN.out.drew
                have HB := Lib.hid HB.out.drew
                clear hd hcell
                go_wp2_with fail
                refine wp_region_held_drew (S := fun W => W.cell? (bd.add j) = some (.string ys)) (by kernel_rfl) (HC.out) (fun hHeld => ?_)
                refine takeY (i := 0) (v := ?_) rfl rfl (by kernel_rfl) (by kernel_rfl) (by kernel_rfl) (by rfl) (fun _ _ _ h => h) ?y1 (by assumption) ?r1
                case y1 => (intro w hSw; (try dsimp only at hSw); go_simp; try with_reducible rfl)
                try simp only [Act.put, List.setIfInBounds_toArray, List.set_cons_zero, List.set_cons_succ]
                (try rw [hdl])
                (try rw [hdl2])
                refine takeY (i := 1) (v := ?_) rfl rfl (by kernel_rfl) (by kernel_rfl) (by kernel_rfl) (by rfl) (fun _ _ _ h => h) ?y2 (by assumption) ?r2
                case y2 => (intro w hSw; (try dsimp only at hSw); go_simp; try with_reducible rfl)
                try simp only [Act.put, List.setIfInBounds_toArray, List.set_cons_zero, List.set_cons_succ]
                (try rw [hdl])
                (try rw [hdl2])
                refine takeY (i := 2) (v := ?_) rfl rfl (by kernel_rfl) (by kernel_rfl) (by kernel_rfl) (by rfl) (fun _ _ _ h => h) ?y3 (by assumption) ?r3
                case y3 => (intro w hSw; (try dsimp only at hSw); go_simp; try with_reducible rfl)
                try simp only [Act.put, List.setIfInBounds_toArray, List.set_cons_zero, List.set_cons_succ]
                (try rw [hdl])
                (try rw [hdl2])
                refine takeY (i := 3) (v := ?_) rfl rfl (by kernel_rfl) (by kernel_rfl) (by kernel_rfl) (by rfl) (fun _ _ _ h => h) ?y4 (by assumption) ?r4
                case y4 => (intro w hSw; (try dsimp only at hSw); go_simp; try with_reducible rfl)
                try simp only [Act.put, List.setIfInBounds_toArray, List.set_cons_zero, List.set_cons_succ]
                (try rw [hdl])
                (try rw [hdl2])
                refine takeY (i := 5) (v := ?_) rfl rfl (by kernel_rfl) (by kernel_rfl) (by kernel_rfl) (by rfl) (fun _ _ _ h => h) ?y5 (by assumption) ?r5
                case y5 => (intro w hSw; (try dsimp only at hSw); go_simp; try with_reducible rfl)
                try simp only [Act.put, List.setIfInBounds_toArray, List.set_cons_zero, List.set_cons_succ]
                (try rw [hdl])
                (try rw [hdl2])
                refine takeY (i := 6) (v := ?_) rfl rfl (by kernel_rfl) (by kernel_rfl) (by kernel_rfl) (by rfl) (fun _ _ _ h => h) ?y6 (by assumption) ?r6
                case y6 => (intro w hSw; (try dsimp only at hSw); go_simp; try with_reducible rfl)
                try simp only [Act.put, List.setIfInBounds_toArray, List.set_cons_zero, List.set_cons_succ]
                (try rw [hdl])
                (try rw [hdl2])
                refine takeY (i := 7) (v := ?_) rfl rfl (by kernel_rfl) (by kernel_rfl) (by kernel_rfl) (by rfl) (fun _ _ _ h => h) ?y7 (by assumption) ?r7
                case y7 => (intro w hSw; (try dsimp only at hSw); go_simp; try with_reducible rfl)
                try simp only [Act.put, List.setIfInBounds_toArray, List.set_cons_zero, List.set_cons_succ]
                (try rw [hdl])
                (try rw [hdl2])
                refine takeY (i := 8) (v := ?_) rfl rfl (by kernel_rfl) (by kernel_rfl) (by kernel_rfl) (by rfl) (fun _ _ _ h => h) ?y8 (by assumption) ?r8
                case y8 => (intro w hSw; (try dsimp only at hSw); go_simp; try with_reducible rfl)
                try simp only [Act.put, List.setIfInBounds_toArray, List.set_cons_zero, List.set_cons_succ]
                (try rw [hdl])
                (try rw [hdl2])
                refine wpAnyH_ready (rs := [4]) (by kernel_rfl) (by simp) (AllReadyH.cons rfl (fun K hK => ?_) AllReadyH.nil)
                go_simp
                go_at_call 20
                refine (CL.out _ HB.out).mono ?_
                rintro e w5 ⟨rfl, hb⟩
                have HC : Hid (w5.cell? (bd.add j) = some (.string ys)) := cell_kept hb HC.out
                have HN := Lib.hid (HN.out.below hb)
                have HB := Lib.hid (below_then HB.out hb)
                clear hb
                go_wp2_with fail
                refine hK.out _ _ (HC.out) (fun hHeld => ?_)
                clear hK
                try simp only [Act.put, List.setIfInBounds_toArray, List.set_cons_zero, List.set_cons_succ]
                (try rw [hdl])
                (try rw [hdl2])
                refine takeY (i := 9) (v := ?_) rfl rfl (by kernel_rfl) (by kernel_rfl) (by kernel_rfl) (by rfl) (fun _ _ _ h => h) ?y9 (by assumption) ?r9
                case y9 => (intro w hSw; (try dsimp only at hSw); go_simp; try with_reducible rfl)
                try simp only [Act.put, List.setIfInBounds_toArray, List.set_cons_zero, List.set_cons_succ]
                (try rw [hdl])
                (try rw [hdl2])
                refine takeY (i := 10) (v := ?_) rfl rfl (by kernel_rfl) (by kernel_rfl) (by kernel_rfl) (by rfl) (fun _ _ _ h => h) ?y10 (by assumption) ?r10
                case y10 => (intro w hSw; (try dsimp only at hSw); go_simp; try with_reducible rfl)
                try simp only [Act.put, List.setIfInBounds_toArray, List.set_cons_zero, List.set_cons_succ]
                (try rw [hdl])
                (try rw [hdl2])
                refine takeY (i := 11) (v := ?_) rfl rfl (by kernel_rfl) (by kernel_rfl) (by kernel_rfl) (by rfl) (fun _ _ _ h => h) ?y11 (by assumption) ?r11
                case y11 => (intro w hSw; (try dsimp only at hSw); go_simp; try with_reducible rfl)
                try simp only [Act.put, List.setIfInBounds_toArray, List.set_cons_zero, List.set_cons_succ]
                (try rw [hdl])
                (try rw [hdl2])
                refine takeY (i := 12) (v := ?_) rfl rfl (by kernel_rfl) (by kernel_rfl) (by kernel_rfl) (by rfl) (fun _ _ _ h => h) ?y12 (by assumption) ?r12
                case y12 => (intro w hSw; (try dsimp only at hSw); go_simp; try with_reducible rfl)
                try simp only [Act.put, List.setIfInBounds_toArray, List.set_cons_zero, List.set_cons_succ]
                (try rw [hdl])
                (try rw [hdl2])
                refine takeY (i := 13) (v := ?_) rfl rfl (by kernel_rfl) (by kernel_rfl) (by kernel_rfl) (by rfl) (fun _ _ _ h => h) ?y13 (by assumption) ?r13
                case y13 => (intro w hSw; (try dsimp only at hSw); go_simp; try with_reducible rfl)
                try simp only [Act.put, List.setIfInBounds_toArray, List.set_cons_zero, List.set_cons_succ]
                (try rw [hdl])
                (try rw [hdl2])
                refine takeY (i := 14) (v := ?_) rfl rfl (by kernel_rfl) (by kernel_rfl) (by kernel_rfl) (by rfl) (fun _ _ _ h => h) ?y14 (by assumption) ?r14
                case y14 => (intro w hSw; (try dsimp only at hSw); go_simp; try with_reducible rfl)
                try simp only [Act.put, List.setIfInBounds_toArray, List.set_cons_zero, List.set_cons_succ]
                (try rw [hdl])
                (try rw [hdl2])
                refine wpAnyH_ready (rs := [15]) (by kernel_rfl) (by simp) (AllReadyH.cons rfl (fun K hK => ?_) AllReadyH.nil)
                go_simp
                go_at_call 22
                refine (CT.out _ HB.out).mono ?_
                rintro e w6 ⟨rfl, hb⟩
                have HC : Hid (w6.cell? (bd.add j) = some (.string ys)) := cell_kept hb HC.out
                have HN := Lib.hid (HN.out.below hb)
                have HB := Lib.hid (below_then HB.out hb)
                clear hb
                go_wp2_with fail
                refine hK.out _ _ (HC.out) (fun hHeld => ?_)
                clear hK
                try simp only [Act.put, List.setIfInBounds_toArray, List.set_cons_zero, List.set_cons_succ]
                (try rw [hdl])
                (try rw [hdl2])
                refine takeY (i := 16) (v := ?_) rfl rfl (by kernel_rfl) (by kernel_rfl) (by kernel_rfl) (by rfl) (fun _ _ _ h => h) ?y15 (by assumption) ?r15
                case y15 => (intro w hSw; (try dsimp only at hSw); go_simp; try with_reducible rfl)
                try simp only [Act.put, List.setIfInBounds_toArray, List.set_cons_zero, List.set_cons_succ]
                (try rw [hdl])
                (try rw [hdl2])
                refine takeY (i := 17) (v := ?_) rfl rfl (by kernel_rfl) (by kernel_rfl) (by kernel_rfl) (by rfl) (fun _ _ _ h => h) ?y16 (by assumption) ?r16
                case y16 => (intro w hSw; (try dsimp only at hSw); go_simp; try with_reducible rfl)
                try simp only [Act.put, List.setIfInBounds_toArray, List.set_cons_zero, List.set_cons_succ]
                (try rw [hdl])
                (try rw [hdl2])
                refine takeY (i := 18) (v := ?_) rfl rfl (by kernel_rfl) (by kernel_rfl) (by kernel_rfl) (by rfl) (fun _ _ _ h => h) ?y17 (by assumption) ?r17
                case y17 => (intro w hSw; (try dsimp only at hSw); go_simp; try with_reducible rfl)
                try simp only [Act.put, List.setIfInBounds_toArray, List.set_cons_zero, List.set_cons_succ]
                (try rw [hdl])
                (try rw [hdl2])
                refine takeY (i := 19) (v := ?_) rfl rfl (by kernel_rfl) (by kernel_rfl) (by kernel_rfl) (by rfl) (fun _ _ _ h => h) ?y18 (by assumption) ?r18
                case y18 => (intro w hSw; (try dsimp only at hSw); go_simp; try with_reducible rfl)
                try simp only [Act.put, List.setIfInBounds_toArray, List.set_cons_zero, List.set_cons_succ]
                (try rw [hdl])
                (try rw [hdl2])
                refine takeY (i := 20) (v := ?_) rfl rfl (by kernel_rfl) (by kernel_rfl) (by kernel_rfl) (by rfl) (fun _ _ _ h => h) ?y19 (by assumption) ?r19
                case y19 => (intro w hSw; (try dsimp only at hSw); go_simp; try with_reducible rfl)
                try simp only [Act.put, List.setIfInBounds_toArray, List.set_cons_zero, List.set_cons_succ]
                (try rw [hdl])
                (try rw [hdl2])
                refine takeY (i := 21) (v := ?_) rfl rfl (by kernel_rfl) (by kernel_rfl) (by kernel_rfl) (by rfl) (fun _ _ _ h => h) ?y20 (by assumption) ?r20
                case y20 => (intro w hSw; (try dsimp only at hSw); go_simp; try with_reducible rfl)
                try simp only [Act.put, List.setIfInBounds_toArray, List.set_cons_zero, List.set_cons_succ]
                (try rw [hdl])
                (try rw [hdl2])
                refine takeN (i := 22) rfl rfl (by kernel_rfl) (by kernel_rfl) (by kernel_rfl) (by rfl) (fun _ _ _ h => h) (by assumption) ?_
                try simp only [Act.put, List.setIfInBounds_toArray, List.set_cons_zero, List.set_cons_succ]
                (try rw [hdl])
                (try rw [hdl2])
                refine takeN (i := 23) rfl rfl (by kernel_rfl) (by kernel_rfl) (by kernel_rfl) (by rfl) (fun _ _ _ h => h) (by assumption) ?_
                try simp only [Act.put, List.setIfInBounds_toArray, List.set_cons_zero, List.set_cons_succ]
                (try rw [hdl])
                (try rw [hdl2])
                refine takeN (i := 24) rfl rfl (by kernel_rfl) (by kernel_rfl) (by kernel_rfl) (by rfl) (fun _ _ _ h => h) (by assumption) ?_
                try simp only [Act.put, List.setIfInBounds_toArray, List.set_cons_zero, List.set_cons_succ]
                (try rw [hdl])
                (try rw [hdl2])
                refine takeN (i := 25) rfl rfl (by kernel_rfl) (by kernel_rfl) (by kernel_rfl) (by rfl) (fun _ _ _ h => h) (by assumption) ?_
                try simp only [Act.put, List.setIfInBounds_toArray, List.set_cons_zero, List.set_cons_succ]
                (try rw [hdl])
                (try rw [hdl2])
                refine takeN (i := 26) rfl rfl (by kernel_rfl) (by kernel_rfl) (by kernel_rfl) (by rfl) (fun _ _ _ h => h) (by assumption) ?_
                try simp only [Act.put, List.setIfInBounds_toArray, List.set_cons_zero, List.set_cons_succ]
                (try rw [hdl])
                (try rw [hdl2])
                refine takeN (i := 27) rfl rfl (by kernel_rfl) (by kernel_rfl) (by kernel_rfl) (by rfl) (fun _ _ _ h => h) (by assumption) ?_
                try simp only [Act.put, List.setIfInBounds_toArray, List.set_cons_zero, List.set_cons_succ]
                (try rw [hdl])
                (try rw [hdl2])
                refine takeN (i := 28) rfl rfl (by kernel_rfl) (by kernel_rfl) (by kernel_rfl) (by rfl) (fun _ _ _ h => h) (by assumption) ?_
                try simp only [Act.put, List.setIfInBounds_toArray, List.set_cons_zero, List.set_cons_succ]
                (try rw [hdl])
                (try rw [hdl2])
                refine takeN (i := 29) rfl rfl (by kernel_rfl) (by kernel_rfl) (by kernel_rfl) (by rfl) (fun _ _ _ h => h) (by assumption) ?_
                try simp only [Act.put, List.setIfInBounds_toArray, List.set_cons_zero, List.set_cons_succ]
                (try rw [hdl])
                (try rw [hdl2])
                refine takeN (i := 30) rfl rfl (by kernel_rfl) (by kernel_rfl) (by kernel_rfl) (by rfl) (fun _ _ _ h => h) (by assumption) ?_
                try simp only [Act.put, List.setIfInBounds_toArray, List.set_cons_zero, List.set_cons_succ]
                (try rw [hdl])
                (try rw [hdl2])
                refine takeN (i := 31) rfl rfl (by kernel_rfl) (by kernel_rfl) (by kernel_rfl) (by rfl) (fun _ _ _ h => h) (by assumption) ?_
                try simp only [Act.put, List.setIfInBounds_toArray, List.set_cons_zero, List.set_cons_succ]
                (try rw [hdl])
                (try rw [hdl2])
                refine takeY (i := 32) (v := ?_) rfl rfl (by kernel_rfl) (by kernel_rfl) (by kernel_rfl) (by rfl) (fun _ _ _ h => h) ?y21 (by assumption) ?r21
                case y21 => (intro w hSw; (try dsimp only at hSw); go_simp; try with_reducible rfl)
                try simp only [Act.put, List.setIfInBounds_toArray, List.set_cons_zero, List.set_cons_succ]
                (try rw [hdl])
                (try rw [hdl2])
                refine takeY (i := 33) (v := ?_) rfl rfl (by kernel_rfl) (by kernel_rfl) (by kernel_rfl) (by rfl) (fun _ _ _ h => h) ?y22 (by assumption) ?r22
                case y22 => (intro w hSw; (try dsimp only at hSw); go_simp; try with_reducible rfl)
                try simp only [Act.put, List.setIfInBounds_toArray, List.set_cons_zero, List.set_cons_succ]
                (try rw [hdl])
                (try rw [hdl2])
                refine wpAnyH_done (by kernel_rfl) ?_ _
                go_wp2_with fail
                go_roundw
                case rel => exact ⟨j + 1, by omega, by go_num, HN.out, HB.out⟩
                case measure => simp [intOf]; omega
              · obtain ⟨m, hm⟩ : ∃ m, m + 1 = j := ⟨j - 1, by omega⟩
                have hml : m < N.length := by omega
                have hcell2 := hd m N[m] (List.getElem?_eq_getElem hml)
                have hls : lesL N[m] N[j] = true := by subst hm; exact srt_at HSR.out m hjl
                have hlq := not_leq hls
                clear hls
                generalize mkS N[m] = zs at *
                generalize mkS N[j] = ys at *
                have e2 : (ys.toList != ys.toList) = false := by simp
                have hm0 : (0 : Int) < (j : Int) := by omega
                have hm1 : (j : Int) - 1 = (m : Int) := by omega
                have hdl : decide ((0 : Int) < (j : Int)) = true := decide_eq_true hm0
                have hdl2 : decide (0 < j) = true := decide_eq_true (by omega)
                have hw : IntKind.i64.wrap (m : Int) = (m : Int) := by rw [IntKind.wrap_i64]; omega
                clear hm
                have hm2 : (0 : Int) ≤ (m : Int) := by omega
                have hm3 : (m : Int) < (N.length : Int) := by omega
                have HC : Hid (wr.drew.cell? (bd.add j) = some (.string ys) ∧ wr.drew.cell? (bd.add m) = some (.string zs)) := ⟨hcell, hcell2⟩
                have HN := Lib.hid HN.out.drew
                have HB := Lib.hid HB.out.drew
                clear hd hcell hcell2
                go_wp2_with fail
                go_region_held3 (fun W => W.cell? (bd.add j) = some (.string ys) ∧ W.cell? (bd.add m) = some (.string zs)) (exact HC.out) (first
                  | (go_at_call 20; refine (CL.out _ HB.out).mono ?_; rintro e w5 ⟨rfl, hb⟩; have HC : Hid (w5.cell? (bd.add j) = some (.string ys) ∧ w5.cell? (bd.add m) = some (.string zs)) := ⟨cell_kept hb HC.out.1, cell_kept hb HC.out.2⟩; have HN := Lib.hid (HN.out.below hb); have HB := Lib.hid (below_then HB.out hb); clear hb)
                  | (go_at_call 22; refine (CT.out _ HB.out).mono ?_; rintro e w6 ⟨rfl, hb⟩; have HC : Hid (w6.cell? (bd.add j) = some (.string ys) ∧ w6.cell? (bd.add m) = some (.string zs)) := ⟨cell_kept hb HC.out.1, cell_kept hb HC.out.2⟩; have HN := Lib.hid (HN.out.below hb); have HB := Lib.hid (below_then HB.out hb); clear hb))
                go_wp2_with fail
                go_roundw
                case rel => exact ⟨j + 1, by omega, by go_num, HN.out, HB.out⟩
                case measure => simp [intOf]; omega
            · have hj1 : ¬ (j : Int) < (N.length : Int) := by omega
              go_wp2_with fail
              refine (CX.out _ HB.out).mono ?_
              rintro e w9 ⟨rfl, hb9⟩
              go_wp2_with fail
              go_ret
              exact ⟨rfl, below_then HB.out hb9⟩
      · obtain ⟨m, rfl⟩ : ∃ m, j = m + 1 := ⟨j - 1, by omega⟩
        have hi2 : q = (m : Int) := by omega
        clear hi
        subst hi2
        have hml : m < z0.length := by omega
        have hFr := HF.out.below HQ.out
        obtain ⟨ad, rfl, hc⟩ := hFr.at_ (by omega)
        obtain ⟨hc0, hc1⟩ := hc m z0[m] (List.getElem?_eq_getElem hml)
        have hc1 := fd_snd hc1
        have hi0 : (0 : Int) ≤ (m : Int) := by omega
        have hi1 : (m : Int) < (z0.length : Int) := by omega
        have HT : Hid ((z0.drop m).reverse = (z0.drop (m + 1)).reverse ++ [z0[m]]) := by show _ = _; rw [List.drop_eq_getElem_cons hml, List.reverse_cons]
        have hXl : (z0.drop (m + 1)).reverse.length ≤ 70 := by rw [List.length_reverse, List.length_drop]; omega
        have hxs := HXZ.out _ (List.getElem_mem hml)
        generalize (z0.drop (m + 1)).reverse = X at *
        generalize z0[m] = x at *
        obtain ⟨xa, xb⟩ := x
        simp only at hc0 hc1 hxs
        have HXS := Lib.hid hxs
        clear hc hxs hFr
        go_wp2_with (at_builtin; refine wpList_append_slf rfl _ _ 22 rfl w2.heap.size 38 Try.underlying22 (by kernel_rfl) _ rfl X (HO.out.alloc _) _ 1 1 rfl [(xa, xb)] (SlF.one wr 38 (xa, xb) HXS.out) (by simp; omega) (Nat.le_trans HQ.out.size (by simp)) w2 (HQ.out.alloc HQ.out.size _) ?_; intro v4 w4 ho4 hb4 hz4)
        go_roundw
        case rel => exact ⟨m, _, by omega, rfl, by go_num, by show OwnF _ _ _ _ _; rw [HT.out]; exact ho4.out, hb4⟩
        case measure => simp [intOf] <;> omega

set_option maxRecDepth 100000 in
theorem lifted (os : Os) (started : os.Started) (H : Type) (enc : TypeId × Value → H) :
    ReturnsInHanded {} Try.checked os 6 .any (Rows.varyOrderSpec.pre6 enc Try.prog Try.f6 Rows.varyOrderRow.domain false) (Rows.varyOrderSpec.post enc Try.prog Try.f6 false true false false) := by
  refine returnsInHanded_of_change (C := Try.checked) own started (by kernel_rfl) Try.func6
    (ChangeSpec.witness6 (enc := enc) (C := Try.checked) false ⟨#[], #[.slice none 0 0], []⟩ 8 (by kernel_rfl) (by kernel_rfl) (by kernel_rfl) (by kernel_rfl)) ?_
  intro W base args ds gs before hval0 hW hcnd _
  have hval : ∀ (j : Nat) t v, Try.f6.params[j]? = some t → args[j]? = some v → Value.okWide Try.prog W .any base t v := hval0
  have hW' := hW
  obtain ⟨p, q, hA0, hV, rfl, hfz, hnd⟩ := hW
  have hA : DataW.TrodAll enc Try.prog W 0 (fun _ => true) true Try.f6.params.toList args.toList ds p := hA0
  rw [Try.params6] at hA hval
  obtain ⟨v0, vs0, d0, ds0, p0, q0, hargs, rfl, rfl, h0, r0⟩ := trodAll_cons hA
  obtain ⟨rfl, rfl, rfl⟩ := trodAll_nil r0
  obtain rfl : args = #[v0] := by cases args; simp_all
  obtain ⟨rfl, rfl⟩ := trodVars_none hV
  obtain ⟨a0, len0, cap0, rfl⟩ := okWide_slice Try.underlying22 (hval 0 22 v0 rfl rfl)
  have k0 := h0
  have lt0 : ∀ x ∈ p0, x.block < W.heap.size := by obtain ⟨m, hm⟩ := k0; exact DataW.trod_lt m _ _ _ hm
  obtain ⟨z0, w0⟩ := SlF.of_trod Try.underlying22 Try.underlying38 (by kernel_rfl) rfl rfl (by kernel_rfl) (by kernel_rfl) Try.underlying9 Try.underlying9 h0
  clear hA0 hval0
  refine (walk a0 len0 cap0 z0 W w0).mono fun e W' ⟨he, bel⟩ => ?_
  subst he
  exact ⟨_, rfl, _, _, _, [], _, [], hW', trodAll_mk1 (shut_bool Try.underlying4 _), (trodAll_cons_mk (Below.trod laidOut (by kernel_rfl) (of_decide_eq_true (by kernel_rfl)) k0 bel lt0) trodAll_mk0), rfl, bel.frame _, fun h => by cases h⟩

theorem over : Rows.varyOrderRow.holds Try.pinned (OpenSpec.ofChange Rows.varyOrderSpec) :=
  OpenClaim.holds_of_wide 6 Try.f6 rfl rfl rfl rfl rfl rfl rfl ⟨rfl, rfl, rfl, rfl, rfl⟩ rfl rfl rfl rfl rfl (by kernel_rfl) Try.func6 (by kernel_rfl)
    (of_decide_eq_true (by kernel_rfl)) (by unfold Func.isWrapper; first | (rw [if_pos (by decide +kernel)]; kernel_rfl) | (rw [if_neg (by decide +kernel)]; exact ⟨rfl, rfl⟩))
    (fun os started H enc _ => lifted os started H enc)

theorem proved : Rows.VaryOrderSaid := over
#print axioms proved
end Go.Proofs.Ytmpgenflohdghaa.varyOrder
