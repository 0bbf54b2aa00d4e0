/-
  The law LineBack (depotlaw10) returns true for every method, target, code, minor version and line, and leaves what it was given as it was. No condition.
-/
import Derived.Test.YtbmlldjkfpekkaaDoorRows
import Derived.WalkKit
import Derived.ProofKit
import Derived.OpenShut
import Derived.ShutString
import Derived.ChangeOld
import Derived.Below
import Derived.Test.YtbmlldjkfpekkaaDoorLirX
import Derived.Test.YtbmlldjkfpekkaaDoorLinL
import Derived.Test.YtbmlldjkfpekkaaDoorLirY
import Derived.Test.YtbmlldjkfpekkaaDoorOctTx
import Derived.Deep.DeepCutAuto
import Derived.Test.YtbmlldjkfpekkaaDoorCards
import Derived.Test.YtbmlldjkfpekkaaDoorTie
import Derived.LaidMore
import Derived.Lib.LaidTab
import Derived.Stop.Joined
import Derived.Lay
namespace Go.Proofs.YtbmlldjkfpekkaaDoor.lineBack
open Go.ChangeShapes Go.WideShapes Go.ChangeAt Go.RowKit
open Go.ChangeMaps (open_string shut_string)
set_option linter.unusedVariables false

theorem own : ownKnob Tryd.prog.godebug = none := by kernel_rfl
theorem laidOut : laidOutB Tryd.prog = true := by kernel_rfl

set_option maxHeartbeats 8000000 in
set_option maxRecDepth 100000 in
theorem walk (a0 : ByteArray) (a1 : ByteArray) (a2 : Int) (a3 : Int) (a4 : ByteArray) (w : World) (w0 : a0.size ≤ maxLen) (w1 : a1.size ≤ maxLen) (w2 : (Lit.int .i64 a2).wf = true) (w3 : (Lit.int .i64 a3).wf = true) (w4 : a4.size ≤ maxLen) (hL : laidMetH Tryd.prog Rows.lineBackRow.laid w) :
    Calls Tryd.prog 5 #[.string a0, .string a1, .int .i64 a2, .int .i64 a3, .string a4] w fun e w' => e = .returned (.bool true) ∧ Below w.heap.size w w' := by
  have HT := linTabs hL
  have cx := fun W (hW : Below w.heap.size w W) => ex10_any W (HT.kept hW)
  have CX := Lib.hid cx
  clear cx hL
  have g2 := wf_i64 w2
  have g3 := wf_i64 w3
  by_cases h0 : (1000 : Int) < (a0.size : Int)
  · clear g2 g3
    go_enter Tryd.func5, Tryd.ntmps5
    go_wp2_with fail
    refine (CX.out _ (Below.refl _ _)).mono ?_
    rintro e z1 ⟨rfl, hz1⟩
    go_wp2_with fail
    go_ret
    exact ⟨rfl, below_then (Below.refl _ _) hz1⟩
  · by_cases h1 : (1000 : Int) < (a1.size : Int)
    · clear g2 g3
      go_enter Tryd.func5, Tryd.ntmps5
      go_wp2_with fail
      refine (CX.out _ (Below.refl _ _)).mono ?_
      rintro e z1 ⟨rfl, hz1⟩
      go_wp2_with fail
      go_ret
      exact ⟨rfl, below_then (Below.refl _ _) hz1⟩
    · by_cases h4 : (5000 : Int) < (a4.size : Int)
      · clear g2 g3
        go_enter Tryd.func5, Tryd.ntmps5
        go_wp2_with fail
        refine (CX.out _ (Below.refl _ _)).mono ?_
        rintro e z1 ⟨rfl, hz1⟩
        go_wp2_with fail
        go_ret
        exact ⟨rfl, below_then (Below.refl _ _) hz1⟩
      · have hML : (10000 : Nat) ≤ maxLen := by decide
        have c1 := fun W (hW : Below w.heap.size w W) => request_any a4 W w4 (HT.kept hW)
        have c3 := fun W (hW : Below w.heap.size w W) => status_any a4 W w4 (HT.kept hW)
        have c5 := fun W => isToken_any a0 W w0
        have c8 := fun W => isText_any a1 W w1
        have t5 : (!a0.toList.isEmpty && allB tokB a0.data.toList) = tokS a0 := rfl
        rw [t5] at c5
        -- what is read is printed as it was
        have hrq : rqE a4 = 0 → ∀ W, Below w.heap.size w W → Calls Tryd.prog 11 #[.string (rqA a4), .string (rqB a4), .int .i64 (rqV a4)] W fun e w' => e = .returned (.string a4) ∧ Below W.heap.size W w' := fun hE W hW => by
          obtain ⟨e1, e2, e3⟩ := rq_back hE
          have hz := congrArg ByteArray.size e1
          rw [prq_size _ _ _ e2 e3] at hz
          have := printRequest_any (rqA a4) (rqB a4) (rqV a4) (by omega) (by omega) (by omega) (by omega) W (HT.kept hW)
          rw [e1] at this
          exact this
        have hsr : stE a4 = 0 → ∀ W, Below w.heap.size w W → Calls Tryd.prog 13 #[.int .i64 (stN a4), .string (stB a4), .int .i64 (stV' a4)] W fun e w' => e = .returned (.string a4) ∧ Below W.heap.size W w' := fun hE W hW => by
          obtain ⟨e1, ⟨e2, e3⟩, e4, e5⟩ := st_back hE
          have hz : (stB a4).size ≤ a4.size := by
            have := congrArg ByteArray.size e1
            rw [Lib.size_eq, pst_list] at this
            simp only [List.length_append, List.length_cons] at this
            rw [← Lib.size_eq] at this
            omega
          have := printStatus_any (stN a4) (stB a4) (stV' a4) (by omega) (by omega) (by omega) (by omega) (by omega) W (HT.kept hW)
          rw [e1] at this
          exact this
        have c6 := fun W (hW : Below w.heap.size w W) => printRequest_any a0 a1 a3 g3.1 g3.2 (by omega) (by omega) W (HT.kept hW)
        have c9 := fun W (hW : Below w.heap.size w W) => printStatus_any a2 a1 a3 g2.1 g2.2 g3.1 g3.2 (by omega) W (HT.kept hW)
        have htr : 0 ≤ a3 → a3 ≤ 1 → (fineQ a0 a1 = true → rqE (prqS a0 a1 a3) = 0 ∧ rqA (prqS a0 a1 a3) = a0 ∧ rqB (prqS a0 a1 a3) = a1 ∧ rqV (prqS a0 a1 a3) = a3) ∧ (fineQ a0 a1 = false → rqE (prqS a0 a1 a3) = 20) := fun q0 q1 => rq_trip (by omega) (by omega) (by omega) (by omega)
        have hst : 0 ≤ a3 → a3 ≤ 1 → fineT a2 a1 = true → stE (pstS a2 a1 a3) = 0 ∧ stN (pstS a2 a1 a3) = a2 ∧ stB (pstS a2 a1 a3) = a1 ∧ stV' (pstS a2 a1 a3) = a3 := fun q0 q1 hf => st_trip (by omega) (by omega) (by omega) hf
        have hss : 0 ≤ a3 → a3 ≤ 1 → (prqS a0 a1 a3).size ≤ maxLen ∧ (pstS a2 a1 a3).size ≤ maxLen := fun q0 q1 => by
          have hp1 := prq_size a0 a1 a3 (by omega) (by omega)
          have hp2 := pst_size a2 a1 a3 (by omega) (by omega) g2.1 g2.2
          exact ⟨by omega, by omega⟩
        generalize rqA a4 = RA at *
        generalize rqB a4 = RB at *
        generalize rqV a4 = RV at *
        generalize rqE a4 = E at *
        generalize stN a4 = SN at *
        generalize stB a4 = SB at *
        generalize stV' a4 = SV at *
        generalize stE a4 = F at *
        have hfq : fineQ a0 a1 = ((tokS a0 && !a1.toList.isEmpty) && allB visB a1.data.toList) := rfl
        have hft : fineT a2 a1 = ((decide (100 ≤ a2) && decide (a2 ≤ 599)) && allB txtB a1.data.toList) := rfl
        generalize fineQ a0 a1 = FQ at *
        generalize fineT a2 a1 = FT at *
        generalize tokS a0 = tk at *
        generalize allB txtB a1.data.toList = tx at *
        have C1 := Lib.hid c1
        have C3 := Lib.hid c3
        have C5 := Lib.hid c5
        have C8 := Lib.hid c8
        have C2 := Lib.hid hrq
        have C4 := Lib.hid hsr
        have HTR := Lib.hid htr
        have HST := Lib.hid hst
        have HSS := Lib.hid hss
        have HFQ := Lib.hid hfq
        have HFT := Lib.hid hft
        clear c1 c3 c5 c8 hrq hsr htr hst hss hfq hft t5 hML
        go_enter Tryd.func5, Tryd.ntmps5
        go_wp2_with fail
        refine (C1.out _ (Below.refl _ _)).mono ?_
        rintro e u1 ⟨rfl, hu1⟩
        have HB := Lib.hid hu1
        clear hu1
        go_upto_region 4 with fail
        go_cut [51] (fun s wx => s = .bool false ∧ Below w.heap.size w wx)
        case first =>
          by_cases hE : E = 0
          · have D2 := Lib.hid (C2.out hE)
            clear C2
            subst hE
            go_wp2_with fail
            refine (D2.out _ HB.out).mono ?_
            rintro e u2 ⟨rfl, hu2⟩
            have HB := Lib.hid (below_then HB.out hu2)
            clear hu2
            go_wp2_with fail
            go_meet
            exact ⟨rfl, HB.out⟩
          · have hE1 : (E == 0) = false := by simpa using hE
            go_wp2_with fail
            go_meet
            exact ⟨rfl, HB.out⟩
        case rest =>
          obtain ⟨rfl, hbx⟩ := hcut
          have HB := Lib.hid hbx
          clear hbx C2
          go_wp2_with fail
          refine (C3.out _ HB.out).mono ?_
          rintro e u3 ⟨rfl, hu3⟩
          have HB := Lib.hid (below_then HB.out hu3)
          clear hu3
          go_upto_region 7 with fail
          go_cut [68] (fun s wx => s = .bool false ∧ Below w.heap.size w wx)
          case first =>
            by_cases hF : F = 0
            · have D4 := Lib.hid (C4.out hF)
              clear C4
              subst hF
              go_wp2_with fail
              refine (D4.out _ HB.out).mono ?_
              rintro e u4 ⟨rfl, hu4⟩
              have HB := Lib.hid (below_then HB.out hu4)
              clear hu4
              go_wp2_with fail
              go_meet
              exact ⟨rfl, HB.out⟩
            · have hF1 : (F == 0) = false := by simpa using hF
              go_wp2_with fail
              go_meet
              exact ⟨rfl, HB.out⟩
          case rest =>
            obtain ⟨rfl, hbx⟩ := hcut
            have HB := Lib.hid hbx
            clear hbx C4
            by_cases hm0 : a3 < 0
            · skip
              go_wp2_with fail
              refine (CX.out _ HB.out).mono ?_
              rintro e z1 ⟨rfl, hz1⟩
              go_wp2_with fail
              go_ret
              exact ⟨rfl, below_then HB.out hz1⟩
            · by_cases hm1 : 1 < a3
              · skip
                go_wp2_with fail
                refine (CX.out _ HB.out).mono ?_
                rintro e z1 ⟨rfl, hz1⟩
                go_wp2_with fail
                go_ret
                exact ⟨rfl, below_then HB.out hz1⟩
              · skip
                obtain ⟨t1, t2⟩ := HTR.out (by omega) (by omega)
                obtain ⟨s1, s2⟩ := HSS.out (by omega) (by omega)
                have k7 := fun W (hW : Below w.heap.size w W) => request_any (prqS a0 a1 a3) W s1 (HT.kept hW)
                have k10 := fun W (hW : Below w.heap.size w W) => status_any (pstS a2 a1 a3) W s2 (HT.kept hW)
                have hst := HST.out (by omega) (by omega)
                clear HTR HSS HST
                generalize prqS a0 a1 a3 = P1 at *
                generalize pstS a2 a1 a3 = P2 at *
                have C6 := Lib.hid c6
                have C9 := Lib.hid c9
                generalize rqA P1 = QA at *
                generalize rqB P1 = QB at *
                generalize rqV P1 = QV at *
                generalize rqE P1 = QE at *
                generalize stN P2 = TN at *
                generalize stB P2 = TB at *
                generalize stV' P2 = TV at *
                generalize stE P2 = TE at *
                have C7 := Lib.hid k7
                have C10 := Lib.hid k10
                have T1 := Lib.hid t1
                have T2 := Lib.hid t2
                have ST := Lib.hid hst
                clear k7 k10 t1 t2 hst s1 s2 c6 c9
                go_upto_region 11 with fail
                go_cut [19] (fun s wx => s = .bool (tk && !a1.toList.isEmpty) ∧ Below w.heap.size w wx)
                case first =>
                  cases tk
                  · skip
                    go_wp2_with fail
                    refine (C5.out _).mono ?_
                    rintro e u11 ⟨rfl, hu11⟩
                    have HB := Lib.hid (below_then HB.out hu11)
                    clear hu11
                    go_wp2_with fail
                    go_meet
                    exact ⟨rfl, HB.out⟩
                  · by_cases hT0 : a1.size = 0
                    · have hem := nil_str hT0
                      go_wp2_with fail
                      refine (C5.out _).mono ?_
                      rintro e u11 ⟨rfl, hu11⟩
                      have HB := Lib.hid (below_then HB.out hu11)
                      clear hu11
                      go_wp2_with fail
                      go_meet
                      exact ⟨by rw [hem]; rfl, HB.out⟩
                    · have hem := non_str hT0
                      go_wp2_with fail
                      refine (C5.out _).mono ?_
                      rintro e u11 ⟨rfl, hu11⟩
                      have HB := Lib.hid (below_then HB.out hu11)
                      clear hu11
                      go_wp2_with fail
                      go_meet
                      exact ⟨by rw [hem]; rfl, HB.out⟩
                case rest =>
                  obtain ⟨rfl, hbx⟩ := hcut
                  have HB := Lib.hid hbx
                  clear hbx
                  obtain ⟨B0, hB0⟩ : ∃ B0, B0 = (tk && !a1.toList.isEmpty) := ⟨_, rfl⟩
                  have HQ : Hid (FQ = (B0 && allB visB a1.data.toList)) := by show _ = _; rw [hB0]; exact HFQ.out
                  rw [← hB0]
                  clear hB0 HFQ
                  go_wp2_with fail
                  go_loop [19, 20] (fun g i => ∃ (k : Nat) (b : Bool), k ≤ a1.size ∧ i = .int .i64 k ∧ g = .bool b ∧ Hid (b = (B0 && allB visB (a1.data.toList.take k)))) (fun _ i => a1.size - (intOf i).toNat)
                  case atStart => exact ⟨0, B0, Nat.zero_le _, rfl, rfl, by show _ = _; rw [List.take_zero, show allB visB [] = true from rfl, Bool.and_true]⟩
                  case round =>
                    obtain ⟨k, b, hk, rfl, rfl, hf⟩ := hrel
                    by_cases hlt : k < a1.size
                    · have hbd := byte_wf a1[k]
                      have hi0 : (0 : Int) ≤ (k : Int) := by omega
                      have hi1 : (k : Int) < (a1.size : Int) := by omega
                      have HA : Hid ((B0 && allB visB (a1.data.toList.take (k + 1))) = (b && visB (a1[k].toNat : Int))) := by
                        show _ = _
                        rw [allB_take visB a1 k hlt, hf.out, Bool.and_assoc]
                      cases b with
                      | false =>
                        clear hf
                        go_wp2_with fail
                        go_round
                        case rel => exact ⟨k + 1, false, by omega, by go_num, rfl, by show _ = _; rw [HA.out]; rfl⟩
                        case measure => simp [intOf]; omega
                      | true =>
                        clear hf
                        by_cases q1 : (32 : Int) < (a1[k].toNat : Int)
                        · by_cases q2 : (a1[k].toNat : Int) < 127
                          · have HV : Hid (visB (a1[k].toNat : Int) = true) := by show _ = _; unfold visB; rw [decide_eq_true (by omega), decide_eq_true (by omega)]; rfl
                            go_wp2_with fail
                            go_round
                            case rel => exact ⟨k + 1, true, by omega, by go_num, rfl, by show _ = _; rw [HA.out, HV.out]; rfl⟩
                            case measure => simp [intOf]; omega
                          · have HV : Hid (visB (a1[k].toNat : Int) = false) := by show _ = _; unfold visB; rw [decide_eq_false (p := (a1[k].toNat : Int) ≤ 126) (by omega), Bool.and_false]
                            go_wp2_with fail
                            go_round
                            case rel => exact ⟨k + 1, false, by omega, by go_num, rfl, by show _ = _; rw [HA.out, HV.out]; rfl⟩
                            case measure => simp [intOf]; omega
                        · have HV : Hid (visB (a1[k].toNat : Int) = false) := by show _ = _; unfold visB; rw [decide_eq_false (p := (33 : Int) ≤ (a1[k].toNat : Int)) (by omega)]; rfl
                          go_wp2_with fail
                          go_round
                          case rel => exact ⟨k + 1, false, by omega, by go_num, rfl, by show _ = _; rw [HA.out, HV.out]; rfl⟩
                          case measure => simp [intOf]; omega
                    · have HFIN : Hid (b = FQ) := by
                        show _ = _
                        rw [hf.out, List.take_of_length_le (by rw [← Lib.size_eq]; omega), HQ.out]
                      have hi1 : ¬ (k : Int) < (a1.size : Int) := by omega
                      clear hf
                      go_wp2_with fail
                      refine (C6.out _ HB.out).mono ?_
                      rintro e u16 ⟨rfl, hu16⟩
                      have HB := Lib.hid (below_then HB.out hu16)
                      clear hu16
                      go_wp2_with fail
                      refine (C7.out _ HB.out).mono ?_
                      rintro e u17 ⟨rfl, hu17⟩
                      have HB := Lib.hid (below_then HB.out hu17)
                      clear hu17
                      go_upto_region 17 with fail
                      go_cut [132] (fun s wx => s = .bool false ∧ Below w.heap.size w wx)
                      case first =>
                        cases b
                        · have x1 := T2.out HFIN.out.symm
                          subst x1
                          go_wp2_with fail
                          go_meet
                          exact ⟨rfl, HB.out⟩
                        · obtain ⟨x1, x2, x3, x4⟩ := T1.out HFIN.out.symm
                          subst x1 x2 x3 x4
                          go_wp2_with fail
                          go_meet
                          exact ⟨rfl, HB.out⟩
                      case rest =>
                        obtain ⟨rfl, hbx⟩ := hcut
                        have HB := Lib.hid hbx
                        clear hbx T1 T2 C7 C6
                        go_upto_region 19 with fail
                        go_cut [19] (fun s wx => s = .bool FT ∧ Below w.heap.size w wx)
                        case first =>
                          by_cases hc0 : 100 ≤ a2
                          · by_cases hc1 : a2 ≤ 599
                            · have HFX : Hid (FT = tx) := by show _ = _; rw [HFT.out, decide_eq_true (p := 100 ≤ a2) (by omega), decide_eq_true (p := a2 ≤ 599) (by omega)]; rfl
                              go_wp2_with fail
                              refine (C8.out _).mono ?_
                              rintro e u19 ⟨rfl, hu19⟩
                              have HB := Lib.hid (below_then HB.out hu19)
                              clear hu19
                              go_wp2_with fail
                              go_meet
                              exact ⟨by rw [HFX.out], HB.out⟩
                            · have HFX : Hid (FT = false) := by show _ = _; rw [HFT.out, decide_eq_false (p := a2 ≤ 599) (by omega), Bool.and_false]; rfl
                              go_wp2_with fail
                              go_meet
                              exact ⟨by rw [HFX.out], HB.out⟩
                          · have HFX : Hid (FT = false) := by show _ = _; rw [HFT.out, decide_eq_false (p := 100 ≤ a2) (by omega)]; rfl
                            go_wp2_with fail
                            go_meet
                            exact ⟨by rw [HFX.out], HB.out⟩
                        case rest =>
                          obtain ⟨rfl, hbx⟩ := hcut
                          have HB := Lib.hid hbx
                          clear hbx HFT
                          go_wp2_with fail
                          refine (C9.out _ HB.out).mono ?_
                          rintro e u20 ⟨rfl, hu20⟩
                          have HB := Lib.hid (below_then HB.out hu20)
                          clear hu20
                          go_wp2_with fail
                          refine (C10.out _ HB.out).mono ?_
                          rintro e u21 ⟨rfl, hu21⟩
                          have HB := Lib.hid (below_then HB.out hu21)
                          clear hu21
                          cases FT
                          · by_cases hTE : TE = 0
                            · subst hTE
                              go_wp2_with fail
                              refine (CX.out _ HB.out).mono ?_
                              rintro e z1 ⟨rfl, hz1⟩
                              go_wp2_with fail
                              go_ret
                              exact ⟨rfl, below_then HB.out hz1⟩
                            · have hTE1 : (TE == 0) = false := by simpa using hTE
                              go_wp2_with fail
                              refine (CX.out _ HB.out).mono ?_
                              rintro e z1 ⟨rfl, hz1⟩
                              go_wp2_with fail
                              go_ret
                              exact ⟨rfl, below_then HB.out hz1⟩
                          · obtain ⟨y1, y2, y3, y4⟩ := ST.out rfl
                            subst y1 y2 y3 y4
                            go_wp2_with fail
                            refine (CX.out _ HB.out).mono ?_
                            rintro e z1 ⟨rfl, hz1⟩
                            go_wp2_with fail
                            go_ret
                            exact ⟨rfl, below_then HB.out hz1⟩

theorem door_met (os : Os) (args : Array Value) : laidMetH Tryd.prog Rows.lineBackRow.laid ((World.laidAll Tryd.prog os Rows.lineBackRow.laid).forCall (fun _ _ => 0) ⟨#[], args, []⟩).memory := by
  rw [MakeChecks.laidMetH_plain _ _ _ (by kernel_rfl)]
  exact laidMet_laidAll _ (by kernel_rfl) (by kernel_rfl)

set_option maxRecDepth 100000 in
theorem lifted (os : Os) (started : os.Started) (H : Type) (enc : TypeId × Value → H) :
    ReturnsInHanded {} Tryd.checked os 5 .any (fun w args => (Rows.lineBackSpec.pre enc Tryd.prog Tryd.f5 [] false w args ∧ laidMetH Tryd.prog Rows.lineBackRow.laid w) ∧ sizedMet enc Tryd.prog Tryd.f5 (OpenSpec.ofChange Rows.lineBackSpec) false w args) (Rows.lineBackSpec.post enc Tryd.prog Tryd.f5 false true false false) := by
  refine returnsInHanded_of_change_and (C := Tryd.checked) (X := fun w _ => laidMetH Tryd.prog Rows.lineBackRow.laid w) (fun _ _ _ hh h => h.of_heap hh) own started (by kernel_rfl) Tryd.func5
    (ChangeSpec.witness_shaped (enc := enc) (C := Tryd.checked) (os := os) (X := fun w _ => laidMetH Tryd.prog Rows.lineBackRow.laid w) false (World.laidAll Tryd.prog os Rows.lineBackRow.laid) #[.string ByteArray.empty, .string ByteArray.empty, .int .i64 0, .int .i64 0, .string ByteArray.empty] 8 rfl (World.shaped_of_ZipB (by kernel_rfl) (by kernel_rfl)) (by kernel_rfl) (by kernel_rfl) (by kernel_rfl) (door_met os _)) ?_
  intro W base args ds gs before hval0 hW _ _ hL _
  have hval : ∀ (j : Nat) t v, Tryd.f5.params[j]? = some t → args[j]? = some v → Value.okWide Tryd.prog W .any base t v := hval0
  have hW' := hW
  obtain ⟨p, q, hA0, hV, rfl, hfz, hnd⟩ := hW
  have hA : DataW.TrodAll enc Tryd.prog W 0 (fun _ => true) true Tryd.f5.params.toList args.toList ds p := hA0
  rw [Tryd.params5] at hA hval
  obtain ⟨v0, vs0, d0, ds0, p0, q0, hargs, rfl, rfl, h0, r0⟩ := trodAll_cons hA
  obtain ⟨v1, vs1, d1, ds1, p1, q1, rfl, rfl, rfl, h1, r1⟩ := trodAll_cons r0
  obtain ⟨v2, vs2, d2, ds2, p2, q2, rfl, rfl, rfl, h2, r2⟩ := trodAll_cons r1
  obtain ⟨v3, vs3, d3, ds3, p3, q3, rfl, rfl, rfl, h3, r3⟩ := trodAll_cons r2
  obtain ⟨v4, vs4, d4, ds4, p4, q4, rfl, rfl, rfl, h4, r4⟩ := trodAll_cons r3
  obtain ⟨rfl, rfl, rfl⟩ := trodAll_nil r4
  obtain rfl : args = #[v0, v1, v2, v3, v4] := by cases args; simp_all
  obtain ⟨rfl, rfl⟩ := trodVars_none hV
  obtain ⟨a0, rfl, rfl, rfl, w0⟩ := open_string Tryd.underlying9 (hval 0 9 v0 rfl rfl) h0
  obtain ⟨a1, rfl, rfl, rfl, w1⟩ := open_string Tryd.underlying9 (hval 1 9 v1 rfl rfl) h1
  obtain ⟨a2, rfl, rfl, rfl, w2⟩ := open_int Tryd.underlying3 (hval 2 3 v2 rfl rfl) h2
  obtain ⟨a3, rfl, rfl, rfl, w3⟩ := open_int Tryd.underlying3 (hval 3 3 v3 rfl rfl) h3
  obtain ⟨a4, rfl, rfl, rfl, w4⟩ := open_string Tryd.underlying9 (hval 4 9 v4 rfl rfl) h4
  clear hA0 hval0
  refine (walk a0 a1 a2 a3 a4 W w0 w1 w2 w3 w4 hL).mono fun e W' ⟨he, bel⟩ => ?_
  subst he
  exact ⟨_, rfl, _, _, _, [], _, [], hW', trodAll_mk1 (shut_bool Tryd.underlying4 _), (trodAll_cons_mk (shut_string Tryd.underlying9 w0) (trodAll_cons_mk (shut_string Tryd.underlying9 w1) (trodAll_cons_mk (shut_int Tryd.underlying3 w2) (trodAll_cons_mk (shut_int Tryd.underlying3 w3) (trodAll_cons_mk (shut_string Tryd.underlying9 w4) trodAll_mk0))))), rfl, bel.frame _, fun h => by cases h⟩

theorem over : Rows.lineBackRow.holds Tryd.pinned (OpenSpec.ofChange Rows.lineBackSpec) :=
  OpenClaim.holds_of_wide 5 Tryd.f5 rfl rfl rfl rfl rfl rfl rfl ⟨rfl, rfl, rfl, rfl, rfl⟩ rfl rfl rfl rfl rfl (by kernel_rfl) Tryd.func5 (by kernel_rfl)
    (of_decide_eq_true (by kernel_rfl)) (by unfold Func.isWrapper; first | (rw [if_pos (by decide +kernel)]; kernel_rfl) | (rw [if_neg (by decide +kernel)]; exact ⟨rfl, rfl⟩))
    (fun os started H enc _ => lifted os started H enc)

theorem said : Rows.LineBackSaid :=
  over

theorem plain (f : FuncId) (fn : Func) (hf : Tryd.pinned.checked.prog.funcNamed "depot/depotlaw10.LineBack" = some f) (hfn : Tryd.pinned.checked.prog.funcs[f]? = some fn) :
    false = Tryd.pinned.checked.prog.looks [] ∧ ∀ (j : Nat) t, fn.params[j]? = some t → Tryd.pinned.checked.prog.wantsStandIn t = false := by
  obtain rfl : f = 5 := Option.some.inj ((show Tryd.prog.funcNamed "depot/depotlaw10.LineBack" = some 5 by kernel_rfl).symm.trans hf) |>.symm
  obtain rfl : fn = Tryd.f5 := (Option.some.inj (Tryd.func5.symm.trans hfn)).symm
  refine ⟨by kernel_rfl, fun j t ht => ?_⟩
  rw [Tryd.params5] at ht
  · have hm := Array.mem_of_getElem? ht
    simp only [List.mem_toArray, List.mem_cons, List.not_mem_nil, or_false] at hm
    have all : Tryd.pinned.checked.prog.wantsStandIn 3 = false ∧ Tryd.pinned.checked.prog.wantsStandIn 9 = false := ⟨by kernel_rfl, by kernel_rfl⟩
    rcases hm with rfl | rfl | rfl | rfl | rfl
    all_goals first | with_reducible exact all.1 | with_reducible exact all.2

theorem proved : Rows.LineBackCardSaid :=
  Claim7.holds_tied_plain_at .later [] _ _ _ _ said (fun _ h => by cases h) (by kernel_rfl) (fun _ h => by cases h) lineBack_row_tie rfl ⟨rfl, rfl⟩ (by kernel_rfl) rfl plain (by kernel_rfl)
#print axioms proved
end Go.Proofs.YtbmlldjkfpekkaaDoor.lineBack
