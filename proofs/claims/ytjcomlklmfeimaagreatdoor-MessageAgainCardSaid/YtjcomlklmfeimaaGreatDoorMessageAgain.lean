/-
  The law MessageAgain (depotlaw12) returns true for every message and leaves what it was given as it was. No condition.
-/
import Derived.Test.YtjcomlklmfeimaaGreatDoorRows
import Derived.WalkKit
import Derived.ProofKit
import Derived.OpenShut
import Derived.ShutString
import Derived.ChangeOld
import Derived.Below
import Derived.Test.YtjcomlklmfeimaaGreatDoorMrgA
import Derived.Test.YtjcomlklmfeimaaGreatDoorMrgB
import Derived.Test.YtjcomlklmfeimaaGreatDoorMrgC
import Derived.Test.YtjcomlklmfeimaaGreatDoorMrgD
import Derived.Test.YtjcomlklmfeimaaGreatDoorMrgE
import Derived.Test.YtjcomlklmfeimaaGreatDoorMrgF
import Derived.Test.YtjcomlklmfeimaaGreatDoorMrgG
import Derived.Test.YtjcomlklmfeimaaGreatDoorMrgH
import Derived.Test.YtjcomlklmfeimaaGreatDoorMrgI
import Derived.Test.YtjcomlklmfeimaaGreatDoorMrgJ
import Derived.Test.YtjcomlklmfeimaaGreatDoorMrgK
import Derived.Test.YtjcomlklmfeimaaGreatDoorMrgL
import Derived.Test.YtjcomlklmfeimaaGreatDoorMrgM
import Derived.Test.YtjcomlklmfeimaaGreatDoorMrgN
import Derived.Test.YtjcomlklmfeimaaGreatDoorMrgO
import Derived.Test.YtjcomlklmfeimaaGreatDoorMrgP
import Derived.Test.YtjcomlklmfeimaaGreatDoorMrgQ
import Derived.Test.YtjcomlklmfeimaaGreatDoorMrgR
import Derived.Test.YtjcomlklmfeimaaGreatDoorMrgS
import Derived.Test.YtjcomlklmfeimaaGreatDoorMrgT
import Derived.Test.YtjcomlklmfeimaaGreatDoorMrgU
import Derived.Test.YtjcomlklmfeimaaGreatDoorMrgV
import Derived.Test.YtjcomlklmfeimaaGreatDoorMrgW
import Derived.Test.YtjcomlklmfeimaaGreatDoorMrgX
import Derived.Test.YtjcomlklmfeimaaGreatDoorMrgY
import Derived.Test.YtjcomlklmfeimaaGreatDoorMrgZ
import Derived.Test.YtjcomlklmfeimaaGreatDoorMrgAA
import Derived.Test.YtjcomlklmfeimaaGreatDoorMrgAB
import Derived.Test.YtjcomlklmfeimaaGreatDoorMrgAC
import Derived.Test.YtjcomlklmfeimaaGreatDoorMrgAD
import Derived.Test.YtjcomlklmfeimaaGreatDoorMrgAE
import Derived.Test.YtjcomlklmfeimaaGreatDoorMrgAF
import Derived.Test.YtjcomlklmfeimaaGreatDoorMrgAG
import Derived.Test.YtjcomlklmfeimaaGreatDoorMrgAH
import Derived.Test.YtjcomlklmfeimaaGreatDoorMrgAI
import Derived.Test.YtjcomlklmfeimaaGreatDoorMrgAJ
import Derived.Test.YtjcomlklmfeimaaGreatDoorMrgAK
import Derived.Test.YtjcomlklmfeimaaGreatDoorCards
import Derived.Test.YtjcomlklmfeimaaGreatDoorTie
import Derived.LaidMore
import Derived.Lib.LaidTab
import Derived.Stop.Joined
import Derived.Lay
namespace Go.Proofs.YtjcomlklmfeimaaGreatDoor.messageAgain
open Go.ChangeShapes Go.WideShapes Go.ChangeAt Go.RowKit
open Go.ChangeMaps (open_string shut_string)
set_option linter.unusedVariables false

theorem own : ownKnob Tryz.prog.godebug = none := by kernel_rfl
theorem laidOut : laidOutB Tryz.prog = true := by kernel_rfl

set_option maxHeartbeats 8000000 in
set_option maxRecDepth 100000 in
theorem walk (a0 : ByteArray) (w : World) (w0 : a0.size ≤ maxLen) (hL : laidMetH Tryz.prog Rows.messageAgainRow.laid w) (hsh : w.ShapedOpen Tryz.prog) :
    Calls Tryz.prog 7 #[.string a0] w fun e w' => e = .returned (.bool true) ∧ Below w.heap.size w w' := by
  have HT := Lib.hid (msgTabs hL hsh)
  clear hL hsh
  have cx := fun W (hW : Below w.heap.size w W) => ex12_any W (HT.out.kept hW)
  have CX := Lib.hid cx
  clear cx
  have HB : Hid (Below w.heap.size w w) := Below.refl _ _
  by_cases h0 : (5000 : Int) < (a0.size : Int)
  · skip
    go_enter Tryz.func7, Tryz.ntmps7
    go_wp2_with fail
    refine (CX.out _ HB.out).mono ?_
    rintro e v1 ⟨rfl, hb⟩
    have HB := Lib.hid (below_then HB.out hb)
    clear hb
    go_wp2_with fail
    go_ret
    exact ⟨rfl, HB.out⟩
  · have hs : a0.size ≤ 5000 := by omega
    have CQ := Lib.hid (fun W (hW : Below w.heap.size w W) => msgQ_any a0 W (by omega) (HT.out.kept hW))
    have CP := Lib.hid (fun W (hW : Below w.heap.size w W) => msgP_any a0 ⟨#[71, 69, 84]⟩ W (by omega) (HT.out.kept hW))
    have hone := fun h => read_one (raw := a0) (meth := ⟨#[71, 69, 84]⟩) h
    have hrq := fun h => read_q (raw := a0) h hs
    have hrp := fun h => read_p (raw := a0) (meth := ⟨#[71, 69, 84]⟩) h hs
    have haq := fun h => again_q (raw := a0) h
    have hap := fun h => again_p (raw := a0) (meth := ⟨#[71, 69, 84]⟩) h
    have hlq : (pqR a0).f.length ≤ 100000000 := pq_len (by omega)
    have hlp : (ppR a0 ⟨#[71, 69, 84]⟩).f.length ≤ 100000000 := pp_len (by omega)
    have KC := Lib.hid (fun hm W A c (h : SlF W A (pqR a0).f.length c (pqR a0).f) (hW : Below w.heap.size w W) => ckQ_any (pqR a0) A c W h hm (HT.out.kept hW))
    have KP := Lib.hid (fun hm W A c (h : SlF W A (pqR a0).f.length c (pqR a0).f) (hW : Below w.heap.size w W) => pmQ_any (pqR a0) A c W h hm (HT.out.kept hW))
    have CQ2 := Lib.hid (fun hz W (hW : Below w.heap.size w W) => msgQ_any (pmQ (pqR a0)) W hz (HT.out.kept hW))
    have KS := Lib.hid (fun W A B c d (h : SlF W A (pqR a0).f.length c (pqR a0).f) (h' : SlF W B (pqR a0).f.length d (pqR a0).f) => r_sameQ (pqR a0) A B c d W h h' hlq)
    have hbq := fun h => back_q (r := pqR a0) h
    have LC := Lib.hid (fun hm W A c (h : SlF W A (ppR a0 ⟨#[71, 69, 84]⟩).f.length c (ppR a0 ⟨#[71, 69, 84]⟩).f) (hW : Below w.heap.size w W) => ckP_any (ppR a0 ⟨#[71, 69, 84]⟩) A c W h hm (HT.out.kept hW))
    have LP := Lib.hid (fun hm W A c (h : SlF W A (ppR a0 ⟨#[71, 69, 84]⟩).f.length c (ppR a0 ⟨#[71, 69, 84]⟩).f) (hW : Below w.heap.size w W) => pmP_any (ppR a0 ⟨#[71, 69, 84]⟩) false A c W h hm (HT.out.kept hW))
    have CP2 := Lib.hid (fun hz W (hW : Below w.heap.size w W) => msgP_any (pmP (ppR a0 ⟨#[71, 69, 84]⟩) false) ⟨#[71, 69, 84]⟩ W hz (HT.out.kept hW))
    have LS := Lib.hid (fun W A B c d (h : SlF W A (ppR a0 ⟨#[71, 69, 84]⟩).f.length c (ppR a0 ⟨#[71, 69, 84]⟩).f) (h' : SlF W B (ppR a0 ⟨#[71, 69, 84]⟩).f.length d (ppR a0 ⟨#[71, 69, 84]⟩).f) => r_sameP (ppR a0 ⟨#[71, 69, 84]⟩) A B c d W h h' hlp)
    have hbp := fun h => back_p (r := ppR a0 ⟨#[71, 69, 84]⟩) h false ⟨#[71, 69, 84]⟩ (by decide +kernel)
    clear hlq hlp
    generalize pqE a0 = E1 at *
    generalize ppE a0 ⟨#[71, 69, 84]⟩ = E2 at *
    generalize pqR a0 = R at *
    generalize ppR a0 ⟨#[71, 69, 84]⟩ = T at *
    generalize ckQ R = EQ at *
    generalize ckP T = EP at *
    generalize SmlQ R = SQ at *
    generalize SmlP T = SP at *
    generalize pmQ R = PQ at *
    generalize pmP T false = PP at *
    generalize pqE PQ = E3 at *
    generalize pqR PQ = R2 at *
    generalize ppE PP ⟨#[71, 69, 84]⟩ = E4 at *
    generalize ppR PP ⟨#[71, 69, 84]⟩ = T2 at *
    unfold IsRq IsRp at *
    unfold rqC rpC at *
    obtain ⟨m, t, v, f, b⟩ := R
    obtain ⟨sc, sr, sv, sf, sb⟩ := T
    obtain ⟨mm, tt, vv, ff, bb⟩ := R2
    obtain ⟨sc2, sr2, sv2, sf2, sb2⟩ := T2
    simp only at *
    by_cases hE1 : E1 = 0
    · have hE2 : ¬ E2 = 0 := hone hE1
      have hE2' : (E2 == 0) = false := by simpa using hE2
      have hE2b : (E2 != 0) = true := by simpa using hE2
      have KC := Lib.hid (KC.out (hrq hE1).1)
      have KP := Lib.hid (KP.out (hrq hE1).1)
      have CQ2 := Lib.hid (CQ2.out (hrq hE1).2)
      have hEQ := haq hE1
      clear hone hrq hrp haq hap LC LP CP2 LS hbp
      subst hE1
      by_cases h0Q : EQ = 0
      · obtain ⟨hE3, hR2⟩ := hbq h0Q
        simp only [Rqst.mk.injEq] at hR2
        obtain ⟨q1, q2, q3, q4, q5⟩ := hR2
        replace q1 := q1.symm
        replace q2 := q2.symm
        replace q3 := q3.symm
        replace q4 := q4.symm
        replace q5 := q5.symm
        subst q1 q2 q3 q4 q5
        subst h0Q hE3
        clear hbq hEQ
        go_enter Tryz.func7, Tryz.ntmps7
        go_wp2_with fail
        refine (CQ.out _ HB.out).mono ?_
        rintro e v1 ⟨A1, k1, rfl, hF1, _, hb⟩
        have HB := Lib.hid (below_then HB.out hb)
        clear hb
        have Z1 := Lib.hid (heap_alloc_new v1 (.cells #[.string m, .string t, .int .i64 v, .slice A1 f.length k1, .string b] 25))
        have F1 := Lib.hid (hF1.alloc (.cells #[.string m, .string t, .int .i64 v, .slice A1 f.length k1, .string b] 25))
        have HB := Lib.hid (HB.out.alloc HB.out.size (.cells #[.string m, .string t, .int .i64 v, .slice A1 f.length k1, .string b] 25))
        clear hF1
        obtain ⟨z1_0, z1_1, z1_2, z1_3, z1_4⟩ := cel5 Z1.out
        go_wp2_with fail
        refine (KC.out _ _ _ F1.out HB.out).mono ?_
        rintro e v2 ⟨rfl, hb⟩
        clear z1_0 z1_1 z1_2 z1_3 z1_4
        have Z1 := Lib.hid (zero_still hb Z1.out)
        have F1 := Lib.hid (F1.out.below hb)
        have HB := Lib.hid (below_then HB.out hb)
        clear hb
        obtain ⟨z1_0, z1_1, z1_2, z1_3, z1_4⟩ := cel5 Z1.out
        go_wp2_with fail
        refine (KP.out _ _ _ F1.out HB.out).mono ?_
        rintro e v3 ⟨rfl, hb⟩
        clear z1_0 z1_1 z1_2 z1_3 z1_4
        have Z1 := Lib.hid (zero_still hb Z1.out)
        have F1 := Lib.hid (F1.out.below hb)
        have HB := Lib.hid (below_then HB.out hb)
        clear hb
        go_wp2_with fail
        refine (CQ2.out _ HB.out).mono ?_
        rintro e v4 ⟨A2, k2, rfl, hF2, _, hb⟩
        have Z1 := Lib.hid (zero_still hb Z1.out)
        have F1 := Lib.hid (F1.out.below hb)
        have HB := Lib.hid (below_then HB.out hb)
        clear hb
        have Z1 := Lib.hid (zero_more (o' := .cells #[.string m, .string t, .int .i64 v, .slice A2 f.length k2, .string b] 25) Z1.out)
        have F1 := Lib.hid (F1.out.alloc (.cells #[.string m, .string t, .int .i64 v, .slice A2 f.length k2, .string b] 25))
        have Z2 := Lib.hid (heap_alloc_new v4 (.cells #[.string m, .string t, .int .i64 v, .slice A2 f.length k2, .string b] 25))
        have F2 := Lib.hid (hF2.alloc (.cells #[.string m, .string t, .int .i64 v, .slice A2 f.length k2, .string b] 25))
        have HB := Lib.hid (HB.out.alloc HB.out.size (.cells #[.string m, .string t, .int .i64 v, .slice A2 f.length k2, .string b] 25))
        clear hF2
        obtain ⟨z1_0, z1_1, z1_2, z1_3, z1_4⟩ := cel5 Z1.out
        obtain ⟨z2_0, z2_1, z2_2, z2_3, z2_4⟩ := cel5 Z2.out
        go_wp2_with fail
        refine (KS.out _ _ _ _ _ F2.out F1.out).mono ?_
        rintro e v5 ⟨rfl, hb⟩
        clear z1_0 z1_1 z1_2 z1_3 z1_4 z2_0 z2_1 z2_2 z2_3 z2_4
        have Z1 := Lib.hid (zero_still hb Z1.out)
        have Z2 := Lib.hid (zero_still hb Z2.out)
        have F1 := Lib.hid (F1.out.below hb)
        have F2 := Lib.hid (F2.out.below hb)
        have HB := Lib.hid (below_then HB.out hb)
        clear hb
        clear Z1 Z2 F1 F2
        go_wp2_with fail
        refine (CP.out _ HB.out).mono ?_
        rintro e v6 ⟨A3, k3, rfl, hF3, _, hb⟩
        have HB := Lib.hid (below_then HB.out hb)
        clear hb
        have Z3 := Lib.hid (heap_alloc_new v6 (.cells #[.int .i64 sc, .string sr, .int .i64 sv, .slice A3 sf.length k3, .string sb] 34))
        have F3 := Lib.hid (hF3.alloc (.cells #[.int .i64 sc, .string sr, .int .i64 sv, .slice A3 sf.length k3, .string sb] 34))
        have HB := Lib.hid (HB.out.alloc HB.out.size (.cells #[.int .i64 sc, .string sr, .int .i64 sv, .slice A3 sf.length k3, .string sb] 34))
        clear hF3
        obtain ⟨z3_0, z3_1, z3_2, z3_3, z3_4⟩ := cel5 Z3.out
        clear z3_0 z3_1 z3_2 z3_3 z3_4
        go_wp2_with fail
        refine (CX.out _ HB.out).mono ?_
        rintro e v7 ⟨rfl, hb⟩
        have HB := Lib.hid (below_then HB.out hb)
        clear hb
        go_wp2_with fail
        go_ret
        exact ⟨rfl, HB.out⟩
      · obtain rfl : EQ = 4 := hEQ.resolve_left h0Q
        clear hbq hEQ h0Q KS
        go_enter Tryz.func7, Tryz.ntmps7
        go_wp2_with fail
        refine (CQ.out _ HB.out).mono ?_
        rintro e v1 ⟨A1, k1, rfl, hF1, _, hb⟩
        have HB := Lib.hid (below_then HB.out hb)
        clear hb
        have Z1 := Lib.hid (heap_alloc_new v1 (.cells #[.string m, .string t, .int .i64 v, .slice A1 f.length k1, .string b] 25))
        have F1 := Lib.hid (hF1.alloc (.cells #[.string m, .string t, .int .i64 v, .slice A1 f.length k1, .string b] 25))
        have HB := Lib.hid (HB.out.alloc HB.out.size (.cells #[.string m, .string t, .int .i64 v, .slice A1 f.length k1, .string b] 25))
        clear hF1
        obtain ⟨z1_0, z1_1, z1_2, z1_3, z1_4⟩ := cel5 Z1.out
        go_wp2_with fail
        refine (KC.out _ _ _ F1.out HB.out).mono ?_
        rintro e v2 ⟨rfl, hb⟩
        clear z1_0 z1_1 z1_2 z1_3 z1_4
        have Z1 := Lib.hid (zero_still hb Z1.out)
        have F1 := Lib.hid (F1.out.below hb)
        have HB := Lib.hid (below_then HB.out hb)
        clear hb
        obtain ⟨z1_0, z1_1, z1_2, z1_3, z1_4⟩ := cel5 Z1.out
        go_wp2_with fail
        refine (KP.out _ _ _ F1.out HB.out).mono ?_
        rintro e v3 ⟨rfl, hb⟩
        clear z1_0 z1_1 z1_2 z1_3 z1_4
        have Z1 := Lib.hid (zero_still hb Z1.out)
        have F1 := Lib.hid (F1.out.below hb)
        have HB := Lib.hid (below_then HB.out hb)
        clear hb
        go_wp2_with fail
        refine (CQ2.out _ HB.out).mono ?_
        rintro e v4 ⟨A2, k2, rfl, hF2, _, hb⟩
        have Z1 := Lib.hid (zero_still hb Z1.out)
        have F1 := Lib.hid (F1.out.below hb)
        have HB := Lib.hid (below_then HB.out hb)
        clear hb
        have Z1 := Lib.hid (zero_more (o' := .cells #[.string mm, .string tt, .int .i64 vv, .slice A2 ff.length k2, .string bb] 25) Z1.out)
        have F1 := Lib.hid (F1.out.alloc (.cells #[.string mm, .string tt, .int .i64 vv, .slice A2 ff.length k2, .string bb] 25))
        have Z2 := Lib.hid (heap_alloc_new v4 (.cells #[.string mm, .string tt, .int .i64 vv, .slice A2 ff.length k2, .string bb] 25))
        have F2 := Lib.hid (hF2.alloc (.cells #[.string mm, .string tt, .int .i64 vv, .slice A2 ff.length k2, .string bb] 25))
        have HB := Lib.hid (HB.out.alloc HB.out.size (.cells #[.string mm, .string tt, .int .i64 vv, .slice A2 ff.length k2, .string bb] 25))
        clear hF2
        obtain ⟨z1_0, z1_1, z1_2, z1_3, z1_4⟩ := cel5 Z1.out
        obtain ⟨z2_0, z2_1, z2_2, z2_3, z2_4⟩ := cel5 Z2.out
        clear z1_0 z1_1 z1_2 z1_3 z1_4 z2_0 z2_1 z2_2 z2_3 z2_4
        clear Z1 Z2 F1 F2
        go_wp2_with fail
        refine (CP.out _ HB.out).mono ?_
        rintro e v5 ⟨A3, k3, rfl, hF3, _, hb⟩
        have HB := Lib.hid (below_then HB.out hb)
        clear hb
        have Z3 := Lib.hid (heap_alloc_new v5 (.cells #[.int .i64 sc, .string sr, .int .i64 sv, .slice A3 sf.length k3, .string sb] 34))
        have F3 := Lib.hid (hF3.alloc (.cells #[.int .i64 sc, .string sr, .int .i64 sv, .slice A3 sf.length k3, .string sb] 34))
        have HB := Lib.hid (HB.out.alloc HB.out.size (.cells #[.int .i64 sc, .string sr, .int .i64 sv, .slice A3 sf.length k3, .string sb] 34))
        clear hF3
        obtain ⟨z3_0, z3_1, z3_2, z3_3, z3_4⟩ := cel5 Z3.out
        clear z3_0 z3_1 z3_2 z3_3 z3_4
        go_wp2_with fail
        refine (CX.out _ HB.out).mono ?_
        rintro e v6 ⟨rfl, hb⟩
        have HB := Lib.hid (below_then HB.out hb)
        clear hb
        go_wp2_with fail
        go_ret
        exact ⟨rfl, HB.out⟩
    · have hE1' : (E1 == 0) = false := by simpa using hE1
      clear hone hrq haq KC KP CQ2 KS hbq
      by_cases hE2 : E2 = 0
      · have LC := Lib.hid (LC.out (hrp hE2).1)
        have LP := Lib.hid (LP.out (hrp hE2).1)
        have CP2 := Lib.hid (CP2.out (hrp hE2).2)
        have hEP := hap hE2
        clear hrp hap
        subst hE2
        by_cases h0P : EP = 0
        · obtain ⟨hE4, hT2⟩ := hbp h0P
          simp only [Rply.mk.injEq, Bool.false_eq_true, if_false] at hT2
          obtain ⟨q1, q2, q3, q4, q5⟩ := hT2
          replace q1 := q1.symm
          replace q2 := q2.symm
          replace q3 := q3.symm
          replace q4 := q4.symm
          replace q5 := q5.symm
          subst q1 q2 q3 q4 q5
          subst h0P hE4
          clear hbp hEP
          go_enter Tryz.func7, Tryz.ntmps7
          go_wp2_with fail
          refine (CQ.out _ HB.out).mono ?_
          rintro e v1 ⟨A1, k1, rfl, hF1, _, hb⟩
          have HB := Lib.hid (below_then HB.out hb)
          clear hb
          have Z1 := Lib.hid (heap_alloc_new v1 (.cells #[.string m, .string t, .int .i64 v, .slice A1 f.length k1, .string b] 25))
          have F1 := Lib.hid (hF1.alloc (.cells #[.string m, .string t, .int .i64 v, .slice A1 f.length k1, .string b] 25))
          have HB := Lib.hid (HB.out.alloc HB.out.size (.cells #[.string m, .string t, .int .i64 v, .slice A1 f.length k1, .string b] 25))
          clear hF1
          obtain ⟨z1_0, z1_1, z1_2, z1_3, z1_4⟩ := cel5 Z1.out
          go_wp2_with fail
          refine (CP.out _ HB.out).mono ?_
          rintro e v2 ⟨A3, k3, rfl, hF3, _, hb⟩
          clear z1_0 z1_1 z1_2 z1_3 z1_4
          have Z1 := Lib.hid (zero_still hb Z1.out)
          have F1 := Lib.hid (F1.out.below hb)
          have HB := Lib.hid (below_then HB.out hb)
          clear hb
          have Z1 := Lib.hid (zero_more (o' := .cells #[.int .i64 sc, .string sr, .int .i64 sv, .slice A3 sf.length k3, .string sb] 34) Z1.out)
          have F1 := Lib.hid (F1.out.alloc (.cells #[.int .i64 sc, .string sr, .int .i64 sv, .slice A3 sf.length k3, .string sb] 34))
          have Z3 := Lib.hid (heap_alloc_new v2 (.cells #[.int .i64 sc, .string sr, .int .i64 sv, .slice A3 sf.length k3, .string sb] 34))
          have F3 := Lib.hid (hF3.alloc (.cells #[.int .i64 sc, .string sr, .int .i64 sv, .slice A3 sf.length k3, .string sb] 34))
          have HB := Lib.hid (HB.out.alloc HB.out.size (.cells #[.int .i64 sc, .string sr, .int .i64 sv, .slice A3 sf.length k3, .string sb] 34))
          clear hF3
          obtain ⟨z1_0, z1_1, z1_2, z1_3, z1_4⟩ := cel5 Z1.out
          obtain ⟨z3_0, z3_1, z3_2, z3_3, z3_4⟩ := cel5 Z3.out
          go_wp2_with fail
          refine (LC.out _ _ _ F3.out HB.out).mono ?_
          rintro e v3 ⟨rfl, hb⟩
          clear z1_0 z1_1 z1_2 z1_3 z1_4 z3_0 z3_1 z3_2 z3_3 z3_4
          have Z1 := Lib.hid (zero_still hb Z1.out)
          have Z3 := Lib.hid (zero_still hb Z3.out)
          have F1 := Lib.hid (F1.out.below hb)
          have F3 := Lib.hid (F3.out.below hb)
          have HB := Lib.hid (below_then HB.out hb)
          clear hb
          obtain ⟨z1_0, z1_1, z1_2, z1_3, z1_4⟩ := cel5 Z1.out
          obtain ⟨z3_0, z3_1, z3_2, z3_3, z3_4⟩ := cel5 Z3.out
          go_wp2_with fail
          refine (LP.out _ _ _ F3.out HB.out).mono ?_
          rintro e v4 ⟨rfl, hb⟩
          clear z1_0 z1_1 z1_2 z1_3 z1_4 z3_0 z3_1 z3_2 z3_3 z3_4
          have Z1 := Lib.hid (zero_still hb Z1.out)
          have Z3 := Lib.hid (zero_still hb Z3.out)
          have F1 := Lib.hid (F1.out.below hb)
          have F3 := Lib.hid (F3.out.below hb)
          have HB := Lib.hid (below_then HB.out hb)
          clear hb
          go_wp2_with fail
          refine (CP2.out _ HB.out).mono ?_
          rintro e v5 ⟨A4, k4, rfl, hF4, _, hb⟩
          have Z1 := Lib.hid (zero_still hb Z1.out)
          have Z3 := Lib.hid (zero_still hb Z3.out)
          have F1 := Lib.hid (F1.out.below hb)
          have F3 := Lib.hid (F3.out.below hb)
          have HB := Lib.hid (below_then HB.out hb)
          clear hb
          have Z1 := Lib.hid (zero_more (o' := .cells #[.int .i64 sc, .string sr, .int .i64 sv, .slice A4 sf.length k4, .string sb] 34) Z1.out)
          have Z3 := Lib.hid (zero_more (o' := .cells #[.int .i64 sc, .string sr, .int .i64 sv, .slice A4 sf.length k4, .string sb] 34) Z3.out)
          have F1 := Lib.hid (F1.out.alloc (.cells #[.int .i64 sc, .string sr, .int .i64 sv, .slice A4 sf.length k4, .string sb] 34))
          have F3 := Lib.hid (F3.out.alloc (.cells #[.int .i64 sc, .string sr, .int .i64 sv, .slice A4 sf.length k4, .string sb] 34))
          have Z4 := Lib.hid (heap_alloc_new v5 (.cells #[.int .i64 sc, .string sr, .int .i64 sv, .slice A4 sf.length k4, .string sb] 34))
          have F4 := Lib.hid (hF4.alloc (.cells #[.int .i64 sc, .string sr, .int .i64 sv, .slice A4 sf.length k4, .string sb] 34))
          have HB := Lib.hid (HB.out.alloc HB.out.size (.cells #[.int .i64 sc, .string sr, .int .i64 sv, .slice A4 sf.length k4, .string sb] 34))
          clear hF4
          obtain ⟨z1_0, z1_1, z1_2, z1_3, z1_4⟩ := cel5 Z1.out
          obtain ⟨z3_0, z3_1, z3_2, z3_3, z3_4⟩ := cel5 Z3.out
          obtain ⟨z4_0, z4_1, z4_2, z4_3, z4_4⟩ := cel5 Z4.out
          go_wp2_with fail
          refine (LS.out _ _ _ _ _ F4.out F3.out).mono ?_
          rintro e v6 ⟨rfl, hb⟩
          clear z1_0 z1_1 z1_2 z1_3 z1_4 z3_0 z3_1 z3_2 z3_3 z3_4 z4_0 z4_1 z4_2 z4_3 z4_4
          have Z1 := Lib.hid (zero_still hb Z1.out)
          have Z3 := Lib.hid (zero_still hb Z3.out)
          have Z4 := Lib.hid (zero_still hb Z4.out)
          have F1 := Lib.hid (F1.out.below hb)
          have F3 := Lib.hid (F3.out.below hb)
          have F4 := Lib.hid (F4.out.below hb)
          have HB := Lib.hid (below_then HB.out hb)
          clear hb
          clear Z1 F1 Z3 Z4 F3 F4
          go_wp2_with fail
          refine (CX.out _ HB.out).mono ?_
          rintro e v7 ⟨rfl, hb⟩
          have HB := Lib.hid (below_then HB.out hb)
          clear hb
          go_wp2_with fail
          go_ret
          exact ⟨rfl, HB.out⟩
        · obtain rfl : EP = 4 := hEP.resolve_left h0P
          clear hbp hEP h0P LS
          go_enter Tryz.func7, Tryz.ntmps7
          go_wp2_with fail
          refine (CQ.out _ HB.out).mono ?_
          rintro e v1 ⟨A1, k1, rfl, hF1, _, hb⟩
          have HB := Lib.hid (below_then HB.out hb)
          clear hb
          have Z1 := Lib.hid (heap_alloc_new v1 (.cells #[.string m, .string t, .int .i64 v, .slice A1 f.length k1, .string b] 25))
          have F1 := Lib.hid (hF1.alloc (.cells #[.string m, .string t, .int .i64 v, .slice A1 f.length k1, .string b] 25))
          have HB := Lib.hid (HB.out.alloc HB.out.size (.cells #[.string m, .string t, .int .i64 v, .slice A1 f.length k1, .string b] 25))
          clear hF1
          obtain ⟨z1_0, z1_1, z1_2, z1_3, z1_4⟩ := cel5 Z1.out
          go_wp2_with fail
          refine (CP.out _ HB.out).mono ?_
          rintro e v2 ⟨A3, k3, rfl, hF3, _, hb⟩
          clear z1_0 z1_1 z1_2 z1_3 z1_4
          have Z1 := Lib.hid (zero_still hb Z1.out)
          have F1 := Lib.hid (F1.out.below hb)
          have HB := Lib.hid (below_then HB.out hb)
          clear hb
          have Z1 := Lib.hid (zero_more (o' := .cells #[.int .i64 sc, .string sr, .int .i64 sv, .slice A3 sf.length k3, .string sb] 34) Z1.out)
          have F1 := Lib.hid (F1.out.alloc (.cells #[.int .i64 sc, .string sr, .int .i64 sv, .slice A3 sf.length k3, .string sb] 34))
          have Z3 := Lib.hid (heap_alloc_new v2 (.cells #[.int .i64 sc, .string sr, .int .i64 sv, .slice A3 sf.length k3, .string sb] 34))
          have F3 := Lib.hid (hF3.alloc (.cells #[.int .i64 sc, .string sr, .int .i64 sv, .slice A3 sf.length k3, .string sb] 34))
          have HB := Lib.hid (HB.out.alloc HB.out.size (.cells #[.int .i64 sc, .string sr, .int .i64 sv, .slice A3 sf.length k3, .string sb] 34))
          clear hF3
          obtain ⟨z1_0, z1_1, z1_2, z1_3, z1_4⟩ := cel5 Z1.out
          obtain ⟨z3_0, z3_1, z3_2, z3_3, z3_4⟩ := cel5 Z3.out
          go_wp2_with fail
          refine (LC.out _ _ _ F3.out HB.out).mono ?_
          rintro e v3 ⟨rfl, hb⟩
          clear z1_0 z1_1 z1_2 z1_3 z1_4 z3_0 z3_1 z3_2 z3_3 z3_4
          have Z1 := Lib.hid (zero_still hb Z1.out)
          have Z3 := Lib.hid (zero_still hb Z3.out)
          have F1 := Lib.hid (F1.out.below hb)
          have F3 := Lib.hid (F3.out.below hb)
          have HB := Lib.hid (below_then HB.out hb)
          clear hb
          obtain ⟨z1_0, z1_1, z1_2, z1_3, z1_4⟩ := cel5 Z1.out
          obtain ⟨z3_0, z3_1, z3_2, z3_3, z3_4⟩ := cel5 Z3.out
          go_wp2_with fail
          refine (LP.out _ _ _ F3.out HB.out).mono ?_
          rintro e v4 ⟨rfl, hb⟩
          clear z1_0 z1_1 z1_2 z1_3 z1_4 z3_0 z3_1 z3_2 z3_3 z3_4
          have Z1 := Lib.hid (zero_still hb Z1.out)
          have Z3 := Lib.hid (zero_still hb Z3.out)
          have F1 := Lib.hid (F1.out.below hb)
          have F3 := Lib.hid (F3.out.below hb)
          have HB := Lib.hid (below_then HB.out hb)
          clear hb
          go_wp2_with fail
          refine (CP2.out _ HB.out).mono ?_
          rintro e v5 ⟨A4, k4, rfl, hF4, _, hb⟩
          have Z1 := Lib.hid (zero_still hb Z1.out)
          have Z3 := Lib.hid (zero_still hb Z3.out)
          have F1 := Lib.hid (F1.out.below hb)
          have F3 := Lib.hid (F3.out.below hb)
          have HB := Lib.hid (below_then HB.out hb)
          clear hb
          have Z1 := Lib.hid (zero_more (o' := .cells #[.int .i64 sc2, .string sr2, .int .i64 sv2, .slice A4 sf2.length k4, .string sb2] 34) Z1.out)
          have Z3 := Lib.hid (zero_more (o' := .cells #[.int .i64 sc2, .string sr2, .int .i64 sv2, .slice A4 sf2.length k4, .string sb2] 34) Z3.out)
          have F1 := Lib.hid (F1.out.alloc (.cells #[.int .i64 sc2, .string sr2, .int .i64 sv2, .slice A4 sf2.length k4, .string sb2] 34))
          have F3 := Lib.hid (F3.out.alloc (.cells #[.int .i64 sc2, .string sr2, .int .i64 sv2, .slice A4 sf2.length k4, .string sb2] 34))
          have Z4 := Lib.hid (heap_alloc_new v5 (.cells #[.int .i64 sc2, .string sr2, .int .i64 sv2, .slice A4 sf2.length k4, .string sb2] 34))
          have F4 := Lib.hid (hF4.alloc (.cells #[.int .i64 sc2, .string sr2, .int .i64 sv2, .slice A4 sf2.length k4, .string sb2] 34))
          have HB := Lib.hid (HB.out.alloc HB.out.size (.cells #[.int .i64 sc2, .string sr2, .int .i64 sv2, .slice A4 sf2.length k4, .string sb2] 34))
          clear hF4
          obtain ⟨z1_0, z1_1, z1_2, z1_3, z1_4⟩ := cel5 Z1.out
          obtain ⟨z3_0, z3_1, z3_2, z3_3, z3_4⟩ := cel5 Z3.out
          obtain ⟨z4_0, z4_1, z4_2, z4_3, z4_4⟩ := cel5 Z4.out
          clear z1_0 z1_1 z1_2 z1_3 z1_4 z3_0 z3_1 z3_2 z3_3 z3_4 z4_0 z4_1 z4_2 z4_3 z4_4
          clear Z1 F1 Z3 Z4 F3 F4
          go_wp2_with fail
          refine (CX.out _ HB.out).mono ?_
          rintro e v6 ⟨rfl, hb⟩
          have HB := Lib.hid (below_then HB.out hb)
          clear hb
          go_wp2_with fail
          go_ret
          exact ⟨rfl, HB.out⟩
      · have hE2' : (E2 == 0) = false := by simpa using hE2
        clear hrp hap LC LP CP2 LS hbp
        go_enter Tryz.func7, Tryz.ntmps7
        go_wp2_with fail
        refine (CQ.out _ HB.out).mono ?_
        rintro e v1 ⟨A1, k1, rfl, hF1, _, hb⟩
        have HB := Lib.hid (below_then HB.out hb)
        clear hb
        have Z1 := Lib.hid (heap_alloc_new v1 (.cells #[.string m, .string t, .int .i64 v, .slice A1 f.length k1, .string b] 25))
        have F1 := Lib.hid (hF1.alloc (.cells #[.string m, .string t, .int .i64 v, .slice A1 f.length k1, .string b] 25))
        have HB := Lib.hid (HB.out.alloc HB.out.size (.cells #[.string m, .string t, .int .i64 v, .slice A1 f.length k1, .string b] 25))
        clear hF1
        obtain ⟨z1_0, z1_1, z1_2, z1_3, z1_4⟩ := cel5 Z1.out
        go_wp2_with fail
        refine (CP.out _ HB.out).mono ?_
        rintro e v2 ⟨A3, k3, rfl, hF3, _, hb⟩
        clear z1_0 z1_1 z1_2 z1_3 z1_4
        have Z1 := Lib.hid (zero_still hb Z1.out)
        have F1 := Lib.hid (F1.out.below hb)
        have HB := Lib.hid (below_then HB.out hb)
        clear hb
        have Z1 := Lib.hid (zero_more (o' := .cells #[.int .i64 sc, .string sr, .int .i64 sv, .slice A3 sf.length k3, .string sb] 34) Z1.out)
        have F1 := Lib.hid (F1.out.alloc (.cells #[.int .i64 sc, .string sr, .int .i64 sv, .slice A3 sf.length k3, .string sb] 34))
        have Z3 := Lib.hid (heap_alloc_new v2 (.cells #[.int .i64 sc, .string sr, .int .i64 sv, .slice A3 sf.length k3, .string sb] 34))
        have F3 := Lib.hid (hF3.alloc (.cells #[.int .i64 sc, .string sr, .int .i64 sv, .slice A3 sf.length k3, .string sb] 34))
        have HB := Lib.hid (HB.out.alloc HB.out.size (.cells #[.int .i64 sc, .string sr, .int .i64 sv, .slice A3 sf.length k3, .string sb] 34))
        clear hF3
        obtain ⟨z1_0, z1_1, z1_2, z1_3, z1_4⟩ := cel5 Z1.out
        obtain ⟨z3_0, z3_1, z3_2, z3_3, z3_4⟩ := cel5 Z3.out
        clear z1_0 z1_1 z1_2 z1_3 z1_4 z3_0 z3_1 z3_2 z3_3 z3_4
        go_wp2_with fail
        refine (CX.out _ HB.out).mono ?_
        rintro e v3 ⟨rfl, hb⟩
        have HB := Lib.hid (below_then HB.out hb)
        clear hb
        go_wp2_with fail
        go_ret
        exact ⟨rfl, HB.out⟩

theorem door_met (os : Os) (args : Array Value) : laidMetH Tryz.prog Rows.messageAgainRow.laid ((World.laidAll Tryz.prog os Rows.messageAgainRow.laid).forCall (fun _ _ => 0) ⟨#[], args, []⟩).memory := by
  rw [MakeChecks.laidMetH_plain _ _ _ (by kernel_rfl)]
  exact laidMet_laidAll _ (by kernel_rfl) (by kernel_rfl)

set_option maxRecDepth 100000 in
theorem lifted (os : Os) (started : os.Started) (H : Type) (enc : TypeId × Value → H) :
    ReturnsInHanded {} Tryz.checked os 7 .any (fun w args => (Rows.messageAgainSpec.pre enc Tryz.prog Tryz.f7 [] false w args ∧ laidMetH Tryz.prog Rows.messageAgainRow.laid w) ∧ sizedMet enc Tryz.prog Tryz.f7 (OpenSpec.ofChange Rows.messageAgainSpec) false w args) (Rows.messageAgainSpec.post enc Tryz.prog Tryz.f7 false true false false) := by
  refine returns_and_shaped (C := Tryz.checked) (X := fun w _ => laidMetH Tryz.prog Rows.messageAgainRow.laid w) (fun _ _ _ hh h => h.of_heap hh) own started (by kernel_rfl) Tryz.func7
    (ChangeSpec.witness_shaped (enc := enc) (C := Tryz.checked) (os := os) (X := fun w _ => laidMetH Tryz.prog Rows.messageAgainRow.laid w) false (World.laidAll Tryz.prog os Rows.messageAgainRow.laid) #[.string ByteArray.empty] 8 rfl (World.shaped_of_ZipB (by kernel_rfl) (by kernel_rfl)) (by kernel_rfl) (by kernel_rfl) (by kernel_rfl) (door_met os _)) ?_
  intro W base args ds gs before hval0 hW hL hsh
  have hval : ∀ (j : Nat) t v, Tryz.f7.params[j]? = some t → args[j]? = some v → Value.okWide Tryz.prog W .any base t v := hval0
  have hW' := hW
  obtain ⟨p, q, hA0, hV, rfl, hfz, hnd⟩ := hW
  have hA : DataW.TrodAll enc Tryz.prog W 0 (fun _ => true) true Tryz.f7.params.toList args.toList ds p := hA0
  rw [Tryz.params7] at hA hval
  obtain ⟨v0, vs0, d0, ds0, p0, q0, hargs, rfl, rfl, h0, r0⟩ := trodAll_cons hA
  obtain ⟨rfl, rfl, rfl⟩ := trodAll_nil r0
  obtain rfl : args = #[v0] := by cases args; simp_all
  obtain ⟨rfl, rfl⟩ := trodVars_none hV
  obtain ⟨a0, rfl, rfl, rfl, w0⟩ := open_string Tryz.underlying9 (hval 0 9 v0 rfl rfl) h0
  clear hA0 hval0
  refine (walk a0 W w0 hL hsh).mono fun e W' ⟨he, bel⟩ => ?_
  subst he
  exact ⟨_, rfl, _, _, _, [], _, [], hW', trodAll_mk1 (shut_bool Tryz.underlying4 _), (trodAll_cons_mk (shut_string Tryz.underlying9 w0) trodAll_mk0), rfl, bel.frame _, fun h => by cases h⟩

theorem over : Rows.messageAgainRow.holds Tryz.pinned (OpenSpec.ofChange Rows.messageAgainSpec) :=
  OpenClaim.holds_of_wide 7 Tryz.f7 rfl rfl rfl rfl rfl rfl rfl ⟨rfl, rfl, rfl, rfl, rfl⟩ rfl rfl rfl rfl rfl (by kernel_rfl) Tryz.func7 (by kernel_rfl)
    (of_decide_eq_true (by kernel_rfl)) (by unfold Func.isWrapper; first | (rw [if_pos (by decide +kernel)]; kernel_rfl) | (rw [if_neg (by decide +kernel)]; exact ⟨rfl, rfl⟩))
    (fun os started H enc _ => lifted os started H enc)

theorem said : Rows.MessageAgainSaid :=
  over

theorem plain (f : FuncId) (fn : Func) (hf : Tryz.pinned.checked.prog.funcNamed "depot/depotlaw12.MessageAgain" = some f) (hfn : Tryz.pinned.checked.prog.funcs[f]? = some fn) :
    false = Tryz.pinned.checked.prog.looks [] ∧ ∀ (j : Nat) t, fn.params[j]? = some t → Tryz.pinned.checked.prog.wantsStandIn t = false := by
  obtain rfl : f = 7 := Option.some.inj ((show Tryz.prog.funcNamed "depot/depotlaw12.MessageAgain" = some 7 by kernel_rfl).symm.trans hf) |>.symm
  obtain rfl : fn = Tryz.f7 := (Option.some.inj (Tryz.func7.symm.trans hfn)).symm
  refine ⟨by kernel_rfl, fun j t ht => ?_⟩
  rw [Tryz.params7] at ht
  · obtain rfl : t = 9 := by simpa using Array.mem_of_getElem? ht
    exact (show Tryz.prog.wantsStandIn 9 = false by kernel_rfl)

theorem proved : Rows.MessageAgainCardSaid :=
  Claim7.holds_tied_plain_at .later [] _ _ _ _ said (fun _ h => by cases h) (by kernel_rfl) (fun _ h => by cases h) messageAgain_row_tie rfl ⟨rfl, rfl⟩ (by kernel_rfl) rfl plain (by kernel_rfl)
#print axioms proved
end Go.Proofs.YtjcomlklmfeimaaGreatDoor.messageAgain
