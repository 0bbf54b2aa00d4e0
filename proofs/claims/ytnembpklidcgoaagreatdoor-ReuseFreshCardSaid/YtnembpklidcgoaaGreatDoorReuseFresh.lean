/-
  The law ReuseFresh (depotlaw18) returns true for every request, stored reply and two times, and leaves what it was given as it was. No condition but that the tables of the program and of the library hold what their initialisers lay.
-/
import Derived.Test.YtnembpklidcgoaaGreatDoorRows
import Derived.WalkKit
import Derived.ProofKit
import Derived.OpenShut
import Derived.ShutString
import Derived.ChangeOld
import Derived.Below
import Derived.Test.YtnembpklidcgoaaGreatDoorMrgB
import Derived.Test.YtnembpklidcgoaaGreatDoorMrgD
import Derived.Test.YtnembpklidcgoaaGreatDoorMrgE
import Derived.Test.YtnembpklidcgoaaGreatDoorMrgF
import Derived.Test.YtnembpklidcgoaaGreatDoorMrgG
import Derived.Test.YtnembpklidcgoaaGreatDoorMrgH
import Derived.Test.YtnembpklidcgoaaGreatDoorMrgI
import Derived.Test.YtnembpklidcgoaaGreatDoorMrgS
import Derived.Test.YtnembpklidcgoaaGreatDoorMrgX
import Derived.Test.YtnembpklidcgoaaGreatDoorMrgAA
import Derived.Test.YtnembpklidcgoaaGreatDoorMrgAC
import Derived.Test.YtnembpklidcgoaaGreatDoorMrgAD
import Derived.Test.YtnembpklidcgoaaGreatDoorMrgAE
import Derived.Test.YtnembpklidcgoaaGreatDoorMrgAG
import Derived.Test.YtnembpklidcgoaaGreatDoorMrgAJ
import Derived.Test.YtnembpklidcgoaaGreatDoorMrgAK
import Derived.Test.YtnembpklidcgoaaGreatDoorMrgAL
import Derived.Test.YtnembpklidcgoaaGreatDoorMrgAN
import Derived.Test.YtnembpklidcgoaaGreatDoorMrgAO
import Derived.Test.YtnembpklidcgoaaGreatDoorMrgAP
import Derived.Test.YtnembpklidcgoaaGreatDoorMrgAQ
import Derived.Test.YtnembpklidcgoaaGreatDoorMrgAT
import Derived.Test.YtnembpklidcgoaaGreatDoorMrgAU
import Derived.Test.YtnembpklidcgoaaGreatDoorMrgAX
import Derived.Test.YtnembpklidcgoaaGreatDoorMrgAY
import Derived.Test.YtnembpklidcgoaaGreatDoorMrgAZ
import Derived.Deep.RegionHeld3
import Derived.Deep.DeepCutAuto
import Derived.Test.YtnembpklidcgoaaGreatDoorCards
import Derived.Test.YtnembpklidcgoaaGreatDoorTie
import Derived.LaidMore
import Derived.Lib.LaidTab
import Derived.Stop.Joined
import Derived.Lay
set_option linter.unusedSimpArgs false
set_option linter.unusedVariables false
namespace Go.Proofs.YtnembpklidcgoaaGreatDoor.reuseFresh
open Go.ChangeShapes Go.WideShapes Go.ChangeAt Go.RowKit
open Go.ChangeMaps (open_string shut_string)
set_option linter.unusedVariables false

theorem own : ownKnob Tryz.prog.godebug = none := by kernel_rfl
theorem laidOut : laidOutB Tryz.prog = true := by kernel_rfl

set_option maxHeartbeats 8000000 in
set_option maxRecDepth 100000 in
theorem walk (a0 : Rqst) (A0 : Option Addr) (c0 : Nat) (a1 : Stor) (A1 : Option Addr) (c1 : Nat) (B1 : Option Addr) (n1 m1 : Nat) (a2 : Int) (a3 : Int) (w : World) (w0 : WfQ w a0 A0 c0) (w1 : WfS w a1 A1 c1) (w2 : (Lit.int .i64 a2).wf = true) (w3 : (Lit.int .i64 a3).wf = true) (hL : laidMetH Tryz.prog Rows.reuseFreshRow.laid w) (hsh : w.ShapedOpen Tryz.prog) :
    Calls Tryz.prog 5 #[.agg (rqC a0 A0 c0), .agg (stC a1 A1 c1 B1 n1 m1), .int .i64 a2, .int .i64 a3] w fun e w' => e = .returned (.bool true) ∧ Below w.heap.size w w' := by
  have B0 := both_of
  have HT := Lib.hid (reuTabs hL)
  clear hL hsh
  have CX := Lib.hid (fun W (hW : Below w.heap.size w W) => ex18_any W (HT.out.kept hW))
  have HFQ := Lib.hid (fun W (hW : Below w.heap.size w W) => w0.f.below hW)
  have HFP := Lib.hid (fun W (hW : Below w.heap.size w W) => w1.f.below hW)
  have kq := fun W (hW : Below w.heap.size w W) => r_fewQ5 a0 A0 c0 W (w0.f.below hW)
  have kp := fun W (hW : Below w.heap.size w W) => r_fewR a1 A1 c1 W (w1.f.below hW)
  have hqy := fun h => fwQ5_yes (r := a0) h
  have hpy := fun h => fwR_yes (s := a1) h
  have wt := wf_i64 w1.t
  have hw2 := wf_i64 w2
  have hw3 := wf_i64 w3
  cases hq : fwQ5 a0 with
  | false =>
    rw [hq] at kq
    have KQ := Lib.hid kq
    clear kq kp hqy hpy hq HFQ HFP w0 w1 w2 w3 wt hw2 hw3
    obtain ⟨m, t, v, f, b⟩ := a0
    obtain ⟨pc, pr, pv, g, pb, st⟩ := a1
    unfold rqC stC at *
    try unfold srC at *
    simp only at *
    have HB : Hid (Below w.heap.size w ((w.alloc (.cells #[.string m, .string t, .int .i64 v, .slice A0 f.length c0, .string b] 24)).alloc (.cells #[.int .i64 pc, .string pr, .int .i64 pv, .slice A1 g.length c1, .string pb, .int .i64 st, .slice B1 n1 m1] 40))) := ((Below.refl _ _).alloc (Nat.le_refl _) _).alloc (by simp) _
    have ZQ : Hid (((w.alloc (.cells #[.string m, .string t, .int .i64 v, .slice A0 f.length c0, .string b] 24)).alloc (.cells #[.int .i64 pc, .string pr, .int .i64 pv, .slice A1 g.length c1, .string pb, .int .i64 st, .slice B1 n1 m1] 40)).heap[w.heap.size]? = some (.cells #[.string m, .string t, .int .i64 v, .slice A0 f.length c0, .string b] 24 (0, 0))) := zero_more (heap_alloc_new w _)
    have zt := heap_alloc_new (w.alloc (.cells #[.string m, .string t, .int .i64 v, .slice A0 f.length c0, .string b] 24)) (.cells #[.int .i64 pc, .string pr, .int .i64 pv, .slice A1 g.length c1, .string pb, .int .i64 st, .slice B1 n1 m1] 40)
    rw [show (w.alloc (.cells #[.string m, .string t, .int .i64 v, .slice A0 f.length c0, .string b] 24)).heap.size = w.heap.size + 1 by simp] at zt
    have ZS := Lib.hid zt
    clear zt
    obtain ⟨q0, q1, q2, q3, q4⟩ := cel5r ZQ.out
    obtain ⟨p0, p1, p2, p3, p4, p5, p6⟩ := cel7 ZS.out
    go_enter Tryz.func5, Tryz.ntmps5
    go_wp2_with fail
    refine (KQ.out _ HB.out).mono ?_
    rintro e v1 ⟨rfl, hb⟩
    clear q0 q1 q2 q3 q4 p0 p1 p2 p3 p4 p5 p6
    replace ZQ := Lib.hid (zero_still hb ZQ.out)
    replace ZS := Lib.hid (zero_still hb ZS.out)
    replace HB := Lib.hid (below_then HB.out hb)
    clear hb
    obtain ⟨q0, q1, q2, q3, q4⟩ := cel5r ZQ.out
    obtain ⟨p0, p1, p2, p3, p4, p5, p6⟩ := cel7 ZS.out
    go_wp2_with fail
    refine (CX.out _ HB.out).mono ?_
    rintro e v9 ⟨rfl, hb⟩
    go_wp2_with fail
    go_ret
    exact ⟨rfl, below_then HB.out hb⟩
  | true =>
    cases hp : fwR a1 with
    | false =>
      rw [hq] at kq
      rw [hp] at kp
      have KQ := Lib.hid kq
      have KP := Lib.hid kp
      clear kq kp hqy hpy hq hp HFQ HFP w0 w1 w2 w3 wt hw2 hw3
      obtain ⟨m, t, v, f, b⟩ := a0
      obtain ⟨pc, pr, pv, g, pb, st⟩ := a1
      unfold rqC stC at *
      try unfold srC at *
      simp only at *
      have HB : Hid (Below w.heap.size w ((w.alloc (.cells #[.string m, .string t, .int .i64 v, .slice A0 f.length c0, .string b] 24)).alloc (.cells #[.int .i64 pc, .string pr, .int .i64 pv, .slice A1 g.length c1, .string pb, .int .i64 st, .slice B1 n1 m1] 40))) := ((Below.refl _ _).alloc (Nat.le_refl _) _).alloc (by simp) _
      have ZQ : Hid (((w.alloc (.cells #[.string m, .string t, .int .i64 v, .slice A0 f.length c0, .string b] 24)).alloc (.cells #[.int .i64 pc, .string pr, .int .i64 pv, .slice A1 g.length c1, .string pb, .int .i64 st, .slice B1 n1 m1] 40)).heap[w.heap.size]? = some (.cells #[.string m, .string t, .int .i64 v, .slice A0 f.length c0, .string b] 24 (0, 0))) := zero_more (heap_alloc_new w _)
      have zt := heap_alloc_new (w.alloc (.cells #[.string m, .string t, .int .i64 v, .slice A0 f.length c0, .string b] 24)) (.cells #[.int .i64 pc, .string pr, .int .i64 pv, .slice A1 g.length c1, .string pb, .int .i64 st, .slice B1 n1 m1] 40)
      rw [show (w.alloc (.cells #[.string m, .string t, .int .i64 v, .slice A0 f.length c0, .string b] 24)).heap.size = w.heap.size + 1 by simp] at zt
      have ZS := Lib.hid zt
      clear zt
      obtain ⟨q0, q1, q2, q3, q4⟩ := cel5r ZQ.out
      obtain ⟨p0, p1, p2, p3, p4, p5, p6⟩ := cel7 ZS.out
      go_enter Tryz.func5, Tryz.ntmps5
      go_wp2_with fail
      refine (KQ.out _ HB.out).mono ?_
      rintro e v2 ⟨rfl, hb⟩
      clear q0 q1 q2 q3 q4 p0 p1 p2 p3 p4 p5 p6
      replace ZQ := Lib.hid (zero_still hb ZQ.out)
      replace ZS := Lib.hid (zero_still hb ZS.out)
      replace HB := Lib.hid (below_then HB.out hb)
      clear hb
      obtain ⟨q0, q1, q2, q3, q4⟩ := cel5r ZQ.out
      obtain ⟨p0, p1, p2, p3, p4, p5, p6⟩ := cel7 ZS.out
      go_wp2_with fail
      refine (KP.out _ HB.out).mono ?_
      rintro e v3 ⟨rfl, hb⟩
      clear q0 q1 q2 q3 q4 p0 p1 p2 p3 p4 p5 p6
      replace ZQ := Lib.hid (zero_still hb ZQ.out)
      replace ZS := Lib.hid (zero_still hb ZS.out)
      replace HB := Lib.hid (below_then HB.out hb)
      clear hb
      obtain ⟨q0, q1, q2, q3, q4⟩ := cel5r ZQ.out
      obtain ⟨p0, p1, p2, p3, p4, p5, p6⟩ := cel7 ZS.out
      go_wp2_with fail
      refine (CX.out _ HB.out).mono ?_
      rintro e v9 ⟨rfl, hb⟩
      go_wp2_with fail
      go_ret
      exact ⟨rfl, below_then HB.out hb⟩
    | true =>
      rw [hq] at kq
      rw [hp] at kp
      have KQ := Lib.hid kq
      have KP := Lib.hid kp
      have hQ := (hqy hq).1
      have hL := (hpy hp).1
      have K1 := Lib.hid (fun now W (hW : Below w.heap.size w W) => reuW_any a0 A0 c0 a1 A1 c1 B1 n1 m1 now W (HFQ.out W hW) hQ (HFP.out W hW) hL (HT.out.kept hW))
      have K2 := Lib.hid (fun W (hW : Below w.heap.size w W) => reuW_any ⟨a0.m, a0.t, a0.v, [], a0.b⟩ none 0 a1 A1 c1 B1 n1 m1 a2 W (SlF.none_ W) f18n (HFP.out W hW) hL (HT.out.kept hW))
      have K3 := Lib.hid (fun W (hW : Below w.heap.size w W) => ctlA_any A0 a0.f.length c0 a0.f W (HFQ.out W hW) hQ.n hQ.v (fwl_bd hQ))
      have K4 := Lib.hid (fun W (hW : Below w.heap.size w W) => ctlP_any A1 a1.f.length c1 a1.f W (HFP.out W hW) hL.n hL.v (fwl_bd hL))
      have K5 := Lib.hid (fun W (hW : Below w.heap.size w W) => lifF_any a1 A1 c1 B1 n1 m1 a2 W (HFP.out W hW) hL (HT.out.kept hW).lif)
      have K6 := Lib.hid (fun W (hW : Below w.heap.size w W) => lifA_any a1 A1 c1 B1 n1 m1 a2 W (HFP.out W hW) hL (HT.out.kept hW).lif)
      have K7 := Lib.hid (fun W (hW : Below w.heap.size w W) => lifE_any a1 A1 c1 B1 n1 m1 a2 W (HFP.out W hW) hL (HT.out.kept hW).lif)
      clear kq kp hqy hpy hq hp HFQ HFP w0 w1 w2 w3 hQ hL
      obtain ⟨m, t, v, f, b⟩ := a0
      obtain ⟨pc, pr, pv, g, pb, st⟩ := a1
      unfold rqC stC at *
      try unfold srC at *
      simp only at *
      obtain ⟨E, hE⟩ : ∃ E, E = (!decide (st < 0) && (!decide (a2 < st) && (!decide (253402300799 < a2) && (!decide (a3 < 0) && !decide (253402300799 - a2 < a3))))) := ⟨_, rfl⟩
      have HE := Lib.hid hE
      clear hE
      have HB : Hid (Below w.heap.size w ((w.alloc (.cells #[.string m, .string t, .int .i64 v, .slice A0 f.length c0, .string b] 24)).alloc (.cells #[.int .i64 pc, .string pr, .int .i64 pv, .slice A1 g.length c1, .string pb, .int .i64 st, .slice B1 n1 m1] 40))) := ((Below.refl _ _).alloc (Nat.le_refl _) _).alloc (by simp) _
      have ZQ : Hid (((w.alloc (.cells #[.string m, .string t, .int .i64 v, .slice A0 f.length c0, .string b] 24)).alloc (.cells #[.int .i64 pc, .string pr, .int .i64 pv, .slice A1 g.length c1, .string pb, .int .i64 st, .slice B1 n1 m1] 40)).heap[w.heap.size]? = some (.cells #[.string m, .string t, .int .i64 v, .slice A0 f.length c0, .string b] 24 (0, 0))) := zero_more (heap_alloc_new w _)
      have zt := heap_alloc_new (w.alloc (.cells #[.string m, .string t, .int .i64 v, .slice A0 f.length c0, .string b] 24)) (.cells #[.int .i64 pc, .string pr, .int .i64 pv, .slice A1 g.length c1, .string pb, .int .i64 st, .slice B1 n1 m1] 40)
      rw [show (w.alloc (.cells #[.string m, .string t, .int .i64 v, .slice A0 f.length c0, .string b] 24)).heap.size = w.heap.size + 1 by simp] at zt
      have ZS := Lib.hid zt
      clear zt
      obtain ⟨q0, q1, q2, q3, q4⟩ := cel5r ZQ.out
      obtain ⟨p0, p1, p2, p3, p4, p5, p6⟩ := cel7 ZS.out
      go_enter Tryz.func5, Tryz.ntmps5
      go_upto_region 1 with fail
      go_cut [46] (fun s wx => s = .bool (!E) ∧ Hid (wx.heap[w.heap.size]? = some (.cells #[.string m, .string t, .int .i64 v, .slice A0 f.length c0, .string b] 24 (0, 0))) ∧ Hid (wx.heap[w.heap.size + 1]? = some (.cells #[.int .i64 pc, .string pr, .int .i64 pv, .slice A1 g.length c1, .string pb, .int .i64 st, .slice B1 n1 m1] 40 (0, 0))) ∧ Hid (Below w.heap.size w wx))
      case first =>
        go_wp2_with fail
        refine (KQ.out _ HB.out).mono ?_
        rintro e v4 ⟨rfl, hb⟩
        clear q0 q1 q2 q3 q4 p0 p1 p2 p3 p4 p5 p6
        replace ZQ := Lib.hid (zero_still hb ZQ.out)
        replace ZS := Lib.hid (zero_still hb ZS.out)
        replace HB := Lib.hid (below_then HB.out hb)
        clear hb
        obtain ⟨q0, q1, q2, q3, q4⟩ := cel5r ZQ.out
        obtain ⟨p0, p1, p2, p3, p4, p5, p6⟩ := cel7 ZS.out
        go_wp2_with fail
        refine (KP.out _ HB.out).mono ?_
        rintro e v5 ⟨rfl, hb⟩
        clear q0 q1 q2 q3 q4 p0 p1 p2 p3 p4 p5 p6
        replace ZQ := Lib.hid (zero_still hb ZQ.out)
        replace ZS := Lib.hid (zero_still hb ZS.out)
        replace HB := Lib.hid (below_then HB.out hb)
        clear hb
        obtain ⟨q0, q1, q2, q3, q4⟩ := cel5r ZQ.out
        obtain ⟨p0, p1, p2, p3, p4, p5, p6⟩ := cel7 ZS.out
        by_cases h1 : st < 0
        · rw [decide_eq_true h1] at HE
          go_wp2_with fail
          go_meet
          exact ⟨by rw [HE.out]; rfl, ZQ.out, ZS.out, HB.out⟩
        rw [decide_eq_false h1] at HE
        by_cases h2 : a2 < st
        · rw [decide_eq_true h2] at HE
          go_wp2_with fail
          go_meet
          exact ⟨by rw [HE.out]; rfl, ZQ.out, ZS.out, HB.out⟩
        rw [decide_eq_false h2] at HE
        by_cases h3 : 253402300799 < a2
        · rw [decide_eq_true h3] at HE
          go_wp2_with fail
          go_meet
          exact ⟨by rw [HE.out]; rfl, ZQ.out, ZS.out, HB.out⟩
        rw [decide_eq_false h3] at HE
        by_cases h4 : a3 < 0
        · rw [decide_eq_true h4] at HE
          go_wp2_with fail
          go_meet
          exact ⟨by rw [HE.out]; rfl, ZQ.out, ZS.out, HB.out⟩
        rw [decide_eq_false h4] at HE
        have hw : IntKind.i64.wrap (253402300799 - a2) = 253402300799 - a2 := by rw [IntKind.wrap_i64]; omega
        by_cases h5 : 253402300799 - a2 < a3
        · rw [decide_eq_true h5] at HE
          go_wp2_with fail
          go_meet
          exact ⟨by rw [HE.out]; rfl, ZQ.out, ZS.out, HB.out⟩
        · rw [decide_eq_false h5] at HE
          go_wp2_with fail
          go_meet
          exact ⟨by rw [HE.out]; simp; omega, ZQ.out, ZS.out, HB.out⟩
      case rest =>
        clear q0 q1 q2 q3 q4 p0 p1 p2 p3 p4 p5 p6
        clear ZQ ZS HB KQ KP
        obtain ⟨rfl, ZQ, ZS, HB⟩ := hcut
        obtain ⟨q0, q1, q2, q3, q4⟩ := cel5r ZQ.out
        obtain ⟨p0, p1, p2, p3, p4, p5, p6⟩ := cel7 ZS.out
        cases E with
        | false =>
          go_wp2_with fail
          refine (CX.out _ HB.out).mono ?_
          rintro e v9 ⟨rfl, hb⟩
          go_wp2_with fail
          go_ret
          exact ⟨rfl, below_then HB.out hb⟩
        | true =>
          have hE := HE.out
          replace hE := hE.symm
          simp only [Bool.and_eq_true, Bool.not_eq_true', decide_eq_false_iff_not] at hE
          obtain ⟨h1, h2, h3, h4, h5⟩ := hE
          clear HE
          have hadd : IntKind.i64.wrap (a2 + a3) = a2 + a3 := by rw [IntKind.wrap_i64]; omega
          rcases ver_two f g pc st a2 with hv | hv
          rotate_left
          · have hl : verN f g pc st (a2 + a3) = 2 := ver_later (by omega) (by omega) (by omega) (by omega) (by omega) hv
            have k1 := fun W hW => K1.out a2 W hW
            have k2 := fun W hW => K1.out (a2 + a3) W hW
            rw [hv] at k1
            rw [hl] at k2
            have J1 := Lib.hid k1
            have J2 := Lib.hid k2
            clear k1 k2 K1 K2 K3 K4 K5 K6 K7 hl hv h1 h2 h3 h4 h5 wt hw2 hw3
            go_wp2_with fail
            refine (J1.out _ HB.out).mono ?_
            rintro e v6 ⟨rfl, hb⟩
            clear q0 q1 q2 q3 q4 p0 p1 p2 p3 p4 p5 p6
            replace ZQ := Lib.hid (zero_still hb ZQ.out)
            replace ZS := Lib.hid (zero_still hb ZS.out)
            replace HB := Lib.hid (below_then HB.out hb)
            clear hb
            obtain ⟨q0, q1, q2, q3, q4⟩ := cel5r ZQ.out
            obtain ⟨p0, p1, p2, p3, p4, p5, p6⟩ := cel7 ZS.out
            go_wp2_with fail
            refine (J2.out _ HB.out).mono ?_
            rintro e v7 ⟨rfl, hb⟩
            clear q0 q1 q2 q3 q4 p0 p1 p2 p3 p4 p5 p6
            replace ZQ := Lib.hid (zero_still hb ZQ.out)
            replace ZS := Lib.hid (zero_still hb ZS.out)
            replace HB := Lib.hid (below_then HB.out hb)
            clear hb
            obtain ⟨q0, q1, q2, q3, q4⟩ := cel5r ZQ.out
            obtain ⟨p0, p1, p2, p3, p4, p5, p6⟩ := cel7 ZS.out
            go_wp2_with fail
            refine (CX.out _ HB.out).mono ?_
            rintro e v9 ⟨rfl, hb⟩
            go_wp2_with fail
            go_ret
            exact ⟨rfl, below_then HB.out hb⟩
          · obtain ⟨g1, g2, g3, g4, g5⟩ := (ver_iff f g pc st a2).1 hv
            have k1 := fun W hW => K1.out a2 W hW
            rw [hv] at k1
            rw [ver_none hv] at K2
            rw [ver_fresh hv] at K5
            have J1 := Lib.hid k1
            clear k1 K1 hv h1 h2 h3 h4 h5 hadd g1 wt hw2 hw3
            generalize ctA f = ca at *
            generalize ctP g = cp at *
            generalize lefN g pc st a2 = lf at *
            generalize ageN g st a2 = ag at *
            obtain ⟨ans, anc, apv, apu, amc, aoi, ama, ash, amf⟩ := ca
            obtain ⟨ns, nc, pv', pu, mc, oi, ma, sh, mf⟩ := cp
            unfold ctC at *
            simp only at g2 g3 g4 g5 K3 K4
            subst g2 g3
            go_wp2_with fail
            refine (J1.out _ HB.out).mono ?_
            rintro e v8 ⟨rfl, hb⟩
            clear q0 q1 q2 q3 q4 p0 p1 p2 p3 p4 p5 p6
            replace ZQ := Lib.hid (zero_still hb ZQ.out)
            replace ZS := Lib.hid (zero_still hb ZS.out)
            replace HB := Lib.hid (below_then HB.out hb)
            clear hb
            obtain ⟨q0, q1, q2, q3, q4⟩ := cel5r ZQ.out
            obtain ⟨p0, p1, p2, p3, p4, p5, p6⟩ := cel7 ZS.out
            go_upto_region 6 with fail
            clear q0 q1 q2 q3 q4 p0 p1 p2 p3 p4 p5 p6
            obtain ⟨W0, hW0⟩ : ∃ W, W = v8 := ⟨_, rfl⟩
            rw [← hW0] at HB ZQ ZS ⊢
            clear hW0
            go_cut [10, 11] (fun x y wx => ∃ R1 R2, x = .pointer (some ⟨R1, 0, none⟩) ∧ y = .pointer (some ⟨R2, 0, none⟩) ∧ Hid (wx.heap[R1]? = some (.cells #[.bool ans, .bool false, .bool apv, .bool apu, .bool amc, .bool aoi, .int .i64 ama, .int .i64 ash, .int .i64 amf] 44 (0, 0)) ∧ wx.heap[R2]? = some (.cells #[.bool ns, .bool false, .bool pv', .bool pu, .bool mc, .bool oi, .int .i64 ma, .int .i64 sh, .int .i64 mf] 44 (0, 0)) ∧ wx.heap[w.heap.size]? = some (.cells #[.string m, .string t, .int .i64 v, .slice A0 f.length c0, .string b] 24 (0, 0)) ∧ wx.heap[w.heap.size + 1]? = some (.cells #[.int .i64 pc, .string pr, .int .i64 pv, .slice A1 g.length c1, .string pb, .int .i64 st, .slice B1 n1 m1] 40 (0, 0)) ∧ Below w.heap.size w wx ∧ w.heap.size < R1 ∧ w.heap.size < R2))
            case first =>
              go_wp2_with fail
              obtain ⟨u1, hu1⟩ : ∃ W, W0.drew = W := ⟨_, rfl⟩
              replace ZQ : Hid (u1.heap[w.heap.size]? = some (.cells #[.string m, .string t, .int .i64 v, .slice A0 f.length c0, .string b] 24 (0, 0))) := (by show _ = _; rw [← hu1]; exact ZQ.out)
              replace ZS : Hid (u1.heap[w.heap.size + 1]? = some (.cells #[.int .i64 pc, .string pr, .int .i64 pv, .slice A1 g.length c1, .string pb, .int .i64 st, .slice B1 n1 m1] 40 (0, 0))) := (by show _ = _; rw [← hu1]; exact ZS.out)
              replace HB : Hid (Below w.heap.size w u1) := (by show Below _ _ _; rw [← hu1]; exact HB.out.drew)
              refine wp_region_held_drew (S := fun W => W.cell? ⟨w.heap.size, 3, none⟩ = some (.slice A0 f.length c0) ∧ W.cell? ⟨w.heap.size + 1, 3, none⟩ = some (.slice A1 g.length c1)) (by kernel_rfl) (by rw [hu1]; exact ⟨(cel5r ZQ.out).2.2.2.1, (cel7 ZS.out).2.2.2.1⟩) (fun hHeld => ?_)
              rw [hu1] at hHeld ⊢
              clear hu1
              refine takeY (i := 0) (v := ?_) rfl rfl (by kernel_rfl) (by kernel_rfl) (by kernel_rfl) (by rfl) (fun _ _ _ h => h) ?y1 (by assumption) ?r1
              case y1 => (intro w hSw; (try dsimp only at hSw); go_simp; try with_reducible rfl)
              try simp only [Act.put, List.setIfInBounds_toArray, List.set_cons_zero, List.set_cons_succ]
              refine takeY (i := 1) (v := ?_) rfl rfl (by kernel_rfl) (by kernel_rfl) (by kernel_rfl) (by rfl) (fun _ _ _ h => h) ?y2 (by assumption) ?r2
              case y2 => (intro w hSw; (try dsimp only at hSw); go_simp; try with_reducible rfl)
              try simp only [Act.put, List.setIfInBounds_toArray, List.set_cons_zero, List.set_cons_succ]
              refine takeY (i := 3) (v := ?_) rfl rfl (by kernel_rfl) (by kernel_rfl) (by kernel_rfl) (by rfl) (fun _ _ _ h => h) ?y3 (by assumption) ?r3
              case y3 => (intro w hSw; (try dsimp only at hSw); go_simp; try with_reducible rfl)
              try simp only [Act.put, List.setIfInBounds_toArray, List.set_cons_zero, List.set_cons_succ]
              refine takeY (i := 4) (v := ?_) rfl rfl (by kernel_rfl) (by kernel_rfl) (by kernel_rfl) (by rfl) (fun _ _ _ h => h) ?y4 (by assumption) ?r4
              case y4 => (intro w hSw; (try dsimp only at hSw); go_simp; try with_reducible rfl)
              try simp only [Act.put, List.setIfInBounds_toArray, List.set_cons_zero, List.set_cons_succ]
              refine takeY (i := 5) (v := ?_) rfl rfl (by kernel_rfl) (by kernel_rfl) (by kernel_rfl) (by rfl) (fun _ _ _ h => h) ?y5 (by assumption) ?r5
              case y5 => (intro w hSw; (try dsimp only at hSw); go_simp; try with_reducible rfl)
              try simp only [Act.put, List.setIfInBounds_toArray, List.set_cons_zero, List.set_cons_succ]
              refine wpAnyH_ready (rs := [2, 7, 8]) (by kernel_rfl) (by simp) (AllReadyH.cons rfl (fun K hK => ?_) (AllReadyH.cons rfl (fun K hK => ?_) (AllReadyH.cons rfl (fun K hK => ?_) AllReadyH.nil)))
              · go_simp
                go_at_call 22
                refine (K3.out _ HB.out).mono ?_
                rintro e u2 ⟨rfl, hb⟩
                replace ZQ := Lib.hid (zero_still hb ZQ.out)
                replace ZS := Lib.hid (zero_still hb ZS.out)
                replace HB := Lib.hid (below_then HB.out hb)
                clear hb
                try go_wp2_with fail
                refine hK.out _ _ (⟨(cel5r ZQ.out).2.2.2.1, (cel7 ZS.out).2.2.2.1⟩) (fun hHeld => ?_)
                clear hK
                try simp only [Act.put, List.setIfInBounds_toArray, List.set_cons_zero, List.set_cons_succ]
                refine wpAnyH_ready (rs := [6, 7, 8]) (by kernel_rfl) (by simp) (AllReadyH.cons rfl (fun K hK => ?_) (AllReadyH.cons rfl (fun K hK => ?_) (AllReadyH.cons rfl (fun K hK => ?_) AllReadyH.nil)))
                · go_simp
                  go_at_call 23
                  refine (K4.out _ HB.out).mono ?_
                  rintro e u3 ⟨rfl, hb⟩
                  replace ZQ := Lib.hid (zero_still hb ZQ.out)
                  replace ZS := Lib.hid (zero_still hb ZS.out)
                  replace HB := Lib.hid (below_then HB.out hb)
                  clear hb
                  try go_wp2_with fail
                  refine hK.out _ _ (⟨(cel5r ZQ.out).2.2.2.1, (cel7 ZS.out).2.2.2.1⟩) (fun hHeld => ?_)
                  clear hK
                  try simp only [Act.put, List.setIfInBounds_toArray, List.set_cons_zero, List.set_cons_succ]
                  refine wpAnyH_ready (rs := [7, 8]) (by kernel_rfl) (by simp) (AllReadyH.cons rfl (fun K hK => ?_) (AllReadyH.cons rfl (fun K hK => ?_) AllReadyH.nil))
                  · go_simp
                    obtain ⟨u4, hu4⟩ : ∃ W, u3.alloc (.cells #[.bool false, .bool false, .bool false, .bool false, .bool false, .bool false, .int .i64 0, .int .i64 0, .int .i64 0] 44) = W := ⟨_, rfl⟩
                    obtain ⟨ga, hga⟩ : ∃ g, u3.heap.size = g := ⟨_, rfl⟩
                    rw [hu4, hga]
                    have nZQga : w.heap.size < ga := (by rw [← hga]; exact (Array.getElem?_eq_some_iff.1 ZQ.out).1)
                    have nZSga : w.heap.size + 1 < ga := (by rw [← hga]; exact (Array.getElem?_eq_some_iff.1 ZS.out).1)
                    replace ZQ : Hid (u4.heap[w.heap.size]? = some (.cells #[.string m, .string t, .int .i64 v, .slice A0 f.length c0, .string b] 24 (0, 0))) := (by show _ = _; rw [← hu4]; exact zero_more ZQ.out)
                    replace ZS : Hid (u4.heap[w.heap.size + 1]? = some (.cells #[.int .i64 pc, .string pr, .int .i64 pv, .slice A1 g.length c1, .string pb, .int .i64 st, .slice B1 n1 m1] 40 (0, 0))) := (by show _ = _; rw [← hu4]; exact zero_more ZS.out)
                    have Tga : Hid (u4.heap[ga]? = some (.cells #[.bool false, .bool false, .bool false, .bool false, .bool false, .bool false, .int .i64 0, .int .i64 0, .int .i64 0] 44 (0, 0))) := (by show _ = _; rw [← hu4, ← hga]; exact heap_alloc_new u3 _)
                    have nbga : w.heap.size ≤ ga := (by rw [← hga]; exact HB.out.size)
                    replace HB : Hid (Below w.heap.size w u4) := (by show Below _ _ _; rw [← hu4]; exact HB.out.alloc HB.out.size _)
                    clear hu4 hga
                    refine hK.out _ _ (⟨(cel5r ZQ.out).2.2.2.1, (cel7 ZS.out).2.2.2.1⟩) (fun hHeld => ?_)
                    clear hK
                    try simp only [Act.put, List.setIfInBounds_toArray, List.set_cons_zero, List.set_cons_succ]
                    refine wpAnyH_ready (rs := [8]) (by kernel_rfl) (by simp) (AllReadyH.cons rfl (fun K hK => ?_) AllReadyH.nil)
                    go_simp
                    obtain ⟨u5, hu5⟩ : ∃ W, u4.alloc (.cells #[.bool false, .bool false, .bool false, .bool false, .bool false, .bool false, .int .i64 0, .int .i64 0, .int .i64 0] 44) = W := ⟨_, rfl⟩
                    obtain ⟨gb, hgb⟩ : ∃ g, u4.heap.size = g := ⟨_, rfl⟩
                    rw [hu5, hgb]
                    have nZQgb : w.heap.size < gb := (by rw [← hgb]; exact (Array.getElem?_eq_some_iff.1 ZQ.out).1)
                    have nZSgb : w.heap.size + 1 < gb := (by rw [← hgb]; exact (Array.getElem?_eq_some_iff.1 ZS.out).1)
                    have nTgagb : ga < gb := (by rw [← hgb]; exact (Array.getElem?_eq_some_iff.1 Tga.out).1)
                    replace ZQ : Hid (u5.heap[w.heap.size]? = some (.cells #[.string m, .string t, .int .i64 v, .slice A0 f.length c0, .string b] 24 (0, 0))) := (by show _ = _; rw [← hu5]; exact zero_more ZQ.out)
                    replace ZS : Hid (u5.heap[w.heap.size + 1]? = some (.cells #[.int .i64 pc, .string pr, .int .i64 pv, .slice A1 g.length c1, .string pb, .int .i64 st, .slice B1 n1 m1] 40 (0, 0))) := (by show _ = _; rw [← hu5]; exact zero_more ZS.out)
                    replace Tga : Hid (u5.heap[ga]? = some (.cells #[.bool false, .bool false, .bool false, .bool false, .bool false, .bool false, .int .i64 0, .int .i64 0, .int .i64 0] 44 (0, 0))) := (by show _ = _; rw [← hu5]; exact zero_more Tga.out)
                    have Tgb : Hid (u5.heap[gb]? = some (.cells #[.bool false, .bool false, .bool false, .bool false, .bool false, .bool false, .int .i64 0, .int .i64 0, .int .i64 0] 44 (0, 0))) := (by show _ = _; rw [← hu5, ← hgb]; exact heap_alloc_new u4 _)
                    have nbgb : w.heap.size ≤ gb := (by rw [← hgb]; exact HB.out.size)
                    replace HB : Hid (Below w.heap.size w u5) := (by show Below _ _ _; rw [← hu5]; exact HB.out.alloc HB.out.size _)
                    clear hu5 hgb
                    refine hK.out _ _ (⟨(cel5r ZQ.out).2.2.2.1, (cel7 ZS.out).2.2.2.1⟩) (fun hHeld => ?_)
                    clear hK
                    try simp only [Act.put, List.setIfInBounds_toArray, List.set_cons_zero, List.set_cons_succ]
                    refine wpAnyH_ready (rs := [9]) (by kernel_rfl) (by simp) (AllReadyH.cons rfl (fun K hK => ?_) AllReadyH.nil)
                    refine step_store_row rfl _ _ _ rfl ga #[.bool ans, .bool false, .bool apv, .bool apu, .bool amc, .bool aoi, .int .i64 ama, .int .i64 ash, .int .i64 amf] rfl rfl 44 #[.bool false, .bool false, .bool false, .bool false, .bool false, .bool false, .int .i64 0, .int .i64 0, .int .i64 0] Tga.out (by kernel_rfl) rfl (by simp [Value.oneCell']) ?_
                    obtain ⟨u6, hu6⟩ : ∃ W, u5.setRow ga #[.bool ans, .bool false, .bool apv, .bool apu, .bool amc, .bool aoi, .int .i64 ama, .int .i64 ash, .int .i64 amf] = W := ⟨_, rfl⟩
                    rw [hu6]
                    replace ZQ : Hid (u6.heap[w.heap.size]? = some (.cells #[.string m, .string t, .int .i64 v, .slice A0 f.length c0, .string b] 24 (0, 0))) := (by show _ = _; rw [← hu6, setRow_other _ _ _ _ (by omega)]; exact ZQ.out)
                    replace ZS : Hid (u6.heap[w.heap.size + 1]? = some (.cells #[.int .i64 pc, .string pr, .int .i64 pv, .slice A1 g.length c1, .string pb, .int .i64 st, .slice B1 n1 m1] 40 (0, 0))) := (by show _ = _; rw [← hu6, setRow_other _ _ _ _ (by omega)]; exact ZS.out)
                    replace Tgb : Hid (u6.heap[gb]? = some (.cells #[.bool false, .bool false, .bool false, .bool false, .bool false, .bool false, .int .i64 0, .int .i64 0, .int .i64 0] 44 (0, 0))) := (by show _ = _; rw [← hu6, setRow_other _ _ _ _ (by omega)]; exact Tgb.out)
                    replace Tga : Hid (u6.heap[ga]? = some (.cells #[.bool ans, .bool false, .bool apv, .bool apu, .bool amc, .bool aoi, .int .i64 ama, .int .i64 ash, .int .i64 amf] 44 (0, 0))) := (by show _ = _; rw [← hu6]; exact setRow_heap _ _ _ _ _ _ Tga.out)
                    replace HB : Hid (Below w.heap.size w u6) := (by show Below _ _ _; rw [← hu6]; exact below_setRow HB.out nbga _)
                    clear hu6
                    refine hK.out _ _ (⟨(cel5r ZQ.out).2.2.2.1, (cel7 ZS.out).2.2.2.1⟩) (fun hHeld => ?_)
                    clear hK
                    try simp only [Act.put, List.setIfInBounds_toArray, List.set_cons_zero, List.set_cons_succ]
                    refine wpAnyH_ready (rs := [10]) (by kernel_rfl) (by simp) (AllReadyH.cons rfl (fun K hK => ?_) AllReadyH.nil)
                    refine step_store_row rfl _ _ _ rfl gb #[.bool ns, .bool false, .bool pv', .bool pu, .bool mc, .bool oi, .int .i64 ma, .int .i64 sh, .int .i64 mf] rfl rfl 44 #[.bool false, .bool false, .bool false, .bool false, .bool false, .bool false, .int .i64 0, .int .i64 0, .int .i64 0] Tgb.out (by kernel_rfl) rfl (by simp [Value.oneCell']) ?_
                    obtain ⟨u7, hu7⟩ : ∃ W, u6.setRow gb #[.bool ns, .bool false, .bool pv', .bool pu, .bool mc, .bool oi, .int .i64 ma, .int .i64 sh, .int .i64 mf] = W := ⟨_, rfl⟩
                    rw [hu7]
                    replace ZQ : Hid (u7.heap[w.heap.size]? = some (.cells #[.string m, .string t, .int .i64 v, .slice A0 f.length c0, .string b] 24 (0, 0))) := (by show _ = _; rw [← hu7, setRow_other _ _ _ _ (by omega)]; exact ZQ.out)
                    replace ZS : Hid (u7.heap[w.heap.size + 1]? = some (.cells #[.int .i64 pc, .string pr, .int .i64 pv, .slice A1 g.length c1, .string pb, .int .i64 st, .slice B1 n1 m1] 40 (0, 0))) := (by show _ = _; rw [← hu7, setRow_other _ _ _ _ (by omega)]; exact ZS.out)
                    replace Tga : Hid (u7.heap[ga]? = some (.cells #[.bool ans, .bool false, .bool apv, .bool apu, .bool amc, .bool aoi, .int .i64 ama, .int .i64 ash, .int .i64 amf] 44 (0, 0))) := (by show _ = _; rw [← hu7, setRow_other _ _ _ _ (by omega)]; exact Tga.out)
                    replace Tgb : Hid (u7.heap[gb]? = some (.cells #[.bool ns, .bool false, .bool pv', .bool pu, .bool mc, .bool oi, .int .i64 ma, .int .i64 sh, .int .i64 mf] 44 (0, 0))) := (by show _ = _; rw [← hu7]; exact setRow_heap _ _ _ _ _ _ Tgb.out)
                    replace HB : Hid (Below w.heap.size w u7) := (by show Below _ _ _; rw [← hu7]; exact below_setRow HB.out nbgb _)
                    clear hu7
                    refine hK.out _ _ (⟨(cel5r ZQ.out).2.2.2.1, (cel7 ZS.out).2.2.2.1⟩) (fun hHeld => ?_)
                    clear hK
                    try simp only [Act.put, List.setIfInBounds_toArray, List.set_cons_zero, List.set_cons_succ]
                    refine wpAnyH_done (by kernel_rfl) ?_ _
                    go_wp2_with fail
                    go_meet
                    exact ⟨ga, gb, rfl, rfl, Tga.out, Tgb.out, ZQ.out, ZS.out, HB.out, nZQga, nZQgb⟩
                  · go_simp
                    obtain ⟨u8, hu8⟩ : ∃ W, u3.alloc (.cells #[.bool false, .bool false, .bool false, .bool false, .bool false, .bool false, .int .i64 0, .int .i64 0, .int .i64 0] 44) = W := ⟨_, rfl⟩
                    obtain ⟨gb, hgb⟩ : ∃ g, u3.heap.size = g := ⟨_, rfl⟩
                    rw [hu8, hgb]
                    have nZQgb : w.heap.size < gb := (by rw [← hgb]; exact (Array.getElem?_eq_some_iff.1 ZQ.out).1)
                    have nZSgb : w.heap.size + 1 < gb := (by rw [← hgb]; exact (Array.getElem?_eq_some_iff.1 ZS.out).1)
                    replace ZQ : Hid (u8.heap[w.heap.size]? = some (.cells #[.string m, .string t, .int .i64 v, .slice A0 f.length c0, .string b] 24 (0, 0))) := (by show _ = _; rw [← hu8]; exact zero_more ZQ.out)
                    replace ZS : Hid (u8.heap[w.heap.size + 1]? = some (.cells #[.int .i64 pc, .string pr, .int .i64 pv, .slice A1 g.length c1, .string pb, .int .i64 st, .slice B1 n1 m1] 40 (0, 0))) := (by show _ = _; rw [← hu8]; exact zero_more ZS.out)
                    have Tgb : Hid (u8.heap[gb]? = some (.cells #[.bool false, .bool false, .bool false, .bool false, .bool false, .bool false, .int .i64 0, .int .i64 0, .int .i64 0] 44 (0, 0))) := (by show _ = _; rw [← hu8, ← hgb]; exact heap_alloc_new u3 _)
                    have nbgb : w.heap.size ≤ gb := (by rw [← hgb]; exact HB.out.size)
                    replace HB : Hid (Below w.heap.size w u8) := (by show Below _ _ _; rw [← hu8]; exact HB.out.alloc HB.out.size _)
                    clear hu8 hgb
                    refine hK.out _ _ (⟨(cel5r ZQ.out).2.2.2.1, (cel7 ZS.out).2.2.2.1⟩) (fun hHeld => ?_)
                    clear hK
                    try simp only [Act.put, List.setIfInBounds_toArray, List.set_cons_zero, List.set_cons_succ]
                    refine wpAnyH_ready (rs := [7]) (by kernel_rfl) (by simp) (AllReadyH.cons rfl (fun K hK => ?_) AllReadyH.nil)
                    go_simp
                    obtain ⟨u9, hu9⟩ : ∃ W, u8.alloc (.cells #[.bool false, .bool false, .bool false, .bool false, .bool false, .bool false, .int .i64 0, .int .i64 0, .int .i64 0] 44) = W := ⟨_, rfl⟩
                    obtain ⟨ga, hga⟩ : ∃ g, u8.heap.size = g := ⟨_, rfl⟩
                    rw [hu9, hga]
                    have nZQga : w.heap.size < ga := (by rw [← hga]; exact (Array.getElem?_eq_some_iff.1 ZQ.out).1)
                    have nZSga : w.heap.size + 1 < ga := (by rw [← hga]; exact (Array.getElem?_eq_some_iff.1 ZS.out).1)
                    have nTgbga : gb < ga := (by rw [← hga]; exact (Array.getElem?_eq_some_iff.1 Tgb.out).1)
                    replace ZQ : Hid (u9.heap[w.heap.size]? = some (.cells #[.string m, .string t, .int .i64 v, .slice A0 f.length c0, .string b] 24 (0, 0))) := (by show _ = _; rw [← hu9]; exact zero_more ZQ.out)
                    replace ZS : Hid (u9.heap[w.heap.size + 1]? = some (.cells #[.int .i64 pc, .string pr, .int .i64 pv, .slice A1 g.length c1, .string pb, .int .i64 st, .slice B1 n1 m1] 40 (0, 0))) := (by show _ = _; rw [← hu9]; exact zero_more ZS.out)
                    replace Tgb : Hid (u9.heap[gb]? = some (.cells #[.bool false, .bool false, .bool false, .bool false, .bool false, .bool false, .int .i64 0, .int .i64 0, .int .i64 0] 44 (0, 0))) := (by show _ = _; rw [← hu9]; exact zero_more Tgb.out)
                    have Tga : Hid (u9.heap[ga]? = some (.cells #[.bool false, .bool false, .bool false, .bool false, .bool false, .bool false, .int .i64 0, .int .i64 0, .int .i64 0] 44 (0, 0))) := (by show _ = _; rw [← hu9, ← hga]; exact heap_alloc_new u8 _)
                    have nbga : w.heap.size ≤ ga := (by rw [← hga]; exact HB.out.size)
                    replace HB : Hid (Below w.heap.size w u9) := (by show Below _ _ _; rw [← hu9]; exact HB.out.alloc HB.out.size _)
                    clear hu9 hga
                    refine hK.out _ _ (⟨(cel5r ZQ.out).2.2.2.1, (cel7 ZS.out).2.2.2.1⟩) (fun hHeld => ?_)
                    clear hK
                    try simp only [Act.put, List.setIfInBounds_toArray, List.set_cons_zero, List.set_cons_succ]
                    refine wpAnyH_ready (rs := [9]) (by kernel_rfl) (by simp) (AllReadyH.cons rfl (fun K hK => ?_) AllReadyH.nil)
                    refine step_store_row rfl _ _ _ rfl ga #[.bool ans, .bool false, .bool apv, .bool apu, .bool amc, .bool aoi, .int .i64 ama, .int .i64 ash, .int .i64 amf] rfl rfl 44 #[.bool false, .bool false, .bool false, .bool false, .bool false, .bool false, .int .i64 0, .int .i64 0, .int .i64 0] Tga.out (by kernel_rfl) rfl (by simp [Value.oneCell']) ?_
                    obtain ⟨u10, hu10⟩ : ∃ W, u9.setRow ga #[.bool ans, .bool false, .bool apv, .bool apu, .bool amc, .bool aoi, .int .i64 ama, .int .i64 ash, .int .i64 amf] = W := ⟨_, rfl⟩
                    rw [hu10]
                    replace ZQ : Hid (u10.heap[w.heap.size]? = some (.cells #[.string m, .string t, .int .i64 v, .slice A0 f.length c0, .string b] 24 (0, 0))) := (by show _ = _; rw [← hu10, setRow_other _ _ _ _ (by omega)]; exact ZQ.out)
                    replace ZS : Hid (u10.heap[w.heap.size + 1]? = some (.cells #[.int .i64 pc, .string pr, .int .i64 pv, .slice A1 g.length c1, .string pb, .int .i64 st, .slice B1 n1 m1] 40 (0, 0))) := (by show _ = _; rw [← hu10, setRow_other _ _ _ _ (by omega)]; exact ZS.out)
                    replace Tgb : Hid (u10.heap[gb]? = some (.cells #[.bool false, .bool false, .bool false, .bool false, .bool false, .bool false, .int .i64 0, .int .i64 0, .int .i64 0] 44 (0, 0))) := (by show _ = _; rw [← hu10, setRow_other _ _ _ _ (by omega)]; exact Tgb.out)
                    replace Tga : Hid (u10.heap[ga]? = some (.cells #[.bool ans, .bool false, .bool apv, .bool apu, .bool amc, .bool aoi, .int .i64 ama, .int .i64 ash, .int .i64 amf] 44 (0, 0))) := (by show _ = _; rw [← hu10]; exact setRow_heap _ _ _ _ _ _ Tga.out)
                    replace HB : Hid (Below w.heap.size w u10) := (by show Below _ _ _; rw [← hu10]; exact below_setRow HB.out nbga _)
                    clear hu10
                    refine hK.out _ _ (⟨(cel5r ZQ.out).2.2.2.1, (cel7 ZS.out).2.2.2.1⟩) (fun hHeld => ?_)
                    clear hK
                    try simp only [Act.put, List.setIfInBounds_toArray, List.set_cons_zero, List.set_cons_succ]
                    refine wpAnyH_ready (rs := [10]) (by kernel_rfl) (by simp) (AllReadyH.cons rfl (fun K hK => ?_) AllReadyH.nil)
                    refine step_store_row rfl _ _ _ rfl gb #[.bool ns, .bool false, .bool pv', .bool pu, .bool mc, .bool oi, .int .i64 ma, .int .i64 sh, .int .i64 mf] rfl rfl 44 #[.bool false, .bool false, .bool false, .bool false, .bool false, .bool false, .int .i64 0, .int .i64 0, .int .i64 0] Tgb.out (by kernel_rfl) rfl (by simp [Value.oneCell']) ?_
                    obtain ⟨u11, hu11⟩ : ∃ W, u10.setRow gb #[.bool ns, .bool false, .bool pv', .bool pu, .bool mc, .bool oi, .int .i64 ma, .int .i64 sh, .int .i64 mf] = W := ⟨_, rfl⟩
                    rw [hu11]
                    replace ZQ : Hid (u11.heap[w.heap.size]? = some (.cells #[.string m, .string t, .int .i64 v, .slice A0 f.length c0, .string b] 24 (0, 0))) := (by show _ = _; rw [← hu11, setRow_other _ _ _ _ (by omega)]; exact ZQ.out)
                    replace ZS : Hid (u11.heap[w.heap.size + 1]? = some (.cells #[.int .i64 pc, .string pr, .int .i64 pv, .slice A1 g.length c1, .string pb, .int .i64 st, .slice B1 n1 m1] 40 (0, 0))) := (by show _ = _; rw [← hu11, setRow_other _ _ _ _ (by omega)]; exact ZS.out)
                    replace Tga : Hid (u11.heap[ga]? = some (.cells #[.bool ans, .bool false, .bool apv, .bool apu, .bool amc, .bool aoi, .int .i64 ama, .int .i64 ash, .int .i64 amf] 44 (0, 0))) := (by show _ = _; rw [← hu11, setRow_other _ _ _ _ (by omega)]; exact Tga.out)
                    replace Tgb : Hid (u11.heap[gb]? = some (.cells #[.bool ns, .bool false, .bool pv', .bool pu, .bool mc, .bool oi, .int .i64 ma, .int .i64 sh, .int .i64 mf] 44 (0, 0))) := (by show _ = _; rw [← hu11]; exact setRow_heap _ _ _ _ _ _ Tgb.out)
                    replace HB : Hid (Below w.heap.size w u11) := (by show Below _ _ _; rw [← hu11]; exact below_setRow HB.out nbgb _)
                    clear hu11
                    refine hK.out _ _ (⟨(cel5r ZQ.out).2.2.2.1, (cel7 ZS.out).2.2.2.1⟩) (fun hHeld => ?_)
                    clear hK
                    try simp only [Act.put, List.setIfInBounds_toArray, List.set_cons_zero, List.set_cons_succ]
                    refine wpAnyH_done (by kernel_rfl) ?_ _
                    go_wp2_with fail
                    go_meet
                    exact ⟨ga, gb, rfl, rfl, Tga.out, Tgb.out, ZQ.out, ZS.out, HB.out, nZQga, nZQgb⟩
                · go_simp
                  obtain ⟨u12, hu12⟩ : ∃ W, u2.alloc (.cells #[.bool false, .bool false, .bool false, .bool false, .bool false, .bool false, .int .i64 0, .int .i64 0, .int .i64 0] 44) = W := ⟨_, rfl⟩
                  obtain ⟨ga, hga⟩ : ∃ g, u2.heap.size = g := ⟨_, rfl⟩
                  rw [hu12, hga]
                  have nZQga : w.heap.size < ga := (by rw [← hga]; exact (Array.getElem?_eq_some_iff.1 ZQ.out).1)
                  have nZSga : w.heap.size + 1 < ga := (by rw [← hga]; exact (Array.getElem?_eq_some_iff.1 ZS.out).1)
                  replace ZQ : Hid (u12.heap[w.heap.size]? = some (.cells #[.string m, .string t, .int .i64 v, .slice A0 f.length c0, .string b] 24 (0, 0))) := (by show _ = _; rw [← hu12]; exact zero_more ZQ.out)
                  replace ZS : Hid (u12.heap[w.heap.size + 1]? = some (.cells #[.int .i64 pc, .string pr, .int .i64 pv, .slice A1 g.length c1, .string pb, .int .i64 st, .slice B1 n1 m1] 40 (0, 0))) := (by show _ = _; rw [← hu12]; exact zero_more ZS.out)
                  have Tga : Hid (u12.heap[ga]? = some (.cells #[.bool false, .bool false, .bool false, .bool false, .bool false, .bool false, .int .i64 0, .int .i64 0, .int .i64 0] 44 (0, 0))) := (by show _ = _; rw [← hu12, ← hga]; exact heap_alloc_new u2 _)
                  have nbga : w.heap.size ≤ ga := (by rw [← hga]; exact HB.out.size)
                  replace HB : Hid (Below w.heap.size w u12) := (by show Below _ _ _; rw [← hu12]; exact HB.out.alloc HB.out.size _)
                  clear hu12 hga
                  refine hK.out _ _ (⟨(cel5r ZQ.out).2.2.2.1, (cel7 ZS.out).2.2.2.1⟩) (fun hHeld => ?_)
                  clear hK
                  try simp only [Act.put, List.setIfInBounds_toArray, List.set_cons_zero, List.set_cons_succ]
                  refine wpAnyH_ready (rs := [6, 8]) (by kernel_rfl) (by simp) (AllReadyH.cons rfl (fun K hK => ?_) (AllReadyH.cons rfl (fun K hK => ?_) AllReadyH.nil))
                  · go_simp
                    go_at_call 23
                    refine (K4.out _ HB.out).mono ?_
                    rintro e u13 ⟨rfl, hb⟩
                    replace ZQ := Lib.hid (zero_still hb ZQ.out)
                    replace ZS := Lib.hid (zero_still hb ZS.out)
                    replace Tga := Lib.hid (zero_still hb Tga.out)
                    replace HB := Lib.hid (below_then HB.out hb)
                    clear hb
                    try go_wp2_with fail
                    refine hK.out _ _ (⟨(cel5r ZQ.out).2.2.2.1, (cel7 ZS.out).2.2.2.1⟩) (fun hHeld => ?_)
                    clear hK
                    try simp only [Act.put, List.setIfInBounds_toArray, List.set_cons_zero, List.set_cons_succ]
                    refine wpAnyH_ready (rs := [8]) (by kernel_rfl) (by simp) (AllReadyH.cons rfl (fun K hK => ?_) AllReadyH.nil)
                    go_simp
                    obtain ⟨u14, hu14⟩ : ∃ W, u13.alloc (.cells #[.bool false, .bool false, .bool false, .bool false, .bool false, .bool false, .int .i64 0, .int .i64 0, .int .i64 0] 44) = W := ⟨_, rfl⟩
                    obtain ⟨gb, hgb⟩ : ∃ g, u13.heap.size = g := ⟨_, rfl⟩
                    rw [hu14, hgb]
                    have nZQgb : w.heap.size < gb := (by rw [← hgb]; exact (Array.getElem?_eq_some_iff.1 ZQ.out).1)
                    have nZSgb : w.heap.size + 1 < gb := (by rw [← hgb]; exact (Array.getElem?_eq_some_iff.1 ZS.out).1)
                    have nTgagb : ga < gb := (by rw [← hgb]; exact (Array.getElem?_eq_some_iff.1 Tga.out).1)
                    replace ZQ : Hid (u14.heap[w.heap.size]? = some (.cells #[.string m, .string t, .int .i64 v, .slice A0 f.length c0, .string b] 24 (0, 0))) := (by show _ = _; rw [← hu14]; exact zero_more ZQ.out)
                    replace ZS : Hid (u14.heap[w.heap.size + 1]? = some (.cells #[.int .i64 pc, .string pr, .int .i64 pv, .slice A1 g.length c1, .string pb, .int .i64 st, .slice B1 n1 m1] 40 (0, 0))) := (by show _ = _; rw [← hu14]; exact zero_more ZS.out)
                    replace Tga : Hid (u14.heap[ga]? = some (.cells #[.bool false, .bool false, .bool false, .bool false, .bool false, .bool false, .int .i64 0, .int .i64 0, .int .i64 0] 44 (0, 0))) := (by show _ = _; rw [← hu14]; exact zero_more Tga.out)
                    have Tgb : Hid (u14.heap[gb]? = some (.cells #[.bool false, .bool false, .bool false, .bool false, .bool false, .bool false, .int .i64 0, .int .i64 0, .int .i64 0] 44 (0, 0))) := (by show _ = _; rw [← hu14, ← hgb]; exact heap_alloc_new u13 _)
                    have nbgb : w.heap.size ≤ gb := (by rw [← hgb]; exact HB.out.size)
                    replace HB : Hid (Below w.heap.size w u14) := (by show Below _ _ _; rw [← hu14]; exact HB.out.alloc HB.out.size _)
                    clear hu14 hgb
                    refine hK.out _ _ (⟨(cel5r ZQ.out).2.2.2.1, (cel7 ZS.out).2.2.2.1⟩) (fun hHeld => ?_)
                    clear hK
                    try simp only [Act.put, List.setIfInBounds_toArray, List.set_cons_zero, List.set_cons_succ]
                    refine wpAnyH_ready (rs := [9]) (by kernel_rfl) (by simp) (AllReadyH.cons rfl (fun K hK => ?_) AllReadyH.nil)
                    refine step_store_row rfl _ _ _ rfl ga #[.bool ans, .bool false, .bool apv, .bool apu, .bool amc, .bool aoi, .int .i64 ama, .int .i64 ash, .int .i64 amf] rfl rfl 44 #[.bool false, .bool false, .bool false, .bool false, .bool false, .bool false, .int .i64 0, .int .i64 0, .int .i64 0] Tga.out (by kernel_rfl) rfl (by simp [Value.oneCell']) ?_
                    obtain ⟨u15, hu15⟩ : ∃ W, u14.setRow ga #[.bool ans, .bool false, .bool apv, .bool apu, .bool amc, .bool aoi, .int .i64 ama, .int .i64 ash, .int .i64 amf] = W := ⟨_, rfl⟩
                    rw [hu15]
                    replace ZQ : Hid (u15.heap[w.heap.size]? = some (.cells #[.string m, .string t, .int .i64 v, .slice A0 f.length c0, .string b] 24 (0, 0))) := (by show _ = _; rw [← hu15, setRow_other _ _ _ _ (by omega)]; exact ZQ.out)
                    replace ZS : Hid (u15.heap[w.heap.size + 1]? = some (.cells #[.int .i64 pc, .string pr, .int .i64 pv, .slice A1 g.length c1, .string pb, .int .i64 st, .slice B1 n1 m1] 40 (0, 0))) := (by show _ = _; rw [← hu15, setRow_other _ _ _ _ (by omega)]; exact ZS.out)
                    replace Tgb : Hid (u15.heap[gb]? = some (.cells #[.bool false, .bool false, .bool false, .bool false, .bool false, .bool false, .int .i64 0, .int .i64 0, .int .i64 0] 44 (0, 0))) := (by show _ = _; rw [← hu15, setRow_other _ _ _ _ (by omega)]; exact Tgb.out)
                    replace Tga : Hid (u15.heap[ga]? = some (.cells #[.bool ans, .bool false, .bool apv, .bool apu, .bool amc, .bool aoi, .int .i64 ama, .int .i64 ash, .int .i64 amf] 44 (0, 0))) := (by show _ = _; rw [← hu15]; exact setRow_heap _ _ _ _ _ _ Tga.out)
                    replace HB : Hid (Below w.heap.size w u15) := (by show Below _ _ _; rw [← hu15]; exact below_setRow HB.out nbga _)
                    clear hu15
                    refine hK.out _ _ (⟨(cel5r ZQ.out).2.2.2.1, (cel7 ZS.out).2.2.2.1⟩) (fun hHeld => ?_)
                    clear hK
                    try simp only [Act.put, List.setIfInBounds_toArray, List.set_cons_zero, List.set_cons_succ]
                    refine wpAnyH_ready (rs := [10]) (by kernel_rfl) (by simp) (AllReadyH.cons rfl (fun K hK => ?_) AllReadyH.nil)
                    refine step_store_row rfl _ _ _ rfl gb #[.bool ns, .bool false, .bool pv', .bool pu, .bool mc, .bool oi, .int .i64 ma, .int .i64 sh, .int .i64 mf] rfl rfl 44 #[.bool false, .bool false, .bool false, .bool false, .bool false, .bool false, .int .i64 0, .int .i64 0, .int .i64 0] Tgb.out (by kernel_rfl) rfl (by simp [Value.oneCell']) ?_
                    obtain ⟨u16, hu16⟩ : ∃ W, u15.setRow gb #[.bool ns, .bool false, .bool pv', .bool pu, .bool mc, .bool oi, .int .i64 ma, .int .i64 sh, .int .i64 mf] = W := ⟨_, rfl⟩
                    rw [hu16]
                    replace ZQ : Hid (u16.heap[w.heap.size]? = some (.cells #[.string m, .string t, .int .i64 v, .slice A0 f.length c0, .string b] 24 (0, 0))) := (by show _ = _; rw [← hu16, setRow_other _ _ _ _ (by omega)]; exact ZQ.out)
                    replace ZS : Hid (u16.heap[w.heap.size + 1]? = some (.cells #[.int .i64 pc, .string pr, .int .i64 pv, .slice A1 g.length c1, .string pb, .int .i64 st, .slice B1 n1 m1] 40 (0, 0))) := (by show _ = _; rw [← hu16, setRow_other _ _ _ _ (by omega)]; exact ZS.out)
                    replace Tga : Hid (u16.heap[ga]? = some (.cells #[.bool ans, .bool false, .bool apv, .bool apu, .bool amc, .bool aoi, .int .i64 ama, .int .i64 ash, .int .i64 amf] 44 (0, 0))) := (by show _ = _; rw [← hu16, setRow_other _ _ _ _ (by omega)]; exact Tga.out)
                    replace Tgb : Hid (u16.heap[gb]? = some (.cells #[.bool ns, .bool false, .bool pv', .bool pu, .bool mc, .bool oi, .int .i64 ma, .int .i64 sh, .int .i64 mf] 44 (0, 0))) := (by show _ = _; rw [← hu16]; exact setRow_heap _ _ _ _ _ _ Tgb.out)
                    replace HB : Hid (Below w.heap.size w u16) := (by show Below _ _ _; rw [← hu16]; exact below_setRow HB.out nbgb _)
                    clear hu16
                    refine hK.out _ _ (⟨(cel5r ZQ.out).2.2.2.1, (cel7 ZS.out).2.2.2.1⟩) (fun hHeld => ?_)
                    clear hK
                    try simp only [Act.put, List.setIfInBounds_toArray, List.set_cons_zero, List.set_cons_succ]
                    refine wpAnyH_done (by kernel_rfl) ?_ _
                    go_wp2_with fail
                    go_meet
                    exact ⟨ga, gb, rfl, rfl, Tga.out, Tgb.out, ZQ.out, ZS.out, HB.out, nZQga, nZQgb⟩
                  · go_simp
                    obtain ⟨u17, hu17⟩ : ∃ W, u12.alloc (.cells #[.bool false, .bool false, .bool false, .bool false, .bool false, .bool false, .int .i64 0, .int .i64 0, .int .i64 0] 44) = W := ⟨_, rfl⟩
                    obtain ⟨gb, hgb⟩ : ∃ g, u12.heap.size = g := ⟨_, rfl⟩
                    rw [hu17, hgb]
                    have nZQgb : w.heap.size < gb := (by rw [← hgb]; exact (Array.getElem?_eq_some_iff.1 ZQ.out).1)
                    have nZSgb : w.heap.size + 1 < gb := (by rw [← hgb]; exact (Array.getElem?_eq_some_iff.1 ZS.out).1)
                    have nTgagb : ga < gb := (by rw [← hgb]; exact (Array.getElem?_eq_some_iff.1 Tga.out).1)
                    replace ZQ : Hid (u17.heap[w.heap.size]? = some (.cells #[.string m, .string t, .int .i64 v, .slice A0 f.length c0, .string b] 24 (0, 0))) := (by show _ = _; rw [← hu17]; exact zero_more ZQ.out)
                    replace ZS : Hid (u17.heap[w.heap.size + 1]? = some (.cells #[.int .i64 pc, .string pr, .int .i64 pv, .slice A1 g.length c1, .string pb, .int .i64 st, .slice B1 n1 m1] 40 (0, 0))) := (by show _ = _; rw [← hu17]; exact zero_more ZS.out)
                    replace Tga : Hid (u17.heap[ga]? = some (.cells #[.bool false, .bool false, .bool false, .bool false, .bool false, .bool false, .int .i64 0, .int .i64 0, .int .i64 0] 44 (0, 0))) := (by show _ = _; rw [← hu17]; exact zero_more Tga.out)
                    have Tgb : Hid (u17.heap[gb]? = some (.cells #[.bool false, .bool false, .bool false, .bool false, .bool false, .bool false, .int .i64 0, .int .i64 0, .int .i64 0] 44 (0, 0))) := (by show _ = _; rw [← hu17, ← hgb]; exact heap_alloc_new u12 _)
                    have nbgb : w.heap.size ≤ gb := (by rw [← hgb]; exact HB.out.size)
                    replace HB : Hid (Below w.heap.size w u17) := (by show Below _ _ _; rw [← hu17]; exact HB.out.alloc HB.out.size _)
                    clear hu17 hgb
                    refine hK.out _ _ (⟨(cel5r ZQ.out).2.2.2.1, (cel7 ZS.out).2.2.2.1⟩) (fun hHeld => ?_)
                    clear hK
                    try simp only [Act.put, List.setIfInBounds_toArray, List.set_cons_zero, List.set_cons_succ]
                    refine wpAnyH_ready (rs := [6]) (by kernel_rfl) (by simp) (AllReadyH.cons rfl (fun K hK => ?_) AllReadyH.nil)
                    go_simp
                    go_at_call 23
                    refine (K4.out _ HB.out).mono ?_
                    rintro e u18 ⟨rfl, hb⟩
                    replace ZQ := Lib.hid (zero_still hb ZQ.out)
                    replace ZS := Lib.hid (zero_still hb ZS.out)
                    replace Tga := Lib.hid (zero_still hb Tga.out)
                    replace Tgb := Lib.hid (zero_still hb Tgb.out)
                    replace HB := Lib.hid (below_then HB.out hb)
                    clear hb
                    try go_wp2_with fail
                    refine hK.out _ _ (⟨(cel5r ZQ.out).2.2.2.1, (cel7 ZS.out).2.2.2.1⟩) (fun hHeld => ?_)
                    clear hK
                    try simp only [Act.put, List.setIfInBounds_toArray, List.set_cons_zero, List.set_cons_succ]
                    refine wpAnyH_ready (rs := [9]) (by kernel_rfl) (by simp) (AllReadyH.cons rfl (fun K hK => ?_) AllReadyH.nil)
                    refine step_store_row rfl _ _ _ rfl ga #[.bool ans, .bool false, .bool apv, .bool apu, .bool amc, .bool aoi, .int .i64 ama, .int .i64 ash, .int .i64 amf] rfl rfl 44 #[.bool false, .bool false, .bool false, .bool false, .bool false, .bool false, .int .i64 0, .int .i64 0, .int .i64 0] Tga.out (by kernel_rfl) rfl (by simp [Value.oneCell']) ?_
                    obtain ⟨u19, hu19⟩ : ∃ W, u18.setRow ga #[.bool ans, .bool false, .bool apv, .bool apu, .bool amc, .bool aoi, .int .i64 ama, .int .i64 ash, .int .i64 amf] = W := ⟨_, rfl⟩
                    rw [hu19]
                    replace ZQ : Hid (u19.heap[w.heap.size]? = some (.cells #[.string m, .string t, .int .i64 v, .slice A0 f.length c0, .string b] 24 (0, 0))) := (by show _ = _; rw [← hu19, setRow_other _ _ _ _ (by omega)]; exact ZQ.out)
                    replace ZS : Hid (u19.heap[w.heap.size + 1]? = some (.cells #[.int .i64 pc, .string pr, .int .i64 pv, .slice A1 g.length c1, .string pb, .int .i64 st, .slice B1 n1 m1] 40 (0, 0))) := (by show _ = _; rw [← hu19, setRow_other _ _ _ _ (by omega)]; exact ZS.out)
                    replace Tgb : Hid (u19.heap[gb]? = some (.cells #[.bool false, .bool false, .bool false, .bool false, .bool false, .bool false, .int .i64 0, .int .i64 0, .int .i64 0] 44 (0, 0))) := (by show _ = _; rw [← hu19, setRow_other _ _ _ _ (by omega)]; exact Tgb.out)
                    replace Tga : Hid (u19.heap[ga]? = some (.cells #[.bool ans, .bool false, .bool apv, .bool apu, .bool amc, .bool aoi, .int .i64 ama, .int .i64 ash, .int .i64 amf] 44 (0, 0))) := (by show _ = _; rw [← hu19]; exact setRow_heap _ _ _ _ _ _ Tga.out)
                    replace HB : Hid (Below w.heap.size w u19) := (by show Below _ _ _; rw [← hu19]; exact below_setRow HB.out nbga _)
                    clear hu19
                    refine hK.out _ _ (⟨(cel5r ZQ.out).2.2.2.1, (cel7 ZS.out).2.2.2.1⟩) (fun hHeld => ?_)
                    clear hK
                    try simp only [Act.put, List.setIfInBounds_toArray, List.set_cons_zero, List.set_cons_succ]
                    refine wpAnyH_ready (rs := [10]) (by kernel_rfl) (by simp) (AllReadyH.cons rfl (fun K hK => ?_) AllReadyH.nil)
                    refine step_store_row rfl _ _ _ rfl gb #[.bool ns, .bool false, .bool pv', .bool pu, .bool mc, .bool oi, .int .i64 ma, .int .i64 sh, .int .i64 mf] rfl rfl 44 #[.bool false, .bool false, .bool false, .bool false, .bool false, .bool false, .int .i64 0, .int .i64 0, .int .i64 0] Tgb.out (by kernel_rfl) rfl (by simp [Value.oneCell']) ?_
                    obtain ⟨u20, hu20⟩ : ∃ W, u19.setRow gb #[.bool ns, .bool false, .bool pv', .bool pu, .bool mc, .bool oi, .int .i64 ma, .int .i64 sh, .int .i64 mf] = W := ⟨_, rfl⟩
                    rw [hu20]
                    replace ZQ : Hid (u20.heap[w.heap.size]? = some (.cells #[.string m, .string t, .int .i64 v, .slice A0 f.length c0, .string b] 24 (0, 0))) := (by show _ = _; rw [← hu20, setRow_other _ _ _ _ (by omega)]; exact ZQ.out)
                    replace ZS : Hid (u20.heap[w.heap.size + 1]? = some (.cells #[.int .i64 pc, .string pr, .int .i64 pv, .slice A1 g.length c1, .string pb, .int .i64 st, .slice B1 n1 m1] 40 (0, 0))) := (by show _ = _; rw [← hu20, setRow_other _ _ _ _ (by omega)]; exact ZS.out)
                    replace Tga : Hid (u20.heap[ga]? = some (.cells #[.bool ans, .bool false, .bool apv, .bool apu, .bool amc, .bool aoi, .int .i64 ama, .int .i64 ash, .int .i64 amf] 44 (0, 0))) := (by show _ = _; rw [← hu20, setRow_other _ _ _ _ (by omega)]; exact Tga.out)
                    replace Tgb : Hid (u20.heap[gb]? = some (.cells #[.bool ns, .bool false, .bool pv', .bool pu, .bool mc, .bool oi, .int .i64 ma, .int .i64 sh, .int .i64 mf] 44 (0, 0))) := (by show _ = _; rw [← hu20]; exact setRow_heap _ _ _ _ _ _ Tgb.out)
                    replace HB : Hid (Below w.heap.size w u20) := (by show Below _ _ _; rw [← hu20]; exact below_setRow HB.out nbgb _)
                    clear hu20
                    refine hK.out _ _ (⟨(cel5r ZQ.out).2.2.2.1, (cel7 ZS.out).2.2.2.1⟩) (fun hHeld => ?_)
                    clear hK
                    try simp only [Act.put, List.setIfInBounds_toArray, List.set_cons_zero, List.set_cons_succ]
                    refine wpAnyH_done (by kernel_rfl) ?_ _
                    go_wp2_with fail
                    go_meet
                    exact ⟨ga, gb, rfl, rfl, Tga.out, Tgb.out, ZQ.out, ZS.out, HB.out, nZQga, nZQgb⟩
                · go_simp
                  obtain ⟨u21, hu21⟩ : ∃ W, u2.alloc (.cells #[.bool false, .bool false, .bool false, .bool false, .bool false, .bool false, .int .i64 0, .int .i64 0, .int .i64 0] 44) = W := ⟨_, rfl⟩
                  obtain ⟨gb, hgb⟩ : ∃ g, u2.heap.size = g := ⟨_, rfl⟩
                  rw [hu21, hgb]
                  have nZQgb : w.heap.size < gb := (by rw [← hgb]; exact (Array.getElem?_eq_some_iff.1 ZQ.out).1)
                  have nZSgb : w.heap.size + 1 < gb := (by rw [← hgb]; exact (Array.getElem?_eq_some_iff.1 ZS.out).1)
                  replace ZQ : Hid (u21.heap[w.heap.size]? = some (.cells #[.string m, .string t, .int .i64 v, .slice A0 f.length c0, .string b] 24 (0, 0))) := (by show _ = _; rw [← hu21]; exact zero_more ZQ.out)
                  replace ZS : Hid (u21.heap[w.heap.size + 1]? = some (.cells #[.int .i64 pc, .string pr, .int .i64 pv, .slice A1 g.length c1, .string pb, .int .i64 st, .slice B1 n1 m1] 40 (0, 0))) := (by show _ = _; rw [← hu21]; exact zero_more ZS.out)
                  have Tgb : Hid (u21.heap[gb]? = some (.cells #[.bool false, .bool false, .bool false, .bool false, .bool false, .bool false, .int .i64 0, .int .i64 0, .int .i64 0] 44 (0, 0))) := (by show _ = _; rw [← hu21, ← hgb]; exact heap_alloc_new u2 _)
                  have nbgb : w.heap.size ≤ gb := (by rw [← hgb]; exact HB.out.size)
                  replace HB : Hid (Below w.heap.size w u21) := (by show Below _ _ _; rw [← hu21]; exact HB.out.alloc HB.out.size _)
                  clear hu21 hgb
                  refine hK.out _ _ (⟨(cel5r ZQ.out).2.2.2.1, (cel7 ZS.out).2.2.2.1⟩) (fun hHeld => ?_)
                  clear hK
                  try simp only [Act.put, List.setIfInBounds_toArray, List.set_cons_zero, List.set_cons_succ]
                  refine wpAnyH_ready (rs := [6, 7]) (by kernel_rfl) (by simp) (AllReadyH.cons rfl (fun K hK => ?_) (AllReadyH.cons rfl (fun K hK => ?_) AllReadyH.nil))
                  · go_simp
                    go_at_call 23
                    refine (K4.out _ HB.out).mono ?_
                    rintro e u22 ⟨rfl, hb⟩
                    replace ZQ := Lib.hid (zero_still hb ZQ.out)
                    replace ZS := Lib.hid (zero_still hb ZS.out)
                    replace Tgb := Lib.hid (zero_still hb Tgb.out)
                    replace HB := Lib.hid (below_then HB.out hb)
                    clear hb
                    try go_wp2_with fail
                    refine hK.out _ _ (⟨(cel5r ZQ.out).2.2.2.1, (cel7 ZS.out).2.2.2.1⟩) (fun hHeld => ?_)
                    clear hK
                    try simp only [Act.put, List.setIfInBounds_toArray, List.set_cons_zero, List.set_cons_succ]
                    refine wpAnyH_ready (rs := [7]) (by kernel_rfl) (by simp) (AllReadyH.cons rfl (fun K hK => ?_) AllReadyH.nil)
                    go_simp
                    obtain ⟨u23, hu23⟩ : ∃ W, u22.alloc (.cells #[.bool false, .bool false, .bool false, .bool false, .bool false, .bool false, .int .i64 0, .int .i64 0, .int .i64 0] 44) = W := ⟨_, rfl⟩
                    obtain ⟨ga, hga⟩ : ∃ g, u22.heap.size = g := ⟨_, rfl⟩
                    rw [hu23, hga]
                    have nZQga : w.heap.size < ga := (by rw [← hga]; exact (Array.getElem?_eq_some_iff.1 ZQ.out).1)
                    have nZSga : w.heap.size + 1 < ga := (by rw [← hga]; exact (Array.getElem?_eq_some_iff.1 ZS.out).1)
                    have nTgbga : gb < ga := (by rw [← hga]; exact (Array.getElem?_eq_some_iff.1 Tgb.out).1)
                    replace ZQ : Hid (u23.heap[w.heap.size]? = some (.cells #[.string m, .string t, .int .i64 v, .slice A0 f.length c0, .string b] 24 (0, 0))) := (by show _ = _; rw [← hu23]; exact zero_more ZQ.out)
                    replace ZS : Hid (u23.heap[w.heap.size + 1]? = some (.cells #[.int .i64 pc, .string pr, .int .i64 pv, .slice A1 g.length c1, .string pb, .int .i64 st, .slice B1 n1 m1] 40 (0, 0))) := (by show _ = _; rw [← hu23]; exact zero_more ZS.out)
                    replace Tgb : Hid (u23.heap[gb]? = some (.cells #[.bool false, .bool false, .bool false, .bool false, .bool false, .bool false, .int .i64 0, .int .i64 0, .int .i64 0] 44 (0, 0))) := (by show _ = _; rw [← hu23]; exact zero_more Tgb.out)
                    have Tga : Hid (u23.heap[ga]? = some (.cells #[.bool false, .bool false, .bool false, .bool false, .bool false, .bool false, .int .i64 0, .int .i64 0, .int .i64 0] 44 (0, 0))) := (by show _ = _; rw [← hu23, ← hga]; exact heap_alloc_new u22 _)
                    have nbga : w.heap.size ≤ ga := (by rw [← hga]; exact HB.out.size)
                    replace HB : Hid (Below w.heap.size w u23) := (by show Below _ _ _; rw [← hu23]; exact HB.out.alloc HB.out.size _)
                    clear hu23 hga
                    refine hK.out _ _ (⟨(cel5r ZQ.out).2.2.2.1, (cel7 ZS.out).2.2.2.1⟩) (fun hHeld => ?_)
                    clear hK
                    try simp only [Act.put, List.setIfInBounds_toArray, List.set_cons_zero, List.set_cons_succ]
                    refine wpAnyH_ready (rs := [9]) (by kernel_rfl) (by simp) (AllReadyH.cons rfl (fun K hK => ?_) AllReadyH.nil)
                    refine step_store_row rfl _ _ _ rfl ga #[.bool ans, .bool false, .bool apv, .bool apu, .bool amc, .bool aoi, .int .i64 ama, .int .i64 ash, .int .i64 amf] rfl rfl 44 #[.bool false, .bool false, .bool false, .bool false, .bool false, .bool false, .int .i64 0, .int .i64 0, .int .i64 0] Tga.out (by kernel_rfl) rfl (by simp [Value.oneCell']) ?_
                    obtain ⟨u24, hu24⟩ : ∃ W, u23.setRow ga #[.bool ans, .bool false, .bool apv, .bool apu, .bool amc, .bool aoi, .int .i64 ama, .int .i64 ash, .int .i64 amf] = W := ⟨_, rfl⟩
                    rw [hu24]
                    replace ZQ : Hid (u24.heap[w.heap.size]? = some (.cells #[.string m, .string t, .int .i64 v, .slice A0 f.length c0, .string b] 24 (0, 0))) := (by show _ = _; rw [← hu24, setRow_other _ _ _ _ (by omega)]; exact ZQ.out)
                    replace ZS : Hid (u24.heap[w.heap.size + 1]? = some (.cells #[.int .i64 pc, .string pr, .int .i64 pv, .slice A1 g.length c1, .string pb, .int .i64 st, .slice B1 n1 m1] 40 (0, 0))) := (by show _ = _; rw [← hu24, setRow_other _ _ _ _ (by omega)]; exact ZS.out)
                    replace Tgb : Hid (u24.heap[gb]? = some (.cells #[.bool false, .bool false, .bool false, .bool false, .bool false, .bool false, .int .i64 0, .int .i64 0, .int .i64 0] 44 (0, 0))) := (by show _ = _; rw [← hu24, setRow_other _ _ _ _ (by omega)]; exact Tgb.out)
                    replace Tga : Hid (u24.heap[ga]? = some (.cells #[.bool ans, .bool false, .bool apv, .bool apu, .bool amc, .bool aoi, .int .i64 ama, .int .i64 ash, .int .i64 amf] 44 (0, 0))) := (by show _ = _; rw [← hu24]; exact setRow_heap _ _ _ _ _ _ Tga.out)
                    replace HB : Hid (Below w.heap.size w u24) := (by show Below _ _ _; rw [← hu24]; exact below_setRow HB.out nbga _)
                    clear hu24
                    refine hK.out _ _ (⟨(cel5r ZQ.out).2.2.2.1, (cel7 ZS.out).2.2.2.1⟩) (fun hHeld => ?_)
                    clear hK
                    try simp only [Act.put, List.setIfInBounds_toArray, List.set_cons_zero, List.set_cons_succ]
                    refine wpAnyH_ready (rs := [10]) (by kernel_rfl) (by simp) (AllReadyH.cons rfl (fun K hK => ?_) AllReadyH.nil)
                    refine step_store_row rfl _ _ _ rfl gb #[.bool ns, .bool false, .bool pv', .bool pu, .bool mc, .bool oi, .int .i64 ma, .int .i64 sh, .int .i64 mf] rfl rfl 44 #[.bool false, .bool false, .bool false, .bool false, .bool false, .bool false, .int .i64 0, .int .i64 0, .int .i64 0] Tgb.out (by kernel_rfl) rfl (by simp [Value.oneCell']) ?_
                    obtain ⟨u25, hu25⟩ : ∃ W, u24.setRow gb #[.bool ns, .bool false, .bool pv', .bool pu, .bool mc, .bool oi, .int .i64 ma, .int .i64 sh, .int .i64 mf] = W := ⟨_, rfl⟩
                    rw [hu25]
                    replace ZQ : Hid (u25.heap[w.heap.size]? = some (.cells #[.string m, .string t, .int .i64 v, .slice A0 f.length c0, .string b] 24 (0, 0))) := (by show _ = _; rw [← hu25, setRow_other _ _ _ _ (by omega)]; exact ZQ.out)
                    replace ZS : Hid (u25.heap[w.heap.size + 1]? = some (.cells #[.int .i64 pc, .string pr, .int .i64 pv, .slice A1 g.length c1, .string pb, .int .i64 st, .slice B1 n1 m1] 40 (0, 0))) := (by show _ = _; rw [← hu25, setRow_other _ _ _ _ (by omega)]; exact ZS.out)
                    replace Tga : Hid (u25.heap[ga]? = some (.cells #[.bool ans, .bool false, .bool apv, .bool apu, .bool amc, .bool aoi, .int .i64 ama, .int .i64 ash, .int .i64 amf] 44 (0, 0))) := (by show _ = _; rw [← hu25, setRow_other _ _ _ _ (by omega)]; exact Tga.out)
                    replace Tgb : Hid (u25.heap[gb]? = some (.cells #[.bool ns, .bool false, .bool pv', .bool pu, .bool mc, .bool oi, .int .i64 ma, .int .i64 sh, .int .i64 mf] 44 (0, 0))) := (by show _ = _; rw [← hu25]; exact setRow_heap _ _ _ _ _ _ Tgb.out)
                    replace HB : Hid (Below w.heap.size w u25) := (by show Below _ _ _; rw [← hu25]; exact below_setRow HB.out nbgb _)
                    clear hu25
                    refine hK.out _ _ (⟨(cel5r ZQ.out).2.2.2.1, (cel7 ZS.out).2.2.2.1⟩) (fun hHeld => ?_)
                    clear hK
                    try simp only [Act.put, List.setIfInBounds_toArray, List.set_cons_zero, List.set_cons_succ]
                    refine wpAnyH_done (by kernel_rfl) ?_ _
                    go_wp2_with fail
                    go_meet
                    exact ⟨ga, gb, rfl, rfl, Tga.out, Tgb.out, ZQ.out, ZS.out, HB.out, nZQga, nZQgb⟩
                  · go_simp
                    obtain ⟨u26, hu26⟩ : ∃ W, u21.alloc (.cells #[.bool false, .bool false, .bool false, .bool false, .bool false, .bool false, .int .i64 0, .int .i64 0, .int .i64 0] 44) = W := ⟨_, rfl⟩
                    obtain ⟨ga, hga⟩ : ∃ g, u21.heap.size = g := ⟨_, rfl⟩
                    rw [hu26, hga]
                    have nZQga : w.heap.size < ga := (by rw [← hga]; exact (Array.getElem?_eq_some_iff.1 ZQ.out).1)
                    have nZSga : w.heap.size + 1 < ga := (by rw [← hga]; exact (Array.getElem?_eq_some_iff.1 ZS.out).1)
                    have nTgbga : gb < ga := (by rw [← hga]; exact (Array.getElem?_eq_some_iff.1 Tgb.out).1)
                    replace ZQ : Hid (u26.heap[w.heap.size]? = some (.cells #[.string m, .string t, .int .i64 v, .slice A0 f.length c0, .string b] 24 (0, 0))) := (by show _ = _; rw [← hu26]; exact zero_more ZQ.out)
                    replace ZS : Hid (u26.heap[w.heap.size + 1]? = some (.cells #[.int .i64 pc, .string pr, .int .i64 pv, .slice A1 g.length c1, .string pb, .int .i64 st, .slice B1 n1 m1] 40 (0, 0))) := (by show _ = _; rw [← hu26]; exact zero_more ZS.out)
                    replace Tgb : Hid (u26.heap[gb]? = some (.cells #[.bool false, .bool false, .bool false, .bool false, .bool false, .bool false, .int .i64 0, .int .i64 0, .int .i64 0] 44 (0, 0))) := (by show _ = _; rw [← hu26]; exact zero_more Tgb.out)
                    have Tga : Hid (u26.heap[ga]? = some (.cells #[.bool false, .bool false, .bool false, .bool false, .bool false, .bool false, .int .i64 0, .int .i64 0, .int .i64 0] 44 (0, 0))) := (by show _ = _; rw [← hu26, ← hga]; exact heap_alloc_new u21 _)
                    have nbga : w.heap.size ≤ ga := (by rw [← hga]; exact HB.out.size)
                    replace HB : Hid (Below w.heap.size w u26) := (by show Below _ _ _; rw [← hu26]; exact HB.out.alloc HB.out.size _)
                    clear hu26 hga
                    refine hK.out _ _ (⟨(cel5r ZQ.out).2.2.2.1, (cel7 ZS.out).2.2.2.1⟩) (fun hHeld => ?_)
                    clear hK
                    try simp only [Act.put, List.setIfInBounds_toArray, List.set_cons_zero, List.set_cons_succ]
                    refine wpAnyH_ready (rs := [6]) (by kernel_rfl) (by simp) (AllReadyH.cons rfl (fun K hK => ?_) AllReadyH.nil)
                    go_simp
                    go_at_call 23
                    refine (K4.out _ HB.out).mono ?_
                    rintro e u27 ⟨rfl, hb⟩
                    replace ZQ := Lib.hid (zero_still hb ZQ.out)
                    replace ZS := Lib.hid (zero_still hb ZS.out)
                    replace Tgb := Lib.hid (zero_still hb Tgb.out)
                    replace Tga := Lib.hid (zero_still hb Tga.out)
                    replace HB := Lib.hid (below_then HB.out hb)
                    clear hb
                    try go_wp2_with fail
                    refine hK.out _ _ (⟨(cel5r ZQ.out).2.2.2.1, (cel7 ZS.out).2.2.2.1⟩) (fun hHeld => ?_)
                    clear hK
                    try simp only [Act.put, List.setIfInBounds_toArray, List.set_cons_zero, List.set_cons_succ]
                    refine wpAnyH_ready (rs := [9]) (by kernel_rfl) (by simp) (AllReadyH.cons rfl (fun K hK => ?_) AllReadyH.nil)
                    refine step_store_row rfl _ _ _ rfl ga #[.bool ans, .bool false, .bool apv, .bool apu, .bool amc, .bool aoi, .int .i64 ama, .int .i64 ash, .int .i64 amf] rfl rfl 44 #[.bool false, .bool false, .bool false, .bool false, .bool false, .bool false, .int .i64 0, .int .i64 0, .int .i64 0] Tga.out (by kernel_rfl) rfl (by simp [Value.oneCell']) ?_
                    obtain ⟨u28, hu28⟩ : ∃ W, u27.setRow ga #[.bool ans, .bool false, .bool apv, .bool apu, .bool amc, .bool aoi, .int .i64 ama, .int .i64 ash, .int .i64 amf] = W := ⟨_, rfl⟩
                    rw [hu28]
                    replace ZQ : Hid (u28.heap[w.heap.size]? = some (.cells #[.string m, .string t, .int .i64 v, .slice A0 f.length c0, .string b] 24 (0, 0))) := (by show _ = _; rw [← hu28, setRow_other _ _ _ _ (by omega)]; exact ZQ.out)
                    replace ZS : Hid (u28.heap[w.heap.size + 1]? = some (.cells #[.int .i64 pc, .string pr, .int .i64 pv, .slice A1 g.length c1, .string pb, .int .i64 st, .slice B1 n1 m1] 40 (0, 0))) := (by show _ = _; rw [← hu28, setRow_other _ _ _ _ (by omega)]; exact ZS.out)
                    replace Tgb : Hid (u28.heap[gb]? = some (.cells #[.bool false, .bool false, .bool false, .bool false, .bool false, .bool false, .int .i64 0, .int .i64 0, .int .i64 0] 44 (0, 0))) := (by show _ = _; rw [← hu28, setRow_other _ _ _ _ (by omega)]; exact Tgb.out)
                    replace Tga : Hid (u28.heap[ga]? = some (.cells #[.bool ans, .bool false, .bool apv, .bool apu, .bool amc, .bool aoi, .int .i64 ama, .int .i64 ash, .int .i64 amf] 44 (0, 0))) := (by show _ = _; rw [← hu28]; exact setRow_heap _ _ _ _ _ _ Tga.out)
                    replace HB : Hid (Below w.heap.size w u28) := (by show Below _ _ _; rw [← hu28]; exact below_setRow HB.out nbga _)
                    clear hu28
                    refine hK.out _ _ (⟨(cel5r ZQ.out).2.2.2.1, (cel7 ZS.out).2.2.2.1⟩) (fun hHeld => ?_)
                    clear hK
                    try simp only [Act.put, List.setIfInBounds_toArray, List.set_cons_zero, List.set_cons_succ]
                    refine wpAnyH_ready (rs := [10]) (by kernel_rfl) (by simp) (AllReadyH.cons rfl (fun K hK => ?_) AllReadyH.nil)
                    refine step_store_row rfl _ _ _ rfl gb #[.bool ns, .bool false, .bool pv', .bool pu, .bool mc, .bool oi, .int .i64 ma, .int .i64 sh, .int .i64 mf] rfl rfl 44 #[.bool false, .bool false, .bool false, .bool false, .bool false, .bool false, .int .i64 0, .int .i64 0, .int .i64 0] Tgb.out (by kernel_rfl) rfl (by simp [Value.oneCell']) ?_
                    obtain ⟨u29, hu29⟩ : ∃ W, u28.setRow gb #[.bool ns, .bool false, .bool pv', .bool pu, .bool mc, .bool oi, .int .i64 ma, .int .i64 sh, .int .i64 mf] = W := ⟨_, rfl⟩
                    rw [hu29]
                    replace ZQ : Hid (u29.heap[w.heap.size]? = some (.cells #[.string m, .string t, .int .i64 v, .slice A0 f.length c0, .string b] 24 (0, 0))) := (by show _ = _; rw [← hu29, setRow_other _ _ _ _ (by omega)]; exact ZQ.out)
                    replace ZS : Hid (u29.heap[w.heap.size + 1]? = some (.cells #[.int .i64 pc, .string pr, .int .i64 pv, .slice A1 g.length c1, .string pb, .int .i64 st, .slice B1 n1 m1] 40 (0, 0))) := (by show _ = _; rw [← hu29, setRow_other _ _ _ _ (by omega)]; exact ZS.out)
                    replace Tga : Hid (u29.heap[ga]? = some (.cells #[.bool ans, .bool false, .bool apv, .bool apu, .bool amc, .bool aoi, .int .i64 ama, .int .i64 ash, .int .i64 amf] 44 (0, 0))) := (by show _ = _; rw [← hu29, setRow_other _ _ _ _ (by omega)]; exact Tga.out)
                    replace Tgb : Hid (u29.heap[gb]? = some (.cells #[.bool ns, .bool false, .bool pv', .bool pu, .bool mc, .bool oi, .int .i64 ma, .int .i64 sh, .int .i64 mf] 44 (0, 0))) := (by show _ = _; rw [← hu29]; exact setRow_heap _ _ _ _ _ _ Tgb.out)
                    replace HB : Hid (Below w.heap.size w u29) := (by show Below _ _ _; rw [← hu29]; exact below_setRow HB.out nbgb _)
                    clear hu29
                    refine hK.out _ _ (⟨(cel5r ZQ.out).2.2.2.1, (cel7 ZS.out).2.2.2.1⟩) (fun hHeld => ?_)
                    clear hK
                    try simp only [Act.put, List.setIfInBounds_toArray, List.set_cons_zero, List.set_cons_succ]
                    refine wpAnyH_done (by kernel_rfl) ?_ _
                    go_wp2_with fail
                    go_meet
                    exact ⟨ga, gb, rfl, rfl, Tga.out, Tgb.out, ZQ.out, ZS.out, HB.out, nZQga, nZQgb⟩
              · go_simp
                obtain ⟨u30, hu30⟩ : ∃ W, u1.alloc (.cells #[.bool false, .bool false, .bool false, .bool false, .bool false, .bool false, .int .i64 0, .int .i64 0, .int .i64 0] 44) = W := ⟨_, rfl⟩
                obtain ⟨ga, hga⟩ : ∃ g, u1.heap.size = g := ⟨_, rfl⟩
                rw [hu30, hga]
                have nZQga : w.heap.size < ga := (by rw [← hga]; exact (Array.getElem?_eq_some_iff.1 ZQ.out).1)
                have nZSga : w.heap.size + 1 < ga := (by rw [← hga]; exact (Array.getElem?_eq_some_iff.1 ZS.out).1)
                replace ZQ : Hid (u30.heap[w.heap.size]? = some (.cells #[.string m, .string t, .int .i64 v, .slice A0 f.length c0, .string b] 24 (0, 0))) := (by show _ = _; rw [← hu30]; exact zero_more ZQ.out)
                replace ZS : Hid (u30.heap[w.heap.size + 1]? = some (.cells #[.int .i64 pc, .string pr, .int .i64 pv, .slice A1 g.length c1, .string pb, .int .i64 st, .slice B1 n1 m1] 40 (0, 0))) := (by show _ = _; rw [← hu30]; exact zero_more ZS.out)
                have Tga : Hid (u30.heap[ga]? = some (.cells #[.bool false, .bool false, .bool false, .bool false, .bool false, .bool false, .int .i64 0, .int .i64 0, .int .i64 0] 44 (0, 0))) := (by show _ = _; rw [← hu30, ← hga]; exact heap_alloc_new u1 _)
                have nbga : w.heap.size ≤ ga := (by rw [← hga]; exact HB.out.size)
                replace HB : Hid (Below w.heap.size w u30) := (by show Below _ _ _; rw [← hu30]; exact HB.out.alloc HB.out.size _)
                clear hu30 hga
                refine hK.out _ _ (⟨(cel5r ZQ.out).2.2.2.1, (cel7 ZS.out).2.2.2.1⟩) (fun hHeld => ?_)
                clear hK
                try simp only [Act.put, List.setIfInBounds_toArray, List.set_cons_zero, List.set_cons_succ]
                refine wpAnyH_ready (rs := [2, 8]) (by kernel_rfl) (by simp) (AllReadyH.cons rfl (fun K hK => ?_) (AllReadyH.cons rfl (fun K hK => ?_) AllReadyH.nil))
                · go_simp
                  go_at_call 22
                  refine (K3.out _ HB.out).mono ?_
                  rintro e u31 ⟨rfl, hb⟩
                  replace ZQ := Lib.hid (zero_still hb ZQ.out)
                  replace ZS := Lib.hid (zero_still hb ZS.out)
                  replace Tga := Lib.hid (zero_still hb Tga.out)
                  replace HB := Lib.hid (below_then HB.out hb)
                  clear hb
                  try go_wp2_with fail
                  refine hK.out _ _ (⟨(cel5r ZQ.out).2.2.2.1, (cel7 ZS.out).2.2.2.1⟩) (fun hHeld => ?_)
                  clear hK
                  try simp only [Act.put, List.setIfInBounds_toArray, List.set_cons_zero, List.set_cons_succ]
                  refine wpAnyH_ready (rs := [6, 8]) (by kernel_rfl) (by simp) (AllReadyH.cons rfl (fun K hK => ?_) (AllReadyH.cons rfl (fun K hK => ?_) AllReadyH.nil))
                  · go_simp
                    go_at_call 23
                    refine (K4.out _ HB.out).mono ?_
                    rintro e u32 ⟨rfl, hb⟩
                    replace ZQ := Lib.hid (zero_still hb ZQ.out)
                    replace ZS := Lib.hid (zero_still hb ZS.out)
                    replace Tga := Lib.hid (zero_still hb Tga.out)
                    replace HB := Lib.hid (below_then HB.out hb)
                    clear hb
                    try go_wp2_with fail
                    refine hK.out _ _ (⟨(cel5r ZQ.out).2.2.2.1, (cel7 ZS.out).2.2.2.1⟩) (fun hHeld => ?_)
                    clear hK
                    try simp only [Act.put, List.setIfInBounds_toArray, List.set_cons_zero, List.set_cons_succ]
                    refine wpAnyH_ready (rs := [8]) (by kernel_rfl) (by simp) (AllReadyH.cons rfl (fun K hK => ?_) AllReadyH.nil)
                    go_simp
                    obtain ⟨u33, hu33⟩ : ∃ W, u32.alloc (.cells #[.bool false, .bool false, .bool false, .bool false, .bool false, .bool false, .int .i64 0, .int .i64 0, .int .i64 0] 44) = W := ⟨_, rfl⟩
                    obtain ⟨gb, hgb⟩ : ∃ g, u32.heap.size = g := ⟨_, rfl⟩
                    rw [hu33, hgb]
                    have nZQgb : w.heap.size < gb := (by rw [← hgb]; exact (Array.getElem?_eq_some_iff.1 ZQ.out).1)
                    have nZSgb : w.heap.size + 1 < gb := (by rw [← hgb]; exact (Array.getElem?_eq_some_iff.1 ZS.out).1)
                    have nTgagb : ga < gb := (by rw [← hgb]; exact (Array.getElem?_eq_some_iff.1 Tga.out).1)
                    replace ZQ : Hid (u33.heap[w.heap.size]? = some (.cells #[.string m, .string t, .int .i64 v, .slice A0 f.length c0, .string b] 24 (0, 0))) := (by show _ = _; rw [← hu33]; exact zero_more ZQ.out)
                    replace ZS : Hid (u33.heap[w.heap.size + 1]? = some (.cells #[.int .i64 pc, .string pr, .int .i64 pv, .slice A1 g.length c1, .string pb, .int .i64 st, .slice B1 n1 m1] 40 (0, 0))) := (by show _ = _; rw [← hu33]; exact zero_more ZS.out)
                    replace Tga : Hid (u33.heap[ga]? = some (.cells #[.bool false, .bool false, .bool false, .bool false, .bool false, .bool false, .int .i64 0, .int .i64 0, .int .i64 0] 44 (0, 0))) := (by show _ = _; rw [← hu33]; exact zero_more Tga.out)
                    have Tgb : Hid (u33.heap[gb]? = some (.cells #[.bool false, .bool false, .bool false, .bool false, .bool false, .bool false, .int .i64 0, .int .i64 0, .int .i64 0] 44 (0, 0))) := (by show _ = _; rw [← hu33, ← hgb]; exact heap_alloc_new u32 _)
                    have nbgb : w.heap.size ≤ gb := (by rw [← hgb]; exact HB.out.size)
                    replace HB : Hid (Below w.heap.size w u33) := (by show Below _ _ _; rw [← hu33]; exact HB.out.alloc HB.out.size _)
                    clear hu33 hgb
                    refine hK.out _ _ (⟨(cel5r ZQ.out).2.2.2.1, (cel7 ZS.out).2.2.2.1⟩) (fun hHeld => ?_)
                    clear hK
                    try simp only [Act.put, List.setIfInBounds_toArray, List.set_cons_zero, List.set_cons_succ]
                    refine wpAnyH_ready (rs := [9]) (by kernel_rfl) (by simp) (AllReadyH.cons rfl (fun K hK => ?_) AllReadyH.nil)
                    refine step_store_row rfl _ _ _ rfl ga #[.bool ans, .bool false, .bool apv, .bool apu, .bool amc, .bool aoi, .int .i64 ama, .int .i64 ash, .int .i64 amf] rfl rfl 44 #[.bool false, .bool false, .bool false, .bool false, .bool false, .bool false, .int .i64 0, .int .i64 0, .int .i64 0] Tga.out (by kernel_rfl) rfl (by simp [Value.oneCell']) ?_
                    obtain ⟨u34, hu34⟩ : ∃ W, u33.setRow ga #[.bool ans, .bool false, .bool apv, .bool apu, .bool amc, .bool aoi, .int .i64 ama, .int .i64 ash, .int .i64 amf] = W := ⟨_, rfl⟩
                    rw [hu34]
                    replace ZQ : Hid (u34.heap[w.heap.size]? = some (.cells #[.string m, .string t, .int .i64 v, .slice A0 f.length c0, .string b] 24 (0, 0))) := (by show _ = _; rw [← hu34, setRow_other _ _ _ _ (by omega)]; exact ZQ.out)
                    replace ZS : Hid (u34.heap[w.heap.size + 1]? = some (.cells #[.int .i64 pc, .string pr, .int .i64 pv, .slice A1 g.length c1, .string pb, .int .i64 st, .slice B1 n1 m1] 40 (0, 0))) := (by show _ = _; rw [← hu34, setRow_other _ _ _ _ (by omega)]; exact ZS.out)
                    replace Tgb : Hid (u34.heap[gb]? = some (.cells #[.bool false, .bool false, .bool false, .bool false, .bool false, .bool false, .int .i64 0, .int .i64 0, .int .i64 0] 44 (0, 0))) := (by show _ = _; rw [← hu34, setRow_other _ _ _ _ (by omega)]; exact Tgb.out)
                    replace Tga : Hid (u34.heap[ga]? = some (.cells #[.bool ans, .bool false, .bool apv, .bool apu, .bool amc, .bool aoi, .int .i64 ama, .int .i64 ash, .int .i64 amf] 44 (0, 0))) := (by show _ = _; rw [← hu34]; exact setRow_heap _ _ _ _ _ _ Tga.out)
                    replace HB : Hid (Below w.heap.size w u34) := (by show Below _ _ _; rw [← hu34]; exact below_setRow HB.out nbga _)
                    clear hu34
                    refine hK.out _ _ (⟨(cel5r ZQ.out).2.2.2.1, (cel7 ZS.out).2.2.2.1⟩) (fun hHeld => ?_)
                    clear hK
                    try simp only [Act.put, List.setIfInBounds_toArray, List.set_cons_zero, List.set_cons_succ]
                    refine wpAnyH_ready (rs := [10]) (by kernel_rfl) (by simp) (AllReadyH.cons rfl (fun K hK => ?_) AllReadyH.nil)
                    refine step_store_row rfl _ _ _ rfl gb #[.bool ns, .bool false, .bool pv', .bool pu, .bool mc, .bool oi, .int .i64 ma, .int .i64 sh, .int .i64 mf] rfl rfl 44 #[.bool false, .bool false, .bool false, .bool false, .bool false, .bool false, .int .i64 0, .int .i64 0, .int .i64 0] Tgb.out (by kernel_rfl) rfl (by simp [Value.oneCell']) ?_
                    obtain ⟨u35, hu35⟩ : ∃ W, u34.setRow gb #[.bool ns, .bool false, .bool pv', .bool pu, .bool mc, .bool oi, .int .i64 ma, .int .i64 sh, .int .i64 mf] = W := ⟨_, rfl⟩
                    rw [hu35]
                    replace ZQ : Hid (u35.heap[w.heap.size]? = some (.cells #[.string m, .string t, .int .i64 v, .slice A0 f.length c0, .string b] 24 (0, 0))) := (by show _ = _; rw [← hu35, setRow_other _ _ _ _ (by omega)]; exact ZQ.out)
                    replace ZS : Hid (u35.heap[w.heap.size + 1]? = some (.cells #[.int .i64 pc, .string pr, .int .i64 pv, .slice A1 g.length c1, .string pb, .int .i64 st, .slice B1 n1 m1] 40 (0, 0))) := (by show _ = _; rw [← hu35, setRow_other _ _ _ _ (by omega)]; exact ZS.out)
                    replace Tga : Hid (u35.heap[ga]? = some (.cells #[.bool ans, .bool false, .bool apv, .bool apu, .bool amc, .bool aoi, .int .i64 ama, .int .i64 ash, .int .i64 amf] 44 (0, 0))) := (by show _ = _; rw [← hu35, setRow_other _ _ _ _ (by omega)]; exact Tga.out)
                    replace Tgb : Hid (u35.heap[gb]? = some (.cells #[.bool ns, .bool false, .bool pv', .bool pu, .bool mc, .bool oi, .int .i64 ma, .int .i64 sh, .int .i64 mf] 44 (0, 0))) := (by show _ = _; rw [← hu35]; exact setRow_heap _ _ _ _ _ _ Tgb.out)
                    replace HB : Hid (Below w.heap.size w u35) := (by show Below _ _ _; rw [← hu35]; exact below_setRow HB.out nbgb _)
                    clear hu35
                    refine hK.out _ _ (⟨(cel5r ZQ.out).2.2.2.1, (cel7 ZS.out).2.2.2.1⟩) (fun hHeld => ?_)
                    clear hK
                    try simp only [Act.put, List.setIfInBounds_toArray, List.set_cons_zero, List.set_cons_succ]
                    refine wpAnyH_done (by kernel_rfl) ?_ _
                    go_wp2_with fail
                    go_meet
                    exact ⟨ga, gb, rfl, rfl, Tga.out, Tgb.out, ZQ.out, ZS.out, HB.out, nZQga, nZQgb⟩
                  · go_simp
                    obtain ⟨u36, hu36⟩ : ∃ W, u31.alloc (.cells #[.bool false, .bool false, .bool false, .bool false, .bool false, .bool false, .int .i64 0, .int .i64 0, .int .i64 0] 44) = W := ⟨_, rfl⟩
                    obtain ⟨gb, hgb⟩ : ∃ g, u31.heap.size = g := ⟨_, rfl⟩
                    rw [hu36, hgb]
                    have nZQgb : w.heap.size < gb := (by rw [← hgb]; exact (Array.getElem?_eq_some_iff.1 ZQ.out).1)
                    have nZSgb : w.heap.size + 1 < gb := (by rw [← hgb]; exact (Array.getElem?_eq_some_iff.1 ZS.out).1)
                    have nTgagb : ga < gb := (by rw [← hgb]; exact (Array.getElem?_eq_some_iff.1 Tga.out).1)
                    replace ZQ : Hid (u36.heap[w.heap.size]? = some (.cells #[.string m, .string t, .int .i64 v, .slice A0 f.length c0, .string b] 24 (0, 0))) := (by show _ = _; rw [← hu36]; exact zero_more ZQ.out)
                    replace ZS : Hid (u36.heap[w.heap.size + 1]? = some (.cells #[.int .i64 pc, .string pr, .int .i64 pv, .slice A1 g.length c1, .string pb, .int .i64 st, .slice B1 n1 m1] 40 (0, 0))) := (by show _ = _; rw [← hu36]; exact zero_more ZS.out)
                    replace Tga : Hid (u36.heap[ga]? = some (.cells #[.bool false, .bool false, .bool false, .bool false, .bool false, .bool false, .int .i64 0, .int .i64 0, .int .i64 0] 44 (0, 0))) := (by show _ = _; rw [← hu36]; exact zero_more Tga.out)
                    have Tgb : Hid (u36.heap[gb]? = some (.cells #[.bool false, .bool false, .bool false, .bool false, .bool false, .bool false, .int .i64 0, .int .i64 0, .int .i64 0] 44 (0, 0))) := (by show _ = _; rw [← hu36, ← hgb]; exact heap_alloc_new u31 _)
                    have nbgb : w.heap.size ≤ gb := (by rw [← hgb]; exact HB.out.size)
                    replace HB : Hid (Below w.heap.size w u36) := (by show Below _ _ _; rw [← hu36]; exact HB.out.alloc HB.out.size _)
                    clear hu36 hgb
                    refine hK.out _ _ (⟨(cel5r ZQ.out).2.2.2.1, (cel7 ZS.out).2.2.2.1⟩) (fun hHeld => ?_)
                    clear hK
                    try simp only [Act.put, List.setIfInBounds_toArray, List.set_cons_zero, List.set_cons_succ]
                    refine wpAnyH_ready (rs := [6]) (by kernel_rfl) (by simp) (AllReadyH.cons rfl (fun K hK => ?_) AllReadyH.nil)
                    go_simp
                    go_at_call 23
                    refine (K4.out _ HB.out).mono ?_
                    rintro e u37 ⟨rfl, hb⟩
                    replace ZQ := Lib.hid (zero_still hb ZQ.out)
                    replace ZS := Lib.hid (zero_still hb ZS.out)
                    replace Tga := Lib.hid (zero_still hb Tga.out)
                    replace Tgb := Lib.hid (zero_still hb Tgb.out)
                    replace HB := Lib.hid (below_then HB.out hb)
                    clear hb
                    try go_wp2_with fail
                    refine hK.out _ _ (⟨(cel5r ZQ.out).2.2.2.1, (cel7 ZS.out).2.2.2.1⟩) (fun hHeld => ?_)
                    clear hK
                    try simp only [Act.put, List.setIfInBounds_toArray, List.set_cons_zero, List.set_cons_succ]
                    refine wpAnyH_ready (rs := [9]) (by kernel_rfl) (by simp) (AllReadyH.cons rfl (fun K hK => ?_) AllReadyH.nil)
                    refine step_store_row rfl _ _ _ rfl ga #[.bool ans, .bool false, .bool apv, .bool apu, .bool amc, .bool aoi, .int .i64 ama, .int .i64 ash, .int .i64 amf] rfl rfl 44 #[.bool false, .bool false, .bool false, .bool false, .bool false, .bool false, .int .i64 0, .int .i64 0, .int .i64 0] Tga.out (by kernel_rfl) rfl (by simp [Value.oneCell']) ?_
                    obtain ⟨u38, hu38⟩ : ∃ W, u37.setRow ga #[.bool ans, .bool false, .bool apv, .bool apu, .bool amc, .bool aoi, .int .i64 ama, .int .i64 ash, .int .i64 amf] = W := ⟨_, rfl⟩
                    rw [hu38]
                    replace ZQ : Hid (u38.heap[w.heap.size]? = some (.cells #[.string m, .string t, .int .i64 v, .slice A0 f.length c0, .string b] 24 (0, 0))) := (by show _ = _; rw [← hu38, setRow_other _ _ _ _ (by omega)]; exact ZQ.out)
                    replace ZS : Hid (u38.heap[w.heap.size + 1]? = some (.cells #[.int .i64 pc, .string pr, .int .i64 pv, .slice A1 g.length c1, .string pb, .int .i64 st, .slice B1 n1 m1] 40 (0, 0))) := (by show _ = _; rw [← hu38, setRow_other _ _ _ _ (by omega)]; exact ZS.out)
                    replace Tgb : Hid (u38.heap[gb]? = some (.cells #[.bool false, .bool false, .bool false, .bool false, .bool false, .bool false, .int .i64 0, .int .i64 0, .int .i64 0] 44 (0, 0))) := (by show _ = _; rw [← hu38, setRow_other _ _ _ _ (by omega)]; exact Tgb.out)
                    replace Tga : Hid (u38.heap[ga]? = some (.cells #[.bool ans, .bool false, .bool apv, .bool apu, .bool amc, .bool aoi, .int .i64 ama, .int .i64 ash, .int .i64 amf] 44 (0, 0))) := (by show _ = _; rw [← hu38]; exact setRow_heap _ _ _ _ _ _ Tga.out)
                    replace HB : Hid (Below w.heap.size w u38) := (by show Below _ _ _; rw [← hu38]; exact below_setRow HB.out nbga _)
                    clear hu38
                    refine hK.out _ _ (⟨(cel5r ZQ.out).2.2.2.1, (cel7 ZS.out).2.2.2.1⟩) (fun hHeld => ?_)
                    clear hK
                    try simp only [Act.put, List.setIfInBounds_toArray, List.set_cons_zero, List.set_cons_succ]
                    refine wpAnyH_ready (rs := [10]) (by kernel_rfl) (by simp) (AllReadyH.cons rfl (fun K hK => ?_) AllReadyH.nil)
                    refine step_store_row rfl _ _ _ rfl gb #[.bool ns, .bool false, .bool pv', .bool pu, .bool mc, .bool oi, .int .i64 ma, .int .i64 sh, .int .i64 mf] rfl rfl 44 #[.bool false, .bool false, .bool false, .bool false, .bool false, .bool false, .int .i64 0, .int .i64 0, .int .i64 0] Tgb.out (by kernel_rfl) rfl (by simp [Value.oneCell']) ?_
                    obtain ⟨u39, hu39⟩ : ∃ W, u38.setRow gb #[.bool ns, .bool false, .bool pv', .bool pu, .bool mc, .bool oi, .int .i64 ma, .int .i64 sh, .int .i64 mf] = W := ⟨_, rfl⟩
                    rw [hu39]
                    replace ZQ : Hid (u39.heap[w.heap.size]? = some (.cells #[.string m, .string t, .int .i64 v, .slice A0 f.length c0, .string b] 24 (0, 0))) := (by show _ = _; rw [← hu39, setRow_other _ _ _ _ (by omega)]; exact ZQ.out)
                    replace ZS : Hid (u39.heap[w.heap.size + 1]? = some (.cells #[.int .i64 pc, .string pr, .int .i64 pv, .slice A1 g.length c1, .string pb, .int .i64 st, .slice B1 n1 m1] 40 (0, 0))) := (by show _ = _; rw [← hu39, setRow_other _ _ _ _ (by omega)]; exact ZS.out)
                    replace Tga : Hid (u39.heap[ga]? = some (.cells #[.bool ans, .bool false, .bool apv, .bool apu, .bool amc, .bool aoi, .int .i64 ama, .int .i64 ash, .int .i64 amf] 44 (0, 0))) := (by show _ = _; rw [← hu39, setRow_other _ _ _ _ (by omega)]; exact Tga.out)
                    replace Tgb : Hid (u39.heap[gb]? = some (.cells #[.bool ns, .bool false, .bool pv', .bool pu, .bool mc, .bool oi, .int .i64 ma, .int .i64 sh, .int .i64 mf] 44 (0, 0))) := (by show _ = _; rw [← hu39]; exact setRow_heap _ _ _ _ _ _ Tgb.out)
                    replace HB : Hid (Below w.heap.size w u39) := (by show Below _ _ _; rw [← hu39]; exact below_setRow HB.out nbgb _)
                    clear hu39
                    refine hK.out _ _ (⟨(cel5r ZQ.out).2.2.2.1, (cel7 ZS.out).2.2.2.1⟩) (fun hHeld => ?_)
                    clear hK
                    try simp only [Act.put, List.setIfInBounds_toArray, List.set_cons_zero, List.set_cons_succ]
                    refine wpAnyH_done (by kernel_rfl) ?_ _
                    go_wp2_with fail
                    go_meet
                    exact ⟨ga, gb, rfl, rfl, Tga.out, Tgb.out, ZQ.out, ZS.out, HB.out, nZQga, nZQgb⟩
                · go_simp
                  obtain ⟨u40, hu40⟩ : ∃ W, u30.alloc (.cells #[.bool false, .bool false, .bool false, .bool false, .bool false, .bool false, .int .i64 0, .int .i64 0, .int .i64 0] 44) = W := ⟨_, rfl⟩
                  obtain ⟨gb, hgb⟩ : ∃ g, u30.heap.size = g := ⟨_, rfl⟩
                  rw [hu40, hgb]
                  have nZQgb : w.heap.size < gb := (by rw [← hgb]; exact (Array.getElem?_eq_some_iff.1 ZQ.out).1)
                  have nZSgb : w.heap.size + 1 < gb := (by rw [← hgb]; exact (Array.getElem?_eq_some_iff.1 ZS.out).1)
                  have nTgagb : ga < gb := (by rw [← hgb]; exact (Array.getElem?_eq_some_iff.1 Tga.out).1)
                  replace ZQ : Hid (u40.heap[w.heap.size]? = some (.cells #[.string m, .string t, .int .i64 v, .slice A0 f.length c0, .string b] 24 (0, 0))) := (by show _ = _; rw [← hu40]; exact zero_more ZQ.out)
                  replace ZS : Hid (u40.heap[w.heap.size + 1]? = some (.cells #[.int .i64 pc, .string pr, .int .i64 pv, .slice A1 g.length c1, .string pb, .int .i64 st, .slice B1 n1 m1] 40 (0, 0))) := (by show _ = _; rw [← hu40]; exact zero_more ZS.out)
                  replace Tga : Hid (u40.heap[ga]? = some (.cells #[.bool false, .bool false, .bool false, .bool false, .bool false, .bool false, .int .i64 0, .int .i64 0, .int .i64 0] 44 (0, 0))) := (by show _ = _; rw [← hu40]; exact zero_more Tga.out)
                  have Tgb : Hid (u40.heap[gb]? = some (.cells #[.bool false, .bool false, .bool false, .bool false, .bool false, .bool false, .int .i64 0, .int .i64 0, .int .i64 0] 44 (0, 0))) := (by show _ = _; rw [← hu40, ← hgb]; exact heap_alloc_new u30 _)
                  have nbgb : w.heap.size ≤ gb := (by rw [← hgb]; exact HB.out.size)
                  replace HB : Hid (Below w.heap.size w u40) := (by show Below _ _ _; rw [← hu40]; exact HB.out.alloc HB.out.size _)
                  clear hu40 hgb
                  refine hK.out _ _ (⟨(cel5r ZQ.out).2.2.2.1, (cel7 ZS.out).2.2.2.1⟩) (fun hHeld => ?_)
                  clear hK
                  try simp only [Act.put, List.setIfInBounds_toArray, List.set_cons_zero, List.set_cons_succ]
                  refine wpAnyH_ready (rs := [2]) (by kernel_rfl) (by simp) (AllReadyH.cons rfl (fun K hK => ?_) AllReadyH.nil)
                  go_simp
                  go_at_call 22
                  refine (K3.out _ HB.out).mono ?_
                  rintro e u41 ⟨rfl, hb⟩
                  replace ZQ := Lib.hid (zero_still hb ZQ.out)
                  replace ZS := Lib.hid (zero_still hb ZS.out)
                  replace Tga := Lib.hid (zero_still hb Tga.out)
                  replace Tgb := Lib.hid (zero_still hb Tgb.out)
                  replace HB := Lib.hid (below_then HB.out hb)
                  clear hb
                  try go_wp2_with fail
                  refine hK.out _ _ (⟨(cel5r ZQ.out).2.2.2.1, (cel7 ZS.out).2.2.2.1⟩) (fun hHeld => ?_)
                  clear hK
                  try simp only [Act.put, List.setIfInBounds_toArray, List.set_cons_zero, List.set_cons_succ]
                  refine wpAnyH_ready (rs := [6]) (by kernel_rfl) (by simp) (AllReadyH.cons rfl (fun K hK => ?_) AllReadyH.nil)
                  go_simp
                  go_at_call 23
                  refine (K4.out _ HB.out).mono ?_
                  rintro e u42 ⟨rfl, hb⟩
                  replace ZQ := Lib.hid (zero_still hb ZQ.out)
                  replace ZS := Lib.hid (zero_still hb ZS.out)
                  replace Tga := Lib.hid (zero_still hb Tga.out)
                  replace Tgb := Lib.hid (zero_still hb Tgb.out)
                  replace HB := Lib.hid (below_then HB.out hb)
                  clear hb
                  try go_wp2_with fail
                  refine hK.out _ _ (⟨(cel5r ZQ.out).2.2.2.1, (cel7 ZS.out).2.2.2.1⟩) (fun hHeld => ?_)
                  clear hK
                  try simp only [Act.put, List.setIfInBounds_toArray, List.set_cons_zero, List.set_cons_succ]
                  refine wpAnyH_ready (rs := [9]) (by kernel_rfl) (by simp) (AllReadyH.cons rfl (fun K hK => ?_) AllReadyH.nil)
                  refine step_store_row rfl _ _ _ rfl ga #[.bool ans, .bool false, .bool apv, .bool apu, .bool amc, .bool aoi, .int .i64 ama, .int .i64 ash, .int .i64 amf] rfl rfl 44 #[.bool false, .bool false, .bool false, .bool false, .bool false, .bool false, .int .i64 0, .int .i64 0, .int .i64 0] Tga.out (by kernel_rfl) rfl (by simp [Value.oneCell']) ?_
                  obtain ⟨u43, hu43⟩ : ∃ W, u42.setRow ga #[.bool ans, .bool false, .bool apv, .bool apu, .bool amc, .bool aoi, .int .i64 ama, .int .i64 ash, .int .i64 amf] = W := ⟨_, rfl⟩
                  rw [hu43]
                  replace ZQ : Hid (u43.heap[w.heap.size]? = some (.cells #[.string m, .string t, .int .i64 v, .slice A0 f.length c0, .string b] 24 (0, 0))) := (by show _ = _; rw [← hu43, setRow_other _ _ _ _ (by omega)]; exact ZQ.out)
                  replace ZS : Hid (u43.heap[w.heap.size + 1]? = some (.cells #[.int .i64 pc, .string pr, .int .i64 pv, .slice A1 g.length c1, .string pb, .int .i64 st, .slice B1 n1 m1] 40 (0, 0))) := (by show _ = _; rw [← hu43, setRow_other _ _ _ _ (by omega)]; exact ZS.out)
                  replace Tgb : Hid (u43.heap[gb]? = some (.cells #[.bool false, .bool false, .bool false, .bool false, .bool false, .bool false, .int .i64 0, .int .i64 0, .int .i64 0] 44 (0, 0))) := (by show _ = _; rw [← hu43, setRow_other _ _ _ _ (by omega)]; exact Tgb.out)
                  replace Tga : Hid (u43.heap[ga]? = some (.cells #[.bool ans, .bool false, .bool apv, .bool apu, .bool amc, .bool aoi, .int .i64 ama, .int .i64 ash, .int .i64 amf] 44 (0, 0))) := (by show _ = _; rw [← hu43]; exact setRow_heap _ _ _ _ _ _ Tga.out)
                  replace HB : Hid (Below w.heap.size w u43) := (by show Below _ _ _; rw [← hu43]; exact below_setRow HB.out nbga _)
                  clear hu43
                  refine hK.out _ _ (⟨(cel5r ZQ.out).2.2.2.1, (cel7 ZS.out).2.2.2.1⟩) (fun hHeld => ?_)
                  clear hK
                  try simp only [Act.put, List.setIfInBounds_toArray, List.set_cons_zero, List.set_cons_succ]
                  refine wpAnyH_ready (rs := [10]) (by kernel_rfl) (by simp) (AllReadyH.cons rfl (fun K hK => ?_) AllReadyH.nil)
                  refine step_store_row rfl _ _ _ rfl gb #[.bool ns, .bool false, .bool pv', .bool pu, .bool mc, .bool oi, .int .i64 ma, .int .i64 sh, .int .i64 mf] rfl rfl 44 #[.bool false, .bool false, .bool false, .bool false, .bool false, .bool false, .int .i64 0, .int .i64 0, .int .i64 0] Tgb.out (by kernel_rfl) rfl (by simp [Value.oneCell']) ?_
                  obtain ⟨u44, hu44⟩ : ∃ W, u43.setRow gb #[.bool ns, .bool false, .bool pv', .bool pu, .bool mc, .bool oi, .int .i64 ma, .int .i64 sh, .int .i64 mf] = W := ⟨_, rfl⟩
                  rw [hu44]
                  replace ZQ : Hid (u44.heap[w.heap.size]? = some (.cells #[.string m, .string t, .int .i64 v, .slice A0 f.length c0, .string b] 24 (0, 0))) := (by show _ = _; rw [← hu44, setRow_other _ _ _ _ (by omega)]; exact ZQ.out)
                  replace ZS : Hid (u44.heap[w.heap.size + 1]? = some (.cells #[.int .i64 pc, .string pr, .int .i64 pv, .slice A1 g.length c1, .string pb, .int .i64 st, .slice B1 n1 m1] 40 (0, 0))) := (by show _ = _; rw [← hu44, setRow_other _ _ _ _ (by omega)]; exact ZS.out)
                  replace Tga : Hid (u44.heap[ga]? = some (.cells #[.bool ans, .bool false, .bool apv, .bool apu, .bool amc, .bool aoi, .int .i64 ama, .int .i64 ash, .int .i64 amf] 44 (0, 0))) := (by show _ = _; rw [← hu44, setRow_other _ _ _ _ (by omega)]; exact Tga.out)
                  replace Tgb : Hid (u44.heap[gb]? = some (.cells #[.bool ns, .bool false, .bool pv', .bool pu, .bool mc, .bool oi, .int .i64 ma, .int .i64 sh, .int .i64 mf] 44 (0, 0))) := (by show _ = _; rw [← hu44]; exact setRow_heap _ _ _ _ _ _ Tgb.out)
                  replace HB : Hid (Below w.heap.size w u44) := (by show Below _ _ _; rw [← hu44]; exact below_setRow HB.out nbgb _)
                  clear hu44
                  refine hK.out _ _ (⟨(cel5r ZQ.out).2.2.2.1, (cel7 ZS.out).2.2.2.1⟩) (fun hHeld => ?_)
                  clear hK
                  try simp only [Act.put, List.setIfInBounds_toArray, List.set_cons_zero, List.set_cons_succ]
                  refine wpAnyH_done (by kernel_rfl) ?_ _
                  go_wp2_with fail
                  go_meet
                  exact ⟨ga, gb, rfl, rfl, Tga.out, Tgb.out, ZQ.out, ZS.out, HB.out, nZQga, nZQgb⟩
              · go_simp
                obtain ⟨u45, hu45⟩ : ∃ W, u1.alloc (.cells #[.bool false, .bool false, .bool false, .bool false, .bool false, .bool false, .int .i64 0, .int .i64 0, .int .i64 0] 44) = W := ⟨_, rfl⟩
                obtain ⟨gb, hgb⟩ : ∃ g, u1.heap.size = g := ⟨_, rfl⟩
                rw [hu45, hgb]
                have nZQgb : w.heap.size < gb := (by rw [← hgb]; exact (Array.getElem?_eq_some_iff.1 ZQ.out).1)
                have nZSgb : w.heap.size + 1 < gb := (by rw [← hgb]; exact (Array.getElem?_eq_some_iff.1 ZS.out).1)
                replace ZQ : Hid (u45.heap[w.heap.size]? = some (.cells #[.string m, .string t, .int .i64 v, .slice A0 f.length c0, .string b] 24 (0, 0))) := (by show _ = _; rw [← hu45]; exact zero_more ZQ.out)
                replace ZS : Hid (u45.heap[w.heap.size + 1]? = some (.cells #[.int .i64 pc, .string pr, .int .i64 pv, .slice A1 g.length c1, .string pb, .int .i64 st, .slice B1 n1 m1] 40 (0, 0))) := (by show _ = _; rw [← hu45]; exact zero_more ZS.out)
                have Tgb : Hid (u45.heap[gb]? = some (.cells #[.bool false, .bool false, .bool false, .bool false, .bool false, .bool false, .int .i64 0, .int .i64 0, .int .i64 0] 44 (0, 0))) := (by show _ = _; rw [← hu45, ← hgb]; exact heap_alloc_new u1 _)
                have nbgb : w.heap.size ≤ gb := (by rw [← hgb]; exact HB.out.size)
                replace HB : Hid (Below w.heap.size w u45) := (by show Below _ _ _; rw [← hu45]; exact HB.out.alloc HB.out.size _)
                clear hu45 hgb
                refine hK.out _ _ (⟨(cel5r ZQ.out).2.2.2.1, (cel7 ZS.out).2.2.2.1⟩) (fun hHeld => ?_)
                clear hK
                try simp only [Act.put, List.setIfInBounds_toArray, List.set_cons_zero, List.set_cons_succ]
                refine wpAnyH_ready (rs := [2, 7]) (by kernel_rfl) (by simp) (AllReadyH.cons rfl (fun K hK => ?_) (AllReadyH.cons rfl (fun K hK => ?_) AllReadyH.nil))
                · go_simp
                  go_at_call 22
                  refine (K3.out _ HB.out).mono ?_
                  rintro e u46 ⟨rfl, hb⟩
                  replace ZQ := Lib.hid (zero_still hb ZQ.out)
                  replace ZS := Lib.hid (zero_still hb ZS.out)
                  replace Tgb := Lib.hid (zero_still hb Tgb.out)
                  replace HB := Lib.hid (below_then HB.out hb)
                  clear hb
                  try go_wp2_with fail
                  refine hK.out _ _ (⟨(cel5r ZQ.out).2.2.2.1, (cel7 ZS.out).2.2.2.1⟩) (fun hHeld => ?_)
                  clear hK
                  try simp only [Act.put, List.setIfInBounds_toArray, List.set_cons_zero, List.set_cons_succ]
                  refine wpAnyH_ready (rs := [6, 7]) (by kernel_rfl) (by simp) (AllReadyH.cons rfl (fun K hK => ?_) (AllReadyH.cons rfl (fun K hK => ?_) AllReadyH.nil))
                  · go_simp
                    go_at_call 23
                    refine (K4.out _ HB.out).mono ?_
                    rintro e u47 ⟨rfl, hb⟩
                    replace ZQ := Lib.hid (zero_still hb ZQ.out)
                    replace ZS := Lib.hid (zero_still hb ZS.out)
                    replace Tgb := Lib.hid (zero_still hb Tgb.out)
                    replace HB := Lib.hid (below_then HB.out hb)
                    clear hb
                    try go_wp2_with fail
                    refine hK.out _ _ (⟨(cel5r ZQ.out).2.2.2.1, (cel7 ZS.out).2.2.2.1⟩) (fun hHeld => ?_)
                    clear hK
                    try simp only [Act.put, List.setIfInBounds_toArray, List.set_cons_zero, List.set_cons_succ]
                    refine wpAnyH_ready (rs := [7]) (by kernel_rfl) (by simp) (AllReadyH.cons rfl (fun K hK => ?_) AllReadyH.nil)
                    go_simp
                    obtain ⟨u48, hu48⟩ : ∃ W, u47.alloc (.cells #[.bool false, .bool false, .bool false, .bool false, .bool false, .bool false, .int .i64 0, .int .i64 0, .int .i64 0] 44) = W := ⟨_, rfl⟩
                    obtain ⟨ga, hga⟩ : ∃ g, u47.heap.size = g := ⟨_, rfl⟩
                    rw [hu48, hga]
                    have nZQga : w.heap.size < ga := (by rw [← hga]; exact (Array.getElem?_eq_some_iff.1 ZQ.out).1)
                    have nZSga : w.heap.size + 1 < ga := (by rw [← hga]; exact (Array.getElem?_eq_some_iff.1 ZS.out).1)
                    have nTgbga : gb < ga := (by rw [← hga]; exact (Array.getElem?_eq_some_iff.1 Tgb.out).1)
                    replace ZQ : Hid (u48.heap[w.heap.size]? = some (.cells #[.string m, .string t, .int .i64 v, .slice A0 f.length c0, .string b] 24 (0, 0))) := (by show _ = _; rw [← hu48]; exact zero_more ZQ.out)
                    replace ZS : Hid (u48.heap[w.heap.size + 1]? = some (.cells #[.int .i64 pc, .string pr, .int .i64 pv, .slice A1 g.length c1, .string pb, .int .i64 st, .slice B1 n1 m1] 40 (0, 0))) := (by show _ = _; rw [← hu48]; exact zero_more ZS.out)
                    replace Tgb : Hid (u48.heap[gb]? = some (.cells #[.bool false, .bool false, .bool false, .bool false, .bool false, .bool false, .int .i64 0, .int .i64 0, .int .i64 0] 44 (0, 0))) := (by show _ = _; rw [← hu48]; exact zero_more Tgb.out)
                    have Tga : Hid (u48.heap[ga]? = some (.cells #[.bool false, .bool false, .bool false, .bool false, .bool false, .bool false, .int .i64 0, .int .i64 0, .int .i64 0] 44 (0, 0))) := (by show _ = _; rw [← hu48, ← hga]; exact heap_alloc_new u47 _)
                    have nbga : w.heap.size ≤ ga := (by rw [← hga]; exact HB.out.size)
                    replace HB : Hid (Below w.heap.size w u48) := (by show Below _ _ _; rw [← hu48]; exact HB.out.alloc HB.out.size _)
                    clear hu48 hga
                    refine hK.out _ _ (⟨(cel5r ZQ.out).2.2.2.1, (cel7 ZS.out).2.2.2.1⟩) (fun hHeld => ?_)
                    clear hK
                    try simp only [Act.put, List.setIfInBounds_toArray, List.set_cons_zero, List.set_cons_succ]
                    refine wpAnyH_ready (rs := [9]) (by kernel_rfl) (by simp) (AllReadyH.cons rfl (fun K hK => ?_) AllReadyH.nil)
                    refine step_store_row rfl _ _ _ rfl ga #[.bool ans, .bool false, .bool apv, .bool apu, .bool amc, .bool aoi, .int .i64 ama, .int .i64 ash, .int .i64 amf] rfl rfl 44 #[.bool false, .bool false, .bool false, .bool false, .bool false, .bool false, .int .i64 0, .int .i64 0, .int .i64 0] Tga.out (by kernel_rfl) rfl (by simp [Value.oneCell']) ?_
                    obtain ⟨u49, hu49⟩ : ∃ W, u48.setRow ga #[.bool ans, .bool false, .bool apv, .bool apu, .bool amc, .bool aoi, .int .i64 ama, .int .i64 ash, .int .i64 amf] = W := ⟨_, rfl⟩
                    rw [hu49]
                    replace ZQ : Hid (u49.heap[w.heap.size]? = some (.cells #[.string m, .string t, .int .i64 v, .slice A0 f.length c0, .string b] 24 (0, 0))) := (by show _ = _; rw [← hu49, setRow_other _ _ _ _ (by omega)]; exact ZQ.out)
                    replace ZS : Hid (u49.heap[w.heap.size + 1]? = some (.cells #[.int .i64 pc, .string pr, .int .i64 pv, .slice A1 g.length c1, .string pb, .int .i64 st, .slice B1 n1 m1] 40 (0, 0))) := (by show _ = _; rw [← hu49, setRow_other _ _ _ _ (by omega)]; exact ZS.out)
                    replace Tgb : Hid (u49.heap[gb]? = some (.cells #[.bool false, .bool false, .bool false, .bool false, .bool false, .bool false, .int .i64 0, .int .i64 0, .int .i64 0] 44 (0, 0))) := (by show _ = _; rw [← hu49, setRow_other _ _ _ _ (by omega)]; exact Tgb.out)
                    replace Tga : Hid (u49.heap[ga]? = some (.cells #[.bool ans, .bool false, .bool apv, .bool apu, .bool amc, .bool aoi, .int .i64 ama, .int .i64 ash, .int .i64 amf] 44 (0, 0))) := (by show _ = _; rw [← hu49]; exact setRow_heap _ _ _ _ _ _ Tga.out)
                    replace HB : Hid (Below w.heap.size w u49) := (by show Below _ _ _; rw [← hu49]; exact below_setRow HB.out nbga _)
                    clear hu49
                    refine hK.out _ _ (⟨(cel5r ZQ.out).2.2.2.1, (cel7 ZS.out).2.2.2.1⟩) (fun hHeld => ?_)
                    clear hK
                    try simp only [Act.put, List.setIfInBounds_toArray, List.set_cons_zero, List.set_cons_succ]
                    refine wpAnyH_ready (rs := [10]) (by kernel_rfl) (by simp) (AllReadyH.cons rfl (fun K hK => ?_) AllReadyH.nil)
                    refine step_store_row rfl _ _ _ rfl gb #[.bool ns, .bool false, .bool pv', .bool pu, .bool mc, .bool oi, .int .i64 ma, .int .i64 sh, .int .i64 mf] rfl rfl 44 #[.bool false, .bool false, .bool false, .bool false, .bool false, .bool false, .int .i64 0, .int .i64 0, .int .i64 0] Tgb.out (by kernel_rfl) rfl (by simp [Value.oneCell']) ?_
                    obtain ⟨u50, hu50⟩ : ∃ W, u49.setRow gb #[.bool ns, .bool false, .bool pv', .bool pu, .bool mc, .bool oi, .int .i64 ma, .int .i64 sh, .int .i64 mf] = W := ⟨_, rfl⟩
                    rw [hu50]
                    replace ZQ : Hid (u50.heap[w.heap.size]? = some (.cells #[.string m, .string t, .int .i64 v, .slice A0 f.length c0, .string b] 24 (0, 0))) := (by show _ = _; rw [← hu50, setRow_other _ _ _ _ (by omega)]; exact ZQ.out)
                    replace ZS : Hid (u50.heap[w.heap.size + 1]? = some (.cells #[.int .i64 pc, .string pr, .int .i64 pv, .slice A1 g.length c1, .string pb, .int .i64 st, .slice B1 n1 m1] 40 (0, 0))) := (by show _ = _; rw [← hu50, setRow_other _ _ _ _ (by omega)]; exact ZS.out)
                    replace Tga : Hid (u50.heap[ga]? = some (.cells #[.bool ans, .bool false, .bool apv, .bool apu, .bool amc, .bool aoi, .int .i64 ama, .int .i64 ash, .int .i64 amf] 44 (0, 0))) := (by show _ = _; rw [← hu50, setRow_other _ _ _ _ (by omega)]; exact Tga.out)
                    replace Tgb : Hid (u50.heap[gb]? = some (.cells #[.bool ns, .bool false, .bool pv', .bool pu, .bool mc, .bool oi, .int .i64 ma, .int .i64 sh, .int .i64 mf] 44 (0, 0))) := (by show _ = _; rw [← hu50]; exact setRow_heap _ _ _ _ _ _ Tgb.out)
                    replace HB : Hid (Below w.heap.size w u50) := (by show Below _ _ _; rw [← hu50]; exact below_setRow HB.out nbgb _)
                    clear hu50
                    refine hK.out _ _ (⟨(cel5r ZQ.out).2.2.2.1, (cel7 ZS.out).2.2.2.1⟩) (fun hHeld => ?_)
                    clear hK
                    try simp only [Act.put, List.setIfInBounds_toArray, List.set_cons_zero, List.set_cons_succ]
                    refine wpAnyH_done (by kernel_rfl) ?_ _
                    go_wp2_with fail
                    go_meet
                    exact ⟨ga, gb, rfl, rfl, Tga.out, Tgb.out, ZQ.out, ZS.out, HB.out, nZQga, nZQgb⟩
                  · go_simp
                    obtain ⟨u51, hu51⟩ : ∃ W, u46.alloc (.cells #[.bool false, .bool false, .bool false, .bool false, .bool false, .bool false, .int .i64 0, .int .i64 0, .int .i64 0] 44) = W := ⟨_, rfl⟩
                    obtain ⟨ga, hga⟩ : ∃ g, u46.heap.size = g := ⟨_, rfl⟩
                    rw [hu51, hga]
                    have nZQga : w.heap.size < ga := (by rw [← hga]; exact (Array.getElem?_eq_some_iff.1 ZQ.out).1)
                    have nZSga : w.heap.size + 1 < ga := (by rw [← hga]; exact (Array.getElem?_eq_some_iff.1 ZS.out).1)
                    have nTgbga : gb < ga := (by rw [← hga]; exact (Array.getElem?_eq_some_iff.1 Tgb.out).1)
                    replace ZQ : Hid (u51.heap[w.heap.size]? = some (.cells #[.string m, .string t, .int .i64 v, .slice A0 f.length c0, .string b] 24 (0, 0))) := (by show _ = _; rw [← hu51]; exact zero_more ZQ.out)
                    replace ZS : Hid (u51.heap[w.heap.size + 1]? = some (.cells #[.int .i64 pc, .string pr, .int .i64 pv, .slice A1 g.length c1, .string pb, .int .i64 st, .slice B1 n1 m1] 40 (0, 0))) := (by show _ = _; rw [← hu51]; exact zero_more ZS.out)
                    replace Tgb : Hid (u51.heap[gb]? = some (.cells #[.bool false, .bool false, .bool false, .bool false, .bool false, .bool false, .int .i64 0, .int .i64 0, .int .i64 0] 44 (0, 0))) := (by show _ = _; rw [← hu51]; exact zero_more Tgb.out)
                    have Tga : Hid (u51.heap[ga]? = some (.cells #[.bool false, .bool false, .bool false, .bool false, .bool false, .bool false, .int .i64 0, .int .i64 0, .int .i64 0] 44 (0, 0))) := (by show _ = _; rw [← hu51, ← hga]; exact heap_alloc_new u46 _)
                    have nbga : w.heap.size ≤ ga := (by rw [← hga]; exact HB.out.size)
                    replace HB : Hid (Below w.heap.size w u51) := (by show Below _ _ _; rw [← hu51]; exact HB.out.alloc HB.out.size _)
                    clear hu51 hga
                    refine hK.out _ _ (⟨(cel5r ZQ.out).2.2.2.1, (cel7 ZS.out).2.2.2.1⟩) (fun hHeld => ?_)
                    clear hK
                    try simp only [Act.put, List.setIfInBounds_toArray, List.set_cons_zero, List.set_cons_succ]
                    refine wpAnyH_ready (rs := [6]) (by kernel_rfl) (by simp) (AllReadyH.cons rfl (fun K hK => ?_) AllReadyH.nil)
                    go_simp
                    go_at_call 23
                    refine (K4.out _ HB.out).mono ?_
                    rintro e u52 ⟨rfl, hb⟩
                    replace ZQ := Lib.hid (zero_still hb ZQ.out)
                    replace ZS := Lib.hid (zero_still hb ZS.out)
                    replace Tgb := Lib.hid (zero_still hb Tgb.out)
                    replace Tga := Lib.hid (zero_still hb Tga.out)
                    replace HB := Lib.hid (below_then HB.out hb)
                    clear hb
                    try go_wp2_with fail
                    refine hK.out _ _ (⟨(cel5r ZQ.out).2.2.2.1, (cel7 ZS.out).2.2.2.1⟩) (fun hHeld => ?_)
                    clear hK
                    try simp only [Act.put, List.setIfInBounds_toArray, List.set_cons_zero, List.set_cons_succ]
                    refine wpAnyH_ready (rs := [9]) (by kernel_rfl) (by simp) (AllReadyH.cons rfl (fun K hK => ?_) AllReadyH.nil)
                    refine step_store_row rfl _ _ _ rfl ga #[.bool ans, .bool false, .bool apv, .bool apu, .bool amc, .bool aoi, .int .i64 ama, .int .i64 ash, .int .i64 amf] rfl rfl 44 #[.bool false, .bool false, .bool false, .bool false, .bool false, .bool false, .int .i64 0, .int .i64 0, .int .i64 0] Tga.out (by kernel_rfl) rfl (by simp [Value.oneCell']) ?_
                    obtain ⟨u53, hu53⟩ : ∃ W, u52.setRow ga #[.bool ans, .bool false, .bool apv, .bool apu, .bool amc, .bool aoi, .int .i64 ama, .int .i64 ash, .int .i64 amf] = W := ⟨_, rfl⟩
                    rw [hu53]
                    replace ZQ : Hid (u53.heap[w.heap.size]? = some (.cells #[.string m, .string t, .int .i64 v, .slice A0 f.length c0, .string b] 24 (0, 0))) := (by show _ = _; rw [← hu53, setRow_other _ _ _ _ (by omega)]; exact ZQ.out)
                    replace ZS : Hid (u53.heap[w.heap.size + 1]? = some (.cells #[.int .i64 pc, .string pr, .int .i64 pv, .slice A1 g.length c1, .string pb, .int .i64 st, .slice B1 n1 m1] 40 (0, 0))) := (by show _ = _; rw [← hu53, setRow_other _ _ _ _ (by omega)]; exact ZS.out)
                    replace Tgb : Hid (u53.heap[gb]? = some (.cells #[.bool false, .bool false, .bool false, .bool false, .bool false, .bool false, .int .i64 0, .int .i64 0, .int .i64 0] 44 (0, 0))) := (by show _ = _; rw [← hu53, setRow_other _ _ _ _ (by omega)]; exact Tgb.out)
                    replace Tga : Hid (u53.heap[ga]? = some (.cells #[.bool ans, .bool false, .bool apv, .bool apu, .bool amc, .bool aoi, .int .i64 ama, .int .i64 ash, .int .i64 amf] 44 (0, 0))) := (by show _ = _; rw [← hu53]; exact setRow_heap _ _ _ _ _ _ Tga.out)
                    replace HB : Hid (Below w.heap.size w u53) := (by show Below _ _ _; rw [← hu53]; exact below_setRow HB.out nbga _)
                    clear hu53
                    refine hK.out _ _ (⟨(cel5r ZQ.out).2.2.2.1, (cel7 ZS.out).2.2.2.1⟩) (fun hHeld => ?_)
                    clear hK
                    try simp only [Act.put, List.setIfInBounds_toArray, List.set_cons_zero, List.set_cons_succ]
                    refine wpAnyH_ready (rs := [10]) (by kernel_rfl) (by simp) (AllReadyH.cons rfl (fun K hK => ?_) AllReadyH.nil)
                    refine step_store_row rfl _ _ _ rfl gb #[.bool ns, .bool false, .bool pv', .bool pu, .bool mc, .bool oi, .int .i64 ma, .int .i64 sh, .int .i64 mf] rfl rfl 44 #[.bool false, .bool false, .bool false, .bool false, .bool false, .bool false, .int .i64 0, .int .i64 0, .int .i64 0] Tgb.out (by kernel_rfl) rfl (by simp [Value.oneCell']) ?_
                    obtain ⟨u54, hu54⟩ : ∃ W, u53.setRow gb #[.bool ns, .bool false, .bool pv', .bool pu, .bool mc, .bool oi, .int .i64 ma, .int .i64 sh, .int .i64 mf] = W := ⟨_, rfl⟩
                    rw [hu54]
                    replace ZQ : Hid (u54.heap[w.heap.size]? = some (.cells #[.string m, .string t, .int .i64 v, .slice A0 f.length c0, .string b] 24 (0, 0))) := (by show _ = _; rw [← hu54, setRow_other _ _ _ _ (by omega)]; exact ZQ.out)
                    replace ZS : Hid (u54.heap[w.heap.size + 1]? = some (.cells #[.int .i64 pc, .string pr, .int .i64 pv, .slice A1 g.length c1, .string pb, .int .i64 st, .slice B1 n1 m1] 40 (0, 0))) := (by show _ = _; rw [← hu54, setRow_other _ _ _ _ (by omega)]; exact ZS.out)
                    replace Tga : Hid (u54.heap[ga]? = some (.cells #[.bool ans, .bool false, .bool apv, .bool apu, .bool amc, .bool aoi, .int .i64 ama, .int .i64 ash, .int .i64 amf] 44 (0, 0))) := (by show _ = _; rw [← hu54, setRow_other _ _ _ _ (by omega)]; exact Tga.out)
                    replace Tgb : Hid (u54.heap[gb]? = some (.cells #[.bool ns, .bool false, .bool pv', .bool pu, .bool mc, .bool oi, .int .i64 ma, .int .i64 sh, .int .i64 mf] 44 (0, 0))) := (by show _ = _; rw [← hu54]; exact setRow_heap _ _ _ _ _ _ Tgb.out)
                    replace HB : Hid (Below w.heap.size w u54) := (by show Below _ _ _; rw [← hu54]; exact below_setRow HB.out nbgb _)
                    clear hu54
                    refine hK.out _ _ (⟨(cel5r ZQ.out).2.2.2.1, (cel7 ZS.out).2.2.2.1⟩) (fun hHeld => ?_)
                    clear hK
                    try simp only [Act.put, List.setIfInBounds_toArray, List.set_cons_zero, List.set_cons_succ]
                    refine wpAnyH_done (by kernel_rfl) ?_ _
                    go_wp2_with fail
                    go_meet
                    exact ⟨ga, gb, rfl, rfl, Tga.out, Tgb.out, ZQ.out, ZS.out, HB.out, nZQga, nZQgb⟩
                · go_simp
                  obtain ⟨u55, hu55⟩ : ∃ W, u45.alloc (.cells #[.bool false, .bool false, .bool false, .bool false, .bool false, .bool false, .int .i64 0, .int .i64 0, .int .i64 0] 44) = W := ⟨_, rfl⟩
                  obtain ⟨ga, hga⟩ : ∃ g, u45.heap.size = g := ⟨_, rfl⟩
                  rw [hu55, hga]
                  have nZQga : w.heap.size < ga := (by rw [← hga]; exact (Array.getElem?_eq_some_iff.1 ZQ.out).1)
                  have nZSga : w.heap.size + 1 < ga := (by rw [← hga]; exact (Array.getElem?_eq_some_iff.1 ZS.out).1)
                  have nTgbga : gb < ga := (by rw [← hga]; exact (Array.getElem?_eq_some_iff.1 Tgb.out).1)
                  replace ZQ : Hid (u55.heap[w.heap.size]? = some (.cells #[.string m, .string t, .int .i64 v, .slice A0 f.length c0, .string b] 24 (0, 0))) := (by show _ = _; rw [← hu55]; exact zero_more ZQ.out)
                  replace ZS : Hid (u55.heap[w.heap.size + 1]? = some (.cells #[.int .i64 pc, .string pr, .int .i64 pv, .slice A1 g.length c1, .string pb, .int .i64 st, .slice B1 n1 m1] 40 (0, 0))) := (by show _ = _; rw [← hu55]; exact zero_more ZS.out)
                  replace Tgb : Hid (u55.heap[gb]? = some (.cells #[.bool false, .bool false, .bool false, .bool false, .bool false, .bool false, .int .i64 0, .int .i64 0, .int .i64 0] 44 (0, 0))) := (by show _ = _; rw [← hu55]; exact zero_more Tgb.out)
                  have Tga : Hid (u55.heap[ga]? = some (.cells #[.bool false, .bool false, .bool false, .bool false, .bool false, .bool false, .int .i64 0, .int .i64 0, .int .i64 0] 44 (0, 0))) := (by show _ = _; rw [← hu55, ← hga]; exact heap_alloc_new u45 _)
                  have nbga : w.heap.size ≤ ga := (by rw [← hga]; exact HB.out.size)
                  replace HB : Hid (Below w.heap.size w u55) := (by show Below _ _ _; rw [← hu55]; exact HB.out.alloc HB.out.size _)
                  clear hu55 hga
                  refine hK.out _ _ (⟨(cel5r ZQ.out).2.2.2.1, (cel7 ZS.out).2.2.2.1⟩) (fun hHeld => ?_)
                  clear hK
                  try simp only [Act.put, List.setIfInBounds_toArray, List.set_cons_zero, List.set_cons_succ]
                  refine wpAnyH_ready (rs := [2]) (by kernel_rfl) (by simp) (AllReadyH.cons rfl (fun K hK => ?_) AllReadyH.nil)
                  go_simp
                  go_at_call 22
                  refine (K3.out _ HB.out).mono ?_
                  rintro e u56 ⟨rfl, hb⟩
                  replace ZQ := Lib.hid (zero_still hb ZQ.out)
                  replace ZS := Lib.hid (zero_still hb ZS.out)
                  replace Tgb := Lib.hid (zero_still hb Tgb.out)
                  replace Tga := Lib.hid (zero_still hb Tga.out)
                  replace HB := Lib.hid (below_then HB.out hb)
                  clear hb
                  try go_wp2_with fail
                  refine hK.out _ _ (⟨(cel5r ZQ.out).2.2.2.1, (cel7 ZS.out).2.2.2.1⟩) (fun hHeld => ?_)
                  clear hK
                  try simp only [Act.put, List.setIfInBounds_toArray, List.set_cons_zero, List.set_cons_succ]
                  refine wpAnyH_ready (rs := [6]) (by kernel_rfl) (by simp) (AllReadyH.cons rfl (fun K hK => ?_) AllReadyH.nil)
                  go_simp
                  go_at_call 23
                  refine (K4.out _ HB.out).mono ?_
                  rintro e u57 ⟨rfl, hb⟩
                  replace ZQ := Lib.hid (zero_still hb ZQ.out)
                  replace ZS := Lib.hid (zero_still hb ZS.out)
                  replace Tgb := Lib.hid (zero_still hb Tgb.out)
                  replace Tga := Lib.hid (zero_still hb Tga.out)
                  replace HB := Lib.hid (below_then HB.out hb)
                  clear hb
                  try go_wp2_with fail
                  refine hK.out _ _ (⟨(cel5r ZQ.out).2.2.2.1, (cel7 ZS.out).2.2.2.1⟩) (fun hHeld => ?_)
                  clear hK
                  try simp only [Act.put, List.setIfInBounds_toArray, List.set_cons_zero, List.set_cons_succ]
                  refine wpAnyH_ready (rs := [9]) (by kernel_rfl) (by simp) (AllReadyH.cons rfl (fun K hK => ?_) AllReadyH.nil)
                  refine step_store_row rfl _ _ _ rfl ga #[.bool ans, .bool false, .bool apv, .bool apu, .bool amc, .bool aoi, .int .i64 ama, .int .i64 ash, .int .i64 amf] rfl rfl 44 #[.bool false, .bool false, .bool false, .bool false, .bool false, .bool false, .int .i64 0, .int .i64 0, .int .i64 0] Tga.out (by kernel_rfl) rfl (by simp [Value.oneCell']) ?_
                  obtain ⟨u58, hu58⟩ : ∃ W, u57.setRow ga #[.bool ans, .bool false, .bool apv, .bool apu, .bool amc, .bool aoi, .int .i64 ama, .int .i64 ash, .int .i64 amf] = W := ⟨_, rfl⟩
                  rw [hu58]
                  replace ZQ : Hid (u58.heap[w.heap.size]? = some (.cells #[.string m, .string t, .int .i64 v, .slice A0 f.length c0, .string b] 24 (0, 0))) := (by show _ = _; rw [← hu58, setRow_other _ _ _ _ (by omega)]; exact ZQ.out)
                  replace ZS : Hid (u58.heap[w.heap.size + 1]? = some (.cells #[.int .i64 pc, .string pr, .int .i64 pv, .slice A1 g.length c1, .string pb, .int .i64 st, .slice B1 n1 m1] 40 (0, 0))) := (by show _ = _; rw [← hu58, setRow_other _ _ _ _ (by omega)]; exact ZS.out)
                  replace Tgb : Hid (u58.heap[gb]? = some (.cells #[.bool false, .bool false, .bool false, .bool false, .bool false, .bool false, .int .i64 0, .int .i64 0, .int .i64 0] 44 (0, 0))) := (by show _ = _; rw [← hu58, setRow_other _ _ _ _ (by omega)]; exact Tgb.out)
                  replace Tga : Hid (u58.heap[ga]? = some (.cells #[.bool ans, .bool false, .bool apv, .bool apu, .bool amc, .bool aoi, .int .i64 ama, .int .i64 ash, .int .i64 amf] 44 (0, 0))) := (by show _ = _; rw [← hu58]; exact setRow_heap _ _ _ _ _ _ Tga.out)
                  replace HB : Hid (Below w.heap.size w u58) := (by show Below _ _ _; rw [← hu58]; exact below_setRow HB.out nbga _)
                  clear hu58
                  refine hK.out _ _ (⟨(cel5r ZQ.out).2.2.2.1, (cel7 ZS.out).2.2.2.1⟩) (fun hHeld => ?_)
                  clear hK
                  try simp only [Act.put, List.setIfInBounds_toArray, List.set_cons_zero, List.set_cons_succ]
                  refine wpAnyH_ready (rs := [10]) (by kernel_rfl) (by simp) (AllReadyH.cons rfl (fun K hK => ?_) AllReadyH.nil)
                  refine step_store_row rfl _ _ _ rfl gb #[.bool ns, .bool false, .bool pv', .bool pu, .bool mc, .bool oi, .int .i64 ma, .int .i64 sh, .int .i64 mf] rfl rfl 44 #[.bool false, .bool false, .bool false, .bool false, .bool false, .bool false, .int .i64 0, .int .i64 0, .int .i64 0] Tgb.out (by kernel_rfl) rfl (by simp [Value.oneCell']) ?_
                  obtain ⟨u59, hu59⟩ : ∃ W, u58.setRow gb #[.bool ns, .bool false, .bool pv', .bool pu, .bool mc, .bool oi, .int .i64 ma, .int .i64 sh, .int .i64 mf] = W := ⟨_, rfl⟩
                  rw [hu59]
                  replace ZQ : Hid (u59.heap[w.heap.size]? = some (.cells #[.string m, .string t, .int .i64 v, .slice A0 f.length c0, .string b] 24 (0, 0))) := (by show _ = _; rw [← hu59, setRow_other _ _ _ _ (by omega)]; exact ZQ.out)
                  replace ZS : Hid (u59.heap[w.heap.size + 1]? = some (.cells #[.int .i64 pc, .string pr, .int .i64 pv, .slice A1 g.length c1, .string pb, .int .i64 st, .slice B1 n1 m1] 40 (0, 0))) := (by show _ = _; rw [← hu59, setRow_other _ _ _ _ (by omega)]; exact ZS.out)
                  replace Tga : Hid (u59.heap[ga]? = some (.cells #[.bool ans, .bool false, .bool apv, .bool apu, .bool amc, .bool aoi, .int .i64 ama, .int .i64 ash, .int .i64 amf] 44 (0, 0))) := (by show _ = _; rw [← hu59, setRow_other _ _ _ _ (by omega)]; exact Tga.out)
                  replace Tgb : Hid (u59.heap[gb]? = some (.cells #[.bool ns, .bool false, .bool pv', .bool pu, .bool mc, .bool oi, .int .i64 ma, .int .i64 sh, .int .i64 mf] 44 (0, 0))) := (by show _ = _; rw [← hu59]; exact setRow_heap _ _ _ _ _ _ Tgb.out)
                  replace HB : Hid (Below w.heap.size w u59) := (by show Below _ _ _; rw [← hu59]; exact below_setRow HB.out nbgb _)
                  clear hu59
                  refine hK.out _ _ (⟨(cel5r ZQ.out).2.2.2.1, (cel7 ZS.out).2.2.2.1⟩) (fun hHeld => ?_)
                  clear hK
                  try simp only [Act.put, List.setIfInBounds_toArray, List.set_cons_zero, List.set_cons_succ]
                  refine wpAnyH_done (by kernel_rfl) ?_ _
                  go_wp2_with fail
                  go_meet
                  exact ⟨ga, gb, rfl, rfl, Tga.out, Tgb.out, ZQ.out, ZS.out, HB.out, nZQga, nZQgb⟩
            case rest =>
              clear K3 K4 ZQ ZS HB J1
              obtain ⟨R1, R2, rfl, rfl, HC⟩ := hcut
              by_cases m1' : ama < 0
              · have d1 : decide (ama < 0) = true := decide_eq_true m1'
                by_cases m3 : amf < 0
                · have d3 : decide (amf < 0) = true := decide_eq_true m3
                  have ZA : Hid (wc.drew.heap[R1]? = some (.cells #[.bool ans, .bool false, .bool apv, .bool apu, .bool amc, .bool aoi, .int .i64 ama, .int .i64 ash, .int .i64 amf] 44 (0, 0))) := HC.out.1
                  have ZP : Hid (wc.drew.heap[R2]? = some (.cells #[.bool ns, .bool false, .bool pv', .bool pu, .bool mc, .bool oi, .int .i64 ma, .int .i64 sh, .int .i64 mf] 44 (0, 0))) := HC.out.2.1
                  have ZQ : Hid (wc.drew.heap[w.heap.size]? = some (.cells #[.string m, .string t, .int .i64 v, .slice A0 f.length c0, .string b] 24 (0, 0))) := HC.out.2.2.1
                  have ZS : Hid (wc.drew.heap[w.heap.size + 1]? = some (.cells #[.int .i64 pc, .string pr, .int .i64 pv, .slice A1 g.length c1, .string pb, .int .i64 st, .slice B1 n1 m1] 40 (0, 0))) := HC.out.2.2.2.1
                  have HB := Lib.hid HC.out.2.2.2.2.1.drew
                  have HN := Lib.hid HC.out.2.2.2.2.2
                  clear HC
                  go_wp2_with fail
                  refine wp_region_held_drew (S := fun W => W.cell? ⟨w.heap.size + 1, 0, none⟩ = some (.int .i64 pc) ∧ W.cell? ⟨w.heap.size + 1, 1, none⟩ = some (.string pr) ∧ W.cell? ⟨w.heap.size + 1, 2, none⟩ = some (.int .i64 pv) ∧ W.cell? ⟨w.heap.size + 1, 3, none⟩ = some (.slice A1 g.length c1) ∧ W.cell? ⟨w.heap.size + 1, 4, none⟩ = some (.string pb) ∧ W.cell? ⟨w.heap.size + 1, 5, none⟩ = some (.int .i64 st) ∧ W.cell? ⟨w.heap.size + 1, 6, none⟩ = some (.slice B1 n1 m1) ∧ W.cell? ⟨R1, 1, none⟩ = some (.bool false) ∧ W.cell? ⟨R1, 6, none⟩ = some (.int .i64 ama) ∧ W.cell? ⟨R1, 8, none⟩ = some (.int .i64 amf) ∧ W.cell? ⟨R2, 1, none⟩ = some (.bool false)) (by kernel_rfl) (⟨(cel7 ZS.out).1, (cel7 ZS.out).2.1, (cel7 ZS.out).2.2.1, (cel7 ZS.out).2.2.2.1, (cel7 ZS.out).2.2.2.2.1, (cel7 ZS.out).2.2.2.2.2.1, (cel7 ZS.out).2.2.2.2.2.2, (cel9r ZA.out).2.1, (cel9r ZA.out).2.2.2.2.2.2.1, (cel9r ZA.out).2.2.2.2.2.2.2.2, (cel9r ZP.out).2.1⟩) (fun hHeld => ?_)
                  refine takeY (i := 0) (v := ?_) rfl rfl (by kernel_rfl) (by kernel_rfl) (by kernel_rfl) (by rfl) (fun _ _ _ h => h) ?z11xy1 (by assumption) ?z11xr1
                  case z11xy1 => (intro w hSw; (try dsimp only at hSw); go_simp; try with_reducible rfl)
                  try simp only [Act.put, List.setIfInBounds_toArray, List.set_cons_zero, List.set_cons_succ]
                  refine takeY (i := 1) (v := ?_) rfl rfl (by kernel_rfl) (by kernel_rfl) (by kernel_rfl) (by rfl) (fun _ _ _ h => h) ?z11xy2 (by assumption) ?z11xr2
                  case z11xy2 => (intro w hSw; (try dsimp only at hSw); go_simp; try with_reducible rfl)
                  try simp only [Act.put, List.setIfInBounds_toArray, List.set_cons_zero, List.set_cons_succ]
                  refine wpAnyH_ready (rs := [2]) (by kernel_rfl) (by simp) (AllReadyH.cons rfl (fun K hK => ?_) AllReadyH.nil)
                  go_simp
                  go_at_call 24
                  refine (K5.out _ HB.out).mono ?_
                  rintro e u2 ⟨rfl, hb⟩
                  replace ZA := Lib.hid (zero_still hb ZA.out)
                  replace ZP := Lib.hid (zero_still hb ZP.out)
                  replace ZQ := Lib.hid (zero_still hb ZQ.out)
                  replace ZS := Lib.hid (zero_still hb ZS.out)
                  replace HB := Lib.hid (below_then HB.out hb)
                  clear hb
                  go_wp2_with fail
                  refine hK.out _ _ (⟨(cel7 ZS.out).1, (cel7 ZS.out).2.1, (cel7 ZS.out).2.2.1, (cel7 ZS.out).2.2.2.1, (cel7 ZS.out).2.2.2.2.1, (cel7 ZS.out).2.2.2.2.2.1, (cel7 ZS.out).2.2.2.2.2.2, (cel9r ZA.out).2.1, (cel9r ZA.out).2.2.2.2.2.2.1, (cel9r ZA.out).2.2.2.2.2.2.2.2, (cel9r ZP.out).2.1⟩) (fun hHeld => ?_)
                  clear hK
                  try simp only [Act.put, List.setIfInBounds_toArray, List.set_cons_zero, List.set_cons_succ]
                  refine takeY (i := 3) (v := ?_) rfl rfl (by kernel_rfl) (by kernel_rfl) (by kernel_rfl) (by rfl) (fun _ _ _ h => h) ?z11xy3 (by assumption) ?z11xr3
                  case z11xy3 => (intro w hSw; (try dsimp only at hSw); go_simp; try with_reducible rfl)
                  try simp only [Act.put, List.setIfInBounds_toArray, List.set_cons_zero, List.set_cons_succ]
                  refine takeY (i := 4) (v := ?_) rfl rfl (by kernel_rfl) (by kernel_rfl) (by kernel_rfl) (by rfl) (fun _ _ _ h => h) ?z11xy4 (by assumption) ?z11xr4
                  case z11xy4 => (intro w hSw; (try dsimp only at hSw); go_simp; try with_reducible rfl)
                  try simp only [Act.put, List.setIfInBounds_toArray, List.set_cons_zero, List.set_cons_succ]
                  refine takeY (i := 5) (v := ?_) rfl rfl (by kernel_rfl) (by kernel_rfl) (by kernel_rfl) (by rfl) (fun _ _ _ h => h) ?z11xy5 (by assumption) ?z11xr5
                  case z11xy5 => (intro w hSw; (try dsimp only at hSw); go_simp; try with_reducible rfl)
                  try simp only [Act.put, List.setIfInBounds_toArray, List.set_cons_zero, List.set_cons_succ]
                  refine takeY (i := 6) (v := ?_) rfl rfl (by kernel_rfl) (by kernel_rfl) (by kernel_rfl) (by rfl) (fun _ _ _ h => h) ?z11xy6 (by assumption) ?z11xr6
                  case z11xy6 => (intro w hSw; (try dsimp only at hSw); go_simp; try with_reducible rfl)
                  try simp only [Act.put, List.setIfInBounds_toArray, List.set_cons_zero, List.set_cons_succ]
                  refine takeY (i := 7) (v := ?_) rfl rfl (by kernel_rfl) (by kernel_rfl) (by kernel_rfl) (by rfl) (fun _ _ _ h => h) ?z11xy7 (by assumption) ?z11xr7
                  case z11xy7 => (intro w hSw; (try dsimp only at hSw); go_simp; try with_reducible rfl)
                  try simp only [Act.put, List.setIfInBounds_toArray, List.set_cons_zero, List.set_cons_succ]
                  refine takeY (i := 8) (v := ?_) rfl rfl (by kernel_rfl) (by kernel_rfl) (by kernel_rfl) (by rfl) (fun _ _ _ h => h) ?z11xy8 (by assumption) ?z11xr8
                  case z11xy8 => (intro w hSw; (try dsimp only at hSw); go_simp; try with_reducible rfl)
                  try simp only [Act.put, List.setIfInBounds_toArray, List.set_cons_zero, List.set_cons_succ]
                  refine takeY (i := 9) (v := ?_) rfl rfl (by kernel_rfl) (by kernel_rfl) (by kernel_rfl) (by rfl) (fun _ _ _ h => h) ?z11xy9 (by assumption) ?z11xr9
                  case z11xy9 => (intro w hSw; (try dsimp only at hSw); go_simp; try with_reducible rfl)
                  try simp only [Act.put, List.setIfInBounds_toArray, List.set_cons_zero, List.set_cons_succ]
                  refine takeY (i := 10) (v := ?_) rfl rfl (by kernel_rfl) (by kernel_rfl) (by kernel_rfl) (by rfl) (fun _ _ _ h => h) ?z11xy10 (by assumption) ?z11xr10
                  case z11xy10 => (intro w hSw; (try dsimp only at hSw); go_simp; try with_reducible rfl)
                  try simp only [Act.put, List.setIfInBounds_toArray, List.set_cons_zero, List.set_cons_succ]
                  refine takeY (i := 11) (v := ?_) rfl rfl (by kernel_rfl) (by kernel_rfl) (by kernel_rfl) (by rfl) (fun _ _ _ h => h) ?z11xy11 (by assumption) ?z11xr11
                  case z11xy11 => (intro w hSw; (try dsimp only at hSw); go_simp; try with_reducible rfl)
                  try simp only [Act.put, List.setIfInBounds_toArray, List.set_cons_zero, List.set_cons_succ]
                  refine takeY (i := 12) (v := ?_) rfl rfl (by kernel_rfl) (by kernel_rfl) (by kernel_rfl) (by rfl) (fun _ _ _ h => h) ?z11xy12 (by assumption) ?z11xr12
                  case z11xy12 => (intro w hSw; (try dsimp only at hSw); go_simp; try with_reducible rfl)
                  try simp only [Act.put, List.setIfInBounds_toArray, List.set_cons_zero, List.set_cons_succ]
                  refine takeY (i := 13) (v := ?_) rfl rfl (by kernel_rfl) (by kernel_rfl) (by kernel_rfl) (by rfl) (fun _ _ _ h => h) ?z11xy13 (by assumption) ?z11xr13
                  case z11xy13 => (intro w hSw; (try dsimp only at hSw); go_simp; try with_reducible rfl)
                  try simp only [Act.put, List.setIfInBounds_toArray, List.set_cons_zero, List.set_cons_succ]
                  refine takeY (i := 14) (v := ?_) rfl rfl (by kernel_rfl) (by kernel_rfl) (by kernel_rfl) (by rfl) (fun _ _ _ h => h) ?z11xy14 (by assumption) ?z11xr14
                  case z11xy14 => (intro w hSw; (try dsimp only at hSw); go_simp; try with_reducible rfl)
                  try simp only [Act.put, List.setIfInBounds_toArray, List.set_cons_zero, List.set_cons_succ]
                  refine takeY (i := 15) (v := ?_) rfl rfl (by kernel_rfl) (by kernel_rfl) (by kernel_rfl) (by rfl) (fun _ _ _ h => h) ?z11xy15 (by assumption) ?z11xr15
                  case z11xy15 => (intro w hSw; (try dsimp only at hSw); go_simp; try with_reducible rfl)
                  try simp only [Act.put, List.setIfInBounds_toArray, List.set_cons_zero, List.set_cons_succ]
                  refine takeY (i := 16) (v := ?_) rfl rfl (by kernel_rfl) (by kernel_rfl) (by kernel_rfl) (by rfl) (fun _ _ _ h => h) ?z11xy16 (by assumption) ?z11xr16
                  case z11xy16 => (intro w hSw; (try dsimp only at hSw); go_simp; try with_reducible rfl)
                  try simp only [Act.put, List.setIfInBounds_toArray, List.set_cons_zero, List.set_cons_succ]
                  refine takeY (i := 17) (v := ?_) rfl rfl (by kernel_rfl) (by kernel_rfl) (by kernel_rfl) (by rfl) (fun _ _ _ h => h) ?z11xy17 (by assumption) ?z11xr17
                  case z11xy17 => (intro w hSw; (try dsimp only at hSw); go_simp; try with_reducible rfl)
                  try simp only [Act.put, List.setIfInBounds_toArray, List.set_cons_zero, List.set_cons_succ]
                  refine takeN (i := 18) rfl rfl (by kernel_rfl) (by kernel_rfl) (by kernel_rfl) (by rfl) (fun _ _ _ h => h) (by assumption) ?_
                  try simp only [Act.put, List.setIfInBounds_toArray, List.set_cons_zero, List.set_cons_succ]
                  refine takeN (i := 19) rfl rfl (by kernel_rfl) (by kernel_rfl) (by kernel_rfl) (by rfl) (fun _ _ _ h => h) (by assumption) ?_
                  try simp only [Act.put, List.setIfInBounds_toArray, List.set_cons_zero, List.set_cons_succ]
                  refine takeN (i := 20) rfl rfl (by kernel_rfl) (by kernel_rfl) (by kernel_rfl) (by rfl) (fun _ _ _ h => h) (by assumption) ?_
                  try simp only [Act.put, List.setIfInBounds_toArray, List.set_cons_zero, List.set_cons_succ]
                  refine takeN (i := 21) rfl rfl (by kernel_rfl) (by kernel_rfl) (by kernel_rfl) (by rfl) (fun _ _ _ h => h) (by assumption) ?_
                  try simp only [Act.put, List.setIfInBounds_toArray, List.set_cons_zero, List.set_cons_succ]
                  refine takeN (i := 22) rfl rfl (by kernel_rfl) (by kernel_rfl) (by kernel_rfl) (by rfl) (fun _ _ _ h => h) (by assumption) ?_
                  try simp only [Act.put, List.setIfInBounds_toArray, List.set_cons_zero, List.set_cons_succ]
                  refine takeN (i := 23) rfl rfl (by kernel_rfl) (by kernel_rfl) (by kernel_rfl) (by rfl) (fun _ _ _ h => h) (by assumption) ?_
                  try simp only [Act.put, List.setIfInBounds_toArray, List.set_cons_zero, List.set_cons_succ]
                  refine takeY (i := 24) (v := ?_) rfl rfl (by kernel_rfl) (by kernel_rfl) (by kernel_rfl) (by rfl) (fun _ _ _ h => h) ?z11xy18 (by assumption) ?z11xr18
                  case z11xy18 => (intro w hSw; (try dsimp only at hSw); go_simp; try with_reducible rfl)
                  try simp only [Act.put, List.setIfInBounds_toArray, List.set_cons_zero, List.set_cons_succ]
                  refine takeY (i := 25) (v := ?_) rfl rfl (by kernel_rfl) (by kernel_rfl) (by kernel_rfl) (by rfl) (fun _ _ _ h => h) ?z11xy19 (by assumption) ?z11xr19
                  case z11xy19 => (intro w hSw; (try dsimp only at hSw); go_simp; try with_reducible rfl)
                  try simp only [Act.put, List.setIfInBounds_toArray, List.set_cons_zero, List.set_cons_succ]
                  refine takeY (i := 26) (v := ?_) rfl rfl (by kernel_rfl) (by kernel_rfl) (by kernel_rfl) (by rfl) (fun _ _ _ h => h) ?z11xy20 (by assumption) ?z11xr20
                  case z11xy20 => (intro w hSw; (try dsimp only at hSw); go_simp; try with_reducible rfl)
                  try simp only [Act.put, List.setIfInBounds_toArray, List.set_cons_zero, List.set_cons_succ]
                  refine takeY (i := 27) (v := ?_) rfl rfl (by kernel_rfl) (by kernel_rfl) (by kernel_rfl) (by rfl) (fun _ _ _ h => h) ?z11xy21 (by assumption) ?z11xr21
                  case z11xy21 => (intro w hSw; (try dsimp only at hSw); go_simp; try with_reducible rfl)
                  try simp only [Act.put, List.setIfInBounds_toArray, List.set_cons_zero, List.set_cons_succ]
                  refine takeY (i := 28) (v := ?_) rfl rfl (by kernel_rfl) (by kernel_rfl) (by kernel_rfl) (by rfl) (fun _ _ _ h => h) ?z11xy22 (by assumption) ?z11xr22
                  case z11xy22 => (intro w hSw; (try dsimp only at hSw); go_simp; try with_reducible rfl)
                  try simp only [Act.put, List.setIfInBounds_toArray, List.set_cons_zero, List.set_cons_succ]
                  refine takeY (i := 29) (v := ?_) rfl rfl (by kernel_rfl) (by kernel_rfl) (by kernel_rfl) (by rfl) (fun _ _ _ h => h) ?z11xy23 (by assumption) ?z11xr23
                  case z11xy23 => (intro w hSw; (try dsimp only at hSw); go_simp; try with_reducible rfl)
                  try simp only [Act.put, List.setIfInBounds_toArray, List.set_cons_zero, List.set_cons_succ]
                  refine takeY (i := 30) (v := ?_) rfl rfl (by kernel_rfl) (by kernel_rfl) (by kernel_rfl) (by rfl) (fun _ _ _ h => h) ?z11xy24 (by assumption) ?z11xr24
                  case z11xy24 => (intro w hSw; (try dsimp only at hSw); go_simp; try with_reducible rfl)
                  try simp only [Act.put, List.setIfInBounds_toArray, List.set_cons_zero, List.set_cons_succ]
                  refine takeN (i := 31) rfl rfl (by kernel_rfl) (by kernel_rfl) (by kernel_rfl) (by rfl) (fun _ _ _ h => h) (by assumption) ?_
                  try simp only [Act.put, List.setIfInBounds_toArray, List.set_cons_zero, List.set_cons_succ]
                  refine takeN (i := 32) rfl rfl (by kernel_rfl) (by kernel_rfl) (by kernel_rfl) (by rfl) (fun _ _ _ h => h) (by assumption) ?_
                  try simp only [Act.put, List.setIfInBounds_toArray, List.set_cons_zero, List.set_cons_succ]
                  refine takeN (i := 33) rfl rfl (by kernel_rfl) (by kernel_rfl) (by kernel_rfl) (by rfl) (fun _ _ _ h => h) (by assumption) ?_
                  try simp only [Act.put, List.setIfInBounds_toArray, List.set_cons_zero, List.set_cons_succ]
                  refine takeN (i := 34) rfl rfl (by kernel_rfl) (by kernel_rfl) (by kernel_rfl) (by rfl) (fun _ _ _ h => h) (by assumption) ?_
                  try simp only [Act.put, List.setIfInBounds_toArray, List.set_cons_zero, List.set_cons_succ]
                  refine takeN (i := 35) rfl rfl (by kernel_rfl) (by kernel_rfl) (by kernel_rfl) (by rfl) (fun _ _ _ h => h) (by assumption) ?_
                  try simp only [Act.put, List.setIfInBounds_toArray, List.set_cons_zero, List.set_cons_succ]
                  refine takeN (i := 36) rfl rfl (by kernel_rfl) (by kernel_rfl) (by kernel_rfl) (by rfl) (fun _ _ _ h => h) (by assumption) ?_
                  try simp only [Act.put, List.setIfInBounds_toArray, List.set_cons_zero, List.set_cons_succ]
                  refine takeY (i := 37) (v := ?_) rfl rfl (by kernel_rfl) (by kernel_rfl) (by kernel_rfl) (by rfl) (fun _ _ _ h => h) ?z11xy25 (by assumption) ?z11xr25
                  case z11xy25 => (intro w hSw; (try dsimp only at hSw); go_simp; try with_reducible rfl)
                  try simp only [Act.put, List.setIfInBounds_toArray, List.set_cons_zero, List.set_cons_succ]
                  refine takeY (i := 38) (v := ?_) rfl rfl (by kernel_rfl) (by kernel_rfl) (by kernel_rfl) (by rfl) (fun _ _ _ h => h) ?z11xy26 (by assumption) ?z11xr26
                  case z11xy26 => (intro w hSw; (try dsimp only at hSw); go_simp; try with_reducible rfl)
                  try simp only [Act.put, List.setIfInBounds_toArray, List.set_cons_zero, List.set_cons_succ]
                  refine takeY (i := 39) (v := ?_) rfl rfl (by kernel_rfl) (by kernel_rfl) (by kernel_rfl) (by rfl) (fun _ _ _ h => h) ?z11xy27 (by assumption) ?z11xr27
                  case z11xy27 => (intro w hSw; (try dsimp only at hSw); go_simp; try with_reducible rfl)
                  try simp only [Act.put, List.setIfInBounds_toArray, List.set_cons_zero, List.set_cons_succ]
                  refine wpAnyH_done (by kernel_rfl) ?_ _
                  obtain ⟨zq, zf⟩ := row_at ZQ.out 3 _ rfl
                  go_upto_region 9 with fail
                  clear zq zf
                  obtain ⟨V, hV⟩ : ∃ V, u2.setCell ⟨w.heap.size, 3, none⟩ (.slice none 0 0) = V := ⟨_, rfl⟩
                  replace ZS : Hid (V.heap[w.heap.size + 1]? = some (.cells #[.int .i64 pc, .string pr, .int .i64 pv, .slice A1 g.length c1, .string pb, .int .i64 st, .slice B1 n1 m1] 40 (0, 0))) := (by show _ = _; rw [← hV]; exact sfar (by omega) ZS.out)
                  replace ZQ : Hid (V.heap[w.heap.size]? = some (.cells #[.string m, .string t, .int .i64 v, .slice none 0 0, .string b] 24 (0, 0))) := (by show _ = _; rw [← hV]; exact row_set (k := 3) ZQ.out (.slice none 0 0))
                  replace HB : Hid (Below w.heap.size w V) := (by show Below _ _ _; rw [← hV]; exact HB.out.setCell (p := ⟨w.heap.size, 3, none⟩) (Nat.le_refl _) _)
                  clear ZA ZP
                  try rw [hV]
                  clear hV
                  obtain ⟨q0, q1, q2, q3, q4⟩ := cel5r ZQ.out
                  obtain ⟨p0, p1, p2, p3, p4, p5, p6⟩ := cel7 ZS.out
                  go_wp2_with fail
                  refine (K2.out _ HB.out).mono ?_
                  rintro e v9 ⟨rfl, hb⟩
                  clear q0 q1 q2 q3 q4 p0 p1 p2 p3 p4 p5 p6
                  replace ZQ := Lib.hid (zero_still hb ZQ.out)
                  replace ZS := Lib.hid (zero_still hb ZS.out)
                  replace HB := Lib.hid (below_then HB.out hb)
                  clear hb
                  obtain ⟨q0, q1, q2, q3, q4⟩ := cel5r ZQ.out
                  obtain ⟨p0, p1, p2, p3, p4, p5, p6⟩ := cel7 ZS.out
                  go_wp2_with fail
                  refine (CX.out _ HB.out).mono ?_
                  rintro e v9 ⟨rfl, hb⟩
                  go_wp2_with fail
                  go_ret
                  exact ⟨rfl, below_then HB.out hb⟩
                · have m4 : amf ≤ lf := by omega
                  have d3 : decide (amf < 0) = false := decide_eq_false m3
                  have d4 : decide (amf ≤ lf) = true := decide_eq_true m4
                  have ZA : Hid (wc.drew.heap[R1]? = some (.cells #[.bool ans, .bool false, .bool apv, .bool apu, .bool amc, .bool aoi, .int .i64 ama, .int .i64 ash, .int .i64 amf] 44 (0, 0))) := HC.out.1
                  have ZP : Hid (wc.drew.heap[R2]? = some (.cells #[.bool ns, .bool false, .bool pv', .bool pu, .bool mc, .bool oi, .int .i64 ma, .int .i64 sh, .int .i64 mf] 44 (0, 0))) := HC.out.2.1
                  have ZQ : Hid (wc.drew.heap[w.heap.size]? = some (.cells #[.string m, .string t, .int .i64 v, .slice A0 f.length c0, .string b] 24 (0, 0))) := HC.out.2.2.1
                  have ZS : Hid (wc.drew.heap[w.heap.size + 1]? = some (.cells #[.int .i64 pc, .string pr, .int .i64 pv, .slice A1 g.length c1, .string pb, .int .i64 st, .slice B1 n1 m1] 40 (0, 0))) := HC.out.2.2.2.1
                  have HB := Lib.hid HC.out.2.2.2.2.1.drew
                  have HN := Lib.hid HC.out.2.2.2.2.2
                  clear HC
                  go_wp2_with fail
                  refine wp_region_held_drew (S := fun W => W.cell? ⟨w.heap.size + 1, 0, none⟩ = some (.int .i64 pc) ∧ W.cell? ⟨w.heap.size + 1, 1, none⟩ = some (.string pr) ∧ W.cell? ⟨w.heap.size + 1, 2, none⟩ = some (.int .i64 pv) ∧ W.cell? ⟨w.heap.size + 1, 3, none⟩ = some (.slice A1 g.length c1) ∧ W.cell? ⟨w.heap.size + 1, 4, none⟩ = some (.string pb) ∧ W.cell? ⟨w.heap.size + 1, 5, none⟩ = some (.int .i64 st) ∧ W.cell? ⟨w.heap.size + 1, 6, none⟩ = some (.slice B1 n1 m1) ∧ W.cell? ⟨R1, 1, none⟩ = some (.bool false) ∧ W.cell? ⟨R1, 6, none⟩ = some (.int .i64 ama) ∧ W.cell? ⟨R1, 8, none⟩ = some (.int .i64 amf) ∧ W.cell? ⟨R2, 1, none⟩ = some (.bool false)) (by kernel_rfl) (⟨(cel7 ZS.out).1, (cel7 ZS.out).2.1, (cel7 ZS.out).2.2.1, (cel7 ZS.out).2.2.2.1, (cel7 ZS.out).2.2.2.2.1, (cel7 ZS.out).2.2.2.2.2.1, (cel7 ZS.out).2.2.2.2.2.2, (cel9r ZA.out).2.1, (cel9r ZA.out).2.2.2.2.2.2.1, (cel9r ZA.out).2.2.2.2.2.2.2.2, (cel9r ZP.out).2.1⟩) (fun hHeld => ?_)
                  refine takeY (i := 0) (v := ?_) rfl rfl (by kernel_rfl) (by kernel_rfl) (by kernel_rfl) (by rfl) (fun _ _ _ h => h) ?z10xy1 (by assumption) ?z10xr1
                  case z10xy1 => (intro w hSw; (try dsimp only at hSw); go_simp; try with_reducible rfl)
                  try simp only [Act.put, List.setIfInBounds_toArray, List.set_cons_zero, List.set_cons_succ]
                  refine takeY (i := 1) (v := ?_) rfl rfl (by kernel_rfl) (by kernel_rfl) (by kernel_rfl) (by rfl) (fun _ _ _ h => h) ?z10xy2 (by assumption) ?z10xr2
                  case z10xy2 => (intro w hSw; (try dsimp only at hSw); go_simp; try with_reducible rfl)
                  try simp only [Act.put, List.setIfInBounds_toArray, List.set_cons_zero, List.set_cons_succ]
                  refine wpAnyH_ready (rs := [2]) (by kernel_rfl) (by simp) (AllReadyH.cons rfl (fun K hK => ?_) AllReadyH.nil)
                  go_simp
                  go_at_call 24
                  refine (K5.out _ HB.out).mono ?_
                  rintro e u2 ⟨rfl, hb⟩
                  replace ZA := Lib.hid (zero_still hb ZA.out)
                  replace ZP := Lib.hid (zero_still hb ZP.out)
                  replace ZQ := Lib.hid (zero_still hb ZQ.out)
                  replace ZS := Lib.hid (zero_still hb ZS.out)
                  replace HB := Lib.hid (below_then HB.out hb)
                  clear hb
                  go_wp2_with fail
                  refine hK.out _ _ (⟨(cel7 ZS.out).1, (cel7 ZS.out).2.1, (cel7 ZS.out).2.2.1, (cel7 ZS.out).2.2.2.1, (cel7 ZS.out).2.2.2.2.1, (cel7 ZS.out).2.2.2.2.2.1, (cel7 ZS.out).2.2.2.2.2.2, (cel9r ZA.out).2.1, (cel9r ZA.out).2.2.2.2.2.2.1, (cel9r ZA.out).2.2.2.2.2.2.2.2, (cel9r ZP.out).2.1⟩) (fun hHeld => ?_)
                  clear hK
                  try simp only [Act.put, List.setIfInBounds_toArray, List.set_cons_zero, List.set_cons_succ]
                  refine takeY (i := 3) (v := ?_) rfl rfl (by kernel_rfl) (by kernel_rfl) (by kernel_rfl) (by rfl) (fun _ _ _ h => h) ?z10xy3 (by assumption) ?z10xr3
                  case z10xy3 => (intro w hSw; (try dsimp only at hSw); go_simp; try with_reducible rfl)
                  try simp only [Act.put, List.setIfInBounds_toArray, List.set_cons_zero, List.set_cons_succ]
                  refine takeY (i := 4) (v := ?_) rfl rfl (by kernel_rfl) (by kernel_rfl) (by kernel_rfl) (by rfl) (fun _ _ _ h => h) ?z10xy4 (by assumption) ?z10xr4
                  case z10xy4 => (intro w hSw; (try dsimp only at hSw); go_simp; try with_reducible rfl)
                  try simp only [Act.put, List.setIfInBounds_toArray, List.set_cons_zero, List.set_cons_succ]
                  refine takeY (i := 5) (v := ?_) rfl rfl (by kernel_rfl) (by kernel_rfl) (by kernel_rfl) (by rfl) (fun _ _ _ h => h) ?z10xy5 (by assumption) ?z10xr5
                  case z10xy5 => (intro w hSw; (try dsimp only at hSw); go_simp; try with_reducible rfl)
                  try simp only [Act.put, List.setIfInBounds_toArray, List.set_cons_zero, List.set_cons_succ]
                  refine takeY (i := 6) (v := ?_) rfl rfl (by kernel_rfl) (by kernel_rfl) (by kernel_rfl) (by rfl) (fun _ _ _ h => h) ?z10xy6 (by assumption) ?z10xr6
                  case z10xy6 => (intro w hSw; (try dsimp only at hSw); go_simp; try with_reducible rfl)
                  try simp only [Act.put, List.setIfInBounds_toArray, List.set_cons_zero, List.set_cons_succ]
                  refine takeY (i := 7) (v := ?_) rfl rfl (by kernel_rfl) (by kernel_rfl) (by kernel_rfl) (by rfl) (fun _ _ _ h => h) ?z10xy7 (by assumption) ?z10xr7
                  case z10xy7 => (intro w hSw; (try dsimp only at hSw); go_simp; try with_reducible rfl)
                  try simp only [Act.put, List.setIfInBounds_toArray, List.set_cons_zero, List.set_cons_succ]
                  refine takeY (i := 8) (v := ?_) rfl rfl (by kernel_rfl) (by kernel_rfl) (by kernel_rfl) (by rfl) (fun _ _ _ h => h) ?z10xy8 (by assumption) ?z10xr8
                  case z10xy8 => (intro w hSw; (try dsimp only at hSw); go_simp; try with_reducible rfl)
                  try simp only [Act.put, List.setIfInBounds_toArray, List.set_cons_zero, List.set_cons_succ]
                  refine takeY (i := 9) (v := ?_) rfl rfl (by kernel_rfl) (by kernel_rfl) (by kernel_rfl) (by rfl) (fun _ _ _ h => h) ?z10xy9 (by assumption) ?z10xr9
                  case z10xy9 => (intro w hSw; (try dsimp only at hSw); go_simp; try with_reducible rfl)
                  try simp only [Act.put, List.setIfInBounds_toArray, List.set_cons_zero, List.set_cons_succ]
                  refine takeY (i := 10) (v := ?_) rfl rfl (by kernel_rfl) (by kernel_rfl) (by kernel_rfl) (by rfl) (fun _ _ _ h => h) ?z10xy10 (by assumption) ?z10xr10
                  case z10xy10 => (intro w hSw; (try dsimp only at hSw); go_simp; try with_reducible rfl)
                  try simp only [Act.put, List.setIfInBounds_toArray, List.set_cons_zero, List.set_cons_succ]
                  refine takeY (i := 11) (v := ?_) rfl rfl (by kernel_rfl) (by kernel_rfl) (by kernel_rfl) (by rfl) (fun _ _ _ h => h) ?z10xy11 (by assumption) ?z10xr11
                  case z10xy11 => (intro w hSw; (try dsimp only at hSw); go_simp; try with_reducible rfl)
                  try simp only [Act.put, List.setIfInBounds_toArray, List.set_cons_zero, List.set_cons_succ]
                  refine takeY (i := 12) (v := ?_) rfl rfl (by kernel_rfl) (by kernel_rfl) (by kernel_rfl) (by rfl) (fun _ _ _ h => h) ?z10xy12 (by assumption) ?z10xr12
                  case z10xy12 => (intro w hSw; (try dsimp only at hSw); go_simp; try with_reducible rfl)
                  try simp only [Act.put, List.setIfInBounds_toArray, List.set_cons_zero, List.set_cons_succ]
                  refine takeY (i := 13) (v := ?_) rfl rfl (by kernel_rfl) (by kernel_rfl) (by kernel_rfl) (by rfl) (fun _ _ _ h => h) ?z10xy13 (by assumption) ?z10xr13
                  case z10xy13 => (intro w hSw; (try dsimp only at hSw); go_simp; try with_reducible rfl)
                  try simp only [Act.put, List.setIfInBounds_toArray, List.set_cons_zero, List.set_cons_succ]
                  refine takeY (i := 14) (v := ?_) rfl rfl (by kernel_rfl) (by kernel_rfl) (by kernel_rfl) (by rfl) (fun _ _ _ h => h) ?z10xy14 (by assumption) ?z10xr14
                  case z10xy14 => (intro w hSw; (try dsimp only at hSw); go_simp; try with_reducible rfl)
                  try simp only [Act.put, List.setIfInBounds_toArray, List.set_cons_zero, List.set_cons_succ]
                  refine takeY (i := 15) (v := ?_) rfl rfl (by kernel_rfl) (by kernel_rfl) (by kernel_rfl) (by rfl) (fun _ _ _ h => h) ?z10xy15 (by assumption) ?z10xr15
                  case z10xy15 => (intro w hSw; (try dsimp only at hSw); go_simp; try with_reducible rfl)
                  try simp only [Act.put, List.setIfInBounds_toArray, List.set_cons_zero, List.set_cons_succ]
                  refine takeY (i := 16) (v := ?_) rfl rfl (by kernel_rfl) (by kernel_rfl) (by kernel_rfl) (by rfl) (fun _ _ _ h => h) ?z10xy16 (by assumption) ?z10xr16
                  case z10xy16 => (intro w hSw; (try dsimp only at hSw); go_simp; try with_reducible rfl)
                  try simp only [Act.put, List.setIfInBounds_toArray, List.set_cons_zero, List.set_cons_succ]
                  refine takeY (i := 17) (v := ?_) rfl rfl (by kernel_rfl) (by kernel_rfl) (by kernel_rfl) (by rfl) (fun _ _ _ h => h) ?z10xy17 (by assumption) ?z10xr17
                  case z10xy17 => (intro w hSw; (try dsimp only at hSw); go_simp; try with_reducible rfl)
                  try simp only [Act.put, List.setIfInBounds_toArray, List.set_cons_zero, List.set_cons_succ]
                  refine takeN (i := 18) rfl rfl (by kernel_rfl) (by kernel_rfl) (by kernel_rfl) (by rfl) (fun _ _ _ h => h) (by assumption) ?_
                  try simp only [Act.put, List.setIfInBounds_toArray, List.set_cons_zero, List.set_cons_succ]
                  refine takeN (i := 19) rfl rfl (by kernel_rfl) (by kernel_rfl) (by kernel_rfl) (by rfl) (fun _ _ _ h => h) (by assumption) ?_
                  try simp only [Act.put, List.setIfInBounds_toArray, List.set_cons_zero, List.set_cons_succ]
                  refine takeN (i := 20) rfl rfl (by kernel_rfl) (by kernel_rfl) (by kernel_rfl) (by rfl) (fun _ _ _ h => h) (by assumption) ?_
                  try simp only [Act.put, List.setIfInBounds_toArray, List.set_cons_zero, List.set_cons_succ]
                  refine takeN (i := 21) rfl rfl (by kernel_rfl) (by kernel_rfl) (by kernel_rfl) (by rfl) (fun _ _ _ h => h) (by assumption) ?_
                  try simp only [Act.put, List.setIfInBounds_toArray, List.set_cons_zero, List.set_cons_succ]
                  refine takeN (i := 22) rfl rfl (by kernel_rfl) (by kernel_rfl) (by kernel_rfl) (by rfl) (fun _ _ _ h => h) (by assumption) ?_
                  try simp only [Act.put, List.setIfInBounds_toArray, List.set_cons_zero, List.set_cons_succ]
                  refine takeN (i := 23) rfl rfl (by kernel_rfl) (by kernel_rfl) (by kernel_rfl) (by rfl) (fun _ _ _ h => h) (by assumption) ?_
                  try simp only [Act.put, List.setIfInBounds_toArray, List.set_cons_zero, List.set_cons_succ]
                  refine takeY (i := 24) (v := ?_) rfl rfl (by kernel_rfl) (by kernel_rfl) (by kernel_rfl) (by rfl) (fun _ _ _ h => h) ?z10xy18 (by assumption) ?z10xr18
                  case z10xy18 => (intro w hSw; (try dsimp only at hSw); go_simp; try with_reducible rfl)
                  try simp only [Act.put, List.setIfInBounds_toArray, List.set_cons_zero, List.set_cons_succ]
                  refine takeY (i := 25) (v := ?_) rfl rfl (by kernel_rfl) (by kernel_rfl) (by kernel_rfl) (by rfl) (fun _ _ _ h => h) ?z10xy19 (by assumption) ?z10xr19
                  case z10xy19 => (intro w hSw; (try dsimp only at hSw); go_simp; try with_reducible rfl)
                  try simp only [Act.put, List.setIfInBounds_toArray, List.set_cons_zero, List.set_cons_succ]
                  refine takeY (i := 26) (v := ?_) rfl rfl (by kernel_rfl) (by kernel_rfl) (by kernel_rfl) (by rfl) (fun _ _ _ h => h) ?z10xy20 (by assumption) ?z10xr20
                  case z10xy20 => (intro w hSw; (try dsimp only at hSw); go_simp; try with_reducible rfl)
                  try simp only [Act.put, List.setIfInBounds_toArray, List.set_cons_zero, List.set_cons_succ]
                  refine takeY (i := 27) (v := ?_) rfl rfl (by kernel_rfl) (by kernel_rfl) (by kernel_rfl) (by rfl) (fun _ _ _ h => h) ?z10xy21 (by assumption) ?z10xr21
                  case z10xy21 => (intro w hSw; (try dsimp only at hSw); go_simp; try with_reducible rfl)
                  try simp only [Act.put, List.setIfInBounds_toArray, List.set_cons_zero, List.set_cons_succ]
                  refine takeY (i := 28) (v := ?_) rfl rfl (by kernel_rfl) (by kernel_rfl) (by kernel_rfl) (by rfl) (fun _ _ _ h => h) ?z10xy22 (by assumption) ?z10xr22
                  case z10xy22 => (intro w hSw; (try dsimp only at hSw); go_simp; try with_reducible rfl)
                  try simp only [Act.put, List.setIfInBounds_toArray, List.set_cons_zero, List.set_cons_succ]
                  refine takeY (i := 29) (v := ?_) rfl rfl (by kernel_rfl) (by kernel_rfl) (by kernel_rfl) (by rfl) (fun _ _ _ h => h) ?z10xy23 (by assumption) ?z10xr23
                  case z10xy23 => (intro w hSw; (try dsimp only at hSw); go_simp; try with_reducible rfl)
                  try simp only [Act.put, List.setIfInBounds_toArray, List.set_cons_zero, List.set_cons_succ]
                  refine takeY (i := 30) (v := ?_) rfl rfl (by kernel_rfl) (by kernel_rfl) (by kernel_rfl) (by rfl) (fun _ _ _ h => h) ?z10xy24 (by assumption) ?z10xr24
                  case z10xy24 => (intro w hSw; (try dsimp only at hSw); go_simp; try with_reducible rfl)
                  try simp only [Act.put, List.setIfInBounds_toArray, List.set_cons_zero, List.set_cons_succ]
                  refine takeY (i := 31) (v := ?_) rfl rfl (by kernel_rfl) (by kernel_rfl) (by kernel_rfl) (by rfl) (fun _ _ _ h => h) ?z10xy25 (by assumption) ?z10xr25
                  case z10xy25 => (intro w hSw; (try dsimp only at hSw); go_simp; try with_reducible rfl)
                  try simp only [Act.put, List.setIfInBounds_toArray, List.set_cons_zero, List.set_cons_succ]
                  refine takeY (i := 32) (v := ?_) rfl rfl (by kernel_rfl) (by kernel_rfl) (by kernel_rfl) (by rfl) (fun _ _ _ h => h) ?z10xy26 (by assumption) ?z10xr26
                  case z10xy26 => (intro w hSw; (try dsimp only at hSw); go_simp; try with_reducible rfl)
                  try simp only [Act.put, List.setIfInBounds_toArray, List.set_cons_zero, List.set_cons_succ]
                  refine takeY (i := 34) (v := ?_) rfl rfl (by kernel_rfl) (by kernel_rfl) (by kernel_rfl) (by rfl) (fun _ _ _ h => h) ?z10xy27 (by assumption) ?z10xr27
                  case z10xy27 => (intro w hSw; (try dsimp only at hSw); go_simp; try with_reducible rfl)
                  try simp only [Act.put, List.setIfInBounds_toArray, List.set_cons_zero, List.set_cons_succ]
                  refine takeY (i := 35) (v := ?_) rfl rfl (by kernel_rfl) (by kernel_rfl) (by kernel_rfl) (by rfl) (fun _ _ _ h => h) ?z10xy28 (by assumption) ?z10xr28
                  case z10xy28 => (intro w hSw; (try dsimp only at hSw); go_simp; try with_reducible rfl)
                  try simp only [Act.put, List.setIfInBounds_toArray, List.set_cons_zero, List.set_cons_succ]
                  refine wpAnyH_ready (rs := [33]) (by kernel_rfl) (by simp) (AllReadyH.cons rfl (fun K hK => ?_) AllReadyH.nil)
                  go_simp
                  go_at_call 26
                  refine (K7.out _ HB.out).mono ?_
                  rintro e u33 ⟨rfl, hb⟩
                  replace ZA := Lib.hid (zero_still hb ZA.out)
                  replace ZP := Lib.hid (zero_still hb ZP.out)
                  replace ZQ := Lib.hid (zero_still hb ZQ.out)
                  replace ZS := Lib.hid (zero_still hb ZS.out)
                  replace HB := Lib.hid (below_then HB.out hb)
                  clear hb
                  go_wp2_with fail
                  refine hK.out _ _ (⟨(cel7 ZS.out).1, (cel7 ZS.out).2.1, (cel7 ZS.out).2.2.1, (cel7 ZS.out).2.2.2.1, (cel7 ZS.out).2.2.2.2.1, (cel7 ZS.out).2.2.2.2.2.1, (cel7 ZS.out).2.2.2.2.2.2, (cel9r ZA.out).2.1, (cel9r ZA.out).2.2.2.2.2.2.1, (cel9r ZA.out).2.2.2.2.2.2.2.2, (cel9r ZP.out).2.1⟩) (fun hHeld => ?_)
                  clear hK
                  try simp only [Act.put, List.setIfInBounds_toArray, List.set_cons_zero, List.set_cons_succ]
                  refine takeY (i := 36) (v := ?_) rfl rfl (by kernel_rfl) (by kernel_rfl) (by kernel_rfl) (by rfl) (fun _ _ _ h => h) ?z10xy29 (by assumption) ?z10xr29
                  case z10xy29 => (intro w hSw; (try dsimp only at hSw); go_simp; try with_reducible rfl)
                  try simp only [Act.put, List.setIfInBounds_toArray, List.set_cons_zero, List.set_cons_succ]
                  refine takeY (i := 37) (v := ?_) rfl rfl (by kernel_rfl) (by kernel_rfl) (by kernel_rfl) (by rfl) (fun _ _ _ h => h) ?z10xy30 (by assumption) ?z10xr30
                  case z10xy30 => (intro w hSw; (try dsimp only at hSw); go_simp; try with_reducible rfl)
                  try simp only [Act.put, List.setIfInBounds_toArray, List.set_cons_zero, List.set_cons_succ]
                  refine takeY (i := 38) (v := ?_) rfl rfl (by kernel_rfl) (by kernel_rfl) (by kernel_rfl) (by rfl) (fun _ _ _ h => h) ?z10xy31 (by assumption) ?z10xr31
                  case z10xy31 => (intro w hSw; (try dsimp only at hSw); go_simp; try with_reducible rfl)
                  try simp only [Act.put, List.setIfInBounds_toArray, List.set_cons_zero, List.set_cons_succ]
                  refine takeY (i := 39) (v := ?_) rfl rfl (by kernel_rfl) (by kernel_rfl) (by kernel_rfl) (by rfl) (fun _ _ _ h => h) ?z10xy32 (by assumption) ?z10xr32
                  case z10xy32 => (intro w hSw; (try dsimp only at hSw); go_simp; try with_reducible rfl)
                  try simp only [Act.put, List.setIfInBounds_toArray, List.set_cons_zero, List.set_cons_succ]
                  refine wpAnyH_done (by kernel_rfl) ?_ _
                  obtain ⟨zq, zf⟩ := row_at ZQ.out 3 _ rfl
                  go_upto_region 9 with fail
                  clear zq zf
                  obtain ⟨V, hV⟩ : ∃ V, u33.setCell ⟨w.heap.size, 3, none⟩ (.slice none 0 0) = V := ⟨_, rfl⟩
                  replace ZS : Hid (V.heap[w.heap.size + 1]? = some (.cells #[.int .i64 pc, .string pr, .int .i64 pv, .slice A1 g.length c1, .string pb, .int .i64 st, .slice B1 n1 m1] 40 (0, 0))) := (by show _ = _; rw [← hV]; exact sfar (by omega) ZS.out)
                  replace ZQ : Hid (V.heap[w.heap.size]? = some (.cells #[.string m, .string t, .int .i64 v, .slice none 0 0, .string b] 24 (0, 0))) := (by show _ = _; rw [← hV]; exact row_set (k := 3) ZQ.out (.slice none 0 0))
                  replace HB : Hid (Below w.heap.size w V) := (by show Below _ _ _; rw [← hV]; exact HB.out.setCell (p := ⟨w.heap.size, 3, none⟩) (Nat.le_refl _) _)
                  clear ZA ZP
                  try rw [hV]
                  clear hV
                  obtain ⟨q0, q1, q2, q3, q4⟩ := cel5r ZQ.out
                  obtain ⟨p0, p1, p2, p3, p4, p5, p6⟩ := cel7 ZS.out
                  go_wp2_with fail
                  refine (K2.out _ HB.out).mono ?_
                  rintro e v10 ⟨rfl, hb⟩
                  clear q0 q1 q2 q3 q4 p0 p1 p2 p3 p4 p5 p6
                  replace ZQ := Lib.hid (zero_still hb ZQ.out)
                  replace ZS := Lib.hid (zero_still hb ZS.out)
                  replace HB := Lib.hid (below_then HB.out hb)
                  clear hb
                  obtain ⟨q0, q1, q2, q3, q4⟩ := cel5r ZQ.out
                  obtain ⟨p0, p1, p2, p3, p4, p5, p6⟩ := cel7 ZS.out
                  go_wp2_with fail
                  refine (CX.out _ HB.out).mono ?_
                  rintro e v9 ⟨rfl, hb⟩
                  go_wp2_with fail
                  go_ret
                  exact ⟨rfl, below_then HB.out hb⟩
              · have m2 : ag ≤ ama := by omega
                have d1 : decide (ama < 0) = false := decide_eq_false m1'
                have d2 : decide (ag ≤ ama) = true := decide_eq_true m2
                by_cases m3 : amf < 0
                · have d3 : decide (amf < 0) = true := decide_eq_true m3
                  have ZA : Hid (wc.drew.heap[R1]? = some (.cells #[.bool ans, .bool false, .bool apv, .bool apu, .bool amc, .bool aoi, .int .i64 ama, .int .i64 ash, .int .i64 amf] 44 (0, 0))) := HC.out.1
                  have ZP : Hid (wc.drew.heap[R2]? = some (.cells #[.bool ns, .bool false, .bool pv', .bool pu, .bool mc, .bool oi, .int .i64 ma, .int .i64 sh, .int .i64 mf] 44 (0, 0))) := HC.out.2.1
                  have ZQ : Hid (wc.drew.heap[w.heap.size]? = some (.cells #[.string m, .string t, .int .i64 v, .slice A0 f.length c0, .string b] 24 (0, 0))) := HC.out.2.2.1
                  have ZS : Hid (wc.drew.heap[w.heap.size + 1]? = some (.cells #[.int .i64 pc, .string pr, .int .i64 pv, .slice A1 g.length c1, .string pb, .int .i64 st, .slice B1 n1 m1] 40 (0, 0))) := HC.out.2.2.2.1
                  have HB := Lib.hid HC.out.2.2.2.2.1.drew
                  have HN := Lib.hid HC.out.2.2.2.2.2
                  clear HC
                  go_wp2_with fail
                  refine wp_region_held_drew (S := fun W => W.cell? ⟨w.heap.size + 1, 0, none⟩ = some (.int .i64 pc) ∧ W.cell? ⟨w.heap.size + 1, 1, none⟩ = some (.string pr) ∧ W.cell? ⟨w.heap.size + 1, 2, none⟩ = some (.int .i64 pv) ∧ W.cell? ⟨w.heap.size + 1, 3, none⟩ = some (.slice A1 g.length c1) ∧ W.cell? ⟨w.heap.size + 1, 4, none⟩ = some (.string pb) ∧ W.cell? ⟨w.heap.size + 1, 5, none⟩ = some (.int .i64 st) ∧ W.cell? ⟨w.heap.size + 1, 6, none⟩ = some (.slice B1 n1 m1) ∧ W.cell? ⟨R1, 1, none⟩ = some (.bool false) ∧ W.cell? ⟨R1, 6, none⟩ = some (.int .i64 ama) ∧ W.cell? ⟨R1, 8, none⟩ = some (.int .i64 amf) ∧ W.cell? ⟨R2, 1, none⟩ = some (.bool false)) (by kernel_rfl) (⟨(cel7 ZS.out).1, (cel7 ZS.out).2.1, (cel7 ZS.out).2.2.1, (cel7 ZS.out).2.2.2.1, (cel7 ZS.out).2.2.2.2.1, (cel7 ZS.out).2.2.2.2.2.1, (cel7 ZS.out).2.2.2.2.2.2, (cel9r ZA.out).2.1, (cel9r ZA.out).2.2.2.2.2.2.1, (cel9r ZA.out).2.2.2.2.2.2.2.2, (cel9r ZP.out).2.1⟩) (fun hHeld => ?_)
                  refine takeY (i := 0) (v := ?_) rfl rfl (by kernel_rfl) (by kernel_rfl) (by kernel_rfl) (by rfl) (fun _ _ _ h => h) ?z01xy1 (by assumption) ?z01xr1
                  case z01xy1 => (intro w hSw; (try dsimp only at hSw); go_simp; try with_reducible rfl)
                  try simp only [Act.put, List.setIfInBounds_toArray, List.set_cons_zero, List.set_cons_succ]
                  refine takeY (i := 1) (v := ?_) rfl rfl (by kernel_rfl) (by kernel_rfl) (by kernel_rfl) (by rfl) (fun _ _ _ h => h) ?z01xy2 (by assumption) ?z01xr2
                  case z01xy2 => (intro w hSw; (try dsimp only at hSw); go_simp; try with_reducible rfl)
                  try simp only [Act.put, List.setIfInBounds_toArray, List.set_cons_zero, List.set_cons_succ]
                  refine wpAnyH_ready (rs := [2]) (by kernel_rfl) (by simp) (AllReadyH.cons rfl (fun K hK => ?_) AllReadyH.nil)
                  go_simp
                  go_at_call 24
                  refine (K5.out _ HB.out).mono ?_
                  rintro e u2 ⟨rfl, hb⟩
                  replace ZA := Lib.hid (zero_still hb ZA.out)
                  replace ZP := Lib.hid (zero_still hb ZP.out)
                  replace ZQ := Lib.hid (zero_still hb ZQ.out)
                  replace ZS := Lib.hid (zero_still hb ZS.out)
                  replace HB := Lib.hid (below_then HB.out hb)
                  clear hb
                  go_wp2_with fail
                  refine hK.out _ _ (⟨(cel7 ZS.out).1, (cel7 ZS.out).2.1, (cel7 ZS.out).2.2.1, (cel7 ZS.out).2.2.2.1, (cel7 ZS.out).2.2.2.2.1, (cel7 ZS.out).2.2.2.2.2.1, (cel7 ZS.out).2.2.2.2.2.2, (cel9r ZA.out).2.1, (cel9r ZA.out).2.2.2.2.2.2.1, (cel9r ZA.out).2.2.2.2.2.2.2.2, (cel9r ZP.out).2.1⟩) (fun hHeld => ?_)
                  clear hK
                  try simp only [Act.put, List.setIfInBounds_toArray, List.set_cons_zero, List.set_cons_succ]
                  refine takeY (i := 3) (v := ?_) rfl rfl (by kernel_rfl) (by kernel_rfl) (by kernel_rfl) (by rfl) (fun _ _ _ h => h) ?z01xy3 (by assumption) ?z01xr3
                  case z01xy3 => (intro w hSw; (try dsimp only at hSw); go_simp; try with_reducible rfl)
                  try simp only [Act.put, List.setIfInBounds_toArray, List.set_cons_zero, List.set_cons_succ]
                  refine takeY (i := 4) (v := ?_) rfl rfl (by kernel_rfl) (by kernel_rfl) (by kernel_rfl) (by rfl) (fun _ _ _ h => h) ?z01xy4 (by assumption) ?z01xr4
                  case z01xy4 => (intro w hSw; (try dsimp only at hSw); go_simp; try with_reducible rfl)
                  try simp only [Act.put, List.setIfInBounds_toArray, List.set_cons_zero, List.set_cons_succ]
                  refine takeY (i := 5) (v := ?_) rfl rfl (by kernel_rfl) (by kernel_rfl) (by kernel_rfl) (by rfl) (fun _ _ _ h => h) ?z01xy5 (by assumption) ?z01xr5
                  case z01xy5 => (intro w hSw; (try dsimp only at hSw); go_simp; try with_reducible rfl)
                  try simp only [Act.put, List.setIfInBounds_toArray, List.set_cons_zero, List.set_cons_succ]
                  refine takeY (i := 6) (v := ?_) rfl rfl (by kernel_rfl) (by kernel_rfl) (by kernel_rfl) (by rfl) (fun _ _ _ h => h) ?z01xy6 (by assumption) ?z01xr6
                  case z01xy6 => (intro w hSw; (try dsimp only at hSw); go_simp; try with_reducible rfl)
                  try simp only [Act.put, List.setIfInBounds_toArray, List.set_cons_zero, List.set_cons_succ]
                  refine takeY (i := 7) (v := ?_) rfl rfl (by kernel_rfl) (by kernel_rfl) (by kernel_rfl) (by rfl) (fun _ _ _ h => h) ?z01xy7 (by assumption) ?z01xr7
                  case z01xy7 => (intro w hSw; (try dsimp only at hSw); go_simp; try with_reducible rfl)
                  try simp only [Act.put, List.setIfInBounds_toArray, List.set_cons_zero, List.set_cons_succ]
                  refine takeY (i := 8) (v := ?_) rfl rfl (by kernel_rfl) (by kernel_rfl) (by kernel_rfl) (by rfl) (fun _ _ _ h => h) ?z01xy8 (by assumption) ?z01xr8
                  case z01xy8 => (intro w hSw; (try dsimp only at hSw); go_simp; try with_reducible rfl)
                  try simp only [Act.put, List.setIfInBounds_toArray, List.set_cons_zero, List.set_cons_succ]
                  refine takeY (i := 9) (v := ?_) rfl rfl (by kernel_rfl) (by kernel_rfl) (by kernel_rfl) (by rfl) (fun _ _ _ h => h) ?z01xy9 (by assumption) ?z01xr9
                  case z01xy9 => (intro w hSw; (try dsimp only at hSw); go_simp; try with_reducible rfl)
                  try simp only [Act.put, List.setIfInBounds_toArray, List.set_cons_zero, List.set_cons_succ]
                  refine takeY (i := 10) (v := ?_) rfl rfl (by kernel_rfl) (by kernel_rfl) (by kernel_rfl) (by rfl) (fun _ _ _ h => h) ?z01xy10 (by assumption) ?z01xr10
                  case z01xy10 => (intro w hSw; (try dsimp only at hSw); go_simp; try with_reducible rfl)
                  try simp only [Act.put, List.setIfInBounds_toArray, List.set_cons_zero, List.set_cons_succ]
                  refine takeY (i := 11) (v := ?_) rfl rfl (by kernel_rfl) (by kernel_rfl) (by kernel_rfl) (by rfl) (fun _ _ _ h => h) ?z01xy11 (by assumption) ?z01xr11
                  case z01xy11 => (intro w hSw; (try dsimp only at hSw); go_simp; try with_reducible rfl)
                  try simp only [Act.put, List.setIfInBounds_toArray, List.set_cons_zero, List.set_cons_succ]
                  refine takeY (i := 12) (v := ?_) rfl rfl (by kernel_rfl) (by kernel_rfl) (by kernel_rfl) (by rfl) (fun _ _ _ h => h) ?z01xy12 (by assumption) ?z01xr12
                  case z01xy12 => (intro w hSw; (try dsimp only at hSw); go_simp; try with_reducible rfl)
                  try simp only [Act.put, List.setIfInBounds_toArray, List.set_cons_zero, List.set_cons_succ]
                  refine takeY (i := 13) (v := ?_) rfl rfl (by kernel_rfl) (by kernel_rfl) (by kernel_rfl) (by rfl) (fun _ _ _ h => h) ?z01xy13 (by assumption) ?z01xr13
                  case z01xy13 => (intro w hSw; (try dsimp only at hSw); go_simp; try with_reducible rfl)
                  try simp only [Act.put, List.setIfInBounds_toArray, List.set_cons_zero, List.set_cons_succ]
                  refine takeY (i := 14) (v := ?_) rfl rfl (by kernel_rfl) (by kernel_rfl) (by kernel_rfl) (by rfl) (fun _ _ _ h => h) ?z01xy14 (by assumption) ?z01xr14
                  case z01xy14 => (intro w hSw; (try dsimp only at hSw); go_simp; try with_reducible rfl)
                  try simp only [Act.put, List.setIfInBounds_toArray, List.set_cons_zero, List.set_cons_succ]
                  refine takeY (i := 15) (v := ?_) rfl rfl (by kernel_rfl) (by kernel_rfl) (by kernel_rfl) (by rfl) (fun _ _ _ h => h) ?z01xy15 (by assumption) ?z01xr15
                  case z01xy15 => (intro w hSw; (try dsimp only at hSw); go_simp; try with_reducible rfl)
                  try simp only [Act.put, List.setIfInBounds_toArray, List.set_cons_zero, List.set_cons_succ]
                  refine takeY (i := 16) (v := ?_) rfl rfl (by kernel_rfl) (by kernel_rfl) (by kernel_rfl) (by rfl) (fun _ _ _ h => h) ?z01xy16 (by assumption) ?z01xr16
                  case z01xy16 => (intro w hSw; (try dsimp only at hSw); go_simp; try with_reducible rfl)
                  try simp only [Act.put, List.setIfInBounds_toArray, List.set_cons_zero, List.set_cons_succ]
                  refine takeY (i := 17) (v := ?_) rfl rfl (by kernel_rfl) (by kernel_rfl) (by kernel_rfl) (by rfl) (fun _ _ _ h => h) ?z01xy17 (by assumption) ?z01xr17
                  case z01xy17 => (intro w hSw; (try dsimp only at hSw); go_simp; try with_reducible rfl)
                  try simp only [Act.put, List.setIfInBounds_toArray, List.set_cons_zero, List.set_cons_succ]
                  refine takeY (i := 18) (v := ?_) rfl rfl (by kernel_rfl) (by kernel_rfl) (by kernel_rfl) (by rfl) (fun _ _ _ h => h) ?z01xy18 (by assumption) ?z01xr18
                  case z01xy18 => (intro w hSw; (try dsimp only at hSw); go_simp; try with_reducible rfl)
                  try simp only [Act.put, List.setIfInBounds_toArray, List.set_cons_zero, List.set_cons_succ]
                  refine takeY (i := 19) (v := ?_) rfl rfl (by kernel_rfl) (by kernel_rfl) (by kernel_rfl) (by rfl) (fun _ _ _ h => h) ?z01xy19 (by assumption) ?z01xr19
                  case z01xy19 => (intro w hSw; (try dsimp only at hSw); go_simp; try with_reducible rfl)
                  try simp only [Act.put, List.setIfInBounds_toArray, List.set_cons_zero, List.set_cons_succ]
                  refine takeY (i := 21) (v := ?_) rfl rfl (by kernel_rfl) (by kernel_rfl) (by kernel_rfl) (by rfl) (fun _ _ _ h => h) ?z01xy20 (by assumption) ?z01xr20
                  case z01xy20 => (intro w hSw; (try dsimp only at hSw); go_simp; try with_reducible rfl)
                  try simp only [Act.put, List.setIfInBounds_toArray, List.set_cons_zero, List.set_cons_succ]
                  refine takeY (i := 22) (v := ?_) rfl rfl (by kernel_rfl) (by kernel_rfl) (by kernel_rfl) (by rfl) (fun _ _ _ h => h) ?z01xy21 (by assumption) ?z01xr21
                  case z01xy21 => (intro w hSw; (try dsimp only at hSw); go_simp; try with_reducible rfl)
                  try simp only [Act.put, List.setIfInBounds_toArray, List.set_cons_zero, List.set_cons_succ]
                  refine wpAnyH_ready (rs := [20]) (by kernel_rfl) (by simp) (AllReadyH.cons rfl (fun K hK => ?_) AllReadyH.nil)
                  go_simp
                  go_at_call 25
                  refine (K6.out _ HB.out).mono ?_
                  rintro e u20 ⟨rfl, hb⟩
                  replace ZA := Lib.hid (zero_still hb ZA.out)
                  replace ZP := Lib.hid (zero_still hb ZP.out)
                  replace ZQ := Lib.hid (zero_still hb ZQ.out)
                  replace ZS := Lib.hid (zero_still hb ZS.out)
                  replace HB := Lib.hid (below_then HB.out hb)
                  clear hb
                  go_wp2_with fail
                  refine hK.out _ _ (⟨(cel7 ZS.out).1, (cel7 ZS.out).2.1, (cel7 ZS.out).2.2.1, (cel7 ZS.out).2.2.2.1, (cel7 ZS.out).2.2.2.2.1, (cel7 ZS.out).2.2.2.2.2.1, (cel7 ZS.out).2.2.2.2.2.2, (cel9r ZA.out).2.1, (cel9r ZA.out).2.2.2.2.2.2.1, (cel9r ZA.out).2.2.2.2.2.2.2.2, (cel9r ZP.out).2.1⟩) (fun hHeld => ?_)
                  clear hK
                  try simp only [Act.put, List.setIfInBounds_toArray, List.set_cons_zero, List.set_cons_succ]
                  refine takeY (i := 23) (v := ?_) rfl rfl (by kernel_rfl) (by kernel_rfl) (by kernel_rfl) (by rfl) (fun _ _ _ h => h) ?z01xy22 (by assumption) ?z01xr22
                  case z01xy22 => (intro w hSw; (try dsimp only at hSw); go_simp; try with_reducible rfl)
                  try simp only [Act.put, List.setIfInBounds_toArray, List.set_cons_zero, List.set_cons_succ]
                  refine takeY (i := 24) (v := ?_) rfl rfl (by kernel_rfl) (by kernel_rfl) (by kernel_rfl) (by rfl) (fun _ _ _ h => h) ?z01xy23 (by assumption) ?z01xr23
                  case z01xy23 => (intro w hSw; (try dsimp only at hSw); go_simp; try with_reducible rfl)
                  try simp only [Act.put, List.setIfInBounds_toArray, List.set_cons_zero, List.set_cons_succ]
                  refine takeY (i := 25) (v := ?_) rfl rfl (by kernel_rfl) (by kernel_rfl) (by kernel_rfl) (by rfl) (fun _ _ _ h => h) ?z01xy24 (by assumption) ?z01xr24
                  case z01xy24 => (intro w hSw; (try dsimp only at hSw); go_simp; try with_reducible rfl)
                  try simp only [Act.put, List.setIfInBounds_toArray, List.set_cons_zero, List.set_cons_succ]
                  refine takeY (i := 26) (v := ?_) rfl rfl (by kernel_rfl) (by kernel_rfl) (by kernel_rfl) (by rfl) (fun _ _ _ h => h) ?z01xy25 (by assumption) ?z01xr25
                  case z01xy25 => (intro w hSw; (try dsimp only at hSw); go_simp; try with_reducible rfl)
                  try simp only [Act.put, List.setIfInBounds_toArray, List.set_cons_zero, List.set_cons_succ]
                  refine takeY (i := 27) (v := ?_) rfl rfl (by kernel_rfl) (by kernel_rfl) (by kernel_rfl) (by rfl) (fun _ _ _ h => h) ?z01xy26 (by assumption) ?z01xr26
                  case z01xy26 => (intro w hSw; (try dsimp only at hSw); go_simp; try with_reducible rfl)
                  try simp only [Act.put, List.setIfInBounds_toArray, List.set_cons_zero, List.set_cons_succ]
                  refine takeY (i := 28) (v := ?_) rfl rfl (by kernel_rfl) (by kernel_rfl) (by kernel_rfl) (by rfl) (fun _ _ _ h => h) ?z01xy27 (by assumption) ?z01xr27
                  case z01xy27 => (intro w hSw; (try dsimp only at hSw); go_simp; try with_reducible rfl)
                  try simp only [Act.put, List.setIfInBounds_toArray, List.set_cons_zero, List.set_cons_succ]
                  refine takeY (i := 29) (v := ?_) rfl rfl (by kernel_rfl) (by kernel_rfl) (by kernel_rfl) (by rfl) (fun _ _ _ h => h) ?z01xy28 (by assumption) ?z01xr28
                  case z01xy28 => (intro w hSw; (try dsimp only at hSw); go_simp; try with_reducible rfl)
                  try simp only [Act.put, List.setIfInBounds_toArray, List.set_cons_zero, List.set_cons_succ]
                  refine takeY (i := 30) (v := ?_) rfl rfl (by kernel_rfl) (by kernel_rfl) (by kernel_rfl) (by rfl) (fun _ _ _ h => h) ?z01xy29 (by assumption) ?z01xr29
                  case z01xy29 => (intro w hSw; (try dsimp only at hSw); go_simp; try with_reducible rfl)
                  try simp only [Act.put, List.setIfInBounds_toArray, List.set_cons_zero, List.set_cons_succ]
                  refine takeN (i := 31) rfl rfl (by kernel_rfl) (by kernel_rfl) (by kernel_rfl) (by rfl) (fun _ _ _ h => h) (by assumption) ?_
                  try simp only [Act.put, List.setIfInBounds_toArray, List.set_cons_zero, List.set_cons_succ]
                  refine takeN (i := 32) rfl rfl (by kernel_rfl) (by kernel_rfl) (by kernel_rfl) (by rfl) (fun _ _ _ h => h) (by assumption) ?_
                  try simp only [Act.put, List.setIfInBounds_toArray, List.set_cons_zero, List.set_cons_succ]
                  refine takeN (i := 33) rfl rfl (by kernel_rfl) (by kernel_rfl) (by kernel_rfl) (by rfl) (fun _ _ _ h => h) (by assumption) ?_
                  try simp only [Act.put, List.setIfInBounds_toArray, List.set_cons_zero, List.set_cons_succ]
                  refine takeN (i := 34) rfl rfl (by kernel_rfl) (by kernel_rfl) (by kernel_rfl) (by rfl) (fun _ _ _ h => h) (by assumption) ?_
                  try simp only [Act.put, List.setIfInBounds_toArray, List.set_cons_zero, List.set_cons_succ]
                  refine takeN (i := 35) rfl rfl (by kernel_rfl) (by kernel_rfl) (by kernel_rfl) (by rfl) (fun _ _ _ h => h) (by assumption) ?_
                  try simp only [Act.put, List.setIfInBounds_toArray, List.set_cons_zero, List.set_cons_succ]
                  refine takeN (i := 36) rfl rfl (by kernel_rfl) (by kernel_rfl) (by kernel_rfl) (by rfl) (fun _ _ _ h => h) (by assumption) ?_
                  try simp only [Act.put, List.setIfInBounds_toArray, List.set_cons_zero, List.set_cons_succ]
                  refine takeY (i := 37) (v := ?_) rfl rfl (by kernel_rfl) (by kernel_rfl) (by kernel_rfl) (by rfl) (fun _ _ _ h => h) ?z01xy30 (by assumption) ?z01xr30
                  case z01xy30 => (intro w hSw; (try dsimp only at hSw); go_simp; try with_reducible rfl)
                  try simp only [Act.put, List.setIfInBounds_toArray, List.set_cons_zero, List.set_cons_succ]
                  refine takeY (i := 38) (v := ?_) rfl rfl (by kernel_rfl) (by kernel_rfl) (by kernel_rfl) (by rfl) (fun _ _ _ h => h) ?z01xy31 (by assumption) ?z01xr31
                  case z01xy31 => (intro w hSw; (try dsimp only at hSw); go_simp; try with_reducible rfl)
                  try simp only [Act.put, List.setIfInBounds_toArray, List.set_cons_zero, List.set_cons_succ]
                  refine takeY (i := 39) (v := ?_) rfl rfl (by kernel_rfl) (by kernel_rfl) (by kernel_rfl) (by rfl) (fun _ _ _ h => h) ?z01xy32 (by assumption) ?z01xr32
                  case z01xy32 => (intro w hSw; (try dsimp only at hSw); go_simp; try with_reducible rfl)
                  try simp only [Act.put, List.setIfInBounds_toArray, List.set_cons_zero, List.set_cons_succ]
                  refine wpAnyH_done (by kernel_rfl) ?_ _
                  obtain ⟨zq, zf⟩ := row_at ZQ.out 3 _ rfl
                  go_upto_region 9 with fail
                  clear zq zf
                  obtain ⟨V, hV⟩ : ∃ V, u20.setCell ⟨w.heap.size, 3, none⟩ (.slice none 0 0) = V := ⟨_, rfl⟩
                  replace ZS : Hid (V.heap[w.heap.size + 1]? = some (.cells #[.int .i64 pc, .string pr, .int .i64 pv, .slice A1 g.length c1, .string pb, .int .i64 st, .slice B1 n1 m1] 40 (0, 0))) := (by show _ = _; rw [← hV]; exact sfar (by omega) ZS.out)
                  replace ZQ : Hid (V.heap[w.heap.size]? = some (.cells #[.string m, .string t, .int .i64 v, .slice none 0 0, .string b] 24 (0, 0))) := (by show _ = _; rw [← hV]; exact row_set (k := 3) ZQ.out (.slice none 0 0))
                  replace HB : Hid (Below w.heap.size w V) := (by show Below _ _ _; rw [← hV]; exact HB.out.setCell (p := ⟨w.heap.size, 3, none⟩) (Nat.le_refl _) _)
                  clear ZA ZP
                  try rw [hV]
                  clear hV
                  obtain ⟨q0, q1, q2, q3, q4⟩ := cel5r ZQ.out
                  obtain ⟨p0, p1, p2, p3, p4, p5, p6⟩ := cel7 ZS.out
                  go_wp2_with fail
                  refine (K2.out _ HB.out).mono ?_
                  rintro e v11 ⟨rfl, hb⟩
                  clear q0 q1 q2 q3 q4 p0 p1 p2 p3 p4 p5 p6
                  replace ZQ := Lib.hid (zero_still hb ZQ.out)
                  replace ZS := Lib.hid (zero_still hb ZS.out)
                  replace HB := Lib.hid (below_then HB.out hb)
                  clear hb
                  obtain ⟨q0, q1, q2, q3, q4⟩ := cel5r ZQ.out
                  obtain ⟨p0, p1, p2, p3, p4, p5, p6⟩ := cel7 ZS.out
                  go_wp2_with fail
                  refine (CX.out _ HB.out).mono ?_
                  rintro e v9 ⟨rfl, hb⟩
                  go_wp2_with fail
                  go_ret
                  exact ⟨rfl, below_then HB.out hb⟩
                · have m4 : amf ≤ lf := by omega
                  have d3 : decide (amf < 0) = false := decide_eq_false m3
                  have d4 : decide (amf ≤ lf) = true := decide_eq_true m4
                  have ZA : Hid (wc.drew.heap[R1]? = some (.cells #[.bool ans, .bool false, .bool apv, .bool apu, .bool amc, .bool aoi, .int .i64 ama, .int .i64 ash, .int .i64 amf] 44 (0, 0))) := HC.out.1
                  have ZP : Hid (wc.drew.heap[R2]? = some (.cells #[.bool ns, .bool false, .bool pv', .bool pu, .bool mc, .bool oi, .int .i64 ma, .int .i64 sh, .int .i64 mf] 44 (0, 0))) := HC.out.2.1
                  have ZQ : Hid (wc.drew.heap[w.heap.size]? = some (.cells #[.string m, .string t, .int .i64 v, .slice A0 f.length c0, .string b] 24 (0, 0))) := HC.out.2.2.1
                  have ZS : Hid (wc.drew.heap[w.heap.size + 1]? = some (.cells #[.int .i64 pc, .string pr, .int .i64 pv, .slice A1 g.length c1, .string pb, .int .i64 st, .slice B1 n1 m1] 40 (0, 0))) := HC.out.2.2.2.1
                  have HB := Lib.hid HC.out.2.2.2.2.1.drew
                  have HN := Lib.hid HC.out.2.2.2.2.2
                  clear HC
                  go_wp2_with fail
                  refine wp_region_held_drew (S := fun W => W.cell? ⟨w.heap.size + 1, 0, none⟩ = some (.int .i64 pc) ∧ W.cell? ⟨w.heap.size + 1, 1, none⟩ = some (.string pr) ∧ W.cell? ⟨w.heap.size + 1, 2, none⟩ = some (.int .i64 pv) ∧ W.cell? ⟨w.heap.size + 1, 3, none⟩ = some (.slice A1 g.length c1) ∧ W.cell? ⟨w.heap.size + 1, 4, none⟩ = some (.string pb) ∧ W.cell? ⟨w.heap.size + 1, 5, none⟩ = some (.int .i64 st) ∧ W.cell? ⟨w.heap.size + 1, 6, none⟩ = some (.slice B1 n1 m1) ∧ W.cell? ⟨R1, 1, none⟩ = some (.bool false) ∧ W.cell? ⟨R1, 6, none⟩ = some (.int .i64 ama) ∧ W.cell? ⟨R1, 8, none⟩ = some (.int .i64 amf) ∧ W.cell? ⟨R2, 1, none⟩ = some (.bool false)) (by kernel_rfl) (⟨(cel7 ZS.out).1, (cel7 ZS.out).2.1, (cel7 ZS.out).2.2.1, (cel7 ZS.out).2.2.2.1, (cel7 ZS.out).2.2.2.2.1, (cel7 ZS.out).2.2.2.2.2.1, (cel7 ZS.out).2.2.2.2.2.2, (cel9r ZA.out).2.1, (cel9r ZA.out).2.2.2.2.2.2.1, (cel9r ZA.out).2.2.2.2.2.2.2.2, (cel9r ZP.out).2.1⟩) (fun hHeld => ?_)
                  refine takeY (i := 0) (v := ?_) rfl rfl (by kernel_rfl) (by kernel_rfl) (by kernel_rfl) (by rfl) (fun _ _ _ h => h) ?z00xy1 (by assumption) ?z00xr1
                  case z00xy1 => (intro w hSw; (try dsimp only at hSw); go_simp; try with_reducible rfl)
                  try simp only [Act.put, List.setIfInBounds_toArray, List.set_cons_zero, List.set_cons_succ]
                  refine takeY (i := 1) (v := ?_) rfl rfl (by kernel_rfl) (by kernel_rfl) (by kernel_rfl) (by rfl) (fun _ _ _ h => h) ?z00xy2 (by assumption) ?z00xr2
                  case z00xy2 => (intro w hSw; (try dsimp only at hSw); go_simp; try with_reducible rfl)
                  try simp only [Act.put, List.setIfInBounds_toArray, List.set_cons_zero, List.set_cons_succ]
                  refine wpAnyH_ready (rs := [2]) (by kernel_rfl) (by simp) (AllReadyH.cons rfl (fun K hK => ?_) AllReadyH.nil)
                  go_simp
                  go_at_call 24
                  refine (K5.out _ HB.out).mono ?_
                  rintro e u2 ⟨rfl, hb⟩
                  replace ZA := Lib.hid (zero_still hb ZA.out)
                  replace ZP := Lib.hid (zero_still hb ZP.out)
                  replace ZQ := Lib.hid (zero_still hb ZQ.out)
                  replace ZS := Lib.hid (zero_still hb ZS.out)
                  replace HB := Lib.hid (below_then HB.out hb)
                  clear hb
                  go_wp2_with fail
                  refine hK.out _ _ (⟨(cel7 ZS.out).1, (cel7 ZS.out).2.1, (cel7 ZS.out).2.2.1, (cel7 ZS.out).2.2.2.1, (cel7 ZS.out).2.2.2.2.1, (cel7 ZS.out).2.2.2.2.2.1, (cel7 ZS.out).2.2.2.2.2.2, (cel9r ZA.out).2.1, (cel9r ZA.out).2.2.2.2.2.2.1, (cel9r ZA.out).2.2.2.2.2.2.2.2, (cel9r ZP.out).2.1⟩) (fun hHeld => ?_)
                  clear hK
                  try simp only [Act.put, List.setIfInBounds_toArray, List.set_cons_zero, List.set_cons_succ]
                  refine takeY (i := 3) (v := ?_) rfl rfl (by kernel_rfl) (by kernel_rfl) (by kernel_rfl) (by rfl) (fun _ _ _ h => h) ?z00xy3 (by assumption) ?z00xr3
                  case z00xy3 => (intro w hSw; (try dsimp only at hSw); go_simp; try with_reducible rfl)
                  try simp only [Act.put, List.setIfInBounds_toArray, List.set_cons_zero, List.set_cons_succ]
                  refine takeY (i := 4) (v := ?_) rfl rfl (by kernel_rfl) (by kernel_rfl) (by kernel_rfl) (by rfl) (fun _ _ _ h => h) ?z00xy4 (by assumption) ?z00xr4
                  case z00xy4 => (intro w hSw; (try dsimp only at hSw); go_simp; try with_reducible rfl)
                  try simp only [Act.put, List.setIfInBounds_toArray, List.set_cons_zero, List.set_cons_succ]
                  refine takeY (i := 5) (v := ?_) rfl rfl (by kernel_rfl) (by kernel_rfl) (by kernel_rfl) (by rfl) (fun _ _ _ h => h) ?z00xy5 (by assumption) ?z00xr5
                  case z00xy5 => (intro w hSw; (try dsimp only at hSw); go_simp; try with_reducible rfl)
                  try simp only [Act.put, List.setIfInBounds_toArray, List.set_cons_zero, List.set_cons_succ]
                  refine takeY (i := 6) (v := ?_) rfl rfl (by kernel_rfl) (by kernel_rfl) (by kernel_rfl) (by rfl) (fun _ _ _ h => h) ?z00xy6 (by assumption) ?z00xr6
                  case z00xy6 => (intro w hSw; (try dsimp only at hSw); go_simp; try with_reducible rfl)
                  try simp only [Act.put, List.setIfInBounds_toArray, List.set_cons_zero, List.set_cons_succ]
                  refine takeY (i := 7) (v := ?_) rfl rfl (by kernel_rfl) (by kernel_rfl) (by kernel_rfl) (by rfl) (fun _ _ _ h => h) ?z00xy7 (by assumption) ?z00xr7
                  case z00xy7 => (intro w hSw; (try dsimp only at hSw); go_simp; try with_reducible rfl)
                  try simp only [Act.put, List.setIfInBounds_toArray, List.set_cons_zero, List.set_cons_succ]
                  refine takeY (i := 8) (v := ?_) rfl rfl (by kernel_rfl) (by kernel_rfl) (by kernel_rfl) (by rfl) (fun _ _ _ h => h) ?z00xy8 (by assumption) ?z00xr8
                  case z00xy8 => (intro w hSw; (try dsimp only at hSw); go_simp; try with_reducible rfl)
                  try simp only [Act.put, List.setIfInBounds_toArray, List.set_cons_zero, List.set_cons_succ]
                  refine takeY (i := 9) (v := ?_) rfl rfl (by kernel_rfl) (by kernel_rfl) (by kernel_rfl) (by rfl) (fun _ _ _ h => h) ?z00xy9 (by assumption) ?z00xr9
                  case z00xy9 => (intro w hSw; (try dsimp only at hSw); go_simp; try with_reducible rfl)
                  try simp only [Act.put, List.setIfInBounds_toArray, List.set_cons_zero, List.set_cons_succ]
                  refine takeY (i := 10) (v := ?_) rfl rfl (by kernel_rfl) (by kernel_rfl) (by kernel_rfl) (by rfl) (fun _ _ _ h => h) ?z00xy10 (by assumption) ?z00xr10
                  case z00xy10 => (intro w hSw; (try dsimp only at hSw); go_simp; try with_reducible rfl)
                  try simp only [Act.put, List.setIfInBounds_toArray, List.set_cons_zero, List.set_cons_succ]
                  refine takeY (i := 11) (v := ?_) rfl rfl (by kernel_rfl) (by kernel_rfl) (by kernel_rfl) (by rfl) (fun _ _ _ h => h) ?z00xy11 (by assumption) ?z00xr11
                  case z00xy11 => (intro w hSw; (try dsimp only at hSw); go_simp; try with_reducible rfl)
                  try simp only [Act.put, List.setIfInBounds_toArray, List.set_cons_zero, List.set_cons_succ]
                  refine takeY (i := 12) (v := ?_) rfl rfl (by kernel_rfl) (by kernel_rfl) (by kernel_rfl) (by rfl) (fun _ _ _ h => h) ?z00xy12 (by assumption) ?z00xr12
                  case z00xy12 => (intro w hSw; (try dsimp only at hSw); go_simp; try with_reducible rfl)
                  try simp only [Act.put, List.setIfInBounds_toArray, List.set_cons_zero, List.set_cons_succ]
                  refine takeY (i := 13) (v := ?_) rfl rfl (by kernel_rfl) (by kernel_rfl) (by kernel_rfl) (by rfl) (fun _ _ _ h => h) ?z00xy13 (by assumption) ?z00xr13
                  case z00xy13 => (intro w hSw; (try dsimp only at hSw); go_simp; try with_reducible rfl)
                  try simp only [Act.put, List.setIfInBounds_toArray, List.set_cons_zero, List.set_cons_succ]
                  refine takeY (i := 14) (v := ?_) rfl rfl (by kernel_rfl) (by kernel_rfl) (by kernel_rfl) (by rfl) (fun _ _ _ h => h) ?z00xy14 (by assumption) ?z00xr14
                  case z00xy14 => (intro w hSw; (try dsimp only at hSw); go_simp; try with_reducible rfl)
                  try simp only [Act.put, List.setIfInBounds_toArray, List.set_cons_zero, List.set_cons_succ]
                  refine takeY (i := 15) (v := ?_) rfl rfl (by kernel_rfl) (by kernel_rfl) (by kernel_rfl) (by rfl) (fun _ _ _ h => h) ?z00xy15 (by assumption) ?z00xr15
                  case z00xy15 => (intro w hSw; (try dsimp only at hSw); go_simp; try with_reducible rfl)
                  try simp only [Act.put, List.setIfInBounds_toArray, List.set_cons_zero, List.set_cons_succ]
                  refine takeY (i := 16) (v := ?_) rfl rfl (by kernel_rfl) (by kernel_rfl) (by kernel_rfl) (by rfl) (fun _ _ _ h => h) ?z00xy16 (by assumption) ?z00xr16
                  case z00xy16 => (intro w hSw; (try dsimp only at hSw); go_simp; try with_reducible rfl)
                  try simp only [Act.put, List.setIfInBounds_toArray, List.set_cons_zero, List.set_cons_succ]
                  refine takeY (i := 17) (v := ?_) rfl rfl (by kernel_rfl) (by kernel_rfl) (by kernel_rfl) (by rfl) (fun _ _ _ h => h) ?z00xy17 (by assumption) ?z00xr17
                  case z00xy17 => (intro w hSw; (try dsimp only at hSw); go_simp; try with_reducible rfl)
                  try simp only [Act.put, List.setIfInBounds_toArray, List.set_cons_zero, List.set_cons_succ]
                  refine takeY (i := 18) (v := ?_) rfl rfl (by kernel_rfl) (by kernel_rfl) (by kernel_rfl) (by rfl) (fun _ _ _ h => h) ?z00xy18 (by assumption) ?z00xr18
                  case z00xy18 => (intro w hSw; (try dsimp only at hSw); go_simp; try with_reducible rfl)
                  try simp only [Act.put, List.setIfInBounds_toArray, List.set_cons_zero, List.set_cons_succ]
                  refine takeY (i := 19) (v := ?_) rfl rfl (by kernel_rfl) (by kernel_rfl) (by kernel_rfl) (by rfl) (fun _ _ _ h => h) ?z00xy19 (by assumption) ?z00xr19
                  case z00xy19 => (intro w hSw; (try dsimp only at hSw); go_simp; try with_reducible rfl)
                  try simp only [Act.put, List.setIfInBounds_toArray, List.set_cons_zero, List.set_cons_succ]
                  refine takeY (i := 21) (v := ?_) rfl rfl (by kernel_rfl) (by kernel_rfl) (by kernel_rfl) (by rfl) (fun _ _ _ h => h) ?z00xy20 (by assumption) ?z00xr20
                  case z00xy20 => (intro w hSw; (try dsimp only at hSw); go_simp; try with_reducible rfl)
                  try simp only [Act.put, List.setIfInBounds_toArray, List.set_cons_zero, List.set_cons_succ]
                  refine takeY (i := 22) (v := ?_) rfl rfl (by kernel_rfl) (by kernel_rfl) (by kernel_rfl) (by rfl) (fun _ _ _ h => h) ?z00xy21 (by assumption) ?z00xr21
                  case z00xy21 => (intro w hSw; (try dsimp only at hSw); go_simp; try with_reducible rfl)
                  try simp only [Act.put, List.setIfInBounds_toArray, List.set_cons_zero, List.set_cons_succ]
                  refine wpAnyH_ready (rs := [20]) (by kernel_rfl) (by simp) (AllReadyH.cons rfl (fun K hK => ?_) AllReadyH.nil)
                  go_simp
                  go_at_call 25
                  refine (K6.out _ HB.out).mono ?_
                  rintro e u20 ⟨rfl, hb⟩
                  replace ZA := Lib.hid (zero_still hb ZA.out)
                  replace ZP := Lib.hid (zero_still hb ZP.out)
                  replace ZQ := Lib.hid (zero_still hb ZQ.out)
                  replace ZS := Lib.hid (zero_still hb ZS.out)
                  replace HB := Lib.hid (below_then HB.out hb)
                  clear hb
                  go_wp2_with fail
                  refine hK.out _ _ (⟨(cel7 ZS.out).1, (cel7 ZS.out).2.1, (cel7 ZS.out).2.2.1, (cel7 ZS.out).2.2.2.1, (cel7 ZS.out).2.2.2.2.1, (cel7 ZS.out).2.2.2.2.2.1, (cel7 ZS.out).2.2.2.2.2.2, (cel9r ZA.out).2.1, (cel9r ZA.out).2.2.2.2.2.2.1, (cel9r ZA.out).2.2.2.2.2.2.2.2, (cel9r ZP.out).2.1⟩) (fun hHeld => ?_)
                  clear hK
                  try simp only [Act.put, List.setIfInBounds_toArray, List.set_cons_zero, List.set_cons_succ]
                  refine takeY (i := 23) (v := ?_) rfl rfl (by kernel_rfl) (by kernel_rfl) (by kernel_rfl) (by rfl) (fun _ _ _ h => h) ?z00xy22 (by assumption) ?z00xr22
                  case z00xy22 => (intro w hSw; (try dsimp only at hSw); go_simp; try with_reducible rfl)
                  try simp only [Act.put, List.setIfInBounds_toArray, List.set_cons_zero, List.set_cons_succ]
                  refine takeY (i := 24) (v := ?_) rfl rfl (by kernel_rfl) (by kernel_rfl) (by kernel_rfl) (by rfl) (fun _ _ _ h => h) ?z00xy23 (by assumption) ?z00xr23
                  case z00xy23 => (intro w hSw; (try dsimp only at hSw); go_simp; try with_reducible rfl)
                  try simp only [Act.put, List.setIfInBounds_toArray, List.set_cons_zero, List.set_cons_succ]
                  refine takeY (i := 25) (v := ?_) rfl rfl (by kernel_rfl) (by kernel_rfl) (by kernel_rfl) (by rfl) (fun _ _ _ h => h) ?z00xy24 (by assumption) ?z00xr24
                  case z00xy24 => (intro w hSw; (try dsimp only at hSw); go_simp; try with_reducible rfl)
                  try simp only [Act.put, List.setIfInBounds_toArray, List.set_cons_zero, List.set_cons_succ]
                  refine takeY (i := 26) (v := ?_) rfl rfl (by kernel_rfl) (by kernel_rfl) (by kernel_rfl) (by rfl) (fun _ _ _ h => h) ?z00xy25 (by assumption) ?z00xr25
                  case z00xy25 => (intro w hSw; (try dsimp only at hSw); go_simp; try with_reducible rfl)
                  try simp only [Act.put, List.setIfInBounds_toArray, List.set_cons_zero, List.set_cons_succ]
                  refine takeY (i := 27) (v := ?_) rfl rfl (by kernel_rfl) (by kernel_rfl) (by kernel_rfl) (by rfl) (fun _ _ _ h => h) ?z00xy26 (by assumption) ?z00xr26
                  case z00xy26 => (intro w hSw; (try dsimp only at hSw); go_simp; try with_reducible rfl)
                  try simp only [Act.put, List.setIfInBounds_toArray, List.set_cons_zero, List.set_cons_succ]
                  refine takeY (i := 28) (v := ?_) rfl rfl (by kernel_rfl) (by kernel_rfl) (by kernel_rfl) (by rfl) (fun _ _ _ h => h) ?z00xy27 (by assumption) ?z00xr27
                  case z00xy27 => (intro w hSw; (try dsimp only at hSw); go_simp; try with_reducible rfl)
                  try simp only [Act.put, List.setIfInBounds_toArray, List.set_cons_zero, List.set_cons_succ]
                  refine takeY (i := 29) (v := ?_) rfl rfl (by kernel_rfl) (by kernel_rfl) (by kernel_rfl) (by rfl) (fun _ _ _ h => h) ?z00xy28 (by assumption) ?z00xr28
                  case z00xy28 => (intro w hSw; (try dsimp only at hSw); go_simp; try with_reducible rfl)
                  try simp only [Act.put, List.setIfInBounds_toArray, List.set_cons_zero, List.set_cons_succ]
                  refine takeY (i := 30) (v := ?_) rfl rfl (by kernel_rfl) (by kernel_rfl) (by kernel_rfl) (by rfl) (fun _ _ _ h => h) ?z00xy29 (by assumption) ?z00xr29
                  case z00xy29 => (intro w hSw; (try dsimp only at hSw); go_simp; try with_reducible rfl)
                  try simp only [Act.put, List.setIfInBounds_toArray, List.set_cons_zero, List.set_cons_succ]
                  refine takeY (i := 31) (v := ?_) rfl rfl (by kernel_rfl) (by kernel_rfl) (by kernel_rfl) (by rfl) (fun _ _ _ h => h) ?z00xy30 (by assumption) ?z00xr30
                  case z00xy30 => (intro w hSw; (try dsimp only at hSw); go_simp; try with_reducible rfl)
                  try simp only [Act.put, List.setIfInBounds_toArray, List.set_cons_zero, List.set_cons_succ]
                  refine takeY (i := 32) (v := ?_) rfl rfl (by kernel_rfl) (by kernel_rfl) (by kernel_rfl) (by rfl) (fun _ _ _ h => h) ?z00xy31 (by assumption) ?z00xr31
                  case z00xy31 => (intro w hSw; (try dsimp only at hSw); go_simp; try with_reducible rfl)
                  try simp only [Act.put, List.setIfInBounds_toArray, List.set_cons_zero, List.set_cons_succ]
                  refine takeY (i := 34) (v := ?_) rfl rfl (by kernel_rfl) (by kernel_rfl) (by kernel_rfl) (by rfl) (fun _ _ _ h => h) ?z00xy32 (by assumption) ?z00xr32
                  case z00xy32 => (intro w hSw; (try dsimp only at hSw); go_simp; try with_reducible rfl)
                  try simp only [Act.put, List.setIfInBounds_toArray, List.set_cons_zero, List.set_cons_succ]
                  refine takeY (i := 35) (v := ?_) rfl rfl (by kernel_rfl) (by kernel_rfl) (by kernel_rfl) (by rfl) (fun _ _ _ h => h) ?z00xy33 (by assumption) ?z00xr33
                  case z00xy33 => (intro w hSw; (try dsimp only at hSw); go_simp; try with_reducible rfl)
                  try simp only [Act.put, List.setIfInBounds_toArray, List.set_cons_zero, List.set_cons_succ]
                  refine wpAnyH_ready (rs := [33]) (by kernel_rfl) (by simp) (AllReadyH.cons rfl (fun K hK => ?_) AllReadyH.nil)
                  go_simp
                  go_at_call 26
                  refine (K7.out _ HB.out).mono ?_
                  rintro e u33 ⟨rfl, hb⟩
                  replace ZA := Lib.hid (zero_still hb ZA.out)
                  replace ZP := Lib.hid (zero_still hb ZP.out)
                  replace ZQ := Lib.hid (zero_still hb ZQ.out)
                  replace ZS := Lib.hid (zero_still hb ZS.out)
                  replace HB := Lib.hid (below_then HB.out hb)
                  clear hb
                  go_wp2_with fail
                  refine hK.out _ _ (⟨(cel7 ZS.out).1, (cel7 ZS.out).2.1, (cel7 ZS.out).2.2.1, (cel7 ZS.out).2.2.2.1, (cel7 ZS.out).2.2.2.2.1, (cel7 ZS.out).2.2.2.2.2.1, (cel7 ZS.out).2.2.2.2.2.2, (cel9r ZA.out).2.1, (cel9r ZA.out).2.2.2.2.2.2.1, (cel9r ZA.out).2.2.2.2.2.2.2.2, (cel9r ZP.out).2.1⟩) (fun hHeld => ?_)
                  clear hK
                  try simp only [Act.put, List.setIfInBounds_toArray, List.set_cons_zero, List.set_cons_succ]
                  refine takeY (i := 36) (v := ?_) rfl rfl (by kernel_rfl) (by kernel_rfl) (by kernel_rfl) (by rfl) (fun _ _ _ h => h) ?z00xy34 (by assumption) ?z00xr34
                  case z00xy34 => (intro w hSw; (try dsimp only at hSw); go_simp; try with_reducible rfl)
                  try simp only [Act.put, List.setIfInBounds_toArray, List.set_cons_zero, List.set_cons_succ]
                  refine takeY (i := 37) (v := ?_) rfl rfl (by kernel_rfl) (by kernel_rfl) (by kernel_rfl) (by rfl) (fun _ _ _ h => h) ?z00xy35 (by assumption) ?z00xr35
                  case z00xy35 => (intro w hSw; (try dsimp only at hSw); go_simp; try with_reducible rfl)
                  try simp only [Act.put, List.setIfInBounds_toArray, List.set_cons_zero, List.set_cons_succ]
                  refine takeY (i := 38) (v := ?_) rfl rfl (by kernel_rfl) (by kernel_rfl) (by kernel_rfl) (by rfl) (fun _ _ _ h => h) ?z00xy36 (by assumption) ?z00xr36
                  case z00xy36 => (intro w hSw; (try dsimp only at hSw); go_simp; try with_reducible rfl)
                  try simp only [Act.put, List.setIfInBounds_toArray, List.set_cons_zero, List.set_cons_succ]
                  refine takeY (i := 39) (v := ?_) rfl rfl (by kernel_rfl) (by kernel_rfl) (by kernel_rfl) (by rfl) (fun _ _ _ h => h) ?z00xy37 (by assumption) ?z00xr37
                  case z00xy37 => (intro w hSw; (try dsimp only at hSw); go_simp; try with_reducible rfl)
                  try simp only [Act.put, List.setIfInBounds_toArray, List.set_cons_zero, List.set_cons_succ]
                  refine wpAnyH_done (by kernel_rfl) ?_ _
                  obtain ⟨zq, zf⟩ := row_at ZQ.out 3 _ rfl
                  go_upto_region 9 with fail
                  clear zq zf
                  obtain ⟨V, hV⟩ : ∃ V, u33.setCell ⟨w.heap.size, 3, none⟩ (.slice none 0 0) = V := ⟨_, rfl⟩
                  replace ZS : Hid (V.heap[w.heap.size + 1]? = some (.cells #[.int .i64 pc, .string pr, .int .i64 pv, .slice A1 g.length c1, .string pb, .int .i64 st, .slice B1 n1 m1] 40 (0, 0))) := (by show _ = _; rw [← hV]; exact sfar (by omega) ZS.out)
                  replace ZQ : Hid (V.heap[w.heap.size]? = some (.cells #[.string m, .string t, .int .i64 v, .slice none 0 0, .string b] 24 (0, 0))) := (by show _ = _; rw [← hV]; exact row_set (k := 3) ZQ.out (.slice none 0 0))
                  replace HB : Hid (Below w.heap.size w V) := (by show Below _ _ _; rw [← hV]; exact HB.out.setCell (p := ⟨w.heap.size, 3, none⟩) (Nat.le_refl _) _)
                  clear ZA ZP
                  try rw [hV]
                  clear hV
                  obtain ⟨q0, q1, q2, q3, q4⟩ := cel5r ZQ.out
                  obtain ⟨p0, p1, p2, p3, p4, p5, p6⟩ := cel7 ZS.out
                  go_wp2_with fail
                  refine (K2.out _ HB.out).mono ?_
                  rintro e v12 ⟨rfl, hb⟩
                  clear q0 q1 q2 q3 q4 p0 p1 p2 p3 p4 p5 p6
                  replace ZQ := Lib.hid (zero_still hb ZQ.out)
                  replace ZS := Lib.hid (zero_still hb ZS.out)
                  replace HB := Lib.hid (below_then HB.out hb)
                  clear hb
                  obtain ⟨q0, q1, q2, q3, q4⟩ := cel5r ZQ.out
                  obtain ⟨p0, p1, p2, p3, p4, p5, p6⟩ := cel7 ZS.out
                  go_wp2_with fail
                  refine (CX.out _ HB.out).mono ?_
                  rintro e v9 ⟨rfl, hb⟩
                  go_wp2_with fail
                  go_ret
                  exact ⟨rfl, below_then HB.out hb⟩

theorem door_met (os : Os) (args : Array Value) : laidMetH Tryz.prog Rows.reuseFreshRow.laid ((World.laidAll Tryz.prog os Rows.reuseFreshRow.laid).forCall (fun _ _ => 0) ⟨#[], args, []⟩).memory := by
  rw [MakeChecks.laidMetH_plain _ _ _ (by kernel_rfl)]
  exact laidMet_laidAll _ (by kernel_rfl) (by kernel_rfl)

set_option maxRecDepth 100000 in
theorem lifted (os : Os) (started : os.Started) (H : Type) (enc : TypeId × Value → H) :
    ReturnsInHanded {} Tryz.checked os 5 .any (fun w args => (Rows.reuseFreshSpec.pre enc Tryz.prog Tryz.f5 [] false w args ∧ laidMetH Tryz.prog Rows.reuseFreshRow.laid w) ∧ sizedMet enc Tryz.prog Tryz.f5 (OpenSpec.ofChange Rows.reuseFreshSpec) false w args) (Rows.reuseFreshSpec.post enc Tryz.prog Tryz.f5 false true false false) := by
  refine returns_and_shaped (C := Tryz.checked) (X := fun w _ => laidMetH Tryz.prog Rows.reuseFreshRow.laid w) (fun _ _ _ hh h => h.of_heap hh) own started (by kernel_rfl) Tryz.func5
    (ChangeSpec.witness_shaped (enc := enc) (C := Tryz.checked) (os := os) (X := fun w _ => laidMetH Tryz.prog Rows.reuseFreshRow.laid w) false (World.laidAll Tryz.prog os Rows.reuseFreshRow.laid) #[.agg #[.string ByteArray.empty, .string ByteArray.empty, .int .i64 0, .slice none 0 0, .string ByteArray.empty], .agg #[.int .i64 0, .string ByteArray.empty, .int .i64 0, .slice none 0 0, .string ByteArray.empty, .int .i64 0, .slice none 0 0], .int .i64 0, .int .i64 0] 8 rfl (World.shaped_of_ZipB (by kernel_rfl) (by kernel_rfl)) (by kernel_rfl) (by kernel_rfl) (by kernel_rfl) (door_met os _)) ?_
  intro W base args ds gs before hval0 hW hL hsh
  have hval : ∀ (j : Nat) t v, Tryz.f5.params[j]? = some t → args[j]? = some v → Value.okWide Tryz.prog W .any base t v := hval0
  have hW' := hW
  obtain ⟨p, q, hA0, hV, rfl, hfz, hnd⟩ := hW
  have hA : DataW.TrodAll enc Tryz.prog W 0 (fun _ => true) true Tryz.f5.params.toList args.toList ds p := hA0
  rw [Tryz.params5] at hA hval
  obtain ⟨v0, vs0, d0, ds0, p0, q0, hargs, rfl, rfl, h0, r0⟩ := trodAll_cons hA
  obtain ⟨v1, vs1, d1, ds1, p1, q1, rfl, rfl, rfl, h1, r1⟩ := trodAll_cons r0
  obtain ⟨v2, vs2, d2, ds2, p2, q2, rfl, rfl, rfl, h2, r2⟩ := trodAll_cons r1
  obtain ⟨v3, vs3, d3, ds3, p3, q3, rfl, rfl, rfl, h3, r3⟩ := trodAll_cons r2
  obtain ⟨rfl, rfl, rfl⟩ := trodAll_nil r3
  obtain rfl : args = #[v0, v1, v2, v3] := by cases args; simp_all
  obtain ⟨rfl, rfl⟩ := trodVars_none hV
  have k0 := h0
  have lt0 : ∀ x ∈ p0, x.block < W.heap.size := by obtain ⟨m, hm⟩ := k0; exact DataW.trod_lt m _ _ _ hm
  obtain ⟨a0, A0, c0, rfl, w0⟩ := WfQ.of_trod Tryz.underlying24 (by kernel_rfl) (by kernel_rfl) Tryz.underlying9 Tryz.underlying9 Tryz.underlying3 Tryz.underlying22 Tryz.underlying9 Tryz.underlying50 (by kernel_rfl) rfl rfl (by kernel_rfl) (by kernel_rfl) Tryz.underlying9 Tryz.underlying9 (hval 0 24 v0 rfl rfl) h0
  have k1 := h1
  have lt1 : ∀ x ∈ p1, x.block < W.heap.size := by obtain ⟨m, hm⟩ := k1; exact DataW.trod_lt m _ _ _ hm
  obtain ⟨a1, A1, c1, B1, n1, m1, rfl, w1⟩ := WfS.of_trod Tryz.underlying40 (by kernel_rfl) rfl rfl rfl (by kernel_rfl) (by kernel_rfl) (by kernel_rfl) Tryz.underlying26 Tryz.underlying3 Tryz.underlying38 rfl rfl rfl rfl rfl (by kernel_rfl) (by kernel_rfl) (by kernel_rfl) (by kernel_rfl) (by kernel_rfl) Tryz.underlying3 Tryz.underlying9 Tryz.underlying3 Tryz.underlying22 Tryz.underlying9 Tryz.underlying50 (by kernel_rfl) rfl rfl (by kernel_rfl) (by kernel_rfl) Tryz.underlying9 Tryz.underlying9 (hval 1 40 v1 rfl rfl) h1
  obtain ⟨a2, rfl, rfl, rfl, w2⟩ := open_int Tryz.underlying3 (hval 2 3 v2 rfl rfl) h2
  obtain ⟨a3, rfl, rfl, rfl, w3⟩ := open_int Tryz.underlying3 (hval 3 3 v3 rfl rfl) h3
  clear hA0 hval0
  refine (walk a0 A0 c0 a1 A1 c1 B1 n1 m1 a2 a3 W w0 w1 w2 w3 hL hsh).mono fun e W' ⟨he, bel⟩ => ?_
  subst he
  exact ⟨_, rfl, _, _, _, [], _, [], hW', trodAll_mk1 (shut_bool Tryz.underlying4 _), (trodAll_cons_mk (Below.trod laidOut (by kernel_rfl) (of_decide_eq_true (by kernel_rfl)) k0 bel lt0) (trodAll_cons_mk (Below.trod laidOut (by kernel_rfl) (of_decide_eq_true (by kernel_rfl)) k1 bel lt1) (trodAll_cons_mk (shut_int Tryz.underlying3 w2) (trodAll_cons_mk (shut_int Tryz.underlying3 w3) trodAll_mk0)))), rfl, bel.frame _, fun h => by cases h⟩

theorem over : Rows.reuseFreshRow.holds Tryz.pinned (OpenSpec.ofChange Rows.reuseFreshSpec) :=
  OpenClaim.holds_of_wide 5 Tryz.f5 rfl rfl rfl rfl rfl rfl rfl ⟨rfl, rfl, rfl, rfl, rfl⟩ rfl rfl rfl rfl rfl (by kernel_rfl) Tryz.func5 (by kernel_rfl)
    (of_decide_eq_true (by kernel_rfl)) (by unfold Func.isWrapper; first | (rw [if_pos (by decide +kernel)]; kernel_rfl) | (rw [if_neg (by decide +kernel)]; exact ⟨rfl, rfl⟩))
    (fun os started H enc _ => lifted os started H enc)

theorem said : Rows.ReuseFreshSaid :=
  over

theorem plain (f : FuncId) (fn : Func) (hf : Tryz.pinned.checked.prog.funcNamed "depot/depotlaw18.ReuseFresh" = some f) (hfn : Tryz.pinned.checked.prog.funcs[f]? = some fn) :
    false = Tryz.pinned.checked.prog.looks [] ∧ ∀ (j : Nat) t, fn.params[j]? = some t → Tryz.pinned.checked.prog.wantsStandIn t = false := by
  obtain rfl : f = 5 := Option.some.inj ((show Tryz.prog.funcNamed "depot/depotlaw18.ReuseFresh" = some 5 by kernel_rfl).symm.trans hf) |>.symm
  obtain rfl : fn = Tryz.f5 := (Option.some.inj (Tryz.func5.symm.trans hfn)).symm
  refine ⟨by kernel_rfl, fun j t ht => ?_⟩
  rw [Tryz.params5] at ht
  · have hm := Array.mem_of_getElem? ht
    simp only [List.mem_toArray, List.mem_cons, List.not_mem_nil, or_false] at hm
    have all : Tryz.pinned.checked.prog.wantsStandIn 3 = false ∧ Tryz.pinned.checked.prog.wantsStandIn 24 = false ∧ Tryz.pinned.checked.prog.wantsStandIn 40 = false := ⟨by kernel_rfl, by kernel_rfl, by kernel_rfl⟩
    rcases hm with rfl | rfl | rfl | rfl
    all_goals first | with_reducible exact all.1 | with_reducible exact all.2.1 | with_reducible exact all.2.2

theorem proved : Rows.ReuseFreshCardSaid :=
  Claim7.holds_tied_plain_at .later [] _ _ _ _ said (fun _ h => by cases h) (by kernel_rfl) (fun _ h => by cases h) reuseFresh_row_tie rfl ⟨rfl, rfl⟩ (by kernel_rfl) rfl plain (by kernel_rfl)
#print axioms proved
end Go.Proofs.YtnembpklidcgoaaGreatDoor.reuseFresh
